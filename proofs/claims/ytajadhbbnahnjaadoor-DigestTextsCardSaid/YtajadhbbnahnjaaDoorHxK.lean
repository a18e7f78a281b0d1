/- The reference's Unhex: a text that is too short or too long. -/
import Derived.Test.YtajadhbbnahnjaaDoorHxH
import Derived.BigQuiet
import Derived.Deep.QuietTactic
namespace Go.Proofs.YtajadhbbnahnjaaDoor
open Go.RowKit
set_option maxRecDepth 100000
set_option maxHeartbeats 2000000

theorem refu_len (t : ByteArray) (w : World) (hlen : ¬ t.size = 32) : Calls Tryd.prog 8 #[.string t] w (UnPost t w) := by
  have hl2 : ((t.size : Int) != 32) = true := by simp; omega
  have HL := Lib.hid hlen; clear hlen
  go_enter Tryd.func8, Tryd.ntmps8
  go_wp2_with fail
  refine bodyPost_ret (v := .tuple #[.agg ⟨u8s (List.replicate 16 0)⟩, .int .i64 5]) (by simp [results, Tryd.results8, go_sem, u8s]) rfl ⟨.inr ⟨fun out ho he => ?_, rfl⟩, ?_⟩
  · have := congrArg List.length he
    rw [hxs_length, ho] at this
    exact HL.out (by simpa using this.symm)
  · unfold Bl
    go_grown
end Go.Proofs.YtajadhbbnahnjaaDoor
