/- works: a part of the lists holds: each call run by the kernel, by those before it. -/
import Derived.Test.YtccjmmdppjialaaGreatDoorCrwd3
namespace Go.Proofs.YtccjmmdppjialaaGreatDoor
open Go.RowKit
namespace Ev
set_option maxHeartbeats 4000000
set_option maxRecDepth 1000000 in
theorem c65 : chkS Tryz.prog G0 5 1000 T64 L65 = true := by kernel_rfl
end Ev
end Go.Proofs.YtccjmmdppjialaaGreatDoor
