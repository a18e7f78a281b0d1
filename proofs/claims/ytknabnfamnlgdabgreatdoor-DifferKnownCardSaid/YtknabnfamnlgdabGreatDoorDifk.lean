/- DifferKnown: the call answers true in every world that has the tables, and leaves what was there. -/
import Derived.Test.YtknabnfamnlgdabGreatDoorDifc1
import Derived.Test.YtknabnfamnlgdabGreatDoorDifc2
import Derived.Test.YtknabnfamnlgdabGreatDoorDifc3
import Derived.Test.YtknabnfamnlgdabGreatDoorDifc4
import Derived.Test.YtknabnfamnlgdabGreatDoorDifc5
import Derived.Test.YtknabnfamnlgdabGreatDoorDifc6
import Derived.Test.YtknabnfamnlgdabGreatDoorDifc7
import Derived.Test.YtknabnfamnlgdabGreatDoorDifc8
import Derived.Test.YtknabnfamnlgdabGreatDoorDifc9
import Derived.Test.YtknabnfamnlgdabGreatDoorDifc10
import Derived.Test.YtknabnfamnlgdabGreatDoorDifc11
import Derived.Test.YtknabnfamnlgdabGreatDoorDifc12
import Derived.Test.YtknabnfamnlgdabGreatDoorDifc13
import Derived.Test.YtknabnfamnlgdabGreatDoorDifc14
import Derived.Test.YtknabnfamnlgdabGreatDoorDifc15
import Derived.Test.YtknabnfamnlgdabGreatDoorDifc16
import Derived.Test.YtknabnfamnlgdabGreatDoorDifc17
import Derived.Test.YtknabnfamnlgdabGreatDoorDifc18
import Derived.Test.YtknabnfamnlgdabGreatDoorDifc19
import Derived.Test.YtknabnfamnlgdabGreatDoorDifc20
import Derived.Test.YtknabnfamnlgdabGreatDoorDifc21
import Derived.Test.YtknabnfamnlgdabGreatDoorDifc22
import Derived.Test.YtknabnfamnlgdabGreatDoorDifc23
import Derived.Test.YtknabnfamnlgdabGreatDoorDifc24
import Derived.Test.YtknabnfamnlgdabGreatDoorDifc25
import Derived.Test.YtknabnfamnlgdabGreatDoorDifc26
import Derived.Test.YtknabnfamnlgdabGreatDoorDifc27
import Derived.Test.YtknabnfamnlgdabGreatDoorDifc28
import Derived.Test.YtknabnfamnlgdabGreatDoorDifc29
import Derived.Test.YtknabnfamnlgdabGreatDoorDifc30
import Derived.Test.YtknabnfamnlgdabGreatDoorDifc31
import Derived.Test.YtknabnfamnlgdabGreatDoorDifc32
import Derived.Test.YtknabnfamnlgdabGreatDoorDifc33
import Derived.Test.YtknabnfamnlgdabGreatDoorDifr
namespace Go.Proofs.YtknabnfamnlgdabGreatDoor
open Go.RowKit
namespace Ev
set_option maxHeartbeats 4000000
theorem routines_all : (Tryz.prog.funcs.toList.all fun fn => !(fn.name == "runtime.NumGoroutine")) = true := by kernel_rfl
theorem routines : noRoutines Tryz.prog := fun f fn h => by
  have h1 := List.all_eq_true.1 routines_all fn (by rw [← Array.getElem?_toList] at h; exact List.mem_of_getElem? h)
  simpa using h1
theorem mixed : Tryz.prog.follows .mixedOrders = true := by kernel_rfl
theorem tables : glOk 8 G0 = true := by kernel_rfl
theorem t0 : TOk Tryz.prog G0 T0 := tok_nil _ _
theorem t1 : TOk Tryz.prog G0 T1 := chkS_tok routines tables mixed t0 c1
theorem t2 : TOk Tryz.prog G0 T2 := chkS_tok routines tables mixed t1 c2
theorem t3 : TOk Tryz.prog G0 T3 := chkS_tok routines tables mixed t2 c3
theorem t4 : TOk Tryz.prog G0 T4 := chkS_tok routines tables mixed t3 c4
theorem t5 : TOk Tryz.prog G0 T5 := chkS_tok routines tables mixed t4 c5
theorem t6 : TOk Tryz.prog G0 T6 := chkS_tok routines tables mixed t5 c6
theorem t7 : TOk Tryz.prog G0 T7 := chkS_tok routines tables mixed t6 c7
theorem t8 : TOk Tryz.prog G0 T8 := chkS_tok routines tables mixed t7 c8
theorem t9 : TOk Tryz.prog G0 T9 := chkS_tok routines tables mixed t8 c9
theorem t10 : TOk Tryz.prog G0 T10 := chkS_tok routines tables mixed t9 c10
theorem t11 : TOk Tryz.prog G0 T11 := chkS_tok routines tables mixed t10 c11
theorem t12 : TOk Tryz.prog G0 T12 := chkS_tok routines tables mixed t11 c12
theorem t13 : TOk Tryz.prog G0 T13 := chkS_tok routines tables mixed t12 c13
theorem t14 : TOk Tryz.prog G0 T14 := chkS_tok routines tables mixed t13 c14
theorem t15 : TOk Tryz.prog G0 T15 := chkS_tok routines tables mixed t14 c15
theorem t16 : TOk Tryz.prog G0 T16 := chkS_tok routines tables mixed t15 c16
theorem t17 : TOk Tryz.prog G0 T17 := chkS_tok routines tables mixed t16 c17
theorem t18 : TOk Tryz.prog G0 T18 := chkS_tok routines tables mixed t17 c18
theorem t19 : TOk Tryz.prog G0 T19 := chkS_tok routines tables mixed t18 c19
theorem t20 : TOk Tryz.prog G0 T20 := chkS_tok routines tables mixed t19 c20
theorem t21 : TOk Tryz.prog G0 T21 := chkS_tok routines tables mixed t20 c21
theorem t22 : TOk Tryz.prog G0 T22 := chkS_tok routines tables mixed t21 c22
theorem t23 : TOk Tryz.prog G0 T23 := chkS_tok routines tables mixed t22 c23
theorem t24 : TOk Tryz.prog G0 T24 := chkS_tok routines tables mixed t23 c24
theorem t25 : TOk Tryz.prog G0 T25 := chkS_tok routines tables mixed t24 c25
theorem t26 : TOk Tryz.prog G0 T26 := chkS_tok routines tables mixed t25 c26
theorem t27 : TOk Tryz.prog G0 T27 := chkS_tok routines tables mixed t26 c27
theorem t28 : TOk Tryz.prog G0 T28 := chkS_tok routines tables mixed t27 c28
theorem t29 : TOk Tryz.prog G0 T29 := chkS_tok routines tables mixed t28 c29
theorem t30 : TOk Tryz.prog G0 T30 := chkS_tok routines tables mixed t29 c30
theorem t31 : TOk Tryz.prog G0 T31 := chkS_tok routines tables mixed t30 c31
theorem t32 : TOk Tryz.prog G0 T32 := chkS_tok routines tables mixed t31 c32
theorem t33 : TOk Tryz.prog G0 T33 := chkS_tok routines tables mixed t32 c33
theorem t34 : TOk Tryz.prog G0 T34 := chkS_tok routines tables mixed t33 c34
theorem t35 : TOk Tryz.prog G0 T35 := chkS_tok routines tables mixed t34 c35
theorem t36 : TOk Tryz.prog G0 T36 := chkS_tok routines tables mixed t35 c36
theorem t37 : TOk Tryz.prog G0 T37 := chkS_tok routines tables mixed t36 c37
theorem t38 : TOk Tryz.prog G0 T38 := chkS_tok routines tables mixed t37 c38
theorem t39 : TOk Tryz.prog G0 T39 := chkS_tok routines tables mixed t38 c39
theorem t40 : TOk Tryz.prog G0 T40 := chkS_tok routines tables mixed t39 c40
theorem t41 : TOk Tryz.prog G0 T41 := chkS_tok routines tables mixed t40 c41
theorem t42 : TOk Tryz.prog G0 T42 := chkS_tok routines tables mixed t41 c42
theorem t43 : TOk Tryz.prog G0 T43 := chkS_tok routines tables mixed t42 c43
theorem t44 : TOk Tryz.prog G0 T44 := chkS_tok routines tables mixed t43 c44
theorem t45 : TOk Tryz.prog G0 T45 := chkS_tok routines tables mixed t44 c45
theorem t46 : TOk Tryz.prog G0 T46 := chkS_tok routines tables mixed t45 c46
theorem t47 : TOk Tryz.prog G0 T47 := chkS_tok routines tables mixed t46 c47
theorem t48 : TOk Tryz.prog G0 T48 := chkS_tok routines tables mixed t47 c48
theorem t49 : TOk Tryz.prog G0 T49 := chkS_tok routines tables mixed t48 c49
theorem t50 : TOk Tryz.prog G0 T50 := chkS_tok routines tables mixed t49 c50
theorem t51 : TOk Tryz.prog G0 T51 := chkS_tok routines tables mixed t50 c51
theorem t52 : TOk Tryz.prog G0 T52 := chkS_tok routines tables mixed t51 c52
theorem t53 : TOk Tryz.prog G0 T53 := chkS_tok routines tables mixed t52 c53
theorem t54 : TOk Tryz.prog G0 T54 := chkS_tok routines tables mixed t53 c54
theorem t55 : TOk Tryz.prog G0 T55 := chkS_tok routines tables mixed t54 c55
theorem t56 : TOk Tryz.prog G0 T56 := chkS_tok routines tables mixed t55 c56
theorem t57 : TOk Tryz.prog G0 T57 := chkS_tok routines tables mixed t56 c57
theorem t58 : TOk Tryz.prog G0 T58 := chkS_tok routines tables mixed t57 c58
theorem t59 : TOk Tryz.prog G0 T59 := chkS_tok routines tables mixed t58 c59
theorem t60 : TOk Tryz.prog G0 T60 := chkS_tok routines tables mixed t59 c60
theorem t61 : TOk Tryz.prog G0 T61 := chkS_tok routines tables mixed t60 c61
theorem t62 : TOk Tryz.prog G0 T62 := chkS_tok routines tables mixed t61 c62
theorem t63 : TOk Tryz.prog G0 T63 := chkS_tok routines tables mixed t62 c63
theorem t64 : TOk Tryz.prog G0 T64 := chkS_tok routines tables mixed t63 c64
theorem t65 : TOk Tryz.prog G0 T65 := chkS_tok routines tables mixed t64 c65
theorem t66 : TOk Tryz.prog G0 T66 := chkS_tok routines tables mixed t65 c66
theorem t67 : TOk Tryz.prog G0 T67 := chkS_tok routines tables mixed t66 c67
theorem t68 : TOk Tryz.prog G0 T68 := chkS_tok routines tables mixed t67 c68
theorem t69 : TOk Tryz.prog G0 T69 := chkS_tok routines tables mixed t68 c69
theorem t70 : TOk Tryz.prog G0 T70 := chkS_tok routines tables mixed t69 c70
theorem t71 : TOk Tryz.prog G0 T71 := chkS_tok routines tables mixed t70 c71
theorem t72 : TOk Tryz.prog G0 T72 := chkS_tok routines tables mixed t71 c72
theorem t73 : TOk Tryz.prog G0 T73 := chkS_tok routines tables mixed t72 c73
theorem t74 : TOk Tryz.prog G0 T74 := chkS_tok routines tables mixed t73 c74
theorem t75 : TOk Tryz.prog G0 T75 := chkS_tok routines tables mixed t74 c75
theorem t76 : TOk Tryz.prog G0 T76 := chkS_tok routines tables mixed t75 c76
theorem t77 : TOk Tryz.prog G0 T77 := chkS_tok routines tables mixed t76 c77
theorem t78 : TOk Tryz.prog G0 T78 := chkS_tok routines tables mixed t77 c78
theorem t79 : TOk Tryz.prog G0 T79 := chkS_tok routines tables mixed t78 c79
theorem t80 : TOk Tryz.prog G0 T80 := chkS_tok routines tables mixed t79 c80
theorem t81 : TOk Tryz.prog G0 T81 := chkS_tok routines tables mixed t80 c81
theorem t82 : TOk Tryz.prog G0 T82 := chkS_tok routines tables mixed t81 c82
theorem t83 : TOk Tryz.prog G0 T83 := chkS_tok routines tables mixed t82 c83
theorem t84 : TOk Tryz.prog G0 T84 := chkS_tok routines tables mixed t83 c84
theorem t85 : TOk Tryz.prog G0 T85 := chkS_tok routines tables mixed t84 c85
theorem t86 : TOk Tryz.prog G0 T86 := chkS_tok routines tables mixed t85 c86
theorem t87 : TOk Tryz.prog G0 T87 := chkS_tok routines tables mixed t86 c87
theorem t88 : TOk Tryz.prog G0 T88 := chkS_tok routines tables mixed t87 c88
theorem t89 : TOk Tryz.prog G0 T89 := chkS_tok routines tables mixed t88 c89
theorem t90 : TOk Tryz.prog G0 T90 := chkS_tok routines tables mixed t89 c90
theorem t91 : TOk Tryz.prog G0 T91 := chkS_tok routines tables mixed t90 c91
theorem t92 : TOk Tryz.prog G0 T92 := chkS_tok routines tables mixed t91 c92
theorem t93 : TOk Tryz.prog G0 T93 := chkS_tok routines tables mixed t92 c93
theorem t94 : TOk Tryz.prog G0 T94 := chkS_tok routines tables mixed t93 c94
theorem t95 : TOk Tryz.prog G0 T95 := chkS_tok routines tables mixed t94 c95
theorem t96 : TOk Tryz.prog G0 T96 := chkS_tok routines tables mixed t95 c96
theorem t97 : TOk Tryz.prog G0 T97 := chkS_tok routines tables mixed t96 c97
theorem t98 : TOk Tryz.prog G0 T98 := chkS_tok routines tables mixed t97 c98
theorem t99 : TOk Tryz.prog G0 T99 := chkS_tok routines tables mixed t98 c99
theorem t100 : TOk Tryz.prog G0 T100 := chkS_tok routines tables mixed t99 c100
theorem t101 : TOk Tryz.prog G0 T101 := chkS_tok routines tables mixed t100 c101
theorem t102 : TOk Tryz.prog G0 T102 := chkS_tok routines tables mixed t101 c102
theorem t103 : TOk Tryz.prog G0 T103 := chkS_tok routines tables mixed t102 c103
theorem t104 : TOk Tryz.prog G0 T104 := chkS_tok routines tables mixed t103 c104
theorem t105 : TOk Tryz.prog G0 T105 := chkS_tok routines tables mixed t104 c105
theorem t106 : TOk Tryz.prog G0 T106 := chkS_tok routines tables mixed t105 c106
theorem t107 : TOk Tryz.prog G0 T107 := chkS_tok routines tables mixed t106 c107
theorem t108 : TOk Tryz.prog G0 T108 := chkS_tok routines tables mixed t107 c108
theorem t109 : TOk Tryz.prog G0 T109 := chkS_tok routines tables mixed t108 c109
theorem t110 : TOk Tryz.prog G0 T110 := chkS_tok routines tables mixed t109 c110
theorem t111 : TOk Tryz.prog G0 T111 := chkS_tok routines tables mixed t110 c111
theorem t112 : TOk Tryz.prog G0 T112 := chkS_tok routines tables mixed t111 c112
theorem t113 : TOk Tryz.prog G0 T113 := chkS_tok routines tables mixed t112 c113
theorem t114 : TOk Tryz.prog G0 T114 := chkS_tok routines tables mixed t113 c114
theorem t115 : TOk Tryz.prog G0 T115 := chkS_tok routines tables mixed t114 c115
theorem t116 : TOk Tryz.prog G0 T116 := chkS_tok routines tables mixed t115 c116
theorem t117 : TOk Tryz.prog G0 T117 := chkS_tok routines tables mixed t116 c117
theorem t118 : TOk Tryz.prog G0 T118 := chkS_tok routines tables mixed t117 c118
theorem t119 : TOk Tryz.prog G0 T119 := chkS_tok routines tables mixed t118 c119
theorem t120 : TOk Tryz.prog G0 T120 := chkS_tok routines tables mixed t119 c120
theorem t121 : TOk Tryz.prog G0 T121 := chkS_tok routines tables mixed t120 c121
theorem t122 : TOk Tryz.prog G0 T122 := chkS_tok routines tables mixed t121 c122
theorem t123 : TOk Tryz.prog G0 T123 := chkS_tok routines tables mixed t122 c123
theorem t124 : TOk Tryz.prog G0 T124 := chkS_tok routines tables mixed t123 c124
theorem t125 : TOk Tryz.prog G0 T125 := chkS_tok routines tables mixed t124 c125
theorem t126 : TOk Tryz.prog G0 T126 := chkS_tok routines tables mixed t125 c126
theorem t127 : TOk Tryz.prog G0 T127 := chkS_tok routines tables mixed t126 c127
theorem t128 : TOk Tryz.prog G0 T128 := chkS_tok routines tables mixed t127 c128
theorem t129 : TOk Tryz.prog G0 T129 := chkS_tok routines tables mixed t128 c129
theorem t130 : TOk Tryz.prog G0 T130 := chkS_tok routines tables mixed t129 c130
theorem t131 : TOk Tryz.prog G0 T131 := chkS_tok routines tables mixed t130 c131
theorem t132 : TOk Tryz.prog G0 T132 := chkS_tok routines tables mixed t131 c132
theorem t133 : TOk Tryz.prog G0 T133 := chkS_tok routines tables mixed t132 c133
theorem t134 : TOk Tryz.prog G0 T134 := chkS_tok routines tables mixed t133 c134
theorem t135 : TOk Tryz.prog G0 T135 := chkS_tok routines tables mixed t134 c135
theorem t136 : TOk Tryz.prog G0 T136 := chkS_tok routines tables mixed t135 c136
theorem t137 : TOk Tryz.prog G0 T137 := chkS_tok routines tables mixed t136 c137
theorem t138 : TOk Tryz.prog G0 T138 := chkS_tok routines tables mixed t137 c138
theorem t139 : TOk Tryz.prog G0 T139 := chkS_tok routines tables mixed t138 c139
theorem t140 : TOk Tryz.prog G0 T140 := chkS_tok routines tables mixed t139 c140
theorem t141 : TOk Tryz.prog G0 T141 := chkS_tok routines tables mixed t140 c141
theorem t142 : TOk Tryz.prog G0 T142 := chkS_tok routines tables mixed t141 c142
theorem t143 : TOk Tryz.prog G0 T143 := chkS_tok routines tables mixed t142 c143
theorem t144 : TOk Tryz.prog G0 T144 := chkS_tok routines tables mixed t143 c144
theorem t145 : TOk Tryz.prog G0 T145 := chkS_tok routines tables mixed t144 c145
theorem t146 : TOk Tryz.prog G0 T146 := chkS_tok routines tables mixed t145 c146
theorem t147 : TOk Tryz.prog G0 T147 := chkS_tok routines tables mixed t146 c147
theorem t148 : TOk Tryz.prog G0 T148 := chkS_tok routines tables mixed t147 c148
theorem t149 : TOk Tryz.prog G0 T149 := chkS_tok routines tables mixed t148 c149
theorem t150 : TOk Tryz.prog G0 T150 := chkS_tok routines tables mixed t149 c150
theorem t151 : TOk Tryz.prog G0 T151 := chkS_tok routines tables mixed t150 c151
theorem t152 : TOk Tryz.prog G0 T152 := chkS_tok routines tables mixed t151 c152
theorem t153 : TOk Tryz.prog G0 T153 := chkS_tok routines tables mixed t152 c153
theorem t154 : TOk Tryz.prog G0 T154 := chkS_tok routines tables mixed t153 c154
theorem t155 : TOk Tryz.prog G0 T155 := chkS_tok routines tables mixed t154 c155
theorem t156 : TOk Tryz.prog G0 T156 := chkS_tok routines tables mixed t155 c156
theorem t157 : TOk Tryz.prog G0 T157 := chkS_tok routines tables mixed t156 c157
theorem t158 : TOk Tryz.prog G0 T158 := chkS_tok routines tables mixed t157 c158
theorem t159 : TOk Tryz.prog G0 T159 := chkS_tok routines tables mixed t158 c159
theorem t160 : TOk Tryz.prog G0 T160 := chkS_tok routines tables mixed t159 c160
theorem t161 : TOk Tryz.prog G0 T161 := chkS_tok routines tables mixed t160 c161
theorem t162 : TOk Tryz.prog G0 T162 := chkS_tok routines tables mixed t161 c162
theorem t163 : TOk Tryz.prog G0 T163 := chkS_tok routines tables mixed t162 c163
theorem t164 : TOk Tryz.prog G0 T164 := chkS_tok routines tables mixed t163 c164
theorem t165 : TOk Tryz.prog G0 T165 := chkS_tok routines tables mixed t164 c165
theorem t166 : TOk Tryz.prog G0 T166 := chkS_tok routines tables mixed t165 c166
theorem t167 : TOk Tryz.prog G0 T167 := chkS_tok routines tables mixed t166 c167
theorem t168 : TOk Tryz.prog G0 T168 := chkS_tok routines tables mixed t167 c168
theorem t169 : TOk Tryz.prog G0 T169 := chkS_tok routines tables mixed t168 c169
theorem t170 : TOk Tryz.prog G0 T170 := chkS_tok routines tables mixed t169 c170
theorem t171 : TOk Tryz.prog G0 T171 := chkS_tok routines tables mixed t170 c171
theorem t172 : TOk Tryz.prog G0 T172 := chkS_tok routines tables mixed t171 c172
theorem t173 : TOk Tryz.prog G0 T173 := chkS_tok routines tables mixed t172 c173
theorem t174 : TOk Tryz.prog G0 T174 := chkS_tok routines tables mixed t173 c174
theorem t175 : TOk Tryz.prog G0 T175 := chkS_tok routines tables mixed t174 c175
theorem t176 : TOk Tryz.prog G0 T176 := chkS_tok routines tables mixed t175 c176
theorem t177 : TOk Tryz.prog G0 T177 := chkS_tok routines tables mixed t176 c177
theorem t178 : TOk Tryz.prog G0 T178 := chkS_tok routines tables mixed t177 c178
theorem t179 : TOk Tryz.prog G0 T179 := chkS_tok routines tables mixed t178 c179
theorem t180 : TOk Tryz.prog G0 T180 := chkS_tok routines tables mixed t179 c180
theorem t181 : TOk Tryz.prog G0 T181 := chkS_tok routines tables mixed t180 c181
theorem t182 : TOk Tryz.prog G0 T182 := chkS_tok routines tables mixed t181 c182
theorem t183 : TOk Tryz.prog G0 T183 := chkS_tok routines tables mixed t182 c183
theorem t184 : TOk Tryz.prog G0 T184 := chkS_tok routines tables mixed t183 c184
theorem t185 : TOk Tryz.prog G0 T185 := chkS_tok routines tables mixed t184 c185
theorem t186 : TOk Tryz.prog G0 T186 := chkS_tok routines tables mixed t185 c186
theorem t187 : TOk Tryz.prog G0 T187 := chkS_tok routines tables mixed t186 c187
theorem t188 : TOk Tryz.prog G0 T188 := chkS_tok routines tables mixed t187 c188
theorem t189 : TOk Tryz.prog G0 T189 := chkS_tok routines tables mixed t188 c189
theorem t190 : TOk Tryz.prog G0 T190 := chkS_tok routines tables mixed t189 c190
theorem t191 : TOk Tryz.prog G0 T191 := chkS_tok routines tables mixed t190 c191
theorem t192 : TOk Tryz.prog G0 T192 := chkS_tok routines tables mixed t191 c192
theorem t193 : TOk Tryz.prog G0 T193 := chkS_tok routines tables mixed t192 c193
theorem t194 : TOk Tryz.prog G0 T194 := chkS_tok routines tables mixed t193 c194
theorem t195 : TOk Tryz.prog G0 T195 := chkS_tok routines tables mixed t194 c195
theorem t196 : TOk Tryz.prog G0 T196 := chkS_tok routines tables mixed t195 c196
theorem t197 : TOk Tryz.prog G0 T197 := chkS_tok routines tables mixed t196 c197
theorem t198 : TOk Tryz.prog G0 T198 := chkS_tok routines tables mixed t197 c198
theorem t199 : TOk Tryz.prog G0 T199 := chkS_tok routines tables mixed t198 c199
theorem t200 : TOk Tryz.prog G0 T200 := chkS_tok routines tables mixed t199 c200
theorem t201 : TOk Tryz.prog G0 T201 := chkS_tok routines tables mixed t200 c201
theorem t202 : TOk Tryz.prog G0 T202 := chkS_tok routines tables mixed t201 c202
theorem t203 : TOk Tryz.prog G0 T203 := chkS_tok routines tables mixed t202 c203
theorem t204 : TOk Tryz.prog G0 T204 := chkS_tok routines tables mixed t203 c204
theorem t205 : TOk Tryz.prog G0 T205 := chkS_tok routines tables mixed t204 c205
theorem t206 : TOk Tryz.prog G0 T206 := chkS_tok routines tables mixed t205 c206
theorem t207 : TOk Tryz.prog G0 T207 := chkS_tok routines tables mixed t206 c207
theorem t208 : TOk Tryz.prog G0 T208 := chkS_tok routines tables mixed t207 c208
theorem t209 : TOk Tryz.prog G0 T209 := chkS_tok routines tables mixed t208 c209
theorem t210 : TOk Tryz.prog G0 T210 := chkS_tok routines tables mixed t209 c210
theorem t211 : TOk Tryz.prog G0 T211 := chkS_tok routines tables mixed t210 c211
theorem t212 : TOk Tryz.prog G0 T212 := chkS_tok routines tables mixed t211 c212
theorem t213 : TOk Tryz.prog G0 T213 := chkS_tok routines tables mixed t212 c213
theorem t214 : TOk Tryz.prog G0 T214 := chkS_tok routines tables mixed t213 c214
theorem t215 : TOk Tryz.prog G0 T215 := chkS_tok routines tables mixed t214 c215
theorem t216 : TOk Tryz.prog G0 T216 := chkS_tok routines tables mixed t215 c216
theorem t217 : TOk Tryz.prog G0 T217 := chkS_tok routines tables mixed t216 c217
theorem t218 : TOk Tryz.prog G0 T218 := chkS_tok routines tables mixed t217 c218
theorem t219 : TOk Tryz.prog G0 T219 := chkS_tok routines tables mixed t218 c219
theorem t220 : TOk Tryz.prog G0 T220 := chkS_tok routines tables mixed t219 c220
theorem t221 : TOk Tryz.prog G0 T221 := chkS_tok routines tables mixed t220 c221
theorem t222 : TOk Tryz.prog G0 T222 := chkS_tok routines tables mixed t221 c222
theorem t223 : TOk Tryz.prog G0 T223 := chkS_tok routines tables mixed t222 c223
theorem t224 : TOk Tryz.prog G0 T224 := chkS_tok routines tables mixed t223 c224
theorem t225 : TOk Tryz.prog G0 T225 := chkS_tok routines tables mixed t224 c225
theorem t226 : TOk Tryz.prog G0 T226 := chkS_tok routines tables mixed t225 c226
theorem t227 : TOk Tryz.prog G0 T227 := chkS_tok routines tables mixed t226 c227
theorem t228 : TOk Tryz.prog G0 T228 := chkS_tok routines tables mixed t227 c228
theorem t229 : TOk Tryz.prog G0 T229 := chkS_tok routines tables mixed t228 c229
theorem t230 : TOk Tryz.prog G0 T230 := chkS_tok routines tables mixed t229 c230
theorem t231 : TOk Tryz.prog G0 T231 := chkS_tok routines tables mixed t230 c231
theorem t232 : TOk Tryz.prog G0 T232 := chkS_tok routines tables mixed t231 c232
theorem t233 : TOk Tryz.prog G0 T233 := chkS_tok routines tables mixed t232 c233
theorem t234 : TOk Tryz.prog G0 T234 := chkS_tok routines tables mixed t233 c234
theorem t235 : TOk Tryz.prog G0 T235 := chkS_tok routines tables mixed t234 c235
theorem t236 : TOk Tryz.prog G0 T236 := chkS_tok routines tables mixed t235 c236
theorem t237 : TOk Tryz.prog G0 T237 := chkS_tok routines tables mixed t236 c237
theorem t238 : TOk Tryz.prog G0 T238 := chkS_tok routines tables mixed t237 c238
theorem t239 : TOk Tryz.prog G0 T239 := chkS_tok routines tables mixed t238 c239
theorem t240 : TOk Tryz.prog G0 T240 := chkS_tok routines tables mixed t239 c240
theorem t241 : TOk Tryz.prog G0 T241 := chkS_tok routines tables mixed t240 c241
theorem t242 : TOk Tryz.prog G0 T242 := chkS_tok routines tables mixed t241 c242
theorem t243 : TOk Tryz.prog G0 T243 := chkS_tok routines tables mixed t242 c243
theorem t244 : TOk Tryz.prog G0 T244 := chkS_tok routines tables mixed t243 c244
theorem t245 : TOk Tryz.prog G0 T245 := chkS_tok routines tables mixed t244 c245
theorem t246 : TOk Tryz.prog G0 T246 := chkS_tok routines tables mixed t245 c246
theorem t247 : TOk Tryz.prog G0 T247 := chkS_tok routines tables mixed t246 c247
theorem t248 : TOk Tryz.prog G0 T248 := chkS_tok routines tables mixed t247 c248
theorem t249 : TOk Tryz.prog G0 T249 := chkS_tok routines tables mixed t248 c249
theorem t250 : TOk Tryz.prog G0 T250 := chkS_tok routines tables mixed t249 c250
theorem t251 : TOk Tryz.prog G0 T251 := chkS_tok routines tables mixed t250 c251
theorem t252 : TOk Tryz.prog G0 T252 := chkS_tok routines tables mixed t251 c252
theorem t253 : TOk Tryz.prog G0 T253 := chkS_tok routines tables mixed t252 c253
theorem t254 : TOk Tryz.prog G0 T254 := chkS_tok routines tables mixed t253 c254
theorem t255 : TOk Tryz.prog G0 T255 := chkS_tok routines tables mixed t254 c255
theorem t256 : TOk Tryz.prog G0 T256 := chkS_tok routines tables mixed t255 c256
theorem t257 : TOk Tryz.prog G0 T257 := chkS_tok routines tables mixed t256 c257
theorem t258 : TOk Tryz.prog G0 T258 := chkS_tok routines tables mixed t257 c258
theorem t259 : TOk Tryz.prog G0 T259 := chkS_tok routines tables mixed t258 c259
theorem t260 : TOk Tryz.prog G0 T260 := chkS_tok routines tables mixed t259 c260
theorem t261 : TOk Tryz.prog G0 T261 := chkS_tok routines tables mixed t260 c261
theorem t262 : TOk Tryz.prog G0 T262 := chkS_tok routines tables mixed t261 c262
theorem known (w : World) (h : GL G0 w) : Calls Tryz.prog 3 #[] w fun e w' => e = .returned (.bool true) ∧ Below w.heap.size w w' := runA_sound routines tables t262 mixed runs rfl rfl w h
end Ev
end Go.Proofs.YtknabnfamnlgdabGreatDoor
