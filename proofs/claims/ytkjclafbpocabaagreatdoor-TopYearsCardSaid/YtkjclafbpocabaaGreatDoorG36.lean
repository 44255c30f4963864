/-
  Contracts of the program's own functions (and their plain mathematics), on the way to the law: each for all arguments that its hypotheses let.
-/
import Derived.Test.YtkjclafbpocabaaGreatDoorG32
import Derived.Test.YtkjclafbpocabaaGreatDoorG33
import Derived.WalkKit
import Derived.WalkSpells
import Derived.WalkLawsBesides
import Derived.Deep.QuietTactic
import Derived.BigQuiet
import Derived.Lib.Hide
import Derived.WalkSmall
import Derived.Maps.OwnSet
import Derived.Maps.RangeWalk
import Derived.Deep.RegionWith
import Derived.Deep.RegionHeld3
import Derived.Deep.DrawnRows
import Derived.Deep.DeepCutAuto
import Derived.OneCell
import Derived.KernelRfl
import Derived.Laws.StructEq
import Derived.StillTailTactics
import Derived.Laws.Externs
import Derived.RangeFuncBox
import Derived.Test.YtkjclafbpocabaaGreatDoorPlain
set_option linter.unusedSimpArgs false
set_option linter.unusedVariables false

/-! ## Y7 -/
namespace Go.Proofs.YtkjclafbpocabaaGreatDoor
open Go.RowKit Go.Maps Go.Shelf Go.Sort
attribute [local go_sem ↓] Go.wp_at_zero Go.wp_at_succ
set_option maxRecDepth 1000000 in
set_option maxHeartbeats 40000000 in
theorem yseg7 (hsort : Hid SortC) (hnext : YSeg9) : YSeg7 := by
  intro w p q u v fr to_ W ba aa ca ra bb ab cb rb bx ax cx rx bz az cz rz bn an cn rn bm am cm rm u0 u1 u2 u3 u4 u5 u6 u19 u20 u21 u22 u23 u24 u25 u26 u27 u28 u29 u30 u31 u32 u33 u34 u35 u36 u37 u38 u39 u40 u41 u42 u43 u44 u45 u46 u47 u48 u49 u50 u51 u52 u53 u54 u55 u56 u57 u58 u59 u60 u61 u62 u63 u64 u65 u66 u67 u68 u69 u70 u71 u72 u73 u74 u75 u76 u77 u78 u79 u80 u81 u82 u83 u84 u85 u86 u87 u88 u89 u90 u91 u92 u93 u94 u95 u96 u97 u98 u99 u100 u101 u102 u103 u104 u105 u106 u107 u108 u109 u110 u111 u112 u113 u114 u115 u116 u117 u118 u119 u120 u121 u122 u123 u124 u125 u126 u127 u128 u129 u130 u131 u132 u133 u134 u135 u136 u137 u138 u139 u140 u141 u142 u143 u144 u145 u146 u147 u148 u149 u150 u151 u152 u153 u154 u155 u156 u157 u158 u159 u160 u161 u162 u163 u164 u165 u166 u167 u168 u169 u170 u171 u172 u173 u174 u175 u176 u177 u178 u179 u180 u181 u182 u183 u184 u185 u186 u187 u188 u189 u190 u191 u192 u193 u194 u195 u196 u197 u198 u199 u200 u201 u202 u203 u204 u205 u206 u207 u208 u209 HW HR HBW Ha Hb Hx Hz Hn Hm VA VB VX VZ VN EX EZ EN Px Pz Pm
  conv => arg 2; whnf
  have wf : IntKind.i64.wrap fr = fr := wrap_year (by have := HR.out.f1; omega) (by have := HR.out.f2; omega)
  have wt : IntKind.i64.wrap to_ = to_ := wrap_year (by have := HR.out.t1; omega) (by have := HR.out.t2; omega)
  have wf1 : IntKind.i64.wrap (fr + 1) = fr + 1 := wrap_year (by have := HR.out.f1; omega) (by have := HR.out.f2; omega)
  have ff1 := HR.out.f1
  have ff2 := HR.out.f2
  have tt1 := HR.out.t1
  have tt2 := HR.out.t2
  have gm := more_val VX.out VB.out HR Pm.out
  have hd := val_uniq VN.out gm.2
  rw [EX.out, EZ.out, EN.out, gm.1]
  have HD := Lib.hid (show decide (rn.1 = rm.1 ∧ rn.2.1 = rm.2.1) = true from by simp [hd.1, hd.2])
  clear gm hd wf wt wf1 ff1 ff2 tt1 tt2
  go_upto_region 7 with fail
  go_cut [107] (fun s wx => s = .bool false ∧ Below W.heap.size W wx)
  case first =>
    have fn0 := Hn.out.1.c0
    have fn1 := Hn.out.1.c1
    have fnz := Hn.out.1.lt
    have fm0 := Hm.out.1.c0
    have fm1 := Hm.out.1.c1
    have fmz := Hm.out.1.lt
    have HS := Lib.hid (equals_any rn.1 rm.1 (.slice an rn.2.1.length cn) (.slice am rm.2.1.length cm) rn.2.1 rm.2.1 W Hn.out.2 Hm.out.2)
    go_wp2_with fail
    refine HS.out.mono ?_
    rintro e we ⟨rfl, hb⟩
    rw [HD.out]
    go_wp2_with fail
    go_meet
    exact ⟨rfl, hb⟩
  case rest KK1 hKK1 KK0 hKK0 =>
    obtain ⟨rfl, hb⟩ := hcut
    obtain ⟨w105, hw⟩ : ∃ W, W = wc := ⟨wc, rfl⟩
    subst hw
    replace Ha := Lib.hid (Ha.out.at hb)
    replace Hb := Lib.hid (Hb.out.at hb)
    replace Hx := Lib.hid (Hx.out.at hb)
    replace Hz := Lib.hid (Hz.out.at hb)
    replace HBW := Lib.hid (HBW.out.trans (hb.mono HBW.out.size))
    clear hb HD Hn Hm
    have HKK1 := Lib.hid hKK1
    clear hKK1
    go_wp2_with fail
    exact HKK1.out _ _ (hnext HW HR HBW Ha Hb Hx Hz VA VB VX VZ Px Pz)
end Go.Proofs.YtkjclafbpocabaaGreatDoor
