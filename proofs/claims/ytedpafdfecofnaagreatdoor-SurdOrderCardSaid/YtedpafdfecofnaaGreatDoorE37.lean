/-
  Contracts of the program's own functions (and their plain mathematics), on the way to the law: each for all arguments that its hypotheses let.
-/
import Derived.Test.YtedpafdfecofnaaGreatDoorE31
import Derived.WalkKit
import Derived.WalkSpells
import Derived.WalkLawsBesides
import Derived.Deep.QuietTactic
import Derived.BigQuiet
import Derived.Lib.Hide
import Derived.WalkSmall
import Derived.Maps.OwnSet
import Derived.Maps.RangeWalk
import Derived.Deep.RegionWith
import Derived.Deep.RegionHeld3
import Derived.Deep.DrawnRows
import Derived.Deep.DeepCutAuto
import Derived.OneCell
import Derived.KernelRfl
import Derived.Laws.StructEq
import Derived.StillTailTactics
import Derived.Laws.Externs
import Derived.RangeFuncBox
import Derived.Test.YtedpafdfecofnaaGreatDoorPlain
set_option linter.unusedSimpArgs false
set_option linter.unusedVariables false

/-! ## S86 -/
namespace Go.Proofs.YtedpafdfecofnaaGreatDoor
open Go.RowKit Go.Maps Go.Shelf Go.Sort
set_option maxRecDepth 100000 in
set_option maxHeartbeats 40000000 in
theorem order_walk (hk : Hid KnownT) (dx dy dz : Int) (vx vy vz : Value) (lx ly lz : List (Int × Int)) (w : World) (hx : TermsAt w vx lx) (hy : TermsAt w vy ly) (hz : TermsAt w vz lz) (hw : WOk w) (hnext : OSeg2) :
    Calls Tryz.prog 12 #[.agg #[.int .i64 dx, vx, .int .i64 dy, vy, .int .i64 dz, vz]] w (AnsB true w) := by
  obtain ⟨ax, cx, rfl, _⟩ := hx.placed
  obtain ⟨ay, cy, rfl, _⟩ := hy.placed
  obtain ⟨az, cz, rfl, _⟩ := hz.placed
  have HB0 : Hid (Below w.heap.size w (w.alloc (.cells #[.int .i64 dx, .slice ax lx.length cx, .int .i64 dy, .slice ay ly.length cy, .int .i64 dz, .slice az lz.length cz] 58))) := Lib.hid ((Below.refl _ w).alloc (Nat.le_refl _) _)
  have HX0 := Lib.hid (hx.below HB0.out)
  have HY0 := Lib.hid (hy.below HB0.out)
  have HZ0 := Lib.hid (hz.below HB0.out)
  have X0 := Lib.hid (Six.new w (.int .i64 dx) (.slice ax lx.length cx) (.int .i64 dy) (.slice ay ly.length cy) (.int .i64 dz) (.slice az lz.length cz) 58)
  have HW := Lib.hid hw
  clear hx hy hz hw
  go_enter Tryz.func12, Tryz.ntmps12
  go_wp2_with fail
  refine (ok_any dx dy dz _ _ _ lx ly lz _ HX0.out HY0.out HZ0.out).mono ?_
  rintro e w1 ⟨rfl, hb⟩
  have HBW := Lib.hid (HB0.out.trans (hb.mono HB0.out.size))
  have HX := Lib.hid (HX0.out.below hb)
  have HY := Lib.hid (HY0.out.below hb)
  have HZ := Lib.hid (HZ0.out.below hb)
  have X1 := Lib.hid (X0.out.below hb (by simp))
  clear hb HX0 HY0 HZ0 HB0 X0
  cases hok : okF dx dy dz lx ly lz
  · clear hok
    go_wp2_with fail
    refine (hk.out _ (HW.out.below HBW.out)).mono ?_
    rintro e w2 ⟨rfl, hb2⟩
    have HB2 := Lib.hid (HBW.out.trans (hb2.mono HBW.out.size))
    clear hb2
    go_wp2
    go_ret
    exact ⟨rfl, HB2.out⟩
  obtain ⟨vx, vy, vz⟩ := okF_out hok
  have VX := Lib.hid vx
  have VY := Lib.hid vy
  have VZ := Lib.hid vz
  clear hok vx vy vz
  have Hx := Lib.hid (show Fld w1 w.heap.size 0 dx (.slice ax lx.length cx) lx from ⟨X1.out.c0, X1.out.c1, HX.out, X1.out.lt⟩)
  have Hy := Lib.hid (show Fld w1 w.heap.size 2 dy (.slice ay ly.length cy) ly from ⟨X1.out.c2, X1.out.c3, HY.out, X1.out.lt⟩)
  have Hz := Lib.hid (show Fld w1 w.heap.size 4 dz (.slice az lz.length cz) lz from ⟨X1.out.c4, X1.out.c5, HZ.out, X1.out.lt⟩)
  clear HX HY HZ X1
  go_upto_if 22 with fail
  go_cut [2] (fun s wx => wx = w1)
  case first =>
    go_wp2_with fail
    go_meet
    exact rfl
  case rest KK0 hKK0 =>
    subst hcut
    exact hKK0 _ _ (hnext HW VX VY VZ HBW Hx Hy Hz)
end Go.Proofs.YtedpafdfecofnaaGreatDoor

/-! ## S88 -/
namespace Go.Proofs.YtedpafdfecofnaaGreatDoor
open Go.RowKit Go.Maps Go.Shelf Go.Sort
attribute [local go_sem ↓] Go.wp_at_zero Go.wp_at_succ
set_option maxRecDepth 1000000 in
set_option maxHeartbeats 40000000 in
theorem oseg6 (hk : Hid KnownT) (hadd : Hid (OpC 24 (addF 1))) (hmul : Hid (OpC 27 mulF)) (hnext : OSeg9) : OSeg6 := by
  intro w dx dy dz ax ay az cx cy cz lx ly lz bt W n k j u0 u2 u11 u12 u13 u14 u15 u16 u17 u18 u19 u20 u21 u22 u23 u24 u25 u26 u27 u28 u29 u30 u31 u32 u33 u34 u35 u36 u37 u38 u39 u40 u41 u42 u43 u44 u45 u46 u47 u48 u49 u50 u51 u52 u53 u54 u55 u56 u57 u58 u59 u60 u61 u62 u63 u64 u65 u66 u67 u68 u69 u70 u71 u72 u73 u74 u75 u76 u77 u78 u79 u80 u81 u82 u83 u84 u85 u86 u87 u88 u89 u90 u91 u92 u93 u94 u95 u96 u97 u98 u99 u100 u101 u102 u103 u104 u105 u106 u107 u108 u109 u110 u111 u112 u113 u114 u115 u116 u117 u118 u119 u120 u121 u122 u123 u124 u125 u126 u127 u128 u129 u130 u131 u132 u133 u134 u135 u136 u137 u138 u139 u140 u141 u142 u143 u144 u145 u146 u147 u148 u149 u150 u151 u152 u153 u154 u155 u156 u157 u158 u159 u160 u161 u162 u163 u164 u165 u166 u167 u168 u169 u170 u171 u172 u173 u174 u175 u176 u177 u178 u179 u180 u181 u182 u183 u184 u185 u186 u187 u188 u189 u190 u191 u192 u193 u194 u195 u196 u197 u198 u199 u200 u201 HW VX VY VZ HBW Hx Hy Hz Sn Sk Sj
  conv => arg 2; whnf
  have hnk := Lib.hid (fun h : n = k => cmp_trans VX.out.d1 VY.out.d1 VZ.out.d1 Sn.out (by rw [h]; exact Sk.out) Sj.out)
  have hr1 := Lib.hid Sn.out.range
  have hr2 := Lib.hid Sk.out.range
  have hze := Lib.hid (cmp_zero VX.out VY.out Sn.out)
  clear Sk Sj
  go_upto_region 7 with fail
  go_cut [111] (fun s wx => s = .bool false ∧ Below W.heap.size W wx)
  case first =>
    have fx0 := Hx.out.1
    have fx1 := Hx.out.2.1
    have fxz := Hx.out.2.2.2
    have fy0 := Hy.out.1
    have fy1 := Hy.out.2.1
    have fyz := Hy.out.2.2.2
    have hs := same_any dx dy (.slice ax lx.length cx) (.slice ay ly.length cy) lx ly W Hx.out.2.2.1 Hy.out.2.2.1
    have HS := Lib.hid hs
    clear hs
    rcases hr1.out with h | h | h
    all_goals
      have hd : decide (dx = dy ∧ lx = ly) = decide (n = 0) := by
        rw [Bool.eq_iff_iff, decide_eq_true_eq, decide_eq_true_eq]; exact hze.out.symm
      have HD := Lib.hid hd
      clear hd
      subst h
      rcases hr2.out with h2 | h2 | h2
      all_goals
        have hj := Lib.hid (fun q => hnk.out (Eq.trans q h2.symm))
        subst h2
        first
          | (have hjj := hj.out rfl
             subst hjj
             go_wp2_with fail
             refine HS.out.mono ?_
             rintro e we ⟨rfl, hb⟩
             rw [HD.out]
             go_wp2_with fail
             go_meet
             exact ⟨rfl, hb⟩)
          | (go_wp2_with fail
             refine HS.out.mono ?_
             rintro e we ⟨rfl, hb⟩
             rw [HD.out]
             go_wp2_with fail
             go_meet
             exact ⟨rfl, hb⟩)
  case rest KK1 hKK1 KK0 hKK0 =>
    obtain ⟨rfl, hb⟩ := hcut
    obtain ⟨w105, hw⟩ : ∃ W, W = wc := ⟨wc, rfl⟩
    subst hw
    replace Hx := Lib.hid (Hx.out.at hb)
    replace Hy := Lib.hid (Hy.out.at hb)
    replace Hz := Lib.hid (Hz.out.at hb)
    replace HBW := Lib.hid (HBW.out.trans (hb.mono HBW.out.size))
    clear hb hnk hr1 hr2 hze
    have HKK1 := Lib.hid hKK1
    clear hKK1
    go_wp2_with fail
    exact HKK1.out _ _ (hnext HW VX VY VZ HBW Hx Hy Hz Sn)
end Go.Proofs.YtedpafdfecofnaaGreatDoor
