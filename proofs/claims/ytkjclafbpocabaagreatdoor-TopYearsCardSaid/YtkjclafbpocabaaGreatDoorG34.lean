/-
  Contracts of the program's own functions (and their plain mathematics), on the way to the law: each for all arguments that its hypotheses let.
-/
import Derived.Test.YtkjclafbpocabaaGreatDoorG32
import Derived.Test.YtkjclafbpocabaaGreatDoorG33
import Derived.WalkKit
import Derived.WalkSpells
import Derived.WalkLawsBesides
import Derived.Deep.QuietTactic
import Derived.BigQuiet
import Derived.Lib.Hide
import Derived.WalkSmall
import Derived.Maps.OwnSet
import Derived.Maps.RangeWalk
import Derived.Deep.RegionWith
import Derived.Deep.RegionHeld3
import Derived.Deep.DrawnRows
import Derived.Deep.DeepCutAuto
import Derived.OneCell
import Derived.KernelRfl
import Derived.Laws.StructEq
import Derived.StillTailTactics
import Derived.Laws.Externs
import Derived.RangeFuncBox
import Derived.Test.YtkjclafbpocabaaGreatDoorPlain
set_option linter.unusedSimpArgs false
set_option linter.unusedVariables false

/-! ## Y3 -/
namespace Go.Proofs.YtkjclafbpocabaaGreatDoor
open Go.RowKit Go.Maps Go.Shelf Go.Sort
attribute [local go_sem ↓] Go.wp_at_zero Go.wp_at_succ
set_option maxRecDepth 1000000 in
set_option maxHeartbeats 40000000 in
theorem yseg3 (hsort : Hid SortC) (hnext : YSeg5) : YSeg3 := by
  intro w p q u v fr to_ W ba aa ca ra bb ab cb rb u0 u1 u2 u3 u4 u5 u6 u11 u12 u13 u14 u15 u16 u17 u18 u19 u20 u21 u22 u23 u24 u25 u26 u27 u28 u29 u30 u31 u32 u33 u34 u35 u36 u37 u38 u39 u40 u41 u42 u43 u44 u45 u46 u47 u48 u49 u50 u51 u52 u53 u54 u55 u56 u57 u58 u59 u60 u61 u62 u63 u64 u65 u66 u67 u68 u69 u70 u71 u72 u73 u74 u75 u76 u77 u78 u79 u80 u81 u82 u83 u84 u85 u86 u87 u88 u89 u90 u91 u92 u93 u94 u95 u96 u97 u98 u99 u100 u101 u102 u103 u104 u105 u106 u107 u108 u109 u110 u111 u112 u113 u114 u115 u116 u117 u118 u119 u120 u121 u122 u123 u124 u125 u126 u127 u128 u129 u130 u131 u132 u133 u134 u135 u136 u137 u138 u139 u140 u141 u142 u143 u144 u145 u146 u147 u148 u149 u150 u151 u152 u153 u154 u155 u156 u157 u158 u159 u160 u161 u162 u163 u164 u165 u166 u167 u168 u169 u170 u171 u172 u173 u174 u175 u176 u177 u178 u179 u180 u181 u182 u183 u184 u185 u186 u187 u188 u189 u190 u191 u192 u193 u194 u195 u196 u197 u198 u199 u200 u201 u202 u203 u204 u205 u206 u207 u208 u209 HW HR HBW Ha Hb VA VB
  conv => arg 2; whnf
  have wf : IntKind.i64.wrap fr = fr := wrap_year (by have := HR.out.f1; omega) (by have := HR.out.f2; omega)
  have wt : IntKind.i64.wrap to_ = to_ := wrap_year (by have := HR.out.t1; omega) (by have := HR.out.t2; omega)
  have wf1 : IntKind.i64.wrap (fr + 1) = fr + 1 := wrap_year (by have := HR.out.f1; omega) (by have := HR.out.f2; omega)
  have ff1 := HR.out.f1
  have ff2 := HR.out.f2
  have tt1 := HR.out.t1
  have tt2 := HR.out.t2
  have KK : Hid (∀ w', Below W.heap.size W w' → w'.cell? ⟨ba, 0, none⟩ = some (.int .i64 ra.1) ∧ w'.cell? ⟨ba, 1, none⟩ = some (.slice aa ra.2.1.length ca) ∧ w'.cell? ⟨bb, 0, none⟩ = some (.int .i64 rb.1) ∧ w'.cell? ⟨bb, 1, none⟩ = some (.slice ab rb.2.1.length cb)) := Lib.hid fun w' hb => by
    have aa := Ha.out.at hb
    have ab := Hb.out.at hb
    exact ⟨aa.1.c0, aa.1.c1, ab.1.c0, ab.1.c1⟩
  have Ta := Lib.hid (fun w' (hb : Below W.heap.size W w') => (Ha.out.at hb).2)
  have Tb := Lib.hid (fun w' (hb : Below W.heap.size W w') => (Hb.out.at hb).2)
  have Oa := Lib.hid (fun w' h => copied_any ra.1 (.slice aa ra.2.1.length ca) ra.2.1 w' h (by have := VA.out.1.len; omega))
  have Ob := Lib.hid (fun w' h => copied_any rb.1 (.slice ab rb.2.1.length cb) rb.2.1 w' h (by have := VB.out.1.len; omega))
  have B0 := Below.refl W.heap.size W
  have za := Ha.out.1.lt
  have zb := Hb.out.1.lt
  go_upto_region 3 with fail
  go_cut [11, 12] (fun p q wx => Mid (GrownR ra.1 ra.2.1 rb.1 rb.2.1 fr) W p q wx)
  case first =>
    go_region_held3 (fun w' => w'.cell? ⟨ba, 0, none⟩ = some (.int .i64 ra.1) ∧ w'.cell? ⟨ba, 1, none⟩ = some (.slice aa ra.2.1.length ca) ∧ w'.cell? ⟨bb, 0, none⟩ = some (.int .i64 rb.1) ∧ w'.cell? ⟨bb, 1, none⟩ = some (.slice ab rb.2.1.length cb))
      (first | exact KK.out _ (by (first | assumption | exact B0 | exact B0.drew | exact B0.alloc (by first | exact Nat.le_refl _ | exact B0.size) _ | exact (B0.drew).alloc (by first | exact Nat.le_refl _ | exact B0.size) _ | exact Below.alloc (by assumption) (Below.size (by assumption)) _)) | exact KK.out _ (by (exact (B3.setCell (by first | exact Nat.le_refl _ | exact B0.size | exact B1.size | exact B2.size) _).setCell (by first | exact Nat.le_refl _ | exact B0.size | exact B1.size | exact B2.size) _)))
      (first
        | (go_at_call 66; ((with_reducible refine (Oa.out _ ?_).mono ?_); (exact Ta.out _ (by (first | assumption | exact B0 | exact B0.drew | exact B0.alloc (by first | exact Nat.le_refl _ | exact B0.size) _ | exact (B0.drew).alloc (by first | exact Nat.le_refl _ | exact B0.size) _ | exact Below.alloc (by assumption) (Below.size (by assumption)) _)))); rintro e w1 ⟨v1, rfl, ht1, hb1, hk1⟩; have B1 := Below.chain (W := W) (by (first | assumption | exact B0 | exact B0.drew | exact B0.alloc (by first | exact Nat.le_refl _ | exact B0.size) _ | exact (B0.drew).alloc (by first | exact Nat.le_refl _ | exact B0.size) _ | exact Below.alloc (by assumption) (Below.size (by assumption)) _)) hb1; first | (have RX : Two w1 W.heap.size (.int .i64 0) (.slice none 0 0) 34 := (Two.new W.drew (.int .i64 0) (.slice none 0 0) 34).below hb1 (by simp)) | skip)
        | (go_at_call 66; ((with_reducible refine (Ob.out _ ?_).mono ?_); (exact Tb.out _ (by (first | assumption | exact B0 | exact B0.drew | exact B0.alloc (by first | exact Nat.le_refl _ | exact B0.size) _ | exact (B0.drew).alloc (by first | exact Nat.le_refl _ | exact B0.size) _ | exact Below.alloc (by assumption) (Below.size (by assumption)) _)))); rintro e w2 ⟨v2, rfl, ht2, hb2, hk2⟩; have B2 := Below.chain (W := W) (by (first | assumption | exact B0 | exact B0.drew | exact B0.alloc (by first | exact Nat.le_refl _ | exact B0.size) _ | exact (B0.drew).alloc (by first | exact Nat.le_refl _ | exact B0.size) _ | exact Below.alloc (by assumption) (Below.size (by assumption)) _)) hb2; have ht1 := (by first | exact ht1.below hb2 | exact (ht1.alloc _).below hb2); first | (have RX := RX.below hb2 RX.lt) | (have RX : Two w2 w1.heap.size (.int .i64 0) (.slice none 0 0) 34 := (Two.new w1 (.int .i64 0) (.slice none 0 0) 34).below hb2 (by simp)) | skip)
        | (go_at_call 68; ((with_reducible refine (grow_call hsort VA VB HR (fr) (by first | rfl | exact wf | exact wt | exact wf1 | (simp only [wf, wf1])) (by omega) (by omega) _ _ _ ?_ ?_).mono ?_); (first | exact ht1 | exact ht1.alloc _); (first | exact ht2 | exact ht2.alloc _)); rintro e w3 ⟨r, hP, v3, rfl, ht3, hb3, hk3⟩; obtain ⟨a3, c3, rfl, px3⟩ := ht3.placed; have B3 := Below.chain (W := W) (by (first | assumption | exact B0 | exact B0.drew | exact B0.alloc (by first | exact Nat.le_refl _ | exact B0.size) _ | exact (B0.drew).alloc (by first | exact Nat.le_refl _ | exact B0.size) _ | exact Below.alloc (by assumption) (Below.size (by assumption)) _)) hb3; first | (have RX := RX.below hb3 RX.lt; have r0 := RX.c0; have r1 := RX.c1; have f0 := RX.fr (i := 0); have f1 := RX.fr (i := 1); have hr := RX.lt) | (have RX : Two w3 w2.heap.size (.int .i64 0) (.slice none 0 0) 34 := (Two.new w2 (.int .i64 0) (.slice none 0 0) 34).below hb3 (by simp); have r0 := RX.c0; have r1 := RX.c1; have f0 := RX.fr (i := 0); have f1 := RX.fr (i := 1); have hr := RX.lt) | skip))
    all_goals
      go_wp2_with fail
      go_meet
      first | exact mid_new hP ht3 (fun k hk => by have q1 := hk3 k hk; have q2 := B2.size; omega) B3 | exact mid_close RX hP ht3 (fun k hk => by have q1 := hb1.size; have q2 := hb2.size; have q3 := hk3 k hk; simp at q1 q2 q3; omega) (by first | exact Nat.le_refl _ | exact B0.size | exact B1.size | exact B2.size) B3
  case rest KK0 hKK0 =>
    obtain ⟨bx, rx, v, rfl, rfl, px, t1, t2, hsx, hb, hkx⟩ := hcut
    obtain ⟨ax, cx, rfl, pl9⟩ := t2.placed
    obtain ⟨w101, hw⟩ : ∃ W, W = wc := ⟨wc, rfl⟩
    subst hw
    have Hx : Hid (BoxY _ _ _ _ _) := Lib.hid ⟨t1, t2⟩
    have Px := Lib.hid px
    replace Ha := Lib.hid (Ha.out.at hb)
    replace Hb := Lib.hid (Hb.out.at hb)
    replace HBW := Lib.hid (HBW.out.trans (hb.mono HBW.out.size))
    clear B0 KK Ta Tb za zb Oa Ob hb px t1 t2 pl9 hsx hkx
    have gx := grown_val VA.out VB.out HR.out.p1 HR.out.p2 HR.out.q1 HR.out.q2 HR.out.u1 HR.out.u2 HR.out.v1 HR.out.v2 (Y := fr) (by omega) (by omega) Px.out
    have EX := Lib.hid gx.1
    have VX := Lib.hid gx.2.1
    clear gx
    have KK : Hid (∀ w', Below w101.heap.size w101 w' → w'.cell? ⟨ba, 0, none⟩ = some (.int .i64 ra.1) ∧ w'.cell? ⟨ba, 1, none⟩ = some (.slice aa ra.2.1.length ca) ∧ w'.cell? ⟨bb, 0, none⟩ = some (.int .i64 rb.1) ∧ w'.cell? ⟨bb, 1, none⟩ = some (.slice ab rb.2.1.length cb)) := Lib.hid fun w' hb => by
      have aa := Ha.out.at hb
      have ab := Hb.out.at hb
      exact ⟨aa.1.c0, aa.1.c1, ab.1.c0, ab.1.c1⟩
    have Ta := Lib.hid (fun w' (hb : Below w101.heap.size w101 w') => (Ha.out.at hb).2)
    have Tb := Lib.hid (fun w' (hb : Below w101.heap.size w101 w') => (Hb.out.at hb).2)
    have Oa := Lib.hid (fun w' h => copied_any ra.1 (.slice aa ra.2.1.length ca) ra.2.1 w' h (by have := VA.out.1.len; omega))
    have Ob := Lib.hid (fun w' h => copied_any rb.1 (.slice ab rb.2.1.length cb) rb.2.1 w' h (by have := VB.out.1.len; omega))
    have B0 := Below.refl w101.heap.size w101
    have za := Ha.out.1.lt
    have zb := Hb.out.1.lt
    go_upto_region 4 with fail
    go_cut [13, 14] (fun p q wx => Mid (GrownR ra.1 ra.2.1 rb.1 rb.2.1 to_) w101 p q wx)
    case first =>
      go_region_held3 (fun w' => w'.cell? ⟨ba, 0, none⟩ = some (.int .i64 ra.1) ∧ w'.cell? ⟨ba, 1, none⟩ = some (.slice aa ra.2.1.length ca) ∧ w'.cell? ⟨bb, 0, none⟩ = some (.int .i64 rb.1) ∧ w'.cell? ⟨bb, 1, none⟩ = some (.slice ab rb.2.1.length cb))
        (first | exact KK.out _ (by (first | assumption | exact B0 | exact B0.drew | exact B0.alloc (by first | exact Nat.le_refl _ | exact B0.size) _ | exact (B0.drew).alloc (by first | exact Nat.le_refl _ | exact B0.size) _ | exact Below.alloc (by assumption) (Below.size (by assumption)) _)) | exact KK.out _ (by (exact (B3.setCell (by first | exact Nat.le_refl _ | exact B0.size | exact B1.size | exact B2.size) _).setCell (by first | exact Nat.le_refl _ | exact B0.size | exact B1.size | exact B2.size) _)))
        (first
          | (go_at_call 66; ((with_reducible refine (Oa.out _ ?_).mono ?_); (exact Ta.out _ (by (first | assumption | exact B0 | exact B0.drew | exact B0.alloc (by first | exact Nat.le_refl _ | exact B0.size) _ | exact (B0.drew).alloc (by first | exact Nat.le_refl _ | exact B0.size) _ | exact Below.alloc (by assumption) (Below.size (by assumption)) _)))); rintro e w1 ⟨v1, rfl, ht1, hb1, hk1⟩; have B1 := Below.chain (W := w101) (by (first | assumption | exact B0 | exact B0.drew | exact B0.alloc (by first | exact Nat.le_refl _ | exact B0.size) _ | exact (B0.drew).alloc (by first | exact Nat.le_refl _ | exact B0.size) _ | exact Below.alloc (by assumption) (Below.size (by assumption)) _)) hb1; first | (have RX : Two w1 w101.heap.size (.int .i64 0) (.slice none 0 0) 34 := (Two.new w101.drew (.int .i64 0) (.slice none 0 0) 34).below hb1 (by simp)) | skip)
          | (go_at_call 66; ((with_reducible refine (Ob.out _ ?_).mono ?_); (exact Tb.out _ (by (first | assumption | exact B0 | exact B0.drew | exact B0.alloc (by first | exact Nat.le_refl _ | exact B0.size) _ | exact (B0.drew).alloc (by first | exact Nat.le_refl _ | exact B0.size) _ | exact Below.alloc (by assumption) (Below.size (by assumption)) _)))); rintro e w2 ⟨v2, rfl, ht2, hb2, hk2⟩; have B2 := Below.chain (W := w101) (by (first | assumption | exact B0 | exact B0.drew | exact B0.alloc (by first | exact Nat.le_refl _ | exact B0.size) _ | exact (B0.drew).alloc (by first | exact Nat.le_refl _ | exact B0.size) _ | exact Below.alloc (by assumption) (Below.size (by assumption)) _)) hb2; have ht1 := (by first | exact ht1.below hb2 | exact (ht1.alloc _).below hb2); first | (have RX := RX.below hb2 RX.lt) | (have RX : Two w2 w1.heap.size (.int .i64 0) (.slice none 0 0) 34 := (Two.new w1 (.int .i64 0) (.slice none 0 0) 34).below hb2 (by simp)) | skip)
          | (go_at_call 68; ((with_reducible refine (grow_call hsort VA VB HR (to_) (by first | rfl | exact wf | exact wt | exact wf1 | (simp only [wf, wf1])) (by omega) (by omega) _ _ _ ?_ ?_).mono ?_); (first | exact ht1 | exact ht1.alloc _); (first | exact ht2 | exact ht2.alloc _)); rintro e w3 ⟨r, hP, v3, rfl, ht3, hb3, hk3⟩; obtain ⟨a3, c3, rfl, px3⟩ := ht3.placed; have B3 := Below.chain (W := w101) (by (first | assumption | exact B0 | exact B0.drew | exact B0.alloc (by first | exact Nat.le_refl _ | exact B0.size) _ | exact (B0.drew).alloc (by first | exact Nat.le_refl _ | exact B0.size) _ | exact Below.alloc (by assumption) (Below.size (by assumption)) _)) hb3; first | (have RX := RX.below hb3 RX.lt; have r0 := RX.c0; have r1 := RX.c1; have f0 := RX.fr (i := 0); have f1 := RX.fr (i := 1); have hr := RX.lt) | (have RX : Two w3 w2.heap.size (.int .i64 0) (.slice none 0 0) 34 := (Two.new w2 (.int .i64 0) (.slice none 0 0) 34).below hb3 (by simp); have r0 := RX.c0; have r1 := RX.c1; have f0 := RX.fr (i := 0); have f1 := RX.fr (i := 1); have hr := RX.lt) | skip))
      all_goals
        go_wp2_with fail
        go_meet
        first | exact mid_new hP ht3 (fun k hk => by have q1 := hk3 k hk; have q2 := B2.size; omega) B3 | exact mid_close RX hP ht3 (fun k hk => by have q1 := hb1.size; have q2 := hb2.size; have q3 := hk3 k hk; simp at q1 q2 q3; omega) (by first | exact Nat.le_refl _ | exact B0.size | exact B1.size | exact B2.size) B3
    case rest KK0 hKK0 =>
      obtain ⟨bz, rz, v, rfl, rfl, pz, t1, t2, hsz, hb, hkz⟩ := hcut
      obtain ⟨az, cz, rfl, pl9⟩ := t2.placed
      obtain ⟨w102, hw⟩ : ∃ W, W = wc := ⟨wc, rfl⟩
      subst hw
      have Hz : Hid (BoxY _ _ _ _ _) := Lib.hid ⟨t1, t2⟩
      have Pz := Lib.hid pz
      replace Ha := Lib.hid (Ha.out.at hb)
      replace Hb := Lib.hid (Hb.out.at hb)
      replace Hx := Lib.hid (Hx.out.at hb)
      replace HBW := Lib.hid (HBW.out.trans (hb.mono HBW.out.size))
      clear B0 KK Ta Tb za zb Oa Ob hb pz t1 t2 pl9 hsz hkz
      have gz := grown_val VA.out VB.out HR.out.p1 HR.out.p2 HR.out.q1 HR.out.q2 HR.out.u1 HR.out.u2 HR.out.v1 HR.out.v2 (Y := to_) (by omega) (by omega) Pz.out
      have EZ := Lib.hid gz.1
      have VZ := Lib.hid gz.2.1
      clear gz
      exact hKK0 _ _ (hnext HW HR HBW Ha Hb Hx Hz VA VB VX VZ EX EZ Px Pz)
end Go.Proofs.YtkjclafbpocabaaGreatDoor
