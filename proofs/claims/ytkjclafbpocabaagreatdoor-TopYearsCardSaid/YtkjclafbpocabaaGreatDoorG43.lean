/-
  Contracts of the program's own functions (and their plain mathematics), on the way to the law: each for all arguments that its hypotheses let.
-/
import Derived.Test.YtkjclafbpocabaaGreatDoorG42
import Derived.WalkKit
import Derived.WalkSpells
import Derived.WalkLawsBesides
import Derived.Deep.QuietTactic
import Derived.BigQuiet
import Derived.Lib.Hide
import Derived.WalkSmall
import Derived.Maps.OwnSet
import Derived.Maps.RangeWalk
import Derived.Deep.RegionWith
import Derived.Deep.RegionHeld3
import Derived.Deep.DrawnRows
import Derived.Deep.DeepCutAuto
import Derived.OneCell
import Derived.KernelRfl
import Derived.Laws.StructEq
import Derived.StillTailTactics
import Derived.Laws.Externs
import Derived.RangeFuncBox
import Derived.Test.YtkjclafbpocabaaGreatDoorPlain
set_option linter.unusedSimpArgs false
set_option linter.unusedVariables false

/-! ## Y19 -/
namespace Go.Proofs.YtkjclafbpocabaaGreatDoor
open Go.RowKit Go.Maps Go.Shelf Go.Sort
attribute [local go_sem ↓] Go.wp_at_zero Go.wp_at_succ
set_option maxRecDepth 1000000 in
set_option maxHeartbeats 40000000 in
theorem yseg2 (hsort : Hid SortC) (hnext : YSeg3) : YSeg2 := by
  intro w w2 a0 a1 b0 b1 p q u v fr to_ dA dB lA lB bi bj u0 u1 u2 u5 u6 u9 u10 u11 u12 u13 u14 u15 u16 u17 u18 u19 u20 u21 u22 u23 u24 u25 u26 u27 u28 u29 u30 u31 u32 u33 u34 u35 u36 u37 u38 u39 u40 u41 u42 u43 u44 u45 u46 u47 u48 u49 u50 u51 u52 u53 u54 u55 u56 u57 u58 u59 u60 u61 u62 u63 u64 u65 u66 u67 u68 u69 u70 u71 u72 u73 u74 u75 u76 u77 u78 u79 u80 u81 u82 u83 u84 u85 u86 u87 u88 u89 u90 u91 u92 u93 u94 u95 u96 u97 u98 u99 u100 u101 u102 u103 u104 u105 u106 u107 u108 u109 u110 u111 u112 u113 u114 u115 u116 u117 u118 u119 u120 u121 u122 u123 u124 u125 u126 u127 u128 u129 u130 u131 u132 u133 u134 u135 u136 u137 u138 u139 u140 u141 u142 u143 u144 u145 u146 u147 u148 u149 u150 u151 u152 u153 u154 u155 u156 u157 u158 u159 u160 u161 u162 u163 u164 u165 u166 u167 u168 u169 u170 u171 u172 u173 u174 u175 u176 u177 u178 u179 u180 u181 u182 u183 u184 u185 u186 u187 u188 u189 u190 u191 u192 u193 u194 u195 u196 u197 u198 u199 u200 u201 u202 u203 u204 u205 u206 u207 u208 u209 HW HR HB0 HX HY VA VB HWR
  conv => arg 2; whnf
  have OX := Lib.hid (fun (x y : Int) (hx : x = p) (hy : y = q) => frac_call hsort VA (by have := HR.out.p1; omega) (by have := HR.out.p2; omega) HR.out.q1 (by have := HR.out.q2; omega) hx hy)
  have OY := Lib.hid (fun (x y : Int) (hx : x = u) (hy : y = v) => frac_call hsort VB (by have := HR.out.u1; omega) (by have := HR.out.u2; omega) HR.out.v1 (by have := HR.out.v2; omega) hx hy)
  obtain ⟨wa0, wa1, wb0, wb1, wp, wq0, wq, wu, wu1, wv0, wv⟩ := HWR.out
  have KK : Hid (∀ w', Below w2.heap.size w2 w' → w'.cell? ⟨bi, 0, none⟩ = some (.int .u8 a0) ∧ w'.cell? ⟨bi, 1, none⟩ = some (.int .u8 a1) ∧ w'.cell? ⟨bj, 0, none⟩ = some (.int .u8 b0) ∧ w'.cell? ⟨bj, 1, none⟩ = some (.int .u8 b1)) := Lib.hid fun w' hb => by
    have x := HX.out.past hb
    have y := HY.out.past hb
    exact ⟨x.c0, x.c1, y.c0, y.c1⟩
  have B0 := Below.refl w2.heap.size w2
  clear HX HY
  go_upto_region 2 with fail
  go_cut [9, 10] (fun p q wx => PairQ dA lA dB lB w2 p q wx)
  case first =>
      clear HW HR HB0 VA VB hnext
      go_region_held3 (fun w' => w'.cell? ⟨bi, 0, none⟩ = some (.int .u8 a0) ∧ w'.cell? ⟨bi, 1, none⟩ = some (.int .u8 a1) ∧ w'.cell? ⟨bj, 0, none⟩ = some (.int .u8 b0) ∧ w'.cell? ⟨bj, 1, none⟩ = some (.int .u8 b1))
        (exact KK.out _ (by (repeat' (first | assumption | exact B0 | exact Nat.le_refl _ | (refine Below.setCell ?_ ?_ _) | (refine Below.alloc' (Nat.le_refl _) ?_ _) | (refine Below.drew ?_) | (dsimp only; omega)))))
        (first
          | (go_at_call 65; (have hq1 := ht1); clear hq1; (with_reducible refine (OY.out _ _ ?_ ?_ _).mono ?_); (first | rfl | assumption | (simp only [wa0, wa1, wb0, wb1, wp, wq0, wq, wu, wv0, wv])); (first | rfl | assumption | (simp only [wa0, wa1, wb0, wb1, wp, wq0, wq, wu, wv0, wv])); rintro e w4 ⟨v2, rfl, ht2, hb2, hk2⟩; obtain ⟨e2, k2, rfl, px2⟩ := ht2.placed; clear px2; have NQ2 := ht2.own; have S2 := hb2.size; (try simp at S2); have B2 := Below.chain (W := w2) (by (repeat' (first | assumption | exact B0 | exact Nat.le_refl _ | (refine Below.setCell ?_ ?_ _) | (refine Below.alloc' (Nat.le_refl _) ?_ _) | (refine Below.drew ?_) | (dsimp only; omega)))) hb2; (first | (have ht1 := ht1.below hb2) | (have ht1 := (ht1.alloc _).below hb2) | (have ht1 := ((ht1.alloc _).alloc _).below hb2)); (first | (replace RA := RA.past0 hb2 rfl) | (replace RA := RA.past1 (.cells #[.int .i64 0, .slice none 0 0] 34) hb2 rfl) | skip); (first | (replace RB := RB.past0 hb2 rfl) | (replace RB := RB.past1 (.cells #[.int .i64 0, .slice none 0 0] 34) hb2 rfl) | skip); (first | (have RC := zAA w3 (.int .i64 0) (.slice none 0 0) 34 (.cells #[.int .i64 0, .slice none 0 0] 34) hb2 rfl) | (have RC := zA w3 (.int .i64 0) (.slice none 0 0) 34 hb2 rfl) | skip); (first | (have RD := zB w3 (.int .i64 0) (.slice none 0 0) 34 (.cells #[.int .i64 0, .slice none 0 0] 34) hb2 rfl) | skip); (first | (have a0' := RA.c0; have a1' := RA.c1; have a2' := RA.fr (i := 0); have a3' := RA.fr (i := 1); have a4' := RA.lt) | skip); (first | (have b0' := RB.c0; have b1' := RB.c1; have b2' := RB.fr (i := 0); have b3' := RB.fr (i := 1); have b4' := RB.lt) | skip); (first | (have c0' := RC.c0; have c1' := RC.c1; have c2' := RC.fr (i := 0); have c3' := RC.fr (i := 1); have c4' := RC.lt) | skip); (first | (have d0' := RD.c0; have d1' := RD.c1; have d2' := RD.fr (i := 0); have d3' := RD.fr (i := 1); have d4' := RD.lt) | skip))
          | (go_at_call 65; (with_reducible refine (OX.out _ _ ?_ ?_ _).mono ?_); (first | rfl | assumption | (simp only [wa0, wa1, wb0, wb1, wp, wq0, wq, wu, wv0, wv])); (first | rfl | assumption | (simp only [wa0, wa1, wb0, wb1, wp, wq0, wq, wu, wv0, wv])); rintro e w3 ⟨v1, rfl, ht1, hb1, hk1⟩; obtain ⟨e1, k1, rfl, px1⟩ := ht1.placed; clear px1; have B1 := Below.chain (W := w2) (by (repeat' (first | assumption | exact B0 | exact Nat.le_refl _ | (refine Below.setCell ?_ ?_ _) | (refine Below.alloc' (Nat.le_refl _) ?_ _) | (refine Below.drew ?_) | (dsimp only; omega)))) hb1; have NQ1 := ht1.own; have S1 := hb1.size; (try simp at S1); (first | (have RA := zAA w2 (.int .i64 0) (.slice none 0 0) 34 (.cells #[.int .i64 0, .slice none 0 0] 34) hb1 rfl) | (have RA := zA w2 (.int .i64 0) (.slice none 0 0) 34 hb1 rfl) | skip); (first | (have RB := zB w2 (.int .i64 0) (.slice none 0 0) 34 (.cells #[.int .i64 0, .slice none 0 0] 34) hb1 rfl) | skip)))
      all_goals
      go_wp2_with fail
      go_meet
      have S5 := B1.size
      have S6 := B2.size
      first
        | with_reducible exact pair_new ht1 ht2 B2
        | with_reducible exact pair_new' ht1 ht2 B2
        | ((with_reducible refine pair_mid ht1 ht2 B2 ?_ ?_ ?_ ?_ ?_); (with_reducible assumption); rfl; omega; (refine NQ1.imp id (fun g k hk => ?_); have g1 := g k hk; have g2 := hk1 k hk; (try simp at g2); omega); (refine NQ2.imp id (fun g k hk => ?_); have g1 := g k hk; have g2 := hk2 k hk; (try simp at g2); omega))
        | ((with_reducible refine pair_mid' ht1 ht2 B2 ?_ ?_ ?_ ?_ ?_); (with_reducible assumption); rfl; omega; (refine NQ1.imp id (fun g k hk => ?_); have g1 := g k hk; have g2 := hk1 k hk; (try simp at g2); omega); (refine NQ2.imp id (fun g k hk => ?_); have g1 := g k hk; have g2 := hk2 k hk; (try simp at g2); omega))
        | ((with_reducible refine pair_old ht1 ht2 B2 ?_ ?_ ?_ ?_ ?_ ?_ ?_ ?_ ?_); (with_reducible assumption); (with_reducible assumption); rfl; rfl; omega; omega; omega; (refine NQ1.imp id (fun g k hk => ?_); have g1 := g k hk; have g2 := hk1 k hk; (try simp at g2); omega); (refine NQ2.imp id (fun g k hk => ?_); have g1 := g k hk; have g2 := hk2 k hk; (try simp at g2); omega))
  case rest KK1 hKK1 =>
      obtain ⟨ba, bb, v1, v2, rfl, rfl, hne, ha, hb, hB⟩ := hcut
      obtain ⟨aa, ca, rfl, _⟩ := ha.2.placed
      obtain ⟨ab, cb, rfl, _⟩ := hb.2.placed
      exact hKK1 _ _ (hnext (ra := (dA, lA, 0)) (rb := (dB, lB, 0)) HW HR (Lib.hid (HB0.out.trans (hB.mono HB0.out.size))) (Lib.hid ha) (Lib.hid hb) VA VB)
end Go.Proofs.YtkjclafbpocabaaGreatDoor
