/-
  Contracts of the program's own functions (and their plain mathematics), on the way to the law: each for all arguments that its hypotheses let.
-/
import Derived.Test.YtedpafdfecofnaaGreatDoorF34
import Derived.Test.YtedpafdfecofnaaGreatDoorF35
import Derived.WalkKit
import Derived.WalkSpells
import Derived.WalkLawsBesides
import Derived.Deep.QuietTactic
import Derived.BigQuiet
import Derived.Lib.Hide
import Derived.WalkSmall
import Derived.Maps.OwnSet
import Derived.Maps.RangeWalk
import Derived.Deep.RegionWith
import Derived.Deep.RegionHeld3
import Derived.Deep.DrawnRows
import Derived.Deep.DeepCutAuto
import Derived.OneCell
import Derived.KernelRfl
import Derived.Laws.StructEq
import Derived.StillTailTactics
import Derived.Laws.Externs
import Derived.RangeFuncBox
import Derived.Test.YtedpafdfecofnaaGreatDoorPlain
set_option linter.unusedSimpArgs false
set_option linter.unusedVariables false

/-! ## S102 -/
namespace Go.Proofs.YtedpafdfecofnaaGreatDoor
open Go.RowKit Go.Maps Go.Shelf Go.Sort
attribute [local go_sem ↓] Go.wp_at_zero Go.wp_at_succ
set_option maxRecDepth 100000 in
set_option maxHeartbeats 40000000 in
theorem sums_walk (hk : Hid KnownT) (h1 : Hid (OpC 24 (addF 1))) (h2 : Hid (OpC 25 (addF (-1)))) (dx dy : Int) (vx vy : Value) (lx ly : List (Int × Int)) (w : World) (hx : TermsAt w vx lx) (hy : TermsAt w vy ly) (hw : WOk w) :
    Calls Tryz.prog 4 #[.agg #[.int .i64 dx, vx], .agg #[.int .i64 dy, vy]] w (AnsB true w) := by
  obtain ⟨ax, cx, rfl, _⟩ := hx.placed
  obtain ⟨ay, cy, rfl, _⟩ := hy.placed
  have BA : Below w.heap.size w (w.alloc (.cells #[.int .i64 dx, .slice ax lx.length cx] 24)) := (Below.refl _ w).alloc (Nat.le_refl _) _
  have BB : Below w.heap.size w ((w.alloc (.cells #[.int .i64 dx, .slice ax lx.length cx] 24)).alloc (.cells #[.int .i64 dy, .slice ay ly.length cy] 24)) := BA.alloc (by simp) _
  have X0 : BoxQ ((w.alloc (.cells #[.int .i64 dx, .slice ax lx.length cx] 24)).alloc (.cells #[.int .i64 dy, .slice ay ly.length cy] 24)) w.heap.size dx (.slice ax lx.length cx) lx := ⟨(Two.new w _ _ 24).alloc _, hx.below BB⟩
  have Y0 : BoxQ ((w.alloc (.cells #[.int .i64 dx, .slice ax lx.length cx] 24)).alloc (.cells #[.int .i64 dy, .slice ay ly.length cy] 24)) (w.heap.size + 1) dy (.slice ay ly.length cy) ly := ⟨by
    have := Two.new (w.alloc (.cells #[.int .i64 dx, .slice ax lx.length cx] 24)) (.int .i64 dy) (.slice ay ly.length cy) 24
    simpa using this, hy.below BB⟩
  have HX := Lib.hid X0
  have HY := Lib.hid Y0
  have HBW := Lib.hid BB
  have HW := Lib.hid hw
  clear hx hy hw BA BB X0 Y0
  go_enter Tryz.func4, Tryz.ntmps4
  go_wp2_with fail
  refine (long_any dx _ lx _ HX.out.2).mono ?_
  rintro e w1 ⟨rfl, hb⟩
  replace HX := Lib.hid (HX.out.at hb)
  replace HY := Lib.hid (HY.out.at hb)
  replace HBW := Lib.hid (HBW.out.trans (hb.mono HBW.out.size))
  clear hb
  have y0 := HY.out.1.c0
  have y1 := HY.out.1.c1
  by_cases hlx : 8 < lx.length
  · rw [show decide (8 < lx.length) = true from decide_eq_true hlx]
    go_wp2_with fail
    refine (hk.out _ (HW.out.below HBW.out)).mono ?_
    rintro e w2 ⟨rfl, hb2⟩
    have HB2 := Lib.hid (HBW.out.trans (hb2.mono HBW.out.size))
    clear hb2
    go_wp2
    go_ret
    exact ⟨rfl, HB2.out⟩
  rw [show decide (8 < lx.length) = false from decide_eq_false hlx]
  go_wp2_with fail
  refine (long_any dy _ ly _ HY.out.2).mono ?_
  rintro e w2 ⟨rfl, hb⟩
  replace HX := Lib.hid (HX.out.at hb)
  replace HY := Lib.hid (HY.out.at hb)
  replace HBW := Lib.hid (HBW.out.trans (hb.mono HBW.out.size))
  clear hb y0 y1
  by_cases hly : 8 < ly.length
  · rw [show decide (8 < ly.length) = true from decide_eq_true hly]
    go_wp2_with fail
    refine (hk.out _ (HW.out.below HBW.out)).mono ?_
    rintro e w3 ⟨rfl, hb2⟩
    have HB2 := Lib.hid (HBW.out.trans (hb2.mono HBW.out.size))
    clear hb2
    go_wp2
    go_ret
    exact ⟨rfl, HB2.out⟩
  rw [show decide (8 < ly.length) = false from decide_eq_false hly]
  have hlx8 : lx.length ≤ 8 := by omega
  have hly8 : ly.length ≤ 8 := by omega
  clear hlx hly
  have KK : Hid (∀ w', Below w2.heap.size w2 w' → w'.cell? ⟨w.heap.size, 0, none⟩ = some (.int .i64 dx) ∧ w'.cell? ⟨w.heap.size, 1, none⟩ = some (.slice ax lx.length cx) ∧ w'.cell? ⟨w.heap.size + 1, 0, none⟩ = some (.int .i64 dy) ∧ w'.cell? ⟨w.heap.size + 1, 1, none⟩ = some (.slice ay ly.length cy)) := Lib.hid fun w' hb => by
    have a := HX.out.at hb
    have b := HY.out.at hb
    exact ⟨a.1.c0, a.1.c1, b.1.c0, b.1.c1⟩
  have TX := Lib.hid (fun w' (hb : Below w2.heap.size w2 w') => (HX.out.at hb).2)
  have TY := Lib.hid (fun w' (hb : Below w2.heap.size w2 w') => (HY.out.at hb).2)
  have OX := Lib.hid (fun w' h => own_any dx (.slice ax lx.length cx) lx w' h (by omega))
  have OY := Lib.hid (fun w' h => own_any dy (.slice ay ly.length cy) ly w' h (by omega))
  have zx : w.heap.size < w2.heap.size := HX.out.1.lt
  have zy : w.heap.size + 1 < w2.heap.size := HY.out.1.lt
  have B0 := Below.refl w2.heap.size w2
  go_upto_region 3 with fail
  go_cut [5, 6] (fun p q wx => PairQ dx lx dy ly w2 p q wx)
  case first =>
    go_region_held3 (fun w' => w'.cell? ⟨w.heap.size, 0, none⟩ = some (.int .i64 dx) ∧ w'.cell? ⟨w.heap.size, 1, none⟩ = some (.slice ax lx.length cx) ∧ w'.cell? ⟨w.heap.size + 1, 0, none⟩ = some (.int .i64 dy) ∧ w'.cell? ⟨w.heap.size + 1, 1, none⟩ = some (.slice ay ly.length cy))
      (first | exact KK.out _ (by (repeat' (first | assumption | exact B0 | exact Nat.le_refl _ | (refine Below.setCell ?_ ?_ _) | (refine Below.alloc' (Nat.le_refl _) ?_ _) | (refine Below.drew ?_) | (dsimp only; omega)))))
      (first
        | (go_at_call 19; ((with_reducible refine (OX.out _ ?_).mono ?_); (exact TX.out _ (by (repeat' (first | assumption | exact B0 | exact Nat.le_refl _ | (refine Below.setCell ?_ ?_ _) | (refine Below.alloc' (Nat.le_refl _) ?_ _) | (refine Below.drew ?_) | (dsimp only; omega)))))); rintro e w3 ⟨v1, rfl, ht1, hb1, hk1⟩; obtain ⟨e1, k1, rfl, px1⟩ := ht1.placed; clear px1; have B1 := Below.chain (W := w2) (by (repeat' (first | assumption | exact B0 | exact Nat.le_refl _ | (refine Below.setCell ?_ ?_ _) | (refine Below.alloc' (Nat.le_refl _) ?_ _) | (refine Below.drew ?_) | (dsimp only; omega)))) hb1; have NQ1 := ht1.own; have S1 := hb1.size; (try simp at S1); (first | (have RA := zAA w2 (.int .i64 0) (.slice none 0 0) 24 (.cells #[.int .i64 0, .slice none 0 0] 24) hb1 rfl) | (have RA := zA w2 (.int .i64 0) (.slice none 0 0) 24 hb1 rfl) | skip); (first | (have RB := zB w2 (.int .i64 0) (.slice none 0 0) 24 (.cells #[.int .i64 0, .slice none 0 0] 24) hb1 rfl) | skip))
        | (go_at_call 19; ((with_reducible refine (OY.out _ ?_).mono ?_); (exact TY.out _ (by (repeat' (first | assumption | exact B0 | exact Nat.le_refl _ | (refine Below.setCell ?_ ?_ _) | (refine Below.alloc' (Nat.le_refl _) ?_ _) | (refine Below.drew ?_) | (dsimp only; omega)))))); rintro e w4 ⟨v2, rfl, ht2, hb2, hk2⟩; obtain ⟨e2, k2, rfl, px2⟩ := ht2.placed; clear px2; have NQ2 := ht2.own; have S2 := hb2.size; (try simp at S2); have B2 := Below.chain (W := w2) (by (repeat' (first | assumption | exact B0 | exact Nat.le_refl _ | (refine Below.setCell ?_ ?_ _) | (refine Below.alloc' (Nat.le_refl _) ?_ _) | (refine Below.drew ?_) | (dsimp only; omega)))) hb2; (first | (have ht1 := ht1.below hb2) | (have ht1 := (ht1.alloc _).below hb2) | (have ht1 := ((ht1.alloc _).alloc _).below hb2)); (first | (replace RA := RA.past0 hb2 rfl) | (replace RA := RA.past1 (.cells #[.int .i64 0, .slice none 0 0] 24) hb2 rfl) | skip); (first | (replace RB := RB.past0 hb2 rfl) | (replace RB := RB.past1 (.cells #[.int .i64 0, .slice none 0 0] 24) hb2 rfl) | skip); (first | (have RC := zAA w3 (.int .i64 0) (.slice none 0 0) 24 (.cells #[.int .i64 0, .slice none 0 0] 24) hb2 rfl) | (have RC := zA w3 (.int .i64 0) (.slice none 0 0) 24 hb2 rfl) | skip); (first | (have RD := zB w3 (.int .i64 0) (.slice none 0 0) 24 (.cells #[.int .i64 0, .slice none 0 0] 24) hb2 rfl) | skip); (first | (have a0 := RA.c0; have a1 := RA.c1; have a2 := RA.fr (i := 0); have a3 := RA.fr (i := 1); have a4 := RA.lt) | skip); (first | (have b0 := RB.c0; have b1 := RB.c1; have b2 := RB.fr (i := 0); have b3 := RB.fr (i := 1); have b4 := RB.lt) | skip); (first | (have c0 := RC.c0; have c1 := RC.c1; have c2 := RC.fr (i := 0); have c3 := RC.fr (i := 1); have c4 := RC.lt) | skip); (first | (have d0 := RD.c0; have d1 := RD.c1; have d2 := RD.fr (i := 0); have d3 := RD.fr (i := 1); have d4 := RD.lt) | skip)))
    all_goals
      go_wp2_with fail
      go_meet
      have S5 := B1.size
      have S6 := B2.size
      first
        | with_reducible exact pair_new ht1 ht2 B2
        | with_reducible exact pair_new' ht1 ht2 B2
        | ((with_reducible refine pair_mid ht1 ht2 B2 ?_ ?_ ?_ ?_ ?_); (with_reducible assumption); rfl; omega; (refine NQ1.imp id (fun g k hk => ?_); have g1 := g k hk; have g2 := hk1 k hk; (try simp at g2); omega); (refine NQ2.imp id (fun g k hk => ?_); have g1 := g k hk; have g2 := hk2 k hk; (try simp at g2); omega))
        | ((with_reducible refine pair_mid' ht1 ht2 B2 ?_ ?_ ?_ ?_ ?_); (with_reducible assumption); rfl; omega; (refine NQ1.imp id (fun g k hk => ?_); have g1 := g k hk; have g2 := hk1 k hk; (try simp at g2); omega); (refine NQ2.imp id (fun g k hk => ?_); have g1 := g k hk; have g2 := hk2 k hk; (try simp at g2); omega))
        | ((with_reducible refine pair_old ht1 ht2 B2 ?_ ?_ ?_ ?_ ?_ ?_ ?_ ?_ ?_); (with_reducible assumption); (with_reducible assumption); rfl; rfl; omega; omega; omega; (refine NQ1.imp id (fun g k hk => ?_); have g1 := g k hk; have g2 := hk1 k hk; (try simp at g2); omega); (refine NQ2.imp id (fun g k hk => ?_); have g1 := g k hk; have g2 := hk2 k hk; (try simp at g2); omega))
  case rest KK0 hKK0 =>
    obtain ⟨b1, b2, v1, v2, rfl, rfl, hne, hA, hB, hb⟩ := hcut
    obtain ⟨w5, hw⟩ : ∃ W, W = wc := ⟨wc, rfl⟩
    subst hw
    replace HX := Lib.hid (HX.out.at hb)
    replace HY := Lib.hid (HY.out.at hb)
    replace HBW := Lib.hid (HBW.out.trans (hb.mono HBW.out.size))
    obtain ⟨e1, k1, rfl, _⟩ := hA.2.placed
    obtain ⟨e2, k2, rfl, _⟩ := hB.2.placed
    have HA := Lib.hid hA
    have HB := Lib.hid hB
    clear hA hB hb B0 KK TX TY OX OY zx zy hlx8 hly8 hne
    have za0 := HA.out.1.c0
    have za1 := HA.out.1.c1
    have zaz := HA.out.1.lt
    have zb0 := HB.out.1.c0
    have zb1 := HB.out.1.c1
    have zbz := HB.out.1.lt
    go_wp2_with fail
    refine (h1.out.call dx dy _ _ lx ly _ HA.out.2 HB.out.2).mono ?_
    rintro e w6 ⟨rP, hPP, v, rfl, ht, hb, hk⟩
    clear za0 za1 zaz zb0 zb1 zbz
    obtain ⟨aP, cP, rfl, px⟩ := ht.placed
    have hn : Below w6.heap.size w6 (w6.alloc (.cells #[.int .i64 rP.1, .slice aP rP.2.1.length cP] 24)) := (Below.refl _ _).alloc (Nat.le_refl _) _
    replace HX := Lib.hid ((HX.out.at hb).at hn)
    replace HY := Lib.hid ((HY.out.at hb).at hn)
    replace HA := Lib.hid ((HA.out.at hb).at hn)
    replace HB := Lib.hid ((HB.out.at hb).at hn)
    replace HBW := Lib.hid ((HBW.out.trans (hb.mono HBW.out.size)).alloc (Nat.le_trans HBW.out.size hb.size) (.cells #[.int .i64 rP.1, .slice aP rP.2.1.length cP] 24))
    have HP : Hid (BoxQ (w6.alloc (.cells #[.int .i64 rP.1, .slice aP rP.2.1.length cP] 24)) w6.heap.size rP.1 (.slice aP rP.2.1.length cP) rP.2.1) := Lib.hid ⟨Two.new _ _ _ _, ht.alloc _⟩
    have PP := Lib.hid hPP
    clear ht hb hk px hn hPP
    have za0 := HA.out.1.c0
    have za1 := HA.out.1.c1
    have zaz := HA.out.1.lt
    have zb0 := HB.out.1.c0
    have zb1 := HB.out.1.c1
    have zbz := HB.out.1.lt
    go_wp2_with fail
    refine (h2.out.call dx dy _ _ lx ly _ HA.out.2 HB.out.2).mono ?_
    rintro e w7 ⟨rQ, hPQ, v, rfl, ht, hb, hk⟩
    clear za0 za1 zaz zb0 zb1 zbz
    obtain ⟨aQ, cQ, rfl, px⟩ := ht.placed
    have hn : Below w7.heap.size w7 (w7.alloc (.cells #[.int .i64 rQ.1, .slice aQ rQ.2.1.length cQ] 24)) := (Below.refl _ _).alloc (Nat.le_refl _) _
    replace HX := Lib.hid ((HX.out.at hb).at hn)
    replace HY := Lib.hid ((HY.out.at hb).at hn)
    replace HA := Lib.hid ((HA.out.at hb).at hn)
    replace HB := Lib.hid ((HB.out.at hb).at hn)
    replace HP := Lib.hid ((HP.out.at hb).at hn)
    replace HBW := Lib.hid ((HBW.out.trans (hb.mono HBW.out.size)).alloc (Nat.le_trans HBW.out.size hb.size) (.cells #[.int .i64 rQ.1, .slice aQ rQ.2.1.length cQ] 24))
    have HQ : Hid (BoxQ (w7.alloc (.cells #[.int .i64 rQ.1, .slice aQ rQ.2.1.length cQ] 24)) w7.heap.size rQ.1 (.slice aQ rQ.2.1.length cQ) rQ.2.1) := Lib.hid ⟨Two.new _ _ _ _, ht.alloc _⟩
    have PQ := Lib.hid hPQ
    clear ht hb hk px hn hPQ
    have zx0 := HX.out.1.c0
    have zx1 := HX.out.1.c1
    have zxz := HX.out.1.lt
    have zy0 := HY.out.1.c0
    have zy1 := HY.out.1.c1
    have zyz := HY.out.1.lt
    go_wp2_with fail
    refine (rplus_any 1 dx dy _ _ lx ly _ HX.out.2 HY.out.2 (.inl rfl)).mono ?_
    rintro e w8 ⟨rR, hPR, v, rfl, ht, hb, hk⟩
    clear zx0 zx1 zxz zy0 zy1 zyz
    have hu : rP = rR := (addF_uniq hPR PP.out).symm
    subst hu
    obtain ⟨aR, cR, rfl, px⟩ := ht.placed
    have hn : Below w8.heap.size w8 (w8.alloc (.cells #[.int .i64 rP.1, .slice aR rP.2.1.length cR] 24)) := (Below.refl _ _).alloc (Nat.le_refl _) _
    replace HX := Lib.hid ((HX.out.at hb).at hn)
    replace HY := Lib.hid ((HY.out.at hb).at hn)
    replace HA := Lib.hid ((HA.out.at hb).at hn)
    replace HB := Lib.hid ((HB.out.at hb).at hn)
    replace HP := Lib.hid ((HP.out.at hb).at hn)
    replace HQ := Lib.hid ((HQ.out.at hb).at hn)
    replace HBW := Lib.hid ((HBW.out.trans (hb.mono HBW.out.size)).alloc (Nat.le_trans HBW.out.size hb.size) (.cells #[.int .i64 rP.1, .slice aR rP.2.1.length cR] 24))
    have HR : Hid (BoxQ (w8.alloc (.cells #[.int .i64 rP.1, .slice aR rP.2.1.length cR] 24)) w8.heap.size rP.1 (.slice aR rP.2.1.length cR) rP.2.1) := Lib.hid ⟨Two.new _ _ _ _, ht.alloc _⟩
    clear ht hb hk px hn hPR
    have zx0 := HX.out.1.c0
    have zx1 := HX.out.1.c1
    have zxz := HX.out.1.lt
    have zy0 := HY.out.1.c0
    have zy1 := HY.out.1.c1
    have zyz := HY.out.1.lt
    go_wp2_with fail
    refine (rplus_any (-1) dx dy _ _ lx ly _ HX.out.2 HY.out.2 (.inr rfl)).mono ?_
    rintro e w9 ⟨rS, hPS, v, rfl, ht, hb, hk⟩
    clear zx0 zx1 zxz zy0 zy1 zyz
    have hu : rQ = rS := (addF_uniq hPS PQ.out).symm
    subst hu
    obtain ⟨aS, cS, rfl, px⟩ := ht.placed
    have hn : Below w9.heap.size w9 (w9.alloc (.cells #[.int .i64 rQ.1, .slice aS rQ.2.1.length cS] 24)) := (Below.refl _ _).alloc (Nat.le_refl _) _
    replace HX := Lib.hid ((HX.out.at hb).at hn)
    replace HY := Lib.hid ((HY.out.at hb).at hn)
    replace HA := Lib.hid ((HA.out.at hb).at hn)
    replace HB := Lib.hid ((HB.out.at hb).at hn)
    replace HP := Lib.hid ((HP.out.at hb).at hn)
    replace HQ := Lib.hid ((HQ.out.at hb).at hn)
    replace HR := Lib.hid ((HR.out.at hb).at hn)
    replace HBW := Lib.hid ((HBW.out.trans (hb.mono HBW.out.size)).alloc (Nat.le_trans HBW.out.size hb.size) (.cells #[.int .i64 rQ.1, .slice aS rQ.2.1.length cS] 24))
    have HS : Hid (BoxQ (w9.alloc (.cells #[.int .i64 rQ.1, .slice aS rQ.2.1.length cS] 24)) w9.heap.size rQ.1 (.slice aS rQ.2.1.length cS) rQ.2.1) := Lib.hid ⟨Two.new _ _ _ _, ht.alloc _⟩
    clear ht hb hk px hn hPS
    have za0 := HA.out.1.c0
    have za1 := HA.out.1.c1
    have zaz := HA.out.1.lt
    have zx0 := HX.out.1.c0
    have zx1 := HX.out.1.c1
    have zxz := HX.out.1.lt
    go_wp2_with fail
    refine (same_any dx dx _ _ lx lx _ HA.out.2 HX.out.2).mono ?_
    rintro e w10 ⟨rfl, hb⟩
    clear za0 za1 zaz zx0 zx1 zxz
    rw [show decide (dx = dx ∧ lx = lx) = true by simp]
    replace HX := Lib.hid (HX.out.at hb)
    replace HY := Lib.hid (HY.out.at hb)
    replace HA := Lib.hid (HA.out.at hb)
    replace HB := Lib.hid (HB.out.at hb)
    replace HP := Lib.hid (HP.out.at hb)
    replace HQ := Lib.hid (HQ.out.at hb)
    replace HR := Lib.hid (HR.out.at hb)
    replace HS := Lib.hid (HS.out.at hb)
    replace HBW := Lib.hid (HBW.out.trans (hb.mono HBW.out.size))
    clear hb
    have zb0 := HB.out.1.c0
    have zb1 := HB.out.1.c1
    have zbz := HB.out.1.lt
    have zy0 := HY.out.1.c0
    have zy1 := HY.out.1.c1
    have zyz := HY.out.1.lt
    go_wp2_with fail
    refine (same_any dy dy _ _ ly ly _ HB.out.2 HY.out.2).mono ?_
    rintro e w11 ⟨rfl, hb⟩
    clear zb0 zb1 zbz zy0 zy1 zyz
    rw [show decide (dy = dy ∧ ly = ly) = true by simp]
    replace HX := Lib.hid (HX.out.at hb)
    replace HY := Lib.hid (HY.out.at hb)
    replace HA := Lib.hid (HA.out.at hb)
    replace HB := Lib.hid (HB.out.at hb)
    replace HP := Lib.hid (HP.out.at hb)
    replace HQ := Lib.hid (HQ.out.at hb)
    replace HR := Lib.hid (HR.out.at hb)
    replace HS := Lib.hid (HS.out.at hb)
    replace HBW := Lib.hid (HBW.out.trans (hb.mono HBW.out.size))
    clear hb
    have zp0 := HP.out.1.c0
    have zp1 := HP.out.1.c1
    have zpz := HP.out.1.lt
    have zr0 := HR.out.1.c0
    have zr1 := HR.out.1.c1
    have zrz := HR.out.1.lt
    go_wp2_with fail
    refine (same_any rP.1 rP.1 _ _ rP.2.1 rP.2.1 _ HP.out.2 HR.out.2).mono ?_
    rintro e w12 ⟨rfl, hb⟩
    clear zp0 zp1 zpz zr0 zr1 zrz
    rw [show decide (rP.1 = rP.1 ∧ rP.2.1 = rP.2.1) = true by simp]
    replace HX := Lib.hid (HX.out.at hb)
    replace HY := Lib.hid (HY.out.at hb)
    replace HA := Lib.hid (HA.out.at hb)
    replace HB := Lib.hid (HB.out.at hb)
    replace HP := Lib.hid (HP.out.at hb)
    replace HQ := Lib.hid (HQ.out.at hb)
    replace HR := Lib.hid (HR.out.at hb)
    replace HS := Lib.hid (HS.out.at hb)
    replace HBW := Lib.hid (HBW.out.trans (hb.mono HBW.out.size))
    clear hb
    have zq0 := HQ.out.1.c0
    have zq1 := HQ.out.1.c1
    have zqz := HQ.out.1.lt
    have zs0 := HS.out.1.c0
    have zs1 := HS.out.1.c1
    have zsz := HS.out.1.lt
    go_wp2_with fail
    refine (same_any rQ.1 rQ.1 _ _ rQ.2.1 rQ.2.1 _ HQ.out.2 HS.out.2).mono ?_
    rintro e w13 ⟨rfl, hb⟩
    clear zq0 zq1 zqz zs0 zs1 zsz
    rw [show decide (rQ.1 = rQ.1 ∧ rQ.2.1 = rQ.2.1) = true by simp]
    replace HX := Lib.hid (HX.out.at hb)
    replace HY := Lib.hid (HY.out.at hb)
    replace HA := Lib.hid (HA.out.at hb)
    replace HB := Lib.hid (HB.out.at hb)
    replace HP := Lib.hid (HP.out.at hb)
    replace HQ := Lib.hid (HQ.out.at hb)
    replace HR := Lib.hid (HR.out.at hb)
    replace HS := Lib.hid (HS.out.at hb)
    replace HBW := Lib.hid (HBW.out.trans (hb.mono HBW.out.size))
    clear hb
    go_wp2_with fail
    refine (hk.out _ (HW.out.below HBW.out)).mono ?_
    rintro e wk ⟨rfl, hb⟩
    have HBK := Lib.hid (HBW.out.trans (hb.mono HBW.out.size))
    clear hb
    go_wp2
    go_ret
    exact ⟨rfl, HBK.out⟩

end Go.Proofs.YtedpafdfecofnaaGreatDoor
