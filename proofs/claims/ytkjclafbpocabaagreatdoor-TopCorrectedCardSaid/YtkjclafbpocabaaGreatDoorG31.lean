/-
  Contracts of the program's own functions (and their plain mathematics), on the way to the law: each for all arguments that its hypotheses let.
-/
import Derived.Test.YtkjclafbpocabaaGreatDoorG30
import Derived.Test.YtkjclafbpocabaaGreatDoorG23
import Derived.WalkKit
import Derived.WalkSpells
import Derived.WalkLawsBesides
import Derived.Deep.QuietTactic
import Derived.BigQuiet
import Derived.Lib.Hide
import Derived.WalkSmall
import Derived.Maps.OwnSet
import Derived.Maps.RangeWalk
import Derived.Deep.RegionWith
import Derived.Deep.RegionHeld3
import Derived.Deep.DrawnRows
import Derived.Deep.DeepCutAuto
import Derived.OneCell
import Derived.KernelRfl
import Derived.Laws.StructEq
import Derived.StillTailTactics
import Derived.Laws.Externs
import Derived.RangeFuncBox
import Derived.Test.YtkjclafbpocabaaGreatDoorG24
import Derived.Test.YtkjclafbpocabaaGreatDoorPlain
set_option linter.unusedSimpArgs false
set_option linter.unusedVariables false

/-! ## Q12 -/
namespace Go.Proofs.YtkjclafbpocabaaGreatDoor
open Go.RowKit Go.Maps
theorem root_of {d a : Int} (v : Vld d (qL a)) (ha : 1 ≤ a) {r : Int × List (Int × Int) × Int} (h : RootP d (qL a) r) {D c k : Int} (vD : Vld D [(c, k)]) (hc1 : 1 ≤ c) (hk : Rt k) (he : c * c * k * d = a * (D * D)) : r = (D, [(c, k)], 0) := by
  have hd := v.d1
  have hM : rootM (qL a) = a * a := by unfold rootM; rw [bin_q]; simp
  have hi : isq (a * a).toNat = a.toNat := by
    refine (isq_uniq (n := (a * a).toNat) (s := a.toNat) ?_ ?_).symm
    · have : ((a.toNat * a.toNat : Nat) : Int) = a * a := by rw [Int.natCast_mul]; rw [Int.toNat_of_nonneg (by omega)]
      omega
    · obtain ⟨k, hk⟩ : ∃ k : Nat, a = k := ⟨a.toNat, by omega⟩
      subst hk
      have e1 : ((k : Int) * k).toNat = k * k := by rw [← Int.natCast_mul, Int.toNat_natCast]
      rw [e1, Int.toNat_natCast]
      have : (k + 1) * (k + 1) = k * k + 2 * k + 1 := by grind
      omega
  have hn0 : ((a * a).toNat : Int) = a * a := Int.toNat_of_nonneg (Int.mul_nonneg (by omega) (by omega))
  have han : (a.toNat : Int) = a := Int.toNat_of_nonneg (by omega)
  have hs := (sg_q (sign_sg v)).1.1 (by omega)
  unfold RootP at h
  rw [if_pos v.bool, if_neg (by omega), hM, hi, bin_q] at h
  simp only at h
  rw [if_neg (by simp), if_neg (by
    intro h
    rcases h with h | h
    · have := Int.mul_nonneg (show 0 ≤ a by omega) (show 0 ≤ a by omega); omega
    · apply h
      have : ((a.toNat * a.toNat : Nat) : Int) = a * a := by rw [Int.natCast_mul, han]
      omega)] at h
  obtain ⟨f1, d1, f2, d2, F1, F2, t, ht, rfl⟩ := h
  rw [han] at F1 F2
  obtain ⟨_, g1, g2, g3, g4⟩ := frac_val F1 (by omega)
  obtain ⟨_, k1, k2, k3, k4⟩ := frac_val F2 (by omega)
  have hf2 : f2.1 = 0 := by
    have e : f2.1 * f2.1 * f2.2 * (2 * d) = 0 := by rw [k4]; simp
    rcases Int.mul_eq_zero.mp e with e | e
    · rcases Int.mul_eq_zero.mp e with e | e
      · exact sq_zero e
      · have := k2.1; omega
    · omega
  have hf1 : 1 ≤ f1.1 := by
    rcases Int.lt_or_le 0 f1.1 with e | e
    · omega
    · have e0 : f1.1 = 0 := by omega
      rw [e0] at g4
      have := Int.mul_pos (show 0 < a + a by omega) (Int.mul_pos (show 0 < d1 by omega) (show 0 < d1 by omega))
      simp at g4; omega
  have hc : ∀ r, plusC (plusC zeroC d2 [f1]) d1 [(if (0 : Int) < 0 then -f2.1 else f2.1, f2.2)] r = if r = f1.2 then d2 * f1.1 else 0 := fun r => by
    have e1 : coefOf [f1] r = if r = f1.2 then f1.1 else 0 := coef_single f1.1 f1.2 r
    simp only [plusC, zeroC, hf2, e1, coef_single]
    by_cases hr : r = f1.2 <;> simp [hr]
  have hdf : 1 ≤ d2 * f1.1 := by have := Int.mul_le_mul k3 hf1 (by omega) (by omega); omega
  have htt : t = [(d2 * f1.1, f1.2)] := by
    have := single_terms (k := f1.2) ht (fun q hq => by rw [hc, if_neg hq]) (by rw [hc, if_pos rfl]; omega)
    rw [this, hc, if_pos rfl]
  have hD := vD.d1
  obtain ⟨e1, e2⟩ := rat_uniq (X := c) (p := k) (U := f1.1) (q := f1.2) (V := d1) (Y := D) hc1 hf1 g3 hD hk g2 (by
    refine cancel_r (k := 2 * d) (by omega) ?_
    have a1 : c * c * k * (d1 * d1) * (2 * d) = c * c * k * d * (2 * (d1 * d1)) := by grind
    have a2 : f1.1 * f1.1 * f1.2 * (D * D) * (2 * d) = f1.1 * f1.1 * f1.2 * (2 * d) * (D * D) := by grind
    rw [a1, he, a2, g4]; grind)
  refine fin_of (den_ne g3 k3) ht vD (fun r => ?_)
  rw [hc, coef_single]
  subst e1
  by_cases hr : r = f1.2
  · simp only [hr, if_true]
    have a1 : c * (d1 * d2) = c * d1 * d2 := by grind
    rw [a1, e2]; grind
  · simp [hr]
theorem whole_is {Y : Int} (h1 : -100000 ≤ Y) (h2 : Y ≤ 100000) {y : Int × List (Int × Int) × Int} (h : makeF 1 [(Y, 1)] y) : y = (1, qL Y, 0) := by
  obtain ⟨e, v⟩ := val_make (by omega) (by omega) h1 h2 h
  obtain ⟨a, b⟩ := val_uniq v (val_one Y h1 h2)
  obtain ⟨p, q, e0⟩ := y
  simp only at e a b
  subst e a b; rfl
theorem grown_val {d1 d2 : Int} {l1 l2 : List (Int × Int)} {p q u v Y : Int} {r : Int × List (Int × Int) × Int} (hf : Val d1 l1 p q) (hb : Val d2 l2 u v) (p1 : 1 ≤ p) (p2 : p ≤ 256) (q1 : 1 ≤ q) (q2 : q ≤ 12) (u1 : 0 ≤ u) (u2 : u ≤ 19) (v1 : 1 ≤ v) (v2 : v ≤ 12) (y1 : 0 ≤ Y) (y2 : Y ≤ 256)
    (h : GrownR d1 l1 d2 l2 Y r) : r.2.2 = 0 ∧ Val r.1 r.2.1 (q * (u * Y) + v * p) (v * q) ∧ 1 ≤ q * (u * Y) + v * p := by
  obtain ⟨y, hy, m, hm, n1, n2⟩ := h
  rw [whole_is (by omega) (by omega) hy] at hm
  have hG : ∀ x, (m.2.2 = 0 → addF 1 m.1 m.2.1 d1 l1 x) → (m.2.2 ≠ 0 → x = (0, [], m.2.2)) → GrowR (d1, l1) (d2, l2) Y x := fun x a b => ⟨m, hm, b, a⟩
  have b1 : u * Y ≤ 19 * 256 := Int.mul_le_mul u2 y2 y1 (by omega)
  have b0 : 0 ≤ u * Y := Int.mul_nonneg u1 y1
  obtain ⟨e, hv⟩ := mulF_val hb (val_one Y (by omega) (by omega)) hm v1 (by omega) (p := u * Y) (by omega) (by omega) (by grind)
  obtain ⟨x, hx, x1, x2⟩ := n2 e
  have g := grow_val (first := (d1, l1)) (by_ := (d2, l2)) hf hb p1 p2 q1 q2 u1 u2 v1 v2 y1 y2 (hG x (fun _ => hx) (fun h => absurd e h))
  rw [x2 g.1]; exact g
theorem factor_val {d1 d2 : Int} {l1 l2 : List (Int × Int)} {p q u v Y Z : Int} {r : Int × List (Int × Int) × Int} (hf : Val d1 l1 p q) (hb : Val d2 l2 u v) (p1 : 1 ≤ p) (p2 : p ≤ 256) (q1 : 1 ≤ q) (q2 : q ≤ 12) (u1 : 0 ≤ u) (u2 : u ≤ 19) (v1 : 1 ≤ v) (v2 : v ≤ 12) (y1 : 0 ≤ Y) (y2 : Y ≤ 256) (z1 : 0 ≤ Z) (z2 : Z ≤ 256)
    (h : FactorR d1 l1 d2 l2 Y Z r) : ∃ rb ra, GrownR d1 l1 d2 l2 Y rb ∧ GrownR d1 l1 d2 l2 Z ra ∧ FactR (rb.1, rb.2.1) (ra.1, ra.2.1) r := by
  obtain ⟨rb, ra, hrb, hra, m, hm, n1, n2⟩ := h
  refine ⟨rb, ra, hrb, hra, m, hm, n1, fun h0 => ?_⟩
  obtain ⟨x, hx, x1, x2⟩ := n2 h0
  have gb := grown_val hf hb p1 p2 q1 q2 u1 u2 v1 v2 y1 y2 hrb
  have ga := grown_val hf hb p1 p2 q1 q2 u1 u2 v1 v2 z1 z2 hra
  have hF : FactR (rb.1, rb.2.1) (ra.1, ra.2.1) x := ⟨m, hm, fun h => absurd h0 h, fun _ => hx⟩
  rcases fact_val gb.2.1 ga.2.1 gb.2.2 ga.2.2 hF with e | ⟨_, _, _, _, D, c, k, e, _⟩
  · have hrx : r = x := by rw [x1 (by rw [e]; simp), e]
    rw [hrx]; exact hx
  · rw [x2 (by rw [e])]; exact hx
/-- The document's example: from 15/2 to 17/2 by the root of 255, divided by 15. -/
theorem link_val {d1 d2 : Int} {l1 l2 : List (Int × Int)} {r : Int × List (Int × Int) × Int} (hf : Val d1 l1 15 2) (hb : Val d2 l2 1 1) (h : FactorR d1 l1 d2 l2 0 1 r) : r = (15, [(1, 255)], 0) := by
  obtain ⟨rb, ra, hrb, hra, hF⟩ := factor_val hf hb (by omega) (by omega) (by omega) (by omega) (by omega) (by omega) (by omega) (by omega) (by omega) (by omega) (by omega) (by omega) h
  have gb := grown_val hf hb (by omega) (by omega) (by omega) (by omega) (by omega) (by omega) (by omega) (by omega) (by omega) (by omega) hrb
  have ga := grown_val hf hb (by omega) (by omega) (by omega) (by omega) (by omega) (by omega) (by omega) (by omega) (by omega) (by omega) hra
  obtain ⟨m, hm, n1, n2⟩ := hF
  have h15 : Vld 15 (qL 17) := qL_vld (by omega) (by omega) (by omega) (by decide)
  have t : Val 15 (qL 17) 17 15 := ⟨h15, by omega, 17, rfl, by omega⟩
  rcases val_quo ga.2.1 gb.2.1 gb.2.2 hm with ⟨e, hv⟩ | e
  · obtain ⟨a, b⟩ := val_same hv t (by omega)
    have hr := n2 e
    rw [a, b] at hr
    exact root_of h15 (by omega) hr (vld_onlyq (by omega) (by omega) (by omega) (by omega) ⟨by omega, by
      intro e he hd
      have h1 := Int.le_of_dvd (by omega) hd
      have h2 : e ≤ 15 := by
        rcases Int.lt_or_le 15 e with h | h
        · have := Int.mul_le_mul (show 16 ≤ e by omega) (show 16 ≤ e by omega) (by omega) (by omega); omega
        · exact h
      have h3 : e = 2 ∨ e = 3 ∨ e = 4 ∨ e = 5 ∨ e = 6 ∨ e = 7 ∨ e = 8 ∨ e = 9 ∨ e = 10 ∨ e = 11 ∨ e = 12 ∨ e = 13 ∨ e = 14 ∨ e = 15 := by omega
      rcases h3 with rfl | rfl | rfl | rfl | rfl | rfl | rfl | rfl | rfl | rfl | rfl | rfl | rfl | rfl <;> revert hd <;> decide⟩ (by omega) (by decide)) (by omega) ⟨by omega, by
      intro e he hd
      have h1 := Int.le_of_dvd (by omega) hd
      have h2 : e ≤ 15 := by
        rcases Int.lt_or_le 15 e with h | h
        · have := Int.mul_le_mul (show 16 ≤ e by omega) (show 16 ≤ e by omega) (by omega) (by omega); omega
        · exact h
      have h3 : e = 2 ∨ e = 3 ∨ e = 4 ∨ e = 5 ∨ e = 6 ∨ e = 7 ∨ e = 8 ∨ e = 9 ∨ e = 10 ∨ e = 11 ∨ e = 12 ∨ e = 13 ∨ e = 14 ∨ e = 15 := by omega
      rcases h3 with rfl | rfl | rfl | rfl | rfl | rfl | rfl | rfl | rfl | rfl | rfl | rfl | rfl | rfl <;> revert hd <;> decide⟩ (by omega)
  · exfalso
    -- the quotient of 17/2 and 15/2 is small: it is no error
    obtain ⟨va, _, a, ea, ha⟩ := ga.2.1
    obtain ⟨vb, _, b, eb, hb'⟩ := gb.2.1
    rw [ea] at va
    rw [eb] at vb
    have hdb := vb.d1
    have hda := va.d1
    have hb1 : 1 ≤ b := by
      rcases Int.lt_or_le 0 b with h | h
      · omega
      · have := Int.mul_pos gb.2.2 (show 0 < rb.1 by omega); omega
    unfold quoF at hm
    rw [ea, eb] at hm
    have hqb : qL b = [(b, 1)] := by unfold qL; rw [if_neg (by omega)]
    rw [if_pos ⟨va.bool, vb.bool⟩, if_neg (by rw [hqb]; simp), if_neg (by rw [hqb]; simp), conj_q, norm_q] at hm
    obtain ⟨t', ht', e'⟩ := hm
    have hb0 : b ≠ 0 := fun h => absurd hb1 (by rw [h]; decide)
    have ha0 : ra.1 ≠ 0 := fun h => absurd hda (by rw [h]; decide)
    have hden : ra.1 * (b * b) ≠ 0 := Int.mul_ne_zero ha0 (Int.mul_ne_zero hb0 hb0)
    have := fin_of (d := 15) (m := qL 17) hden ht' h15 (fun r => by
      have hc : plusC zeroC rb.1 (prodL (qL a) (qL b)) r = if r = 1 then rb.1 * (a * b) else 0 := by
        simp only [plusC, zeroC, prod_q]
        by_cases hr : r = 1 <;> simp [hr]
      rw [hc, qL_coef]
      by_cases hr : r = 1
      · simp only [hr, if_true]
        have e1 : a * 2 = 17 * ra.1 := by omega
        have e2 : b * 2 = 15 * rb.1 := by omega
        refine cancel_r (k := 4) (by omega) ?_
        have e3 : 17 * (ra.1 * (b * b)) * 4 = (17 * ra.1) * (b * 2) * (b * 2) := by grind
        have e4 : rb.1 * (a * b) * 15 * 4 = (15 * rb.1) * (a * 2) * (b * 2) := by grind
        rw [e3, e4, ← e1, ← e2]; grind
      · simp [hr])
    rw [← e', e] at this
    have := congrArg (fun t => t.2.2) this
    simp at this
end Go.Proofs.YtkjclafbpocabaaGreatDoor

/-! ## A11 -/
namespace Go.Proofs.YtkjclafbpocabaaGreatDoor
open Go.RowKit Go.Maps Go.Shelf Go.Sort
theorem link_digits : Lib.decDigits 255 = [50, 53, 53] := by
  rw [Lib.decDigits]; simp only [show ¬ 255 < 10 by decide, if_false, dite_false]
  rw [show 255 / 10 = 25 from rfl, Lib.decDigits]; simp only [show ¬ 25 < 10 by decide, if_false, dite_false]
  rw [show 25 / 10 = 2 from rfl, dd 2 (by omega)]; rfl
theorem link_digits2 : Lib.decDigits 15 = [49, 53] := by
  rw [Lib.decDigits]; simp only [show ¬ 15 < 10 by decide, if_false, dite_false]
  rw [show 15 / 10 = 1 from rfl, dd 1 (by omega)]; rfl
theorem link_text : textB 15 [(1, 255)] = [114, 50, 53, 53, 47, 49, 53] := by
  simp [textB, bodyB, partB, termB, Lib.itoa, dd, link_digits, link_digits2, Lib.trimSuffix, Lib.hasSuffix]
theorem link_valid : validF 15 [(1, 255)] = true := (by
  have h : Rt 255 := ⟨by omega, by
    intro e he hd
    have h1 := Int.le_of_dvd (by omega) hd
    have h2 : e ≤ 15 := by
      rcases Int.lt_or_le 15 e with h | h
      · have := Int.mul_le_mul (show 16 ≤ e by omega) (show 16 ≤ e by omega) (by omega) (by omega); omega
      · exact h
    have h3 : e = 2 ∨ e = 3 ∨ e = 4 ∨ e = 5 ∨ e = 6 ∨ e = 7 ∨ e = 8 ∨ e = 9 ∨ e = 10 ∨ e = 11 ∨ e = 12 ∨ e = 13 ∨ e = 14 ∨ e = 15 := by omega
    rcases h3 with rfl | rfl | rfl | rfl | rfl | rfl | rfl | rfl | rfl | rfl | rfl | rfl | rfl | rfl <;> revert hd <;> decide⟩
  exact (vld_onlyq (by omega) (by omega) (by omega) (by omega) h (by omega) (by decide)).bool)
set_option maxRecDepth 100000 in
set_option maxHeartbeats 4000000 in
theorem linkYears_any (hsort : Hid SortC) (w : World) (hw : WOk w) : Calls Tryz.prog 70 #[] w (AnsB true w) := by
  have G1 : Hid (∀ r, makeF 2 [(15, 1)] r → r.2.2 = 0) := Lib.hid fun r h => (val_make (by omega) (by omega) (by omega) (by omega) h).1
  have G2 : Hid (∀ r, makeF 1 [(1, 1)] r → r.2.2 = 0) := Lib.hid fun r h => (val_make (by omega) (by omega) (by omega) (by omega) h).1
  have HW := Lib.hid hw
  clear hw
  go_enter Tryz.func70, Tryz.ntmps70
  go_wp2_with fail
  refine (tfraction_any hsort 15 2 _ G1).mono ?_
  rintro e w1 ⟨r1, hr1, v1, rfl, ht1, hb1, _⟩
  obtain ⟨a1, c1, rfl, _⟩ := ht1.placed
  have V1 := (val_make (by omega) (by omega) (by omega) (by omega) hr1).2
  have HB1 := Lib.hid hb1
  have HT1 := Lib.hid ht1
  clear hb1 ht1 hr1
  go_wp2_with fail
  refine (tfraction_any hsort 1 1 _ G2).mono ?_
  rintro e w2 ⟨r2, hr2, v2, rfl, ht2, hb2, _⟩
  obtain ⟨a2, c2, rfl, _⟩ := ht2.placed
  have V2 := (val_make (by omega) (by omega) (by omega) (by omega) hr2).2
  have HB2 := Lib.hid (HB1.out.trans (hb2.mono HB1.out.size))
  have HT1' := HT1.out.below hb2
  have hF := factor_ok hsort r1.1 r2.1 0 1 _ _ r1.2.1 r2.2.1 w2 HT1' ht2 (Lib.hid V1.1.bool) (Lib.hid V2.1.bool) (Lib.hid ((val_sgn V1).1.1 (by omega))) (Lib.hid (by have := (val_sgn V2).1.1 (by omega); omega)) (Lib.hid (by decide))
    (Lib.hid fun r h => (grown_val V1 V2 (by omega) (by omega) (by omega) (by omega) (by omega) (by omega) (by omega) (by omega) (by omega) (by omega) h).1)
    (Lib.hid fun r h => (grown_val V1 V2 (by omega) (by omega) (by omega) (by omega) (by omega) (by omega) (by omega) (by omega) (by omega) (by omega) h).1)
  have HF := Lib.hid hF
  have HV : Hid (∀ r, FactorR r1.1 r1.2.1 r2.1 r2.2.1 0 1 r → r = (15, [(1, 255)], 0)) := Lib.hid fun r h => link_val V1 V2 h
  clear hF HT1' ht2 hb2 hr2 V1 V2 HT1
  go_wp2_with fail
  refine HF.out.mono ?_
  rintro e w3 ⟨r, hr, v3, rfl, ht3, hb3, _⟩
  have hrr := HV.out r hr
  subst hrr
  obtain ⟨a3, c3, rfl, _⟩ := ht3.placed
  have B3 := HB2.out.trans (hb3.mono HB2.out.size)
  have X := Two.new w3 (.int .i64 15) (.slice a3 1 c3) 34
  have B4 := B3.alloc B3.size (.cells #[.int .i64 15, .slice a3 1 c3] 34)
  have T4 := ht3.alloc (.cells #[.int .i64 15, .slice a3 1 c3] 34)
  have x0 := X.c0
  have x1 := X.c1
  have HB4 := Lib.hid B4
  have hfm := format_any 15 _ [(1, 255)] _ T4 (HW.out.below B4)
  unfold FormatTo at hfm
  rw [if_pos link_valid, if_pos link_valid, link_text] at hfm
  have HFM := Lib.hid hfm
  clear hr ht3 hb3 X B3 B4 T4 hfm HF HV
  go_wp2_with fail
  refine HFM.out.mono ?_
  rintro e w5 ⟨rfl, hb5⟩
  have HB5 := Lib.hid (HB4.out.trans (hb5.mono HB4.out.size))
  clear hb5 x0 x1 HFM
  go_wp2
  go_ret
  exact ⟨rfl, HB5.out⟩
end Go.Proofs.YtkjclafbpocabaaGreatDoor

/-! ## Y0 -/
namespace Go.Proofs.YtkjclafbpocabaaGreatDoor
open Go.RowKit Go.Maps Go.Shelf Go.Sort
theorem Below.chain {W a b : World} (h : Below W.heap.size W a) (g : Below a.heap.size a b) : Below W.heap.size W b := h.trans (g.mono h.size)
def Mid (P : Int × List (Int × Int) × Int → Prop) (W : World) (p q : Value) (w' : World) : Prop :=
  ∃ b r v, p = .pointer (some ⟨b, 0, none⟩) ∧ q = .int .i64 r.2.2 ∧ P r ∧ Two w' b (.int .i64 r.1) v 34 ∧ TermsAt w' v r.2.1 ∧ W.heap.size ≤ b ∧ Below W.heap.size W w' ∧ ∀ k, v.ownBlock = some k → W.heap.size ≤ k
theorem mid_close {P : Int × List (Int × Int) × Int → Prop} {W w3 : World} {b : Nat} {r : Int × List (Int × Int) × Int} {a : Option Addr} {n c : Nat} (RX : Two w3 b (.int .i64 0) (.slice none 0 0) 34) (hP : P r) (ht : TermsAt w3 (.slice a n c) r.2.1)
    (hk : ∀ k, (Value.slice a n c).ownBlock = some k → b < k) (hb : W.heap.size ≤ b) (B3 : Below W.heap.size W w3) : Mid P W (.pointer (some ⟨b, 0, none⟩)) (.int .i64 r.2.2) ((w3.setCell ⟨b, 0, none⟩ (.int .i64 r.1)).setCell ⟨b, 1, none⟩ (.slice a n c)) := by
  obtain ⟨d0, d1, d2, hg⟩ := two_after RX (.int .i64 r.1) (.slice a n c) rfl
  refine ⟨b, r, _, rfl, rfl, hP, (RX.set0 _).set1 _ rfl, ht.kept hg ?_, hb, (B3.setCell hb _).setCell hb _, fun k h => by have := hk k h; omega⟩
  cases hv : (Value.slice a n c).ownBlock with
  | none => exact .inl rfl
  | some k => right; have := hk k hv; intro e; have := Option.some.inj e; omega
theorem mid_new {P : Int × List (Int × Int) × Int → Prop} {W w3 : World} {r : Int × List (Int × Int) × Int} {v : Value} (hP : P r) (ht : TermsAt w3 v r.2.1) (hk : ∀ k, v.ownBlock = some k → W.heap.size ≤ k) (B3 : Below W.heap.size W w3) :
    Mid P W (.pointer (some ⟨w3.heap.size, 0, none⟩)) (.int .i64 r.2.2) (w3.alloc (.cells #[.int .i64 r.1, v] 34)) := ⟨w3.heap.size, r, v, rfl, rfl, hP, Two.new w3 _ _ _, ht.alloc _, B3.size, B3.alloc B3.size _, hk⟩
/-- A box with a number. -/
def BoxY (W : World) (b : Nat) (d : Int) (v : Value) (l : List (Int × Int)) : Prop := Two W b (.int .i64 d) v 34 ∧ TermsAt W v l
theorem BoxY.at {W W' : World} {b : Nat} {d : Int} {v : Value} {l : List (Int × Int)} (h : BoxY W b d v l) (hb : Below W.heap.size W W') : BoxY W' b d v l := ⟨h.1.below hb h.1.lt, h.2.below hb⟩
/-- The numbers that are drawn, in their bounds. -/
structure YRange (p q u v fr to_ : Int) : Prop where
  p1 : 1 ≤ p
  p2 : p ≤ 256
  q1 : 1 ≤ q
  q2 : q ≤ 12
  u1 : 0 ≤ u
  u2 : u ≤ 19
  v1 : 1 ≤ v
  v2 : v ≤ 12
  f1 : 0 ≤ fr
  f2 : fr ≤ 255
  t1 : 0 ≤ to_
  t2 : to_ ≤ 255
theorem year_ok {Y : Int} (h1 : 0 ≤ Y) (h2 : Y ≤ 256) : isYearF Y = true := by simp [isYearF, inB]; omega
theorem grow_call (hsort : Hid SortC) {da db p q u v fr to_ : Int} {la lb : List (Int × Int)} (VA : Hid (Val da la p q)) (VB : Hid (Val db lb u v)) (HR : Hid (YRange p q u v fr to_)) {x : Int} (Y : Int) (hx : x = Y) (y1 : 0 ≤ Y) (y2 : Y ≤ 256) (v1 v2 : Value) (W : World) (h1 : TermsAt W v1 la) (h2 : TermsAt W v2 lb) :
    Calls Tryz.prog 68 #[.agg #[.int .i64 da, v1], .agg #[.int .i64 db, v2], .int .i64 x] W (NumP (GrownR da la db lb Y) W) := by
  rw [hx]
  exact grow_ok hsort da db Y v1 v2 la lb W h1 h2 (Lib.hid VA.out.1.bool) (Lib.hid VB.out.1.bool) (Lib.hid ((val_sgn VA.out).1.1 (by have := HR.out.p1; omega)))
    (Lib.hid (by have := val_sgn VB.out; have h := HR.out.u1; have hr := (sign_sg VB.out.1).range; omega)) (Lib.hid (by simp [year_ok y1 y2]))
theorem factor_call (hsort : Hid SortC) {da db p q u v fr to_ : Int} {la lb : List (Int × Int)} (VA : Hid (Val da la p q)) (VB : Hid (Val db lb u v)) (HR : Hid (YRange p q u v fr to_)) {x z : Int} (Y Z : Int) (hx : x = Y) (hz : z = Z) (y1 : 0 ≤ Y) (y2 : Y ≤ 256) (z1 : 0 ≤ Z) (z2 : Z ≤ 256) (v1 v2 : Value) (W : World) (h1 : TermsAt W v1 la) (h2 : TermsAt W v2 lb) :
    Calls Tryz.prog 69 #[.agg #[.int .i64 da, v1], .agg #[.int .i64 db, v2], .int .i64 x, .int .i64 z] W (NumP (FactorR da la db lb Y Z) W) := by
  rw [hx, hz]
  exact factor_ok hsort da db Y Z v1 v2 la lb W h1 h2 (Lib.hid VA.out.1.bool) (Lib.hid VB.out.1.bool) (Lib.hid ((val_sgn VA.out).1.1 (by have := HR.out.p1; omega)))
    (Lib.hid (by have := val_sgn VB.out; have h := HR.out.u1; have hr := (sign_sg VB.out.1).range; omega)) (Lib.hid (by simp [year_ok y1 y2, year_ok z1 z2]))
    (Lib.hid fun r h => (grown_val VA.out VB.out HR.out.p1 HR.out.p2 HR.out.q1 HR.out.q2 HR.out.u1 HR.out.u2 HR.out.v1 HR.out.v2 y1 y2 h).1)
    (Lib.hid fun r h => (grown_val VA.out VB.out HR.out.p1 HR.out.p2 HR.out.q1 HR.out.q2 HR.out.u1 HR.out.u2 HR.out.v1 HR.out.v2 z1 z2 h).1)
def headIs (k : Nat) : Code → Bool
  | .region id _ _ => id == k
  | _ => false
def tailAfter (k : Nat) : Code → Option Code
  | .seq a b => if headIs k a then some b else match tailAfter k a with
    | some c => some (.seq c b)
    | none => tailAfter k b
  | .block _ c => tailAfter k c
  | .scope c => tailAfter k c
  | _ => none
def tailFrom (k : Nat) : Code → Option Code
  | .seq a b => if headIs k a then some (.seq a b) else match tailFrom k a with
    | some c => some (.seq c b)
    | none => tailFrom k b
  | .block _ c => tailFrom k c
  | .scope c => tailFrom k c
  | _ => none
theorem add_call (hsort : Hid SortC) (dx dy : Int) (lx ly : List (Int × Int)) (v1 v2 : Value) (W : World) (h1 : TermsAt W v1 lx) (h2 : TermsAt W v2 ly) : Calls Tryz.prog 59 #[.agg #[.int .i64 dx, v1], .agg #[.int .i64 dy, v2]] W (NumP (addF 1 dx lx dy ly) W) := add_any hsort dx dy v1 v2 lx ly W h1 h2
theorem quo_call (hsort : Hid SortC) (dx dy : Int) (lx ly : List (Int × Int)) (v1 v2 : Value) (W : World) (h1 : TermsAt W v1 lx) (h2 : TermsAt W v2 ly) : Calls Tryz.prog 60 #[.agg #[.int .i64 dx, v1], .agg #[.int .i64 dy, v2]] W (NumP (quoF dx lx dy ly) W) := quo_any hsort dx dy v1 v2 lx ly W h1 h2
theorem mul_call (hsort : Hid SortC) (dx dy : Int) (lx ly : List (Int × Int)) (v1 v2 : Value) (W : World) (h1 : TermsAt W v1 lx) (h2 : TermsAt W v2 ly) : Calls Tryz.prog 58 #[.agg #[.int .i64 dx, v1], .agg #[.int .i64 dy, v2]] W (NumP (mulF dx lx dy ly) W) := mul_any hsort dx dy v1 v2 lx ly W h1 h2
theorem more_val {dx db p q u v fr to_ : Int} {lx lb : List (Int × Int)} {m : Int × List (Int × Int) × Int} (x : Val dx lx (q * (u * fr) + v * p) (v * q)) (b : Val db lb u v) (HR : Hid (YRange p q u v fr to_)) (h : addF 1 dx lx db lb m) :
    m.2.2 = 0 ∧ Val m.1 m.2.1 (q * (u * (fr + 1)) + v * p) (v * q) := by
  obtain ⟨p1, p2, q1, q2, u1, u2, v1, v2, f1, f2, -, -⟩ := HR.out
  have b1 : u * (fr + 1) ≤ 19 * 256 := Int.mul_le_mul u2 (by omega) (by omega) (by omega)
  have b0 : 0 ≤ u * (fr + 1) := Int.mul_nonneg u1 (by omega)
  have c1 : q * (u * (fr + 1)) ≤ 12 * (19 * 256) := Int.mul_le_mul q2 b1 b0 (by omega)
  have c0 : 0 ≤ q * (u * (fr + 1)) := Int.mul_nonneg (by omega) b0
  have c2 : v * p ≤ 12 * 256 := Int.mul_le_mul v2 p2 (by omega) (by omega)
  have c3 : 1 ≤ v * p := by have := Int.mul_le_mul v1 p1 (by omega) (by omega); omega
  have c4 : v * q ≤ 12 * 12 := Int.mul_le_mul v2 q2 (by omega) (by omega)
  have c5 : 1 ≤ v * q := by have := Int.mul_le_mul v1 q1 (by omega) (by omega); omega
  exact addF_val x b h c5 (by omega) (by omega) (by omega) (by grind)
theorem wrap_year {n : Int} (h1 : -1000000 ≤ n) (h2 : n ≤ 1000000) : IntKind.i64.wrap n = n := by simp [IntKind.wrap, IntKind.bits, IntKind.signed]; omega
noncomputable def ytail3 : Code := (Tryz.f17.body.bind (tailFrom 3)).getD .skip
end Go.Proofs.YtkjclafbpocabaaGreatDoor
