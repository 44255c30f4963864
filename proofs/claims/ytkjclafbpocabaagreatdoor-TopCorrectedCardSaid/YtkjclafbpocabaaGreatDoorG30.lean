/-
  Contracts of the program's own functions (and their plain mathematics), on the way to the law: each for all arguments that its hypotheses let.
-/
import Derived.Test.YtkjclafbpocabaaGreatDoorG29
import Derived.WalkKit
import Derived.WalkSpells
import Derived.WalkLawsBesides
import Derived.Deep.QuietTactic
import Derived.BigQuiet
import Derived.Lib.Hide
import Derived.WalkSmall
import Derived.Maps.OwnSet
import Derived.Maps.RangeWalk
import Derived.Deep.RegionWith
import Derived.Deep.RegionHeld3
import Derived.Deep.DrawnRows
import Derived.Deep.DeepCutAuto
import Derived.OneCell
import Derived.KernelRfl
import Derived.Laws.StructEq
import Derived.StillTailTactics
import Derived.Laws.Externs
import Derived.RangeFuncBox
set_option linter.unusedSimpArgs false
set_option linter.unusedVariables false

/-! ## Q7 -/
namespace Go.Proofs.YtkjclafbpocabaaGreatDoor
open Go.RowKit Go.Maps
theorem coef_single (c k r : Int) : coefOf [(c, k)] r = if r = k then c else 0 := by
  by_cases hr : r = k
  · subst hr; simp [coefOf]
  · have h2 : ¬ k = r := fun e => hr e.symm
    simp [coefOf, hr, h2]
theorem sg_congr {l m : List (Int × Int)} {n : Int} (h : Sg l n) (e : ∀ r, coefOf l r = coefOf m r) : Sg m n :=
  h.ratio (A := 1) (B := 1) (by omega) (by omega) (fun r => by rw [e])
theorem bspec_uniq {d m : Int} {l : List (Int × Int)} (hd : 1 ≤ d) {a b a' b' : Int} (h : BSpec d m l a b) (g : BSpec d m l a' b') : a = a' ∧ b = b' := by
  have h1 := spec_scale (k := 1) hd (by omega) h (by rw [Int.mul_one]; exact g)
  have h2 := spec_scale (k := 1) hd (by omega) g (by rw [Int.mul_one]; exact h)
  omega
theorem bspec_shift {d m t : Int} {l l' : List (Int × Int)} {a b : Int} (h : BSpec d m l a b) (hc : ∀ r, coefOf l' r = coefOf l r + if r = 1 then t * d else 0) : BSpec d m l' (a + t * m) (b + t * m) := by
  have key : ∀ J r, coefOf (extL m l (J * d)) r = coefOf (extL m l' ((J + t * m) * d)) r := fun J r => by
    rw [ext_coef, ext_coef, hc]
    by_cases hr : r = 1
    · simp only [hr, if_true]; grind
    · simp [hr]
  rcases h with ⟨e, h1, h2⟩ | ⟨e, h1⟩
  · exact .inl ⟨by omega, sg_congr h1 (key a), sg_congr h2 (key b)⟩
  · exact .inr ⟨by omega, sg_congr h1 (key a)⟩
theorem bspec_low {d m : Int} {l : List (Int × Int)} {a b : Int} (h : BSpec d m l a b) : ∃ s, Sg (extL m l (a * d)) s ∧ 0 ≤ s := by
  rcases h with ⟨_, h1, _⟩ | ⟨_, h1⟩
  · exact ⟨1, h1, by omega⟩
  · exact ⟨0, h1, by omega⟩
theorem bspec_high {d m : Int} {l : List (Int × Int)} {a b : Int} (h : BSpec d m l a b) : ∃ s, Sg (extL m l (b * d)) s ∧ s ≤ 0 := by
  rcases h with ⟨_, _, h1⟩ | ⟨e, h1⟩
  · exact ⟨-1, h1, by omega⟩
  · exact ⟨0, by rw [e]; exact h1, by omega⟩
theorem bspec_le {d m : Int} {l : List (Int × Int)} {a b : Int} (h : BSpec d m l a b) : a ≤ b ∧ b ≤ a + 1 := by
  rcases h with ⟨e, _⟩ | ⟨e, _⟩ <;> omega
theorem ext_mono_le {d m : Int} {l : List (Int × Int)} (hd : 1 ≤ d) {J J' s s' : Int} (h : Sg (extL m l (J * d)) s) (h' : Sg (extL m l (J' * d)) s') (hJ : J ≤ J') (hs : s ≤ 0) : s' ≤ 0 := by
  rcases Int.lt_or_le 0 s' with h1 | h1
  · have := ext_le (k := 1) hd (by omega) h' (by rw [Int.mul_one]; exact h) (by omega) hs
    have h2 := this.2 (by omega)
    omega
  · exact h1
theorem ext_mono_ge {d m : Int} {l : List (Int × Int)} (hd : 1 ≤ d) {J J' s s' : Int} (h : Sg (extL m l (J * d)) s) (h' : Sg (extL m l (J' * d)) s') (hJ : J' ≤ J) (hs : 0 ≤ s) : 0 ≤ s' := by
  rcases Int.lt_or_le s' 0 with h1 | h1
  · have := ext_ge (k := 1) hd (by omega) h' (by rw [Int.mul_one]; exact h) (by omega) hs
    have h2 := this.2 (by omega)
    omega
  · exact h1
theorem ext_strict {d m : Int} {l : List (Int × Int)} (hd : 1 ≤ d) {J J' s s' : Int} (h : Sg (extL m l (J * d)) s) (h' : Sg (extL m l (J' * d)) s') (hJ : J' < J) (hs : 0 ≤ s) : 0 < s' := by
  rcases Int.lt_or_le 0 s' with h1 | h1
  · exact h1
  · have := ext_le (k := 1) hd (by omega) h (by rw [Int.mul_one]; exact h') hs h1
    omega
theorem ext_strict' {d m : Int} {l : List (Int × Int)} (hd : 1 ≤ d) {J J' s s' : Int} (h : Sg (extL m l (J * d)) s) (h' : Sg (extL m l (J' * d)) s') (hJ : J < J') (hs : s ≤ 0) : s' < 0 := by
  rcases Int.lt_or_le s' 0 with h1 | h1
  · exact h1
  · have := ext_ge (k := 1) hd (by omega) h (by rw [Int.mul_one]; exact h') hs h1
    omega
/-- A fraction less a root, as a valid number. -/
theorem vld_two {d a b q : Int} (hd1 : 1 ≤ d) (hd2 : d ≤ 100000) (ha : -100000 ≤ a ∧ a ≤ 100000) (hb : -100000 ≤ b ∧ b ≤ 100000) (a0 : a ≠ 0) (b0 : b ≠ 0) (hq : Rt q) (hq2 : q ≤ 1000) (hq1 : q ≠ 1) (hg : Int.gcd (Int.gcd d a : Int) b = 1) : Vld d [(a, 1), (b, q)] := by
  have h1 : SqF 1 := by
    intro e he hd
    have := Int.le_of_dvd (by omega) hd
    have h4 : 2 * 2 ≤ e * e := Int.mul_le_mul he he (by omega) (by omega)
    omega
  refine ⟨hd1, hd2, by simp, fun t ht => ?_, fun t ht => ?_, fun t ht => ?_, ?_, ?_⟩
  · simp at ht; rcases ht with rfl | rfl
    · exact ⟨ha.1, ha.2, a0⟩
    · exact ⟨hb.1, hb.2, b0⟩
  · simp at ht; rcases ht with rfl | rfl
    · simp
    · exact ⟨hq.1, hq2⟩
  · simp at ht; rcases ht with rfl | rfl
    · exact h1
    · exact hq.2
  · intro i hi hl
    simp at hl
    obtain rfl : i = 1 := by omega
    have := hq.1
    simp; omega
  · have e : ((Int.gcd d 0 : Nat) : Int) = d := by simp; omega
    simp only [dvF, List.foldl_cons, List.foldl_nil, e]
    exact hg
theorem vld_onlyq {d b q : Int} (hd1 : 1 ≤ d) (hd2 : d ≤ 100000) (hb : -100000 ≤ b ∧ b ≤ 100000) (b0 : b ≠ 0) (hq : Rt q) (hq2 : q ≤ 1000) (hg : Int.gcd d b = 1) : Vld d [(b, q)] := by
  refine ⟨hd1, hd2, by simp, fun t ht => ?_, fun t ht => ?_, fun t ht => ?_, ?_, ?_⟩
  · simp at ht; subst ht; exact ⟨hb.1, hb.2, b0⟩
  · simp at ht; subst ht; exact ⟨hq.1, hq2⟩
  · simp at ht; subst ht; exact hq.2
  · intro i hi hl
    simp at hl; omega
  · have e : ((Int.gcd d 0 : Nat) : Int) = d := by simp; omega
    simp only [dvF, List.foldl_cons, List.foldl_nil, e]
    exact hg
theorem qL_gcd {d a : Int} (v : Vld d (qL a)) : Int.gcd d a = 1 := by
  have h := v.dv
  have e : ((Int.gcd d 0 : Nat) : Int) = d := by have := v.d1; simp; omega
  unfold qL at h
  split at h
  · rename_i h0; subst h0; simpa [dvF] using h
  · simp only [dvF, List.foldl_cons, List.foldl_nil, e] at h; exact h
theorem qL_vld {d a : Int} (hd1 : 1 ≤ d) (hd2 : d ≤ 100000) (ha : -100000 ≤ a ∧ a ≤ 100000) (hg : Int.gcd d a = 1) : Vld d (qL a) := by
  refine ⟨hd1, hd2, by have := qL_len a; omega, fun t ht => ?_, fun t ht => ?_, fun t ht => ?_, ?_, ?_⟩
  · unfold qL at ht; split at ht <;> simp at ht; subst ht; simp only; omega
  · unfold qL at ht; split at ht <;> simp at ht; subst ht; simp only; omega
  · unfold qL at ht; split at ht <;> simp at ht; subst ht
    intro e he hd
    have := Int.le_of_dvd (by simp) hd
    have h4 : 2 * 2 ≤ e * e := Int.mul_le_mul he he (by omega) (by omega)
    simp at this; omega
  · intro i hi hl
    have := qL_len a
    omega
  · have e : ((Int.gcd d 0 : Nat) : Int) = d := by simp; omega
    unfold qL
    split
    · rename_i h0; subst h0; simpa [dvF] using hg
    · simp only [dvF, List.foldl_cons, List.foldl_nil, e]; exact hg
theorem sub_root {d a s q : Int} (v : Vld d (qL a)) (hs : 1 ≤ s) (hq : Rt q) (hq2 : q ≤ 1000) (hb : -100000 ≤ a - s * d ∧ a ≤ 100000 ∧ s * d ≤ 100000) :
    ∃ l, Vld d l ∧ (∀ r, coefOf l r = coefOf (qL a) r - if r = q then s * d else 0) ∧ (q ≠ 1 → nmrF l = (0, false)) := by
  have hg := qL_gcd v
  have hsd : 1 ≤ s * d := by have := Int.mul_le_mul hs v.d1 (by omega) (by omega); omega
  by_cases h1 : q = 1
  · subst h1
    have hg2 : Int.gcd d (a - s * d) = 1 := by
      have e : Int.gcd d (a - s * d) = Int.gcd d a := by
        have := Int.gcd_sub_mul_right_right d a s
        rw [← this]
      rw [e, hg]
    refine ⟨qL (a - s * d), qL_vld v.d1 v.d2 (by omega) hg2, fun r => ?_, fun h => absurd rfl h⟩
    rw [qL_coef, qL_coef]
    by_cases hr : r = 1 <;> simp [hr]
  · by_cases h0 : a = 0
    · subst h0
      have hd : d = 1 := by have := v.d1; simp at hg; omega
      subst hd
      refine ⟨[(-(s * 1), q)], vld_onlyq v.d1 v.d2 (by omega) (by omega) hq hq2 (by simp), fun r => ?_, fun _ => ?_⟩
      · rw [qL_coef]
        by_cases hr : r = q
        · subst hr; simp [coefOf, h1]
        · have : ¬ q = r := fun e => hr e.symm
          simp [coefOf, hr, this]
      · simp [nmrF, h1]
    · refine ⟨[(a, 1), (-(s * d), q)], vld_two v.d1 v.d2 (by omega) (by omega) h0 (by omega) hq hq2 h1 (by rw [hg]; simp), fun r => ?_, fun _ => by simp [nmrF]⟩
      rw [qL_coef]
      by_cases hr : r = 1
      · subst hr
        have : ¬ (1 : Int) = q := fun e => h1 e.symm
        simp [coefOf, h1, this]
      · by_cases hr2 : r = q
        · subst hr2
          have : ¬ (1 : Int) = r := fun e => hr e.symm
          simp [coefOf, h1, this]
        · have e1 : ¬ (1 : Int) = r := fun e => hr e.symm
          have e2 : ¬ q = r := fun e => hr2 e.symm
          simp [coefOf, hr, hr2, e1, e2]
end Go.Proofs.YtkjclafbpocabaaGreatDoor

/-! ## Q8 -/
namespace Go.Proofs.YtkjclafbpocabaaGreatDoor
open Go.RowKit Go.Maps
theorem single_terms {l : List (Int × Int)} {f : Int → Int} {k : Int} (h : IsTerms f l) (hf : ∀ q, q ≠ k → f q = 0) (hk : f k ≠ 0) : l = [(f k, k)] := by
  refine terms_uniq h ⟨by simp, fun x r => ?_⟩
  simp only [List.mem_singleton, Prod.mk.injEq]
  constructor
  · rintro ⟨rfl, rfl⟩; exact ⟨rfl, hk⟩
  · rintro ⟨h1, h2⟩
    by_cases e : r = k
    · subst e; exact ⟨h1.symm, rfl⟩
    · rw [hf r e] at h1; exact absurd h1.symm h2
theorem root_pos {d a : Int} (v : Vld d (qL a)) (ha : 1 ≤ a) {r : Int × List (Int × Int) × Int} (h : RootP d (qL a) r) :
    (∃ D c k, r = (D, [(c, k)], 0) ∧ Vld D [(c, k)] ∧ 1 ≤ c ∧ Rt k ∧ c * c * k * d = a * (D * D)) ∨ r = (0, [], 10) := by
  have hd := v.d1
  have hM : rootM (qL a) = a * a := by unfold rootM; rw [bin_q]; simp
  have hi : isq (a * a).toNat = a.toNat := by
    refine (isq_uniq (n := (a * a).toNat) (s := a.toNat) ?_ ?_).symm
    · have : ((a.toNat * a.toNat : Nat) : Int) = a * a := by rw [Int.natCast_mul]; rw [Int.toNat_of_nonneg (by omega)]
      omega
    · obtain ⟨k, hk⟩ : ∃ k : Nat, a = k := ⟨a.toNat, by omega⟩
      subst hk
      have e1 : ((k : Int) * k).toNat = k * k := by rw [← Int.natCast_mul, Int.toNat_natCast]
      rw [e1, Int.toNat_natCast]
      have : (k + 1) * (k + 1) = k * k + 2 * k + 1 := by grind
      omega
  have hn : ((a * a).toNat : Int) = a * a := Int.toNat_of_nonneg (Int.mul_nonneg (by omega) (by omega))
  have han : (a.toNat : Int) = a := Int.toNat_of_nonneg (by omega)
  have hs := (sg_q (sign_sg v)).1.1 (by omega)
  unfold RootP at h
  rw [if_pos v.bool, if_neg (by omega), hM, hi, bin_q] at h
  simp only at h
  rw [if_neg (by simp), if_neg (by
    intro h
    rcases h with h | h
    · have := Int.mul_nonneg (show 0 ≤ a by omega) (show 0 ≤ a by omega); omega
    · apply h
      have : ((a.toNat * a.toNat : Nat) : Int) = a * a := by rw [Int.natCast_mul, han]
      omega)] at h
  obtain ⟨f1, d1, f2, d2, F1, F2, t, ht, rfl⟩ := h
  rw [han] at F1 F2
  obtain ⟨_, g1, g2, g3, g4⟩ := frac_val F1 (by omega)
  obtain ⟨_, k1, k2, k3, k4⟩ := frac_val F2 (by omega)
  have hf2 : f2.1 = 0 := by
    have e : f2.1 * f2.1 * f2.2 * (2 * d) = 0 := by rw [k4]; simp
    rcases Int.mul_eq_zero.mp e with e | e
    · rcases Int.mul_eq_zero.mp e with e | e
      · exact sq_zero e
      · have := k2.1; omega
    · omega
  have hf1 : 1 ≤ f1.1 := by
    rcases Int.lt_or_le 0 f1.1 with e | e
    · omega
    · have e0 : f1.1 = 0 := by omega
      rw [e0] at g4
      have := Int.mul_pos (show 0 < a + a by omega) (Int.mul_pos (show 0 < d1 by omega) (show 0 < d1 by omega))
      simp at g4; omega
  have hc : ∀ r, plusC (plusC zeroC d2 [f1]) d1 [(if (0 : Int) < 0 then -f2.1 else f2.1, f2.2)] r = if r = f1.2 then d2 * f1.1 else 0 := fun r => by
    have e1 : coefOf [f1] r = if r = f1.2 then f1.1 else 0 := coef_single f1.1 f1.2 r
    simp only [plusC, zeroC, hf2, e1, coef_single]
    by_cases hr : r = f1.2 <;> simp [hr]
  have hdf : 1 ≤ d2 * f1.1 := by have := Int.mul_le_mul k3 hf1 (by omega) (by omega); omega
  have htt : t = [(d2 * f1.1, f1.2)] := by
    have := single_terms (k := f1.2) ht (fun q hq => by rw [hc, if_neg hq]) (by rw [hc, if_pos rfl]; omega)
    rw [this, hc, if_pos rfl]
  have hdd : d1 * d2 ≠ 0 := den_ne g3 k3
  obtain ⟨D, L, e0, hr⟩ : ∃ D L e0, finF (d1 * d2) t = (D, L, e0) := ⟨_, _, _, rfl⟩
  rw [hr]
  by_cases h0 : e0 = 0
  · subst h0
    left
    obtain ⟨vD, hv⟩ := fin_ok hdd ht (fun u hu => by
      rw [htt] at hu
      simp at hu
      subst hu
      exact g2) hr
    have hk : coefOf L f1.2 ≠ 0 := by
      intro e
      have := hv f1.2
      rw [e, hc, if_pos rfl] at this
      have h3 := Int.mul_pos (show 0 < d2 * f1.1 by omega) (show 0 < D by have := vD.d1; omega)
      simp at this; omega
    have hL : L = [(coefOf L f1.2, f1.2)] := single_terms (f := coefOf L) (k := f1.2) vD.terms (fun q hq => by
      have := hv q
      rw [hc, if_neg hq] at this
      rcases Int.mul_eq_zero.mp (by simpa using this) with h | h
      · exact h
      · exact absurd h hdd) hk
    obtain ⟨c, hcL⟩ : ∃ c, coefOf L f1.2 = c := ⟨_, rfl⟩
    have hv1 := hv f1.2
    rw [hcL] at hL hk hv1
    rw [hc, if_pos rfl] at hv1
    have hcd : c * d1 = f1.1 * D := by
      refine cancel_r (k := d2) (by omega) ?_
      have e1 : c * d1 * d2 = c * (d1 * d2) := by grind
      rw [e1, hv1]; grind
    refine ⟨D, c, f1.2, by rw [hL], by rw [← hL]; exact vD, ?_, g2, ?_⟩
    · rcases Int.lt_or_le 0 c with h | h
      · omega
      · have h3 := Int.mul_pos (show 0 < f1.1 by omega) (show 0 < D by have := vD.d1; omega)
        have h4 := Int.mul_le_mul_of_nonneg_right h (show 0 ≤ d1 by omega)
        omega
    · refine cancel_r (k := 2 * (d1 * d1)) (by have := Int.mul_pos (show 0 < d1 by omega) (show 0 < d1 by omega); omega) ?_
      have e1 : c * c * f1.2 * d * (2 * (d1 * d1)) = (c * d1) * (c * d1) * (f1.2 * (2 * d)) := by grind
      have e2 : f1.1 * D * (f1.1 * D) * (f1.2 * (2 * d)) = f1.1 * f1.1 * f1.2 * (2 * d) * (D * D) := by grind
      rw [e1, hcd, e2, g4]; grind
  · right
    have hl : ¬ 4 < t.length := by rw [htt]; simp
    unfold finF at hr
    simp only at hr
    rw [if_neg hl] at hr
    split at hr
    · exact hr.symm
    · exfalso; apply h0; have := congrArg (fun x => x.2.2) hr; simp at this; exact this.symm
/-- The roots of a fraction and of its opposite make 1. -/
theorem roots_one {D c k E b j p q : Int} (v : Vld D [(c, k)]) (u : Vld E [(b, j)]) (hc : 1 ≤ c) (hb : 1 ≤ b) (hk : Rt k) (hj : Rt j) (hp : 1 ≤ p) (hq : 1 ≤ q) (h1 : c * c * k * q = p * (D * D)) (h2 : b * b * j * p = q * (E * E))
    {r : Int × List (Int × Int) × Int} (h : mulF D [(c, k)] E [(b, j)] r) : r = (1, qL 1, 0) := by
  have hD := v.d1
  have hE := u.d1
  have hj1 := hj.1
  have hbj : 1 ≤ b * j := by have := Int.mul_le_mul hb hj1 (by omega) (by omega); omega
  have hDE : 1 ≤ D * E := by have := Int.mul_le_mul hD hE (by omega) (by omega); omega
  obtain ⟨e1, e2⟩ := rat_uniq (X := c) (p := k) (U := D * E) (q := j) (V := b * j) (Y := 1) hc hDE hbj (by omega) hk hj (by
    refine cancel_r (k := p * q) (by have := Int.mul_pos (show 0 < p by omega) (show 0 < q by omega); omega) ?_
    have a1 : c * c * k * (b * j * (b * j)) * (p * q) = (c * c * k * q) * (b * b * j * p) * j := by grind
    rw [a1, h1, h2]; grind)
  subst e1
  refine mulF_of v u h (vld_one 1 (by omega) (by omega)) (fun r => ?_)
  have e3 : prodL [(c, k)] [(b, k)] = [(c * b * k, 1)] := by
    have e0 : prodL [(c, k)] [(b, k)] = [mulT (c, k) (b, k)] := by simp [prodL]
    rw [e0, mulT_eq, gS_self hj1, rS_self hj1]
  rw [qL_coef, e3, one_coef]
  by_cases hr : r = 1
  · simp only [hr, if_true]
    have : c * b * k = c * (b * k) := by grind
    rw [this, e2]; grind
  · simp [hr]
end Go.Proofs.YtkjclafbpocabaaGreatDoor

/-! ## Q5 -/
namespace Go.Proofs.YtkjclafbpocabaaGreatDoor
open Go.RowKit Go.Maps
theorem conj_q (b : Int) : conjL (qL b) = qL b := by
  unfold qL; split
  · rfl
  · rfl
theorem norm_q (b : Int) : normL (qL b) = b * b := by
  unfold qL; split
  · rename_i h; subst h; rfl
  · simp [normL, sqAt]
theorem val_quo {d e p q p' q' : Int} {l m : List (Int × Int)} (x : Val d l p q) (y : Val e m p' q') (hp : 1 ≤ p') {r : Int × List (Int × Int) × Int} (h : quoF d l e m r) :
    (r.2.2 = 0 ∧ Val r.1 r.2.1 (p * q') (q * p')) ∨ r = (0, [], 10) := by
  obtain ⟨vx, hq, a, rfl, ha⟩ := x
  obtain ⟨vy, hq', b, rfl, hb⟩ := y
  have hd := vx.d1
  have he := vy.d1
  have hb1 : 1 ≤ b := by
    rcases Int.lt_or_le 0 b with h | h
    · omega
    · have h1 := Int.mul_pos (show 0 < p' by omega) (show 0 < e by omega)
      have h2 := Int.mul_le_mul_of_nonneg_right h (show 0 ≤ q' by omega)
      omega
  have hqb : qL b = [(b, 1)] := by unfold qL; rw [if_neg (by omega)]
  have hqp : 1 ≤ q * p' := by have := Int.mul_le_mul hq hp (by omega) (by omega); omega
  unfold quoF at h
  rw [if_pos ⟨vx.bool, vy.bool⟩, if_neg (by rw [hqb]; simp), if_neg (by rw [hqb]; simp), conj_q, norm_q] at h
  obtain ⟨t, ht, rfl⟩ := h
  have hc : ∀ r, plusC zeroC e (prodL (qL a) (qL b)) r = if r = 1 then e * (a * b) else 0 := fun r => by
    simp only [plusC, zeroC, prod_q]
    by_cases hr : r = 1
    · simp [hr]
    · simp [hr]
  rcases fin_err (den := d * (b * b)) ht (fun r hr => by rw [hc, if_neg hr]) with h0 | h0
  · left
    have hden : d * (b * b) ≠ 0 := by have := Int.mul_pos (show 0 < d by omega) (Int.mul_pos (show 0 < b by omega) (show 0 < b by omega)); omega
    obtain ⟨D, L, e0, hr⟩ : ∃ D L e0, finF (d * (b * b)) t = (D, L, e0) := ⟨_, _, _, rfl⟩
    rw [hr] at h0 ⊢
    simp only at h0
    subst h0
    have ht1 : ∀ u ∈ t, u.2 = 1 := fun u hu => by
      have := (ht.2 u.1 u.2).1 hu
      by_cases e : u.2 = 1
      · exact e
      · rw [hc, if_neg e] at this; exact absurd this.1.symm this.2
    obtain ⟨v, hv⟩ := fin_ok hden ht (fun u hu => by
      rw [ht1 u hu]
      refine ⟨by omega, ?_⟩
      intro e he hd
      have := Int.le_of_dvd (by omega) hd
      have h4 : 2 * 2 ≤ e * e := Int.mul_le_mul he he (by omega) (by omega)
      omega) hr
    obtain ⟨c, rfl, h1⟩ := rel_one (m := 0) v hden _ hv (fun r hr => by rw [hc, if_neg hr])
    rw [hc, if_pos rfl] at h1
    refine ⟨rfl, v, hqp, c, rfl, ?_⟩
    simp only
    refine cancel_r (k := e * (d * (b * b))) (by have := Int.mul_pos (show 0 < e by omega) (Int.mul_pos (show 0 < d by omega) (Int.mul_pos (show 0 < b by omega) (show 0 < b by omega))); omega) ?_
    have e1 : c * (q * p') * (e * (d * (b * b))) = c * (d * (b * b)) * (q * (p' * e)) := by grind
    rw [e1, h1, ← hb]
    have e2 : p * q' * D * (e * (d * (b * b))) = p * d * (q' * D * (e * (b * b))) := by grind
    rw [e2, ← ha]; grind
  · exact .inr h0
abbrev NumL := Int × List (Int × Int)
/-- An operation on both numbers of a pair, with its second arguments. -/
structure StepR where
  op : Int → List (Int × Int) → Int → List (Int × Int) → Int × List (Int × Int) × Int → Prop
  w0 : NumL
  w1 : NumL
def ThrR : List StepR → NumL → NumL → NumL × NumL × Int → Prop
  | [], a, b, r => r = (a, b, 0)
  | s :: ss, a, b, r => ∃ x, s.op a.1 a.2 s.w0.1 s.w0.2 x ∧ (x.2.2 ≠ 0 → r = ((0, []), (0, []), x.2.2)) ∧ (x.2.2 = 0 →
      ∃ y, s.op b.1 b.2 s.w1.1 s.w1.2 y ∧ (y.2.2 ≠ 0 → r = ((0, []), (0, []), y.2.2)) ∧ (y.2.2 = 0 → ThrR ss (x.1, x.2.1) (y.1, y.2.1) r))
def BetweenF (lo hi : NumL) : Prop := validF lo.1 lo.2 = true ∧ validF hi.1 hi.2 = true ∧ 0 < sgnZ lo.2 ∧ ∃ n, CmpN lo.1 lo.2 hi.1 hi.2 n ∧ n ≤ 0
def PairB (a b : NumL) (den : Int) : Int × Int × Int :=
  if (BoundsF a.1 den a.2).2.2 ≠ 0 then (0, 0, (BoundsF a.1 den a.2).2.2) else ((BoundsF a.1 den a.2).1, (BoundsF b.1 den b.2).2.1, (BoundsF b.1 den b.2).2.2)
def ExcR (x lo hi : NumL) (den : Int) (ss : List StepR) (t : Int × Int × Int) : Prop :=
  (¬ (validF x.1 x.2 = true ∧ BetweenF lo hi) → t = (0, 0, 2)) ∧ (validF x.1 x.2 = true ∧ BetweenF lo hi → (sgnZ x.2 ≤ 0 → t = (0, 0, 3)) ∧ (0 < sgnZ x.2 →
    ∃ sq, mulF x.1 x.2 x.1 x.2 sq ∧ (sq.2.2 ≠ 0 → t = (0, 0, sq.2.2)) ∧ (sq.2.2 = 0 →
      ∃ r, ThrR (ss ++ [⟨addF (-1), (1, qL 1), (1, qL 1)⟩]) (sq.1, sq.2.1) (sq.1, sq.2.1) r ∧ (r.2.2 ≠ 0 → t = (0, 0, r.2.2)) ∧ (r.2.2 = 0 → t = PairB r.1 r.2.1 den))))
def circS (lo hi : NumL) : List StepR := [⟨mulF, lo, hi⟩, ⟨quoF, (1, qL 4), (1, qL 4)⟩]
def squS (lo hi : NumL) : List StepR := [⟨mulF, (1, qL 4), (1, qL 4)⟩, ⟨quoF, hi, lo⟩]
/-- One step with fractions. -/
theorem val_one (n : Int) (h1 : -100000 ≤ n) (h2 : n ≤ 100000) : Val 1 (qL n) n 1 := ⟨vld_one n h1 h2, by omega, n, rfl, by omega⟩
theorem thr_step {op : Int → List (Int × Int) → Int → List (Int × Int) → Int × List (Int × Int) × Int → Prop} {w0 w1 a b : NumL} {ss : List StepR} {r : NumL × NumL × Int} {P Q P' Q' : Int}
    (h0 : ∀ x, op a.1 a.2 w0.1 w0.2 x → (x.2.2 = 0 ∧ Val x.1 x.2.1 P Q) ∨ x = (0, [], 10)) (h1 : ∀ x, op b.1 b.2 w1.1 w1.2 x → (x.2.2 = 0 ∧ Val x.1 x.2.1 P' Q') ∨ x = (0, [], 10))
    (h : ThrR (⟨op, w0, w1⟩ :: ss) a b r) : r.2.2 = 10 ∨ ∃ a' b', Val a'.1 a'.2 P Q ∧ Val b'.1 b'.2 P' Q' ∧ ThrR ss a' b' r := by
  obtain ⟨x, hx, n1, n2⟩ := h
  rcases h0 x hx with ⟨e, hv⟩ | rfl
  · obtain ⟨y, hy, m1, m2⟩ := n2 e
    rcases h1 y hy with ⟨e', hv'⟩ | rfl
    · exact .inr ⟨(x.1, x.2.1), (y.1, y.2.1), hv, hv', m2 e'⟩
    · left; rw [m1 (by simp)]
  · left; rw [n1 (by simp)]
theorem thr_nil {a b : NumL} {r : NumL × NumL × Int} (h : ThrR [] a b r) : r = (a, b, 0) := h
theorem pairB_val {a b : NumL} {P Q P' Q' m : Int} (x : Val a.1 a.2 P Q) (y : Val b.1 b.2 P' Q') (hm1 : 1 ≤ m) (hm2 : m ≤ 1000000000) : PairB a b m = (P * m / Q, -((-P') * m / Q'), 0) := by
  unfold PairB
  rw [val_bounds x hm1 hm2, val_bounds y hm1 hm2]
  simp
/-- What Circling, and Squaring, give for fractions. -/
theorem exc_sq {x : NumL} {p q : Int} (hx : Val x.1 x.2 p q) {sq : Int × List (Int × Int) × Int} (h : mulF x.1 x.2 x.1 x.2 sq) : (sq.2.2 = 0 ∧ Val sq.1 sq.2.1 (p * p) (q * q)) ∨ sq = (0, [], 10) := val_mul hx hx h
theorem circ_val {x lo hi : NumL} {p q lp lq hp hq m : Int} {t : Int × Int × Int} (hx : Val x.1 x.2 p q) (hlo : Val lo.1 lo.2 lp lq) (hhi : Val hi.1 hi.2 hp hq) (p1 : 1 ≤ p) (l1 : 1 ≤ lp) (hle : lp * hq ≤ hp * lq)
    (hm1 : 1 ≤ m) (hm2 : m ≤ 1000000000) (hex : ∃ n, CmpN lo.1 lo.2 hi.1 hi.2 n) (h : ExcR x lo hi m (circS lo hi) t) :
    t.2.2 = 10 ∨ t = ((p * p * lp - q * q * lq * 4) * m / (q * q * lq * 4), -((-(p * p * hp - q * q * hq * 4)) * m / (q * q * hq * 4)), 0) := by
  have hb : validF x.1 x.2 = true ∧ BetweenF lo hi := by
    refine ⟨hx.1.bool, hlo.1.bool, hhi.1.bool, by have := (val_sgn hlo).1.1 (by omega); omega, ?_⟩
    obtain ⟨n, hn⟩ := hex
    have := val_cmp hlo hhi hn
    have hr := (cmp_sg hlo.1 hhi.1 hn).range
    exact ⟨n, hn, by omega⟩
  obtain ⟨sq, hsq, n1, n2⟩ := (h.2 hb).2 (by have := (val_sgn hx).1.1 (by omega); omega)
  rcases exc_sq hx hsq with ⟨e, hv⟩ | rfl
  · obtain ⟨r, hr, m1, m2⟩ := n2 e
    unfold circS at hr
    simp only [List.cons_append, List.nil_append] at hr
    rcases thr_step (fun x h => val_mul hv hlo h) (fun x h => val_mul hv hhi h) hr with h10 | ⟨a, b, va, vb, hr⟩
    · left; rw [m1 (by omega)]; exact h10
    · rcases thr_step (fun x h => val_quo va (val_one 4 (by omega) (by omega)) (by omega) h) (fun x h => val_quo vb (val_one 4 (by omega) (by omega)) (by omega) h) hr with h10 | ⟨a, b, va, vb, hr⟩
      · left; rw [m1 (by omega)]; exact h10
      · rcases thr_step (fun x h => val_add va (val_one 1 (by omega) (by omega)) h) (fun x h => val_add vb (val_one 1 (by omega) (by omega)) h) hr with h10 | ⟨a, b, va, vb, hr⟩
        · left; rw [m1 (by omega)]; exact h10
        · right
          rw [thr_nil hr] at m2
          rw [m2 rfl, pairB_val va vb hm1 hm2]
          congr 1
          · congr 1 <;> grind
          · congr 3 <;> grind
  · left; rw [n1 (by simp)]
theorem squ_val {x lo hi : NumL} {p q lp lq hp hq m : Int} {t : Int × Int × Int} (hx : Val x.1 x.2 p q) (hlo : Val lo.1 lo.2 lp lq) (hhi : Val hi.1 hi.2 hp hq) (p1 : 1 ≤ p) (l1 : 1 ≤ lp) (h1 : 1 ≤ hp) (hle : lp * hq ≤ hp * lq)
    (hm1 : 1 ≤ m) (hm2 : m ≤ 1000000000) (hex : ∃ n, CmpN lo.1 lo.2 hi.1 hi.2 n) (h : ExcR x lo hi m (squS lo hi) t) :
    t.2.2 = 10 ∨ t = ((p * p * 4 * hq - q * q * hp) * m / (q * q * hp), -((-(p * p * 4 * lq - q * q * lp)) * m / (q * q * lp)), 0) := by
  have hb : validF x.1 x.2 = true ∧ BetweenF lo hi := by
    refine ⟨hx.1.bool, hlo.1.bool, hhi.1.bool, by have := (val_sgn hlo).1.1 (by omega); omega, ?_⟩
    obtain ⟨n, hn⟩ := hex
    have := val_cmp hlo hhi hn
    have hr := (cmp_sg hlo.1 hhi.1 hn).range
    exact ⟨n, hn, by omega⟩
  obtain ⟨sq, hsq, n1, n2⟩ := (h.2 hb).2 (by have := (val_sgn hx).1.1 (by omega); omega)
  rcases exc_sq hx hsq with ⟨e, hv⟩ | rfl
  · obtain ⟨r, hr, m1, m2⟩ := n2 e
    unfold squS at hr
    simp only [List.cons_append, List.nil_append] at hr
    rcases thr_step (fun x h => val_mul hv (val_one 4 (by omega) (by omega)) h) (fun x h => val_mul hv (val_one 4 (by omega) (by omega)) h) hr with h10 | ⟨a, b, va, vb, hr⟩
    · left; rw [m1 (by omega)]; exact h10
    · rcases thr_step (fun x h => val_quo va hhi h1 h) (fun x h => val_quo vb hlo l1 h) hr with h10 | ⟨a, b, va, vb, hr⟩
      · left; rw [m1 (by omega)]; exact h10
      · rcases thr_step (fun x h => val_add va (val_one 1 (by omega) (by omega)) h) (fun x h => val_add vb (val_one 1 (by omega) (by omega)) h) hr with h10 | ⟨a, b, va, vb, hr⟩
        · left; rw [m1 (by omega)]; exact h10
        · right
          rw [thr_nil hr] at m2
          rw [m2 rfl, pairB_val va vb hm1 hm2]
          congr 1
          · congr 1 <;> grind
          · congr 3 <;> grind
  · left; rw [n1 (by simp)]
end Go.Proofs.YtkjclafbpocabaaGreatDoor

/-! ## Q11 -/
namespace Go.Proofs.YtkjclafbpocabaaGreatDoor
open Go.RowKit Go.Maps
/-- The area of a year. -/
def GrowR (first by_ : NumL) (Y : Int) (r : Int × List (Int × Int) × Int) : Prop :=
  ∃ m, mulF by_.1 by_.2 1 (qL Y) m ∧ (m.2.2 ≠ 0 → r = (0, [], m.2.2)) ∧ (m.2.2 = 0 → addF 1 m.1 m.2.1 first.1 first.2 r)
theorem grow_val {first by_ : NumL} {p q u v Y : Int} {r : Int × List (Int × Int) × Int} (hf : Val first.1 first.2 p q) (hb : Val by_.1 by_.2 u v) (p1 : 1 ≤ p) (p2 : p ≤ 256) (q1 : 1 ≤ q) (q2 : q ≤ 12) (u1 : 0 ≤ u) (u2 : u ≤ 19) (v1 : 1 ≤ v) (v2 : v ≤ 12) (y1 : 0 ≤ Y) (y2 : Y ≤ 256)
    (h : GrowR first by_ Y r) : r.2.2 = 0 ∧ Val r.1 r.2.1 (q * (u * Y) + v * p) (v * q) ∧ 1 ≤ q * (u * Y) + v * p := by
  obtain ⟨m, hm, n1, n2⟩ := h
  have b1 : u * Y ≤ 19 * 256 := Int.mul_le_mul u2 y2 y1 (by omega)
  have b0 : 0 ≤ u * Y := Int.mul_nonneg u1 y1
  obtain ⟨e, hv⟩ := mulF_val hb (val_one Y (by omega) (by omega)) hm v1 (by omega) (p := u * Y) (by omega) (by omega) (by grind)
  have c1 : q * (u * Y) ≤ 12 * (19 * 256) := Int.mul_le_mul q2 b1 b0 (by omega)
  have c0 : 0 ≤ q * (u * Y) := Int.mul_nonneg (by omega) b0
  have c2 : v * p ≤ 12 * 256 := Int.mul_le_mul v2 p2 (by omega) (by omega)
  have c3 : 1 ≤ v * p := by have := Int.mul_le_mul v1 p1 (by omega) (by omega); omega
  have c4 : v * q ≤ 12 * 12 := Int.mul_le_mul v2 q2 (by omega) (by omega)
  have c5 : 1 ≤ v * q := by have := Int.mul_le_mul v1 q1 (by omega) (by omega); omega
  obtain ⟨e2, hv2⟩ := addF_val hv hf (n2 e) c5 (by omega) (p := q * (u * Y) + v * p) (by omega) (by omega) (by grind)
  exact ⟨e2, hv2, by omega⟩
/-- The factor from one year to another one, by the areas of both. -/
def FactR (before after : NumL) (r : Int × List (Int × Int) × Int) : Prop :=
  ∃ m, quoF after.1 after.2 before.1 before.2 m ∧ (m.2.2 ≠ 0 → r = (0, [], m.2.2)) ∧ (m.2.2 = 0 → RootP m.1 m.2.1 r)
theorem fact_val {before after : NumL} {p q u v : Int} {r : Int × List (Int × Int) × Int} (hb : Val before.1 before.2 p q) (ha : Val after.1 after.2 u v) (p1 : 1 ≤ p) (u1 : 1 ≤ u) (h : FactR before after r) :
    r = (0, [], 10) ∨ ∃ m, quoF after.1 after.2 before.1 before.2 m ∧ m.2.2 = 0 ∧ Val m.1 m.2.1 (u * q) (v * p) ∧ ∃ D c k, r = (D, [(c, k)], 0) ∧ Vld D [(c, k)] ∧ 1 ≤ c ∧ Rt k ∧ c * c * k * (v * p) = u * q * (D * D) ∧ RootP m.1 m.2.1 r := by
  obtain ⟨m, hm, n1, n2⟩ := h
  rcases val_quo ha hb p1 hm with ⟨e, hv⟩ | rfl
  · have hr := n2 e
    have hv0 := hv
    obtain ⟨vm, hq, a, ea, hc⟩ := hv
    have hr2 := hr
    rw [ea] at hr vm
    have huq : 1 ≤ u * q := by have := Int.mul_le_mul u1 hb.2.1 (by omega) (by omega); omega
    have ha1 : 1 ≤ a := by
      rcases Int.lt_or_le 0 a with h | h
      · omega
      · have h1 := Int.mul_pos (show 0 < u * q by omega) (show 0 < m.1 by have := vm.d1; omega)
        have h2 := Int.mul_le_mul_of_nonneg_right h (show 0 ≤ v * p by omega)
        omega
    rcases root_pos vm ha1 hr with ⟨D, c, k, e3, vD, c1, hk, hck⟩ | e3
    · refine .inr ⟨m, hm, e, hv0, D, c, k, e3, vD, c1, hk, ?_, hr2⟩
      refine cancel_r (k := m.1) (by have := vm.d1; omega) ?_
      have e4 : c * c * k * (v * p) * m.1 = c * c * k * m.1 * (v * p) := by grind
      have e5 : u * q * (D * D) * m.1 = u * q * m.1 * (D * D) := by grind
      rw [e4, hck, e5, ← hc]; grind
    · exact .inl e3
  · exact .inl (n1 (by simp))
/-- The square of the factor is the quotient of the areas. -/
theorem fact_square {m : Int × List (Int × Int) × Int} {D c k p q : Int} (hv : Val m.1 m.2.1 p q) (hr : RootP m.1 m.2.1 (D, [(c, k)], 0)) {s : Int × List (Int × Int) × Int} (hs : mulF D [(c, k)] D [(c, k)] s) : s = (m.1, m.2.1, 0) :=
  root_back hv.1 hr hs
theorem sgn_single {D c k : Int} (v : Vld D [(c, k)]) (hc : 1 ≤ c) (hk : Rt k) : sgnZ [(c, k)] = 1 :=
  (sign_sg v).uniq (.inl ⟨rfl, pos_one hc hk.1⟩)
end Go.Proofs.YtkjclafbpocabaaGreatDoor
