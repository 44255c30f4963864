/-
  Contracts of the program's own functions (and their plain mathematics), on the way to the law: each for all arguments that its hypotheses let.
-/
import Derived.Test.YtkjclafbpocabaaGreatDoorG24
import Derived.WalkKit
set_option linter.unusedSimpArgs false
set_option linter.unusedVariables false

/-! ## T4 -/
namespace Go.Proofs.YtkjclafbpocabaaGreatDoor
open Go.RowKit Go.Maps Go.Shelf Go.Sort

/-- What a reduction without an error gives: a valid number with the coefficients that were reduced. -/
theorem fin_ok {den : Int} {c : Int → Int} {l : List (Int × Int)} (hden : den ≠ 0) (hl : IsTerms c l) (hsq : ∀ t ∈ l, 1 ≤ t.2 ∧ SqF t.2) {d' : Int} {l' : List (Int × Int)} (h : finF den l = (d', l', 0)) :
    Vld d' l' ∧ ∀ r, coefOf l' r * den = c r * d' := by
  have hs0 : sgnDv den l = (dvF den l : Int) ∨ sgnDv den l = -(dvF den l : Int) := by
    unfold sgnDv; split <;> simp
  have hsgn : (0 < den ∧ 0 < sgnDv den l) ∨ (den < 0 ∧ sgnDv den l < 0) := by
    have := dv_pos den l hden
    unfold sgnDv
    split <;> omega
  obtain ⟨g1, g2⟩ := dv_dvd den l
  have hdv := divS_dv (l := l) hden hs0
  unfold finF at h
  generalize sgnDv den l = s at *
  have s1 : s ∣ den := by rcases hs0 with e | e <;> rw [e]; exact g1; exact (Int.neg_dvd).2 g1
  have s2 : ∀ t ∈ l, s ∣ t.1 := by intro t ht; rcases hs0 with e | e <;> rw [e]; exact g2 t ht; exact (Int.neg_dvd).2 (g2 t ht)
  have hq : den.tdiv s * s = den := Int.tdiv_mul_cancel s1
  dsimp only at h
  split at h
  · simp at h
  · rename_i h4
    split at h
    · simp at h
    · rename_i hc
      simp only [Prod.mk.injEq, and_true] at h
      obtain ⟨rfl, rfl⟩ := h
      simp only [not_or, Bool.not_eq_false] at hc
      obtain ⟨hc1, hc2⟩ := hc
      have hpart : ∀ t ∈ l, -100000 ≤ t.1.tdiv s ∧ t.1.tdiv s ≤ 100000 ∧ t.2 ≤ 1000 := by
        intro t ht
        have := List.all_eq_true.1 hc2 (t.1.tdiv s, t.2) (List.mem_map.2 ⟨t, ht, rfl⟩)
        simp only [isPartF, inB, Bool.and_eq_true, decide_eq_true_eq] at this
        omega
      refine ⟨⟨?_, by omega, by simp [divS]; omega, ?_, ?_, ?_, ?_, hdv⟩, ?_⟩
      · apply Classical.byContradiction
        intro hn
        rcases hsgn with ⟨a, b⟩ | ⟨a, b⟩
        · have := Int.mul_nonneg (a := -(den.tdiv s)) (b := s) (by omega) (by omega)
          rw [Int.neg_mul, hq] at this; omega
        · have := Int.mul_nonneg (a := -(den.tdiv s)) (b := -s) (by omega) (by omega)
          rw [Int.neg_mul_neg, hq] at this; omega
      · intro t ht
        obtain ⟨u, hu, rfl⟩ := List.mem_map.1 ht
        have hp := hpart u hu
        refine ⟨hp.1, hp.2.1, fun e => ?_⟩
        have h1 := Int.tdiv_mul_cancel (s2 u hu)
        have h0 : u.1 ≠ 0 := ((hl.2 u.1 u.2).1 hu).2
        simp only at e
        rw [e] at h1
        omega
      · intro t ht
        obtain ⟨u, hu, rfl⟩ := List.mem_map.1 ht
        exact ⟨(hsq u hu).1, (hpart u hu).2.2⟩
      · intro t ht
        obtain ⟨u, hu, rfl⟩ := List.mem_map.1 ht
        exact (hsq u hu).2
      · apply pairwise_asc
        unfold divS
        rw [List.pairwise_map]
        exact hl.1
      · intro r
        have h1 := divS_coef s2 r
        rw [terms_coef hl] at h1
        rw [← h1, Int.mul_assoc, Int.mul_comm s, hq]

/-! Sums over terms that see the coefficients alone. -/
def lin (φ : Int → Int) (l : List (Int × Int)) : Int := (l.map fun t => t.1 * φ t.2).sum
theorem lin_cons (φ : Int → Int) (t : Int × Int) (l : List (Int × Int)) : lin φ (t :: l) = t.1 * φ t.2 + lin φ l := by simp [lin]
theorem lin_append (φ : Int → Int) (l m : List (Int × Int)) : lin φ (l ++ m) = lin φ l + lin φ m := by simp [lin]
theorem lin_mulS (φ : Int → Int) (a : Int) (l : List (Int × Int)) : lin φ (mulS a l) = a * lin φ l := by
  induction l with
  | nil => simp [lin, mulS]
  | cons t l ih =>
    have e : mulS a (t :: l) = (a * t.1, t.2) :: mulS a l := rfl
    rw [e, lin_cons, lin_cons, ih, Int.mul_add, Int.mul_assoc]
theorem coefOf_lin (l : List (Int × Int)) (r : Int) : coefOf l r = lin (fun s => if s = r then 1 else 0) l := by
  induction l with
  | nil => rfl
  | cons t l ih =>
    rw [coefOf_cons, lin_cons, ih]
    by_cases h : t.2 = r <;> simp [h]
theorem lin_part (φ : Int → Int) (r : Int) (l : List (Int × Int)) : lin φ l = φ r * coefOf l r + lin φ (l.filter fun t => decide (t.2 ≠ r)) := by
  induction l with
  | nil => simp [lin, coefOf]
  | cons t l ih =>
    rw [lin_cons, coefOf_cons, ih]
    by_cases h : t.2 = r
    · subst h
      simp only [if_true, List.filter_cons]
      simp
      grind
    · rw [List.filter_cons_of_pos (by simpa using h), lin_cons]
      simp only [h, if_false]
      grind
theorem coef_filter (r s : Int) (l : List (Int × Int)) : coefOf (l.filter fun t => decide (t.2 ≠ r)) s = if s = r then 0 else coefOf l s := by
  induction l with
  | nil => simp [coefOf]
  | cons t l ih =>
    by_cases h : t.2 = r
    · rw [List.filter_cons_of_neg (by simpa using h), ih, coefOf_cons]
      by_cases e : s = r
      · simp [e]
      · have : t.2 ≠ s := by omega
        simp [e, this]
    · rw [List.filter_cons_of_pos (by simpa using h), coefOf_cons, coefOf_cons, ih]
      by_cases e : s = r
      · subst e; simp [h]
      · simp [e]
theorem lin_zero (φ : Int → Int) : ∀ (n : Nat) (l : List (Int × Int)), l.length ≤ n → (∀ r, coefOf l r = 0) → lin φ l = 0 := by
  intro n
  induction n with
  | zero => intro l hl _; simp at hl; subst hl; rfl
  | succ n ih =>
    intro l hl h
    cases l with
    | nil => rfl
    | cons t l =>
      rw [lin_part φ t.2, h, ih]
      · simp
      · rw [List.filter_cons_of_neg (by simp)]
        have := List.length_filter_le (fun u => decide (u.2 ≠ t.2)) l
        simp at hl
        omega
      · intro r
        rw [coef_filter, h]
        simp
theorem coef_append (l m : List (Int × Int)) (r : Int) : coefOf (l ++ m) r = coefOf l r + coefOf m r := by
  rw [coefOf_lin, coefOf_lin, coefOf_lin, lin_append]
theorem coef_mulS (a : Int) (l : List (Int × Int)) (r : Int) : coefOf (mulS a l) r = a * coefOf l r := by
  rw [coefOf_lin, coefOf_lin, lin_mulS]
/-- What sees the coefficients alone goes with their ratio. -/
theorem lin_ratio (φ : Int → Int) {l l' : List (Int × Int)} {A B : Int} (h : ∀ r, coefOf l r * A = coefOf l' r * B) : lin φ l * A = lin φ l' * B := by
  have h0 := lin_zero φ _ (mulS A l ++ mulS (-B) l') (Nat.le_refl _) (fun r => by
    rw [coef_append, coef_mulS, coef_mulS]
    have := h r
    grind)
  rw [lin_append, lin_mulS, lin_mulS] at h0
  grind

/-! Products of roots. -/
def gS (a b : Int) : Int := (Int.gcd a b : Int)
def rS (a b : Int) : Int := a / gS a b * (b / gS a b)
theorem mulT_eq (t u : Int × Int) : mulT t u = (t.1 * u.1 * gS t.2 u.2, rS t.2 u.2) := rfl
def prodφ (ly : List (Int × Int)) (r s : Int) : Int := lin (fun q => if rS s q = r then gS s q else 0) ly
theorem coef_map_mulT (t : Int × Int) (ly : List (Int × Int)) (r : Int) : coefOf (ly.map (mulT t)) r = t.1 * prodφ ly r t.2 := by
  induction ly with
  | nil => simp [coefOf, prodφ, lin]
  | cons u ly ih =>
    rw [List.map_cons, coefOf_cons, ih, mulT_eq]
    unfold prodφ
    rw [lin_cons]
    dsimp only
    by_cases h : rS t.2 u.2 = r
    · simp only [h, if_true]; grind
    · simp only [h, if_false]; grind
theorem coef_prodL (lx ly : List (Int × Int)) (r : Int) : coefOf (prodL lx ly) r = lin (prodφ ly r) lx := by
  induction lx with
  | nil => rfl
  | cons t lx ih =>
    have e : prodL (t :: lx) ly = ly.map (mulT t) ++ prodL lx ly := by simp [prodL]
    rw [e, coef_append, coef_map_mulT, ih, lin_cons]
/-- Products go with the ratio of their first factor. -/
theorem prod_ratio {l l' : List (Int × Int)} {A B : Int} (h : ∀ r, coefOf l r * A = coefOf l' r * B) (m : List (Int × Int)) (r : Int) : coefOf (prodL l m) r * A = coefOf (prodL l' m) r * B := by
  rw [coef_prodL, coef_prodL]
  exact lin_ratio _ h
end Go.Proofs.YtkjclafbpocabaaGreatDoor

/-! ## T5 -/
namespace Go.Proofs.YtkjclafbpocabaaGreatDoor
open Go.RowKit Go.Maps Go.Shelf Go.Sort

/-- Lowest terms, whatever the size. -/
structure Low (d : Int) (l : List (Int × Int)) : Prop where
  d1 : 1 ≤ d
  asc : l.Pairwise (fun a b => a.2 < b.2)
  ne : ∀ t ∈ l, t.1 ≠ 0
  dv : dvF d l = 1
theorem Vld.low {d : Int} {l : List (Int × Int)} (h : Vld d l) : Low d l := ⟨h.d1, asc_pairwise l h.asc, fun t ht => (h.cf t ht).2.2, h.dv⟩
theorem low_dvd {d1 d2 : Int} {l1 l2 : List (Int × Int)} (h1 : Low d1 l1) (h : ∀ r, coefOf l1 r * d2 = coefOf l2 r * d1) : d1 ∣ d2 := by
  have := dv_great d1 d2 l1 d1 (Int.dvd_mul_right _ _) (fun t ht => by
    have e := coefOf_in (pairwise_nodup h1.asc) ht
    rw [← e, h]; exact Int.dvd_mul_left _ _)
  rw [h1.dv] at this
  simpa using this
theorem low_uniq {d1 d2 : Int} {l1 l2 : List (Int × Int)} (h1 : Low d1 l1) (h2 : Low d2 l2) (h : ∀ r, coefOf l1 r * d2 = coefOf l2 r * d1) : d1 = d2 ∧ l1 = l2 := by
  have a := h1.d1
  have b := h2.d1
  have e : d1 = d2 := Int.dvd_antisymm (by omega) (by omega) (low_dvd h1 h) (low_dvd h2 (fun r => (h r).symm))
  refine ⟨e, ?_⟩
  subst e
  have hc : coefOf l1 = coefOf l2 := funext fun r => Int.eq_of_mul_eq_mul_right (by omega) (h r)
  have t1 := terms_self h1.asc h1.ne
  rw [hc] at t1
  exact terms_uniq t1 (terms_self h2.asc h2.ne)
theorem sgnDv_cases {den : Int} {l : List (Int × Int)} (hden : den ≠ 0) :
    (sgnDv den l = (dvF den l : Int) ∨ sgnDv den l = -(dvF den l : Int)) ∧ ((0 < den ∧ 0 < sgnDv den l) ∨ (den < 0 ∧ sgnDv den l < 0)) ∧ sgnDv den l ∣ den ∧ ∀ t ∈ l, sgnDv den l ∣ t.1 := by
  have hs0 : sgnDv den l = (dvF den l : Int) ∨ sgnDv den l = -(dvF den l : Int) := by
    unfold sgnDv; split <;> simp
  have hsgn : (0 < den ∧ 0 < sgnDv den l) ∨ (den < 0 ∧ sgnDv den l < 0) := by
    have := dv_pos den l hden
    unfold sgnDv
    split <;> omega
  obtain ⟨g1, g2⟩ := dv_dvd den l
  refine ⟨hs0, hsgn, ?_, ?_⟩
  · rcases hs0 with e | e <;> rw [e]; exact g1; exact (Int.neg_dvd).2 g1
  · intro t ht; rcases hs0 with e | e <;> rw [e]; exact g2 t ht; exact (Int.neg_dvd).2 (g2 t ht)
/-- What is reduced is in lowest terms. -/
theorem fin_low {den : Int} {c : Int → Int} {l : List (Int × Int)} (hden : den ≠ 0) (hl : IsTerms c l) :
    Low (den.tdiv (sgnDv den l)) (divS (sgnDv den l) l) ∧ ∀ r, coefOf (divS (sgnDv den l) l) r * den = c r * den.tdiv (sgnDv den l) := by
  obtain ⟨hs0, hsgn, s1, s2⟩ := sgnDv_cases (l := l) hden
  have hdv := divS_dv (l := l) hden hs0
  generalize sgnDv den l = s at *
  have hq : den.tdiv s * s = den := Int.tdiv_mul_cancel s1
  refine ⟨⟨?_, ?_, ?_, hdv⟩, ?_⟩
  · apply Classical.byContradiction
    intro hn
    rcases hsgn with ⟨a, b⟩ | ⟨a, b⟩
    · have := Int.mul_nonneg (a := -(den.tdiv s)) (b := s) (by omega) (by omega)
      rw [Int.neg_mul, hq] at this; omega
    · have := Int.mul_nonneg (a := -(den.tdiv s)) (b := -s) (by omega) (by omega)
      rw [Int.neg_mul_neg, hq] at this; omega
  · unfold divS
    rw [List.pairwise_map]
    exact hl.1
  · intro t ht
    obtain ⟨u, hu, rfl⟩ := List.mem_map.1 ht
    intro e
    have h1 := Int.tdiv_mul_cancel (s2 u hu)
    have h0 : u.1 ≠ 0 := ((hl.2 u.1 u.2).1 hu).2
    simp only at e
    rw [e] at h1
    omega
  · intro r
    have h1 := divS_coef s2 r
    rw [terms_coef hl] at h1
    rw [← h1, Int.mul_assoc, Int.mul_comm s, hq]
/-- Where a valid number has these coefficients, the reduction gives it, without an error. -/
theorem fin_of {den : Int} {c : Int → Int} {l : List (Int × Int)} (hden : den ≠ 0) (hl : IsTerms c l) {d : Int} {m : List (Int × Int)} (hv : Vld d m) (h : ∀ r, coefOf m r * den = c r * d) : finF den l = (d, m, 0) := by
  obtain ⟨hlow, hc⟩ := fin_low hden hl
  have hd := hv.d1
  obtain ⟨e1, e2⟩ := low_uniq hlow hv.low (fun r => by
    apply Int.eq_of_mul_eq_mul_right hden
    have a := hc r
    have b := h r
    generalize coefOf (divS (sgnDv den l) l) r = x at *
    generalize den.tdiv (sgnDv den l) = y at *
    generalize coefOf m r = z at *
    calc x * d * den = (x * den) * d := by grind
      _ = c r * y * d := by rw [a]
      _ = (c r * d) * y := by grind
      _ = z * den * y := by rw [← b]
      _ = z * y * den := by grind)
  have hlen : l.length = m.length := by rw [← e2]; simp [divS]
  unfold finF
  dsimp only
  rw [if_neg (by have := hv.len; omega), if_neg]
  · rw [e1, e2]
  · rw [e1, e2]
    simp only [not_or, Bool.not_eq_false]
    refine ⟨by have := hv.d2; omega, ?_⟩
    rw [List.all_eq_true]
    intro t ht
    have a := hv.cf t ht
    have b := hv.rt t ht
    simp only [isPartF, inB, Bool.and_eq_true, decide_eq_true_eq]
    omega
end Go.Proofs.YtkjclafbpocabaaGreatDoor

/-! ## T6 -/
namespace Go.Proofs.YtkjclafbpocabaaGreatDoor
open Go.RowKit Go.Maps Go.Shelf Go.Sort

/-! Products of roots: commutative, and by any grouping. -/
theorem gS_comm (a b : Int) : gS a b = gS b a := by unfold gS; rw [Int.gcd_comm]
theorem rS_comm (a b : Int) : rS a b = rS b a := by unfold rS; rw [gS_comm, Int.mul_comm]
theorem mulT_comm (t u : Int × Int) : mulT t u = mulT u t := by rw [mulT_eq, mulT_eq, gS_comm, rS_comm, Int.mul_comm t.1]
/-- The numbers behind: natural numbers. -/
theorem gS_nat (a b : Nat) : gS a b = (Nat.gcd a b : Nat) := by simp [gS, Int.gcd]
theorem rS_nat (a b : Nat) : rS a b = ((a / Nat.gcd a b * (b / Nat.gcd a b) : Nat) : Int) := by
  unfold rS; rw [gS_nat]; simp
theorem gr_nat (a b : Nat) : Nat.gcd a b * Nat.gcd a b * (a / Nat.gcd a b * (b / Nat.gcd a b)) = a * b := by
  have h1 := Nat.mul_div_cancel' (Nat.gcd_dvd_left a b)
  have h2 := Nat.mul_div_cancel' (Nat.gcd_dvd_right a b)
  calc Nat.gcd a b * Nat.gcd a b * (a / Nat.gcd a b * (b / Nat.gcd a b)) = (Nat.gcd a b * (a / Nat.gcd a b)) * (Nat.gcd a b * (b / Nat.gcd a b)) := by
        simp only [Nat.mul_assoc, Nat.mul_left_comm]
    _ = a * b := by rw [h1, h2]
def SqN (a : Nat) : Prop := ∀ e, 2 ≤ e → ¬ e * e ∣ a
theorem sqN_r {a b : Nat} (ha : 1 ≤ a) (h1 : SqN a) (h2 : SqN b) : SqN (a / Nat.gcd a b * (b / Nat.gcd a b)) := by
  have hg : 0 < Nat.gcd a b := Nat.gcd_pos_of_pos_left _ ha
  have hc := Nat.coprime_div_gcd_div_gcd (m := a) (n := b) hg
  have ea := Nat.mul_div_cancel' (Nat.gcd_dvd_left a b)
  have eb := Nat.mul_div_cancel' (Nat.gcd_dvd_right a b)
  have k1 : SqN (a / Nat.gcd a b) := fun e he hd => h1 e he (by rw [← ea]; exact Nat.dvd_trans hd (Nat.dvd_mul_left _ _))
  have k2 : SqN (b / Nat.gcd a b) := fun e he hd => h2 e he (by rw [← eb]; exact Nat.dvd_trans hd (Nat.dvd_mul_left _ _))
  generalize a / Nat.gcd a b = x at *
  generalize b / Nat.gcd a b = y at *
  intro e he hd
  obtain ⟨p, hp, hpe⟩ := Tw.exists_prim he
  have hpp : p * p ∣ x * y := Nat.dvd_trans (Nat.mul_dvd_mul hpe hpe) hd
  have hp2 := hp.1
  have one : ∀ x y : Nat, Nat.Coprime x y → SqN x → p * p ∣ x * y → p ∣ x → False := by
    intro x y hc hx hpp hpx
    have hcy : Nat.Coprime (p * p) y := by
      have : Nat.Coprime p y := Nat.Coprime.coprime_dvd_left hpx hc
      exact Nat.Coprime.mul_left this this
    exact hx p hp2 (hcy.dvd_of_dvd_mul_right hpp)
  rcases Tw.prim_dvd hp (Nat.dvd_trans (Nat.dvd_mul_left p p) hpp) with h | h
  · exact one x y hc k1 hpp h
  · exact one y x hc.symm k2 (by rw [Nat.mul_comm y x]; exact hpp) h
theorem r_pos {a b : Nat} (ha : 1 ≤ a) (hb : 1 ≤ b) : 1 ≤ a / Nat.gcd a b * (b / Nat.gcd a b) := by
  have h := gr_nat a b
  apply Nat.pos_of_ne_zero
  intro e
  rw [e] at h
  have := Nat.mul_pos ha hb
  omega
theorem assoc_nat {a b c : Nat} (ha : 1 ≤ a) (hb : 1 ≤ b) (hc : 1 ≤ c) (h1 : SqN a) (h2 : SqN b) (h3 : SqN c) :
    gS a b * gS (rS a b) c = gS b c * gS (rS b c) a ∧ rS (rS a b) c = rS (rS b c) a := by
  rw [rS_nat a b, rS_nat b c, gS_nat, gS_nat, gS_nat, gS_nat, rS_nat, rS_nat]
  have p1 := r_pos ha hb
  have p2 := r_pos hb hc
  have s1 := sqN_r ha h1 h2
  have s2 := sqN_r hb h2 h3
  have e1 := gr_nat a b
  have e2 := gr_nat b c
  have g1 : 1 ≤ Nat.gcd a b := Nat.gcd_pos_of_pos_left _ ha
  have g2 : 1 ≤ Nat.gcd b c := Nat.gcd_pos_of_pos_left _ hb
  generalize a / Nat.gcd a b * (b / Nat.gcd a b) = x at *
  generalize b / Nat.gcd b c * (c / Nat.gcd b c) = y at *
  have q1 := sqN_r (b := c) p1 s1 h3
  have q2 := sqN_r (b := a) p2 s2 h1
  have f1 := gr_nat x c
  have f2 := gr_nat y a
  have g3 : 1 ≤ Nat.gcd x c := Nat.gcd_pos_of_pos_left _ p1
  have g4 : 1 ≤ Nat.gcd y a := Nat.gcd_pos_of_pos_left _ p2
  generalize x / Nat.gcd x c * (c / Nat.gcd x c) = u at *
  generalize y / Nat.gcd y a * (a / Nat.gcd y a) = v at *
  generalize Nat.gcd a b = G1 at *
  generalize Nat.gcd b c = G2 at *
  generalize Nat.gcd x c = G3 at *
  generalize Nat.gcd y a = G4 at *
  have main : (G1 * G3) * (G1 * G3) * u = (G2 * G4) * (G2 * G4) * v := by
    calc (G1 * G3) * (G1 * G3) * u = (G1 * G1) * (G3 * G3 * u) := by simp only [Nat.mul_assoc, Nat.mul_left_comm]
      _ = (G1 * G1 * x) * c := by rw [f1, Nat.mul_assoc (G1 * G1)]
      _ = a * b * c := by rw [e1]
      _ = (b * c) * a := by simp only [Nat.mul_assoc, Nat.mul_left_comm, Nat.mul_comm]
      _ = (G2 * G2 * y) * a := by rw [e2]
      _ = (G2 * G2) * (G4 * G4 * v) := by rw [f2, Nat.mul_assoc (G2 * G2)]
      _ = (G2 * G4) * (G2 * G4) * v := by simp only [Nat.mul_assoc, Nat.mul_left_comm]
  obtain ⟨r1, r2⟩ := sqf_uniqN (G1 * G3) (G2 * G4) u v (Nat.mul_pos g1 g3) (Nat.mul_pos g2 g4) main q1 q2
  refine ⟨?_, by rw [r1]⟩
  rw [← Int.natCast_mul, ← Int.natCast_mul, r2]
/-- Roots that may stand in a valid number. -/
def Rt (r : Int) : Prop := 1 ≤ r ∧ SqF r
theorem Rt.nat {r : Int} (h : Rt r) : ∃ n : Nat, r = n ∧ 1 ≤ n ∧ SqN n := by
  refine ⟨r.toNat, by have := h.1; omega, by have := h.1; omega, sqfN h.2 h.1⟩
theorem Rt.of_nat {n : Nat} (h1 : 1 ≤ n) (h2 : SqN n) : Rt n := by
  refine ⟨by omega, fun e he hd => ?_⟩
  apply h2 e.toNat (by omega)
  have : ((e.toNat * e.toNat : Nat) : Int) ∣ (n : Int) := by
    rw [Int.natCast_mul, Int.toNat_of_nonneg (by omega)]; exact hd
  exact Int.natCast_dvd_natCast.1 this
theorem Rt.r {a b : Int} (ha : Rt a) (hb : Rt b) : Rt (rS a b) := by
  obtain ⟨x, rfl, x1, x2⟩ := ha.nat
  obtain ⟨y, rfl, y1, y2⟩ := hb.nat
  rw [rS_nat]
  exact Rt.of_nat (r_pos x1 y1) (sqN_r x1 x2 y2)
theorem mulT_assoc {t u v : Int × Int} (ht : Rt t.2) (hu : Rt u.2) (hv : Rt v.2) : mulT (mulT t u) v = mulT (mulT u v) t := by
  obtain ⟨x, hx, x1, x2⟩ := ht.nat
  obtain ⟨y, hy, y1, y2⟩ := hu.nat
  obtain ⟨z, hz, z1, z2⟩ := hv.nat
  rw [mulT_eq, mulT_eq, mulT_eq, mulT_eq]
  dsimp only
  rw [hx, hy, hz]
  obtain ⟨e1, e2⟩ := assoc_nat x1 y1 z1 x2 y2 z2
  rw [e2]
  congr 1
  calc t.1 * u.1 * gS x y * v.1 * gS (rS x y) z = (t.1 * u.1 * v.1) * (gS x y * gS (rS x y) z) := by grind
    _ = (t.1 * u.1 * v.1) * (gS y z * gS (rS y z) x) := by rw [e1]
    _ = u.1 * v.1 * gS y z * t.1 * gS (rS y z) x := by grind

/-! Double and triple sums. -/
theorem sum_add (l : List (Int × Int)) (f g : Int × Int → Int) : (l.map fun t => f t + g t).sum = (l.map f).sum + (l.map g).sum := by
  induction l with
  | nil => simp
  | cons t l ih => simp only [List.map_cons, List.sum_cons, ih]; omega
theorem sum_zero (l : List (Int × Int)) : (l.map fun _ => (0 : Int)).sum = 0 := by
  induction l with
  | nil => rfl
  | cons t l ih => simp only [List.map_cons, List.sum_cons, ih]; rfl
theorem sum_swap (l m : List (Int × Int)) (f : Int × Int → Int × Int → Int) : (l.map fun t => (m.map fun u => f t u).sum).sum = (m.map fun u => (l.map fun t => f t u).sum).sum := by
  induction l with
  | nil => simp [sum_zero]
  | cons t l ih =>
    simp only [List.map_cons, List.sum_cons]
    rw [ih, sum_add]
def dl (r : Int) (p : Int × Int) : Int := if p.2 = r then p.1 else 0
theorem coef_sum (l : List (Int × Int)) (r : Int) : coefOf l r = (l.map (dl r)).sum := by
  induction l with
  | nil => rfl
  | cons t l ih => rw [coefOf_cons, ih, List.map_cons, List.sum_cons]; rfl
theorem prod_sum (f : Int × Int → Int) (lx ly : List (Int × Int)) : ((prodL lx ly).map f).sum = (lx.map fun t => (ly.map fun u => f (mulT t u)).sum).sum := by
  induction lx with
  | nil => rfl
  | cons t lx ih =>
    have e : prodL (t :: lx) ly = ly.map (mulT t) ++ prodL lx ly := by simp [prodL]
    rw [e, List.map_append, List.sum_append, ih, List.map_cons, List.sum_cons, List.map_map]
    rfl
theorem prod_comm (lx ly : List (Int × Int)) (r : Int) : coefOf (prodL lx ly) r = coefOf (prodL ly lx) r := by
  rw [coef_sum, coef_sum, prod_sum, prod_sum, sum_swap]
  simp only [mulT_comm]
theorem sum_congr {l : List (Int × Int)} {f g : Int × Int → Int} (h : ∀ t ∈ l, f t = g t) : (l.map f).sum = (l.map g).sum := by
  rw [List.map_congr_left h]
theorem prod_assoc {lx ly lz : List (Int × Int)} (hx : ∀ t ∈ lx, Rt t.2) (hy : ∀ t ∈ ly, Rt t.2) (hz : ∀ t ∈ lz, Rt t.2) (r : Int) :
    coefOf (prodL (prodL lx ly) lz) r = coefOf (prodL (prodL ly lz) lx) r := by
  rw [coef_sum, coef_sum, prod_sum, prod_sum, prod_sum, prod_sum]
  have e : (lx.map fun t => (ly.map fun u => (lz.map fun v => dl r (mulT (mulT t u) v)).sum).sum).sum = (lx.map fun t => (ly.map fun u => (lz.map fun v => dl r (mulT (mulT u v) t)).sum).sum).sum :=
    sum_congr fun t ht => sum_congr fun u hu => sum_congr fun v hv => by rw [mulT_assoc (hx t ht) (hy u hu) (hz v hv)]
  rw [e, sum_swap]
  refine sum_congr fun u _ => ?_
  rw [sum_swap]
end Go.Proofs.YtkjclafbpocabaaGreatDoor

/-! ## T7 -/
namespace Go.Proofs.YtkjclafbpocabaaGreatDoor
open Go.RowKit Go.Maps Go.Shelf Go.Sort

/-! The laws of a field, at what the operations give. -/
theorem Vld.rts {d : Int} {l : List (Int × Int)} (h : Vld d l) : ∀ t ∈ l, Rt t.2 := fun t ht => ⟨(h.rt t ht).1, h.sq t ht⟩
theorem Vld.bool {d : Int} {l : List (Int × Int)} (h : Vld d l) : validF d l = true := by
  simp only [validF, Bool.and_eq_true, decide_eq_true_eq, List.all_eq_true]
  refine ⟨?_, h.len, ?_, ascF_yes l _ h.asc (Nat.le_refl _), h.dv⟩
  · have := h.d1; have := h.d2
    simp only [inB, Bool.and_eq_true, decide_eq_true_eq]; omega
  · intro t ht
    have a := h.cf t ht
    have b := h.rt t ht
    have c := h.sq t ht
    simp only [isTermF, isPartF, inB, Bool.and_eq_true, decide_eq_true_eq]
    exact ⟨⟨⟨⟨⟨by omega, by omega⟩, by omega, by omega⟩, a.2.2⟩, by omega⟩, (sqfB_iff t.2 b.1 b.2).2 c⟩
theorem den_ne {dx dy : Int} (hx : 1 ≤ dx) (hy : 1 ≤ dy) : dx * dy ≠ 0 := by
  have := Int.mul_pos (a := dx) (b := dy) (by omega) (by omega); omega
theorem combC_at (dx dy s : Int) (lx ly : List (Int × Int)) (r : Int) : combC dx lx dy ly s r = dy * coefOf lx r + s * dx * coefOf ly r := by
  simp [combC, plusC, zeroC]
theorem comb_rts {dx dy s : Int} {lx ly l : List (Int × Int)} (hx : Vld dx lx) (hy : Vld dy ly) (h : IsTerms (combC dx lx dy ly s) l) : ∀ t ∈ l, 1 ≤ t.2 ∧ SqF t.2 := by
  intro t ht
  have h0 := (h.2 t.1 t.2).1 ht
  rw [combC_at] at h0
  by_cases a : coefOf lx t.2 = 0
  · by_cases b : coefOf ly t.2 = 0
    · rw [a, b] at h0; simp at h0; omega
    · obtain ⟨u, hu, e⟩ := coefOf_ne b
      rw [← e]; exact hy.rts u hu
  · obtain ⟨u, hu, e⟩ := coefOf_ne a
    rw [← e]; exact hx.rts u hu
theorem prod_rts {dx dy : Int} {lx ly l : List (Int × Int)} (hx : Vld dx lx) (hy : Vld dy ly) (h : IsTerms (plusC zeroC 1 (prodL lx ly)) l) : ∀ t ∈ l, 1 ≤ t.2 ∧ SqF t.2 := by
  intro t ht
  have h0 := (h.2 t.1 t.2).1 ht
  have hne : coefOf (prodL lx ly) t.2 ≠ 0 := by
    intro e
    simp [plusC, zeroC, e] at h0
    omega
  obtain ⟨u, hu, e⟩ := coefOf_ne hne
  rw [← e]
  unfold prodL at hu
  obtain ⟨a, ha, hu⟩ := List.mem_flatMap.1 hu
  obtain ⟨b, hb, rfl⟩ := List.mem_map.1 hu
  rw [mulT_eq]
  exact (hx.rts a ha).r (hy.rts b hb)
/-- A sum without an error. -/
theorem addF_ok {s dx dy : Int} {lx ly : List (Int × Int)} (hx : Vld dx lx) (hy : Vld dy ly) {d : Int} {l : List (Int × Int)} (h : addF s dx lx dy ly (d, l, 0)) :
    Vld d l ∧ ∀ r, coefOf l r * (dx * dy) = (dy * coefOf lx r + s * dx * coefOf ly r) * d := by
  unfold addF at h
  rw [if_pos ⟨hx.bool, hy.bool⟩] at h
  obtain ⟨m, hm, he⟩ := h
  have := fin_ok (den_ne hx.d1 hy.d1) hm (comb_rts hx hy hm) he.symm
  simpa only [combC_at] using this
/-- The sum of two numbers, where a valid number is it. -/
theorem addF_of {s dx dy : Int} {lx ly : List (Int × Int)} (hx : Vld dx lx) (hy : Vld dy ly) {q : Int × List (Int × Int) × Int} (h : addF s dx lx dy ly q) {d : Int} {l : List (Int × Int)} (hv : Vld d l)
    (hc : ∀ r, coefOf l r * (dx * dy) = (dy * coefOf lx r + s * dx * coefOf ly r) * d) : q = (d, l, 0) := by
  unfold addF at h
  rw [if_pos ⟨hx.bool, hy.bool⟩] at h
  obtain ⟨m, hm, rfl⟩ := h
  exact fin_of (den_ne hx.d1 hy.d1) hm hv (fun r => by rw [combC_at]; exact hc r)
theorem mulF_ok {dx dy : Int} {lx ly : List (Int × Int)} (hx : Vld dx lx) (hy : Vld dy ly) {d : Int} {l : List (Int × Int)} (h : mulF dx lx dy ly (d, l, 0)) :
    Vld d l ∧ ∀ r, coefOf l r * (dx * dy) = coefOf (prodL lx ly) r * d := by
  unfold mulF at h
  rw [if_pos ⟨hx.bool, hy.bool⟩] at h
  obtain ⟨m, hm, he⟩ := h
  have := fin_ok (den_ne hx.d1 hy.d1) hm (prod_rts hx hy hm) he.symm
  refine ⟨this.1, fun r => ?_⟩
  have e := this.2 r
  simpa [plusC, zeroC] using e
theorem mulF_of {dx dy : Int} {lx ly : List (Int × Int)} (hx : Vld dx lx) (hy : Vld dy ly) {q : Int × List (Int × Int) × Int} (h : mulF dx lx dy ly q) {d : Int} {l : List (Int × Int)} (hv : Vld d l)
    (hc : ∀ r, coefOf l r * (dx * dy) = coefOf (prodL lx ly) r * d) : q = (d, l, 0) := by
  unfold mulF at h
  rw [if_pos ⟨hx.bool, hy.bool⟩] at h
  obtain ⟨m, hm, rfl⟩ := h
  exact fin_of (den_ne hx.d1 hy.d1) hm hv (fun r => by rw [hc r]; simp [plusC, zeroC])
theorem add_comm_F {dx dy : Int} {lx ly : List (Int × Int)} (hx : Vld dx lx) (hy : Vld dy ly) {p q : Int × List (Int × Int) × Int} (h1 : addF 1 dx lx dy ly p) (h2 : addF 1 dy ly dx lx q) : p = q := by
  unfold addF at h1 h2
  rw [if_pos ⟨hx.bool, hy.bool⟩] at h1
  rw [if_pos ⟨hy.bool, hx.bool⟩] at h2
  obtain ⟨m, hm, rfl⟩ := h1
  obtain ⟨n, hn, rfl⟩ := h2
  have e : combC dx lx dy ly 1 = combC dy ly dx lx 1 := funext fun r => by rw [combC_at, combC_at]; grind
  rw [e] at hm
  rw [terms_uniq hm hn, Int.mul_comm]
theorem mul_comm_F {dx dy : Int} {lx ly : List (Int × Int)} (hx : Vld dx lx) (hy : Vld dy ly) {p q : Int × List (Int × Int) × Int} (h1 : mulF dx lx dy ly p) (h2 : mulF dy ly dx lx q) : p = q := by
  unfold mulF at h1 h2
  rw [if_pos ⟨hx.bool, hy.bool⟩] at h1
  rw [if_pos ⟨hy.bool, hx.bool⟩] at h2
  obtain ⟨m, hm, rfl⟩ := h1
  obtain ⟨n, hn, rfl⟩ := h2
  have e : plusC zeroC 1 (prodL lx ly) = plusC zeroC 1 (prodL ly lx) := funext fun r => by simp only [plusC, prod_comm lx ly r]
  rw [e] at hm
  rw [terms_uniq hm hn, Int.mul_comm]
/-- Two valid numbers with one value. -/
theorem same_value {D d1 d2 : Int} {c : Int → Int} {l1 l2 : List (Int × Int)} (hD : D ≠ 0) (h1 : Vld d1 l1) (h2 : Vld d2 l2) (e1 : ∀ r, coefOf l1 r * D = c r * d1) (e2 : ∀ r, coefOf l2 r * D = c r * d2) : d1 = d2 ∧ l1 = l2 :=
  num_uniq h1 h2 fun r => by
    apply Int.eq_of_mul_eq_mul_right hD
    have a := e1 r
    have b := e2 r
    calc coefOf l1 r * d2 * D = (coefOf l1 r * D) * d2 := by grind
      _ = c r * d1 * d2 := by rw [a]
      _ = (c r * d2) * d1 := by grind
      _ = coefOf l2 r * D * d1 := by rw [b]
      _ = coefOf l2 r * d1 * D := by grind
theorem add_assoc_F {dx dy dz da db dp dq : Int} {lx ly lz la lb lp lq : List (Int × Int)} (hx : Vld dx lx) (hy : Vld dy ly) (hz : Vld dz lz)
    (h1 : addF 1 dx lx dy ly (da, la, 0)) (h2 : addF 1 da la dz lz (dp, lp, 0)) (h3 : addF 1 dy ly dz lz (db, lb, 0)) (h4 : addF 1 db lb dx lx (dq, lq, 0)) : dp = dq ∧ lp = lq := by
  obtain ⟨va, ea⟩ := addF_ok hx hy h1
  obtain ⟨vp, ep⟩ := addF_ok va hz h2
  obtain ⟨vb, eb⟩ := addF_ok hy hz h3
  obtain ⟨vq, eq⟩ := addF_ok vb hx h4
  have na : da ≠ 0 := by have := va.d1; omega
  have nb : db ≠ 0 := by have := vb.d1; omega
  refine same_value (D := dx * dy * dz) (c := fun r => dy * dz * coefOf lx r + dx * dz * coefOf ly r + dx * dy * coefOf lz r) (by have := den_ne hx.d1 hy.d1; have := hz.d1; exact Int.mul_ne_zero (by assumption) (by omega)) vp vq ?_ ?_
  · intro r
    apply Int.eq_of_mul_eq_mul_right na
    have a := ea r
    have b := ep r
    generalize coefOf lp r = P at *
    generalize coefOf la r = A at *
    generalize coefOf lx r = X at *
    generalize coefOf ly r = Y at *
    generalize coefOf lz r = Z at *
    clear h1 h2 h3 h4 ea ep eb eq hx hy hz va vp vb vq
    calc P * (dx * dy * dz) * da = (P * (da * dz)) * (dx * dy) := by grind
      _ = (dz * (A * (dx * dy)) + da * Z * (dx * dy)) * dp := by rw [b]; grind
      _ = _ := by rw [a]; grind
  · intro r
    apply Int.eq_of_mul_eq_mul_right nb
    have a := eb r
    have b := eq r
    generalize coefOf lq r = P at *
    generalize coefOf lb r = A at *
    generalize coefOf lx r = X at *
    generalize coefOf ly r = Y at *
    generalize coefOf lz r = Z at *
    clear h1 h2 h3 h4 ea ep eb eq hx hy hz va vp vb vq
    calc P * (dx * dy * dz) * db = (P * (db * dx)) * (dy * dz) := by grind
      _ = (dx * (A * (dy * dz)) + db * X * (dy * dz)) * dq := by rw [b]; grind
      _ = _ := by rw [a]; grind
theorem sub_back_F {dx dy da dp : Int} {lx ly la lp : List (Int × Int)} (hx : Vld dx lx) (hy : Vld dy ly) (h1 : addF 1 dx lx dy ly (da, la, 0)) (h2 : addF (-1) da la dy ly (dp, lp, 0)) : dp = dx ∧ lp = lx := by
  obtain ⟨va, ea⟩ := addF_ok hx hy h1
  obtain ⟨vp, ep⟩ := addF_ok va hy h2
  have na : da ≠ 0 := by have := va.d1; omega
  have ny : dy ≠ 0 := by have := hy.d1; omega
  refine num_uniq vp hx fun r => ?_
  apply Int.eq_of_mul_eq_mul_right (Int.mul_ne_zero na (Int.mul_ne_zero ny ny))
  have a := ea r
  have b := ep r
  generalize coefOf lp r = P at *
  generalize coefOf la r = A at *
  generalize coefOf lx r = X at *
  generalize coefOf ly r = Y at *
  clear h1 h2 ea ep hx hy va vp
  calc P * dx * (da * (dy * dy)) = (P * (da * dy)) * (dx * dy) := by grind
    _ = (dy * (A * (dx * dy)) + -1 * da * Y * (dx * dy)) * dp := by rw [b]; grind
    _ = X * dp * (da * (dy * dy)) := by rw [a]; grind
theorem mul_assoc_F {dx dy dz da db dp dq : Int} {lx ly lz la lb lp lq : List (Int × Int)} (hx : Vld dx lx) (hy : Vld dy ly) (hz : Vld dz lz)
    (h1 : mulF dx lx dy ly (da, la, 0)) (h2 : mulF da la dz lz (dp, lp, 0)) (h3 : mulF dy ly dz lz (db, lb, 0)) (h4 : mulF db lb dx lx (dq, lq, 0)) : dp = dq ∧ lp = lq := by
  obtain ⟨va, ea⟩ := mulF_ok hx hy h1
  obtain ⟨vp, ep⟩ := mulF_ok va hz h2
  obtain ⟨vb, eb⟩ := mulF_ok hy hz h3
  obtain ⟨vq, eq⟩ := mulF_ok vb hx h4
  have na : da ≠ 0 := by have := va.d1; omega
  have nb : db ≠ 0 := by have := vb.d1; omega
  refine same_value (D := dx * dy * dz) (c := fun r => coefOf (prodL (prodL lx ly) lz) r) (by have := den_ne hx.d1 hy.d1; have := hz.d1; exact Int.mul_ne_zero (by assumption) (by omega)) vp vq ?_ ?_
  · intro r
    apply Int.eq_of_mul_eq_mul_right na
    have a := prod_ratio ea lz r
    have b := ep r
    generalize coefOf lp r = P at *
    generalize coefOf (prodL la lz) r = A at *
    generalize coefOf (prodL (prodL lx ly) lz) r = X at *
    clear h1 h2 h3 h4 ea ep eb eq hx hy hz va vp vb vq
    calc P * (dx * dy * dz) * da = (P * (da * dz)) * (dx * dy) := by grind
      _ = (A * (dx * dy)) * dp := by rw [b]; grind
      _ = _ := by rw [a]; grind
  · intro r
    apply Int.eq_of_mul_eq_mul_right nb
    have a := prod_ratio eb lx r
    have b := eq r
    rw [prod_assoc hx.rts hy.rts hz.rts r]
    generalize coefOf lq r = P at *
    generalize coefOf (prodL lb lx) r = A at *
    generalize coefOf (prodL (prodL ly lz) lx) r = X at *
    clear h1 h2 h3 h4 ea ep eb eq hx hy hz va vp vb vq
    calc P * (dx * dy * dz) * db = (P * (db * dx)) * (dy * dz) := by grind
      _ = (A * (dy * dz)) * dq := by rw [b]; grind
      _ = _ := by rw [a]; grind
theorem prodL_append (l l' m : List (Int × Int)) (r : Int) : coefOf (prodL (l ++ l') m) r = coefOf (prodL l m) r + coefOf (prodL l' m) r := by
  rw [coef_prodL, coef_prodL, coef_prodL, lin_append]
theorem prodL_mulS (a : Int) (l m : List (Int × Int)) (r : Int) : coefOf (prodL (mulS a l) m) r = a * coefOf (prodL l m) r := by
  rw [coef_prodL, coef_prodL, lin_mulS]
/-- A product of a sum is the sum of the products. -/
theorem distrib_F {dx dy dz da dp du dv : Int} {lx ly lz la lp lu lv : List (Int × Int)} {q : Int × List (Int × Int) × Int} (hx : Vld dx lx) (hy : Vld dy ly) (hz : Vld dz lz)
    (h1 : addF 1 dx lx dy ly (da, la, 0)) (h2 : mulF da la dz lz (dp, lp, 0)) (h3 : mulF dx lx dz lz (du, lu, 0)) (h4 : mulF dy ly dz lz (dv, lv, 0)) (h5 : addF 1 du lu dv lv q) : q = (dp, lp, 0) := by
  obtain ⟨va, ea⟩ := addF_ok hx hy h1
  obtain ⟨vp, ep⟩ := mulF_ok va hz h2
  obtain ⟨vu, eu⟩ := mulF_ok hx hz h3
  obtain ⟨vv, ev⟩ := mulF_ok hy hz h4
  refine addF_of vu vv h5 vp fun r => ?_
  have na : da ≠ 0 := by have := va.d1; omega
  have nx : dx ≠ 0 := by have := hx.d1; omega
  have ny : dy ≠ 0 := by have := hy.d1; omega
  have nz : dz ≠ 0 := by have := hz.d1; omega
  have a := prod_ratio (l := la) (l' := mulS dy lx ++ mulS dx ly) (A := dx * dy) (B := da) (fun s => by rw [coef_append, coef_mulS, coef_mulS, ea]; grind) lz r
  rw [prodL_append, prodL_mulS, prodL_mulS] at a
  have b := ep r
  have c := eu r
  have d := ev r
  apply Int.eq_of_mul_eq_mul_right (Int.mul_ne_zero (Int.mul_ne_zero na nz) (Int.mul_ne_zero nx ny))
  generalize coefOf lp r = P at *
  generalize coefOf lu r = U at *
  generalize coefOf lv r = V at *
  generalize coefOf (prodL la lz) r = A at *
  generalize coefOf (prodL lx lz) r = X at *
  generalize coefOf (prodL ly lz) r = Y at *
  clear h1 h2 h3 h4 h5 ea ep eu ev hx hy hz va vp vu vv
  calc P * (du * dv) * (da * dz * (dx * dy)) = (P * (da * dz)) * (dx * dy) * (du * dv) := by grind
    _ = (A * (dx * dy)) * dp * (du * dv) := by rw [b]; grind
    _ = (dy * (X * du) * dv + dx * (Y * dv) * du) * da * dp := by rw [a]; grind
    _ = (dy * (U * (dx * dz)) * dv + dx * (V * (dy * dz)) * du) * da * dp := by rw [c, d]
    _ = _ := by grind
end Go.Proofs.YtkjclafbpocabaaGreatDoor
