/-
  Contracts of the program's own functions (and their plain mathematics), on the way to the law: each for all arguments that its hypotheses let.
-/
import Derived.Test.YtkjclafbpocabaaGreatDoorG27
import Derived.Test.YtkjclafbpocabaaGreatDoorG24
import Derived.Test.YtkjclafbpocabaaGreatDoorG26
import Derived.WalkKit
import Derived.WalkSpells
import Derived.WalkLawsBesides
import Derived.Deep.QuietTactic
import Derived.BigQuiet
import Derived.Lib.Hide
import Derived.WalkSmall
import Derived.Maps.OwnSet
import Derived.Maps.RangeWalk
import Derived.Deep.RegionWith
import Derived.Deep.RegionHeld3
import Derived.Deep.DrawnRows
import Derived.Deep.DeepCutAuto
import Derived.OneCell
import Derived.KernelRfl
import Derived.Laws.StructEq
import Derived.StillTailTactics
import Derived.Laws.Externs
import Derived.RangeFuncBox
set_option linter.unusedSimpArgs false
set_option linter.unusedVariables false

/-! ## W2 -/
namespace Go.Proofs.YtkjclafbpocabaaGreatDoor
open Go.RowKit Go.Maps Go.Shelf Go.Sort
theorem pos_one {c ρ : Int} (hc : 1 ≤ c) (hρ : 1 ≤ ρ) : Pos [(c, ρ)] := by
  refine ⟨2, ?_⟩
  have h1 : 1 ≤ isq ρ.toNat := le_isq (by omega)
  have h2 : 4 * isq ρ.toNat ≤ isq (ρ.toNat * 4 ^ 2) := le_isq (by
    have := (isq_spec ρ.toNat).1
    have e : 4 * isq ρ.toNat * (4 * isq ρ.toNat) = 16 * (isq ρ.toNat * isq ρ.toNat) := by grind
    omega)
  have e1 : absS [(c, ρ)] = c := by
    simp [absS, natT, Tw.sumA]
    omega
  have e2 : SQ 2 [(c, ρ)] = c * (isq (ρ.toNat * 4 ^ 2) : Nat) := by simp [SQ, lin, qZ, qD]
  rw [e1, e2]
  have := Int.mul_le_mul_of_nonneg_left (show (4 : Int) ≤ (isq (ρ.toNat * 4 ^ 2) : Nat) by omega) (show 0 ≤ c by omega)
  omega
theorem sg_one {c ρ : Int} (hc : 0 ≤ c) (hρ : 1 ≤ ρ) : ∃ n, Sg [(c, ρ)] n ∧ 0 ≤ n := by
  by_cases h : c = 0
  · subst h
    exact ⟨0, .inr (.inr ⟨rfl, fun r => by simp [coefOf]⟩), by omega⟩
  · exact ⟨1, .inl ⟨rfl, pos_one (by omega) hρ⟩, by omega⟩
theorem sg_two {x ρ y σ : Int} (hx : 0 ≤ x) (hρ : 1 ≤ ρ) (hy : 0 ≤ y) (hσ : 1 ≤ σ) : ∃ n, Sg [(x, ρ), (y, σ)] n ∧ 0 ≤ n ∧ (n = 0 → x = 0 ∧ y = 0) := by
  by_cases h : x = 0
  · subst h
    obtain ⟨n, hn, h0⟩ := sg_one hy hσ
    refine ⟨n, hn.ratio (A := 1) (B := 1) (by omega) (by omega) (fun r => by simp [coefOf]), h0, fun e => ⟨rfl, ?_⟩⟩
    subst e
    rcases hn with ⟨e, _⟩ | ⟨e, _⟩ | ⟨_, e⟩
    · omega
    · omega
    · have := e σ
      simpa [coefOf] using this
  · by_cases h2 : y = 0
    · subst h2
      exact ⟨1, Sg.ratio (l := [(x, ρ)]) (.inl ⟨rfl, pos_one (by omega) hρ⟩) (A := 1) (B := 1) (by omega) (by omega) (fun r => by simp [coefOf]), by omega, fun e => by omega⟩
    · have := Sg.add (l := [(x, ρ)]) (m := [(y, σ)]) (n := 1) (.inl ⟨rfl, pos_one (by omega) hρ⟩) (.inl ⟨rfl, pos_one (by omega) hσ⟩)
      exact ⟨1, this, by omega, fun e => by omega⟩
/-- The product of a sum and a difference. -/
theorem diff_coef (x ρ y σ : Int) (r : Int) (h1 : 1 ≤ ρ) (h2 : 1 ≤ σ) : coefOf (prodL [(x, ρ), (-y, σ)] [(x, ρ), (y, σ)]) r = coefOf [(x * x * ρ - y * y * σ, 1)] r := by
  simp only [prodL, List.flatMap_cons, List.flatMap_nil, List.map_cons, List.map_nil, List.append_nil, List.cons_append, List.nil_append, mulT_eq, gS_self h1, gS_self h2, rS_self h1, rS_self h2, gS_comm σ ρ, rS_comm σ ρ]
  simp only [coefOf, List.foldl_cons, List.foldl_nil]
  by_cases a : (1 : Int) = r
  · by_cases b : rS ρ σ = r
    · simp only [a, b, if_true]; grind
    · simp only [a, b, if_true, if_false]; grind
  · by_cases b : rS ρ σ = r
    · simp only [a, b, if_true, if_false]; grind
    · simp only [a, b, if_false]
/-- A difference of two roots, the first not less than the second, is not below 0. -/
theorem diff_sg {x ρ y σ n : Int} (hx : 0 ≤ x) (hy : 0 ≤ y) (hρ : Rt ρ) (hσ : Rt σ) (hle : y * y * σ ≤ x * x * ρ) (h : Sg [(x, ρ), (-y, σ)] n) : 0 ≤ n := by
  rcases h.range with rfl | rfl | rfl
  · exfalso
    obtain ⟨k, hk, hk0, hk1⟩ := sg_two hx hρ.1 hy hσ.1
    have hr : ∀ t ∈ [(x, ρ), (y, σ)], Rt t.2 := fun t ht => by
      simp at ht; rcases ht with rfl | rfl
      · exact hρ
      · exact hσ
    have hr' : ∀ t ∈ [(x, ρ), (-y, σ)], Rt t.2 := fun t ht => by
      simp at ht; rcases ht with rfl | rfl
      · exact hρ
      · exact hσ
    have hm := h.mul hk hr' hr
    obtain ⟨j, hj, hj0⟩ := sg_one (c := x * x * ρ - y * y * σ) (ρ := 1) (by omega) (by omega)
    have hj2 := hj.ratio (m := prodL [(x, ρ), (-y, σ)] [(x, ρ), (y, σ)]) (A := 1) (B := 1) (by omega) (by omega) (fun r => by rw [diff_coef x ρ y σ r hρ.1 hσ.1])
    have e := hm.uniq hj2
    by_cases hk2 : k = 0
    · obtain ⟨rfl, rfl⟩ := hk1 hk2
      have : Sg [((0 : Int), ρ), (-0, σ)] 0 := .inr (.inr ⟨rfl, fun r => by simp [coefOf]⟩)
      have := h.uniq this
      omega
    · omega
  · omega
  · omega
theorem sum_terms {d1 d2 : Int} {f1 f2 : Int × Int} (σ : Int) : plusC (plusC zeroC d2 [f1]) d1 [(σ, f2.2)] = coefOf [(d2 * f1.1, f1.2), (d1 * σ, f2.2)] := by
  funext r
  simp only [plusC, zeroC, coefOf, List.foldl_cons, List.foldl_nil]
  by_cases a : f1.2 = r <;> by_cases b : f2.2 = r <;> simp [a, b]
/-- What Root returns: its square is the number, and it is not below 0. -/
theorem root_ok {d : Int} {l : List (Int × Int)} (v : Vld d l) {d' : Int} {l' : List (Int × Int)} (h : RootP d l (d', l', 0)) : Vld d' l' ∧ (∀ r, coefOf (prodL l' l') r * d = coefOf l r * (d' * d')) ∧ 0 ≤ sgnZ l' := by
  unfold RootP at h
  rw [if_pos v.bool] at h
  split at h
  · simp at h
  split at h
  · simp at h
  rename_i hneg hbf
  split at h
  · simp at h
  rename_i hM
  have hb : (binF l).2.2 = true := by simpa using hbf
  obtain ⟨hM1, hM2⟩ : 0 ≤ rootM l ∧ isq (rootM l).toNat * isq (rootM l).toNat = (rootM l).toNat := by
    constructor
    · exact Int.not_lt.1 fun e => hM (.inl e)
    · exact Decidable.not_not.1 fun e => hM (.inr e)
  obtain ⟨f1, d1, f2, d2, h1, h2, t, ht, he⟩ := h
  obtain ⟨w, hw⟩ : ∃ w : Nat, isq (rootM l).toNat = w := ⟨_, rfl⟩
  rw [hw] at h1 h2 hM2
  have hww : (w : Int) * w = rootM l := by
    have : ((w * w : Nat) : Int) = ((rootM l).toNat : Int) := by rw [hM2]
    rw [Int.natCast_mul, Int.toNat_of_nonneg hM1] at this
    exact this
  have hd := v.d1
  obtain ⟨n1, p1, r1, k1, e1⟩ := frac_val h1 (by omega)
  obtain ⟨n2, p2, r2, k2, e2⟩ := frac_val h2 (by omega)
  have key := root_sq v hb hww h1 h2
  rw [sum_terms] at ht
  obtain ⟨s, hs⟩ : ∃ s, (if (binF l).2.1.1 < 0 then -f2.1 else f2.1) = s := ⟨_, rfl⟩
  have hs2 : s = f2.1 ∨ s = -f2.1 := by rw [← hs]; split <;> simp
  rw [hs] at ht key
  have hD : d1 * d2 ≠ 0 := Int.mul_ne_zero (by omega) (by omega)
  have hD1 : 1 ≤ d1 * d2 := by have := Int.mul_le_mul k1 k2 (by omega) (by omega); omega
  obtain ⟨v', e'⟩ := fin_ok hD ht (fun u hu => by
    have a := (ht.2 u.1 u.2).1 hu
    have hne : coefOf [(d2 * f1.1, f1.2), (d1 * s, f2.2)] u.2 ≠ 0 := by
      intro e; rw [e] at a; exact a.2 a.1.symm
    obtain ⟨z, hz, e⟩ := coefOf_ne hne
    simp at hz
    rw [← e]
    rcases hz with rfl | rfl
    · exact r1
    · exact r2) he.symm
  refine ⟨v', fun r => ?_, ?_⟩
  · have a1 := prod_ratio (l := l') (l' := [(d2 * f1.1, f1.2), (d1 * s, f2.2)]) (A := d1 * d2) (B := d') (fun r => e' r) l' r
    have a2 := prod_ratio (l := l') (l' := [(d2 * f1.1, f1.2), (d1 * s, f2.2)]) (A := d1 * d2) (B := d') (fun r => e' r) [(d2 * f1.1, f1.2), (d1 * s, f2.2)] r
    rw [prod_comm [(d2 * f1.1, f1.2), (d1 * s, f2.2)] l' r] at a1
    have k := key r
    have hDD : d1 * d2 * (d1 * d2) ≠ 0 := Int.mul_ne_zero hD hD
    apply Int.eq_of_mul_eq_mul_right hDD
    generalize coefOf (prodL l' l') r = P at *
    generalize coefOf (prodL l' [(d2 * f1.1, f1.2), (d1 * s, f2.2)]) r = Q at *
    generalize coefOf (prodL [(d2 * f1.1, f1.2), (d1 * s, f2.2)] [(d2 * f1.1, f1.2), (d1 * s, f2.2)]) r = R at *
    generalize coefOf l r = C at *
    generalize d1 * d2 = D at *
    calc P * d * (D * D) = (P * D) * (D * d) := by grind
      _ = (Q * d') * (D * d) := by rw [a1]
      _ = (Q * D) * (d' * d) := by grind
      _ = (R * d') * (d' * d) := by rw [a2]
      _ = (R * d) * (d' * d') := by grind
      _ = C * (D * D) * (d' * d') := by rw [k]
      _ = C * (d' * d') * (D * D) := by grind
  · have hsg := sign_sg v'
    have hd'1 := v'.d1
    have hsg2 := hsg.ratio (m := [(d2 * f1.1, f1.2), (d1 * s, f2.2)]) (A := d1 * d2) (B := d') (by omega) (by omega) (fun r => e' r)
    have x0 : 0 ≤ d2 * f1.1 := Int.mul_nonneg (by omega) p1
    have y0 : 0 ≤ d1 * f2.1 := Int.mul_nonneg (by omega) p2
    rcases hs2 with rfl | rfl
    · obtain ⟨k, hk, hk0, _⟩ := sg_two x0 r1.1 y0 r2.1
      have := hsg2.uniq hk
      omega
    · rw [show d1 * -f2.1 = -(d1 * f2.1) by grind] at hsg2
      refine diff_sg x0 y0 r1 r2 ?_ hsg2
      have q1 : d2 * f1.1 * (d2 * f1.1) * f1.2 * (2 * d) = (d1 * d2) * (d1 * d2) * ((binF l).1 + w) := by
        calc d2 * f1.1 * (d2 * f1.1) * f1.2 * (2 * d) = d2 * d2 * (f1.1 * f1.1 * f1.2 * (2 * d)) := by grind
          _ = d2 * d2 * (((binF l).1 + w) * (d1 * d1)) := by rw [e1]
          _ = _ := by grind
      have q2 : d1 * f2.1 * (d1 * f2.1) * f2.2 * (2 * d) = (d1 * d2) * (d1 * d2) * ((binF l).1 - w) := by
        calc d1 * f2.1 * (d1 * f2.1) * f2.2 * (2 * d) = d1 * d1 * (f2.1 * f2.1 * f2.2 * (2 * d)) := by grind
          _ = d1 * d1 * (((binF l).1 - w) * (d2 * d2)) := by rw [e2]
          _ = _ := by grind
      have q3 : (d1 * d2) * (d1 * d2) * ((binF l).1 - w) ≤ (d1 * d2) * (d1 * d2) * ((binF l).1 + w) := Int.mul_le_mul_of_nonneg_left (by omega) (Int.mul_nonneg (by omega) (by omega))
      rw [← q1, ← q2] at q3
      exact Int.le_of_mul_le_mul_right q3 (by omega)
/-- Root refuses by 'out of range' just what is below 0. -/
theorem root_range {d : Int} {l : List (Int × Int)} (v : Vld d l) {r : Int × List (Int × Int) × Int} (h : RootP d l r) : sgnZ l < 0 ↔ r.2.2 = 3 := by
  unfold RootP at h
  rw [if_pos v.bool] at h
  split at h
  · rename_i hn; subst h; simpa using hn
  rename_i hn
  refine ⟨fun e => absurd e hn, fun e => ?_⟩
  split at h
  · subst h; simp at e
  split at h
  · subst h; simp at e
  · obtain ⟨f1, d1, f2, d2, h1, h2, t, ht, rfl⟩ := h
    unfold finF at e
    dsimp only at e
    split at e
    · simp at e
    · split at e <;> simp at e
/-- The square of a root is the number, by Mul. -/
theorem root_back {d : Int} {l : List (Int × Int)} (v : Vld d l) {d' : Int} {l' : List (Int × Int)} (h : RootP d l (d', l', 0)) {q : Int × List (Int × Int) × Int} (hq : mulF d' l' d' l' q) : q = (d, l, 0) := by
  obtain ⟨v', e, _⟩ := root_ok v h
  exact mulF_of v' v' hq v (fun r => (e r).symm)
end Go.Proofs.YtkjclafbpocabaaGreatDoor

/-! ## W6 -/
namespace Go.Proofs.YtkjclafbpocabaaGreatDoor
open Go.RowKit Go.Maps Go.Shelf Go.Sort
/-! What follows of where both bounds lie. -/
/-- Both bounds of m times a number: m x lies strictly between them, or is both. -/
def BSpec (d m : Int) (l : List (Int × Int)) (low high : Int) : Prop :=
  (high = low + 1 ∧ Sg (extL m l (low * d)) 1 ∧ Sg (extL m l (high * d)) (-1)) ∨ (high = low ∧ Sg (extL m l (low * d)) 0)
theorem sg_int (c : Int) : Sg [(c, 1)] (if c < 0 then -1 else if c = 0 then 0 else 1) := by
  rcases Int.lt_or_le c 0 with h | h
  · rw [if_pos h]
    refine .inr (.inl ⟨rfl, ?_⟩)
    have := pos_one (c := -c) (ρ := 1) (by omega) (by omega)
    simpa [mulS] using this
  · rw [if_neg (by omega)]
    by_cases h0 : c = 0
    · subst h0; exact .inr (.inr ⟨rfl, fun r => by simp [coefOf]⟩)
    · rw [if_neg h0]
      exact .inl ⟨rfl, pos_one (by omega) (by omega)⟩
theorem sg_int_le {c n : Int} (h : Sg [(c, 1)] n) : (0 < c ↔ n = 1) ∧ (c = 0 ↔ n = 0) ∧ (c < 0 ↔ n = -1) := by
  have e := h.uniq (sg_int c)
  rcases Int.lt_or_le c 0 with h | h
  · rw [if_pos h] at e; omega
  · rw [if_neg (by omega)] at e
    by_cases h0 : c = 0
    · rw [if_pos h0] at e; omega
    · rw [if_neg h0] at e; omega
/-- The sum of what is not below 0. -/
theorem Sg.add_up {l m : List (Int × Int)} {a b : Int} (h : Sg l a) (g : Sg m b) (ha : 0 ≤ a) (hb : 0 ≤ b) : ∃ c, Sg (l ++ m) c ∧ 0 ≤ c ∧ (c = 0 → a = 0 ∧ b = 0) := by
  have ra := h.range
  have rb := g.range
  by_cases a0 : a = 0
  · subst a0
    rcases h with ⟨e, _⟩ | ⟨e, _⟩ | ⟨_, hz⟩
    · omega
    · omega
    · exact ⟨b, g.ratio (A := 1) (B := 1) (by omega) (by omega) (fun r => by rw [coef_append, hz]; simp), hb, fun e => ⟨rfl, e⟩⟩
  · by_cases b0 : b = 0
    · subst b0
      rcases g with ⟨e, _⟩ | ⟨e, _⟩ | ⟨_, hz⟩
      · omega
      · omega
      · exact ⟨a, h.ratio (A := 1) (B := 1) (by omega) (by omega) (fun r => by rw [coef_append, hz]; simp), ha, fun e => ⟨e, rfl⟩⟩
    · obtain rfl : a = 1 := by omega
      obtain rfl : b = 1 := by omega
      exact ⟨1, h.add g, by omega, fun e => by omega⟩
theorem Sg.times {l : List (Int × Int)} {n k : Int} (h : Sg l n) (hk : 0 < k) : Sg (mulS k l) n := h.ratio (A := k) (B := 1) hk (by omega) (fun r => by rw [coef_mulS]; grind)
/-- Bounds of multiples: k J is not above J'. -/
theorem ext_le {d m k : Int} {l : List (Int × Int)} (hd : 1 ≤ d) (hk : 1 ≤ k) {J J' s s' : Int} (h : Sg (extL m l (J * d)) s) (h' : Sg (extL (m * k) l (J' * d)) s') (hs : 0 ≤ s) (hs' : s' ≤ 0) : J * k ≤ J' ∧ (J * k = J' → s = 0 ∧ s' = 0) := by
  obtain ⟨c, hc, c0, c1⟩ := (h.times (k := k) (by omega)).add_up h'.neg hs (by omega)
  have hz : Sg [((J' - J * k) * d, 1)] c := hc.ratio (A := 1) (B := 1) (by omega) (by omega) (fun r => by
    rw [coef_append, coef_mulS, coef_mulS, ext_coef, ext_coef]
    by_cases h : r = 1
    · subst h; simp [coefOf]; grind
    · have h2 : ¬ (1 : Int) = r := fun e => h e.symm
      simp [coefOf, h, h2]; grind)
  have hi := sg_int_le hz
  have key : 0 ≤ (J' - J * k) * d ∧ ((J' - J * k) * d = 0 → c = 0) := ⟨by omega, fun e => hi.2.1.1 e⟩
  constructor
  · rcases Int.lt_or_le (J' - J * k) 0 with h | h
    · have := Int.mul_le_mul_of_nonneg_right (show J' - J * k ≤ -1 by omega) (show 0 ≤ d by omega)
      omega
    · omega
  · intro e
    have : J' - J * k = 0 := by omega
    have := c1 (key.2 (by rw [this]; simp))
    omega
theorem ext_ge {d m k : Int} {l : List (Int × Int)} (hd : 1 ≤ d) (hk : 1 ≤ k) {J J' s s' : Int} (h : Sg (extL m l (J * d)) s) (h' : Sg (extL (m * k) l (J' * d)) s') (hs : s ≤ 0) (hs' : 0 ≤ s') : J' ≤ J * k ∧ (J' = J * k → s = 0 ∧ s' = 0) := by
  obtain ⟨c, hc, c0, c1⟩ := h'.add_up (h.times (k := k) (by omega)).neg hs' (by omega)
  have hz : Sg [((J * k - J') * d, 1)] c := hc.ratio (A := 1) (B := 1) (by omega) (by omega) (fun r => by
    rw [coef_append, coef_mulS, coef_mulS, ext_coef, ext_coef]
    by_cases h : r = 1
    · subst h; simp [coefOf]; grind
    · have h2 : ¬ (1 : Int) = r := fun e => h e.symm
      simp [coefOf, h, h2]; grind)
  have hi := sg_int_le hz
  have key : 0 ≤ (J * k - J') * d ∧ ((J * k - J') * d = 0 → c = 0) := ⟨by omega, fun e => hi.2.1.1 e⟩
  constructor
  · rcases Int.lt_or_le (J * k - J') 0 with h | h
    · have := Int.mul_le_mul_of_nonneg_right (show J * k - J' ≤ -1 by omega) (show 0 ≤ d by omega)
      omega
    · omega
  · intro e
    have : J * k - J' = 0 := by omega
    have := c1 (key.2 (by rw [this]; simp))
    omega
/-- The bounds of a denominator that is k times as great are no wider. -/
theorem spec_scale {d m k : Int} {l : List (Int × Int)} (hd : 1 ≤ d) (hk : 1 ≤ k) {low high less more : Int} (h : BSpec d m l low high) (h' : BSpec d (m * k) l less more) : low * k ≤ less ∧ more ≤ high * k ∧ less ≤ more := by
  obtain ⟨s, hs, s0⟩ : ∃ s, Sg (extL m l (low * d)) s ∧ 0 ≤ s := by
    rcases h with ⟨_, h, _⟩ | ⟨_, h⟩
    · exact ⟨1, h, by omega⟩
    · exact ⟨0, h, by omega⟩
  obtain ⟨t, ht, t0⟩ : ∃ t, Sg (extL m l (high * d)) t ∧ t ≤ 0 := by
    rcases h with ⟨_, _, h⟩ | ⟨e, h⟩
    · exact ⟨-1, h, by omega⟩
    · exact ⟨0, by rw [e]; exact h, by omega⟩
  rcases h' with ⟨e, h1, h2⟩ | ⟨e, h1⟩
  · have a := ext_le hd hk hs h2 s0 (by omega)
    have b := ext_ge hd hk ht h1 t0 (by omega)
    have c : low * k ≠ more := fun e => by have := (a.2 e).2; omega
    have d : less ≠ high * k := fun e => by have := (b.2 e).2; omega
    omega
  · have a := ext_le hd hk hs h1 s0 (by omega)
    have b := ext_ge hd hk ht h1 t0 (by omega)
    omega
/-- A fraction in lowest terms. -/
theorem make_frac {m c : Int} (hm1 : 1 ≤ m) (hm2 : m ≤ 100000) (hc1 : -100000 ≤ c) (hc2 : c ≤ 100000) {r : Int × List (Int × Int) × Int} (h : makeF m [(c, 1)] r) : r.2.2 = 0 ∧ Vld r.1 r.2.1 ∧ ∀ q, coefOf r.2.1 q * m = coefOf [(c, 1)] q * r.1 := by
  have hp : isPartF (c, 1) = true := by simp [isPartF, inB]; omega
  have hb : inB m 1 100000 = true := by simp [inB]; omega
  unfold makeF at h
  rw [if_neg (by simp), if_pos ⟨hb, by simp [hp]⟩] at h
  obtain ⟨t, ht, rfl⟩ := h
  have hs1 : splitF 1 = (1, 1) := by decide
  have hcoef : ∀ q, plusC zeroC 1 (List.map mkT [(c, 1)]) q = coefOf [(c, 1)] q := fun q => by
    simp [plusC, zeroC, mkT, hs1]
  have hm0 : m ≠ 0 := by omega
  have one : Rt 1 := by
    have := Rt.of_nat (n := 1) (by omega) (by
      intro e he hd
      have := Nat.le_of_dvd (by omega) hd
      have := Nat.mul_le_mul he he
      omega)
    exact_mod_cast this
  have key : ∀ (d : Int) (l : List (Int × Int)), Vld d l → (∀ q, coefOf l q * m = coefOf [(c, 1)] q * d) → (finF m t).2.2 = 0 ∧ Vld (finF m t).1 (finF m t).2.1 ∧ ∀ q, coefOf (finF m t).2.1 q * m = coefOf [(c, 1)] q * (finF m t).1 := fun d l v e => by
    rw [fin_of hm0 ht v (fun q => by rw [hcoef]; exact e q)]
    exact ⟨rfl, v, e⟩
  by_cases h0 : c = 0
  · subst h0
    exact key 1 [] ⟨by omega, by omega, by simp, fun t ht => by simp at ht, fun t ht => by simp at ht, fun t ht => by simp at ht, fun i _ h => by simp at h, by decide⟩ (fun q => by simp [coefOf])
  · have hg : 1 ≤ (Int.gcd m c : Int) := by
      have := Int.gcd_pos_of_ne_zero_left c hm0
      omega
    obtain ⟨a, ha⟩ := Int.gcd_dvd_left m c
    obtain ⟨b, hb2⟩ := Int.gcd_dvd_right m c
    have hgc := Int.gcd_ediv_gcd_ediv_gcd_of_ne_zero_right (n := m) (m := c) h0
    generalize hG : (Int.gcd m c : Int) = g at *
    have e1 : m / g = a := by rw [ha]; exact Int.mul_ediv_cancel_left _ (by omega)
    have e2 : c / g = b := by rw [hb2]; exact Int.mul_ediv_cancel_left _ (by omega)
    rw [e1, e2] at hgc
    have ha1 : 1 ≤ a := by
      rcases Int.lt_or_le 0 a with y | y
      · omega
      · have : g * a ≤ g * 0 := Int.mul_le_mul_of_nonneg_left y (by omega)
        omega
    have ha2 : a ≤ m := by
      have : 1 * a ≤ g * a := Int.mul_le_mul_of_nonneg_right hg (by omega)
      omega
    have hb0 : b ≠ 0 := fun e => by rw [e] at hb2; simp at hb2; exact h0 hb2
    have hbc : (b.natAbs : Int) ≤ c.natAbs := by
      have e3 : c.natAbs = g.natAbs * b.natAbs := by rw [hb2]; exact Int.natAbs_mul g b
      have : 1 * b.natAbs ≤ g.natAbs * b.natAbs := Nat.mul_le_mul_right _ (by omega)
      omega
    refine key a [(b, 1)] ⟨ha1, by omega, by simp, fun t ht => ?_, fun t ht => ?_, fun t ht => ?_, fun i h1 h2 => ?_, ?_⟩ (fun q => ?_)
    · simp at ht; subst ht; dsimp only; omega
    · simp at ht; subst ht; dsimp only; omega
    · simp at ht; subst ht; exact one.2
    · simp at h2; omega
    · unfold dvF
      simp only [List.foldl_cons, List.foldl_nil, Int.gcd_zero_right]
      rw [← hgc]
      simp [Int.gcd]
    · rw [ha, hb2]
      simp only [coefOf, List.foldl_cons, List.foldl_nil]
      clear e1 e2 hgc hG ha hb2
      split
      · grind
      · simp
/-- How a number compares with its bounds. -/
theorem cmp_low {d m : Int} {l : List (Int × Int)} (v : Vld d l) (hm : 1 ≤ m) {J s da p : Int} {la : List (Int × Int)} (va : Vld da la) (ea : ∀ q, coefOf la q * m = coefOf [(J, 1)] q * da) (h : Sg (extL m l (J * d)) s) (hp : Sg (difL da la d l) p) : p = -s := by
  have hda := va.d1
  refine hp.uniq (h.neg.ratio (A := da) (B := m) (by omega) (by omega) (fun r => ?_))
  rw [coef_mulS, ext_coef, difL_coef]
  have e := ea r
  have e2 : (d * coefOf la r - da * coefOf l r) * m = d * (coefOf la r * m) - da * coefOf l r * m := by grind
  rw [e2, e]
  by_cases h1 : r = 1
  · subst h1; simp [coefOf]; grind
  · have h2 : ¬ (1 : Int) = r := fun e => h1 e.symm
    simp [coefOf, h1, h2]; grind
theorem cmp_high {d m : Int} {l : List (Int × Int)} (v : Vld d l) (hm : 1 ≤ m) {J s db q : Int} {lb : List (Int × Int)} (vb : Vld db lb) (eb : ∀ q, coefOf lb q * m = coefOf [(J, 1)] q * db) (h : Sg (extL m l (J * d)) s) (hq : Sg (difL d l db lb) q) : q = s := by
  have hdb := vb.d1
  refine hq.uniq (h.ratio (A := db) (B := m) (by omega) (by omega) (fun r => ?_))
  rw [ext_coef, difL_coef]
  have e := eb r
  have e2 : (db * coefOf l r - d * coefOf lb r) * m = db * coefOf l r * m - d * (coefOf lb r * m) := by grind
  rw [e2, e]
  by_cases h1 : r = 1
  · subst h1; simp [coefOf]; grind
  · have h2 : ¬ (1 : Int) = r := fun e => h1 e.symm
    simp [coefOf, h1, h2]; grind
/-- What Bounds gives, in its place. -/
theorem bounds_spec {d m : Int} {l : List (Int × Int)} (v : Vld d l) (hm1 : 1 ≤ m) (hm2 : m ≤ 1000000000) : (BoundsF d m l).2.2 = 0 ∧ BSpec d m l (BoundsF d m l).1 (BoundsF d m l).2.1 ∧ -(12800000 * m) - 1 ≤ (BoundsF d m l).1 ∧ (BoundsF d m l).1 ≤ 12800000 * m := by
  have hd := v.d1
  have hd2 := v.d2
  unfold BoundsF
  rw [if_pos v.bool, if_pos (by simp [inB]; omega)]
  by_cases hr : (binF l).2.2 = true ∧ (binF l).2.1.1 = 0
  · rw [if_pos hr]
    have hco : ∀ r, coefOf l r = if r = 1 then (binF l).1 else 0 := fun r => by rw [bin_coef v hr.1, hr.2]; simp
    have hbd := (bin_bd v).1
    obtain ⟨a, ha⟩ : ∃ a, (binF l).1 = a := ⟨_, rfl⟩
    rw [ha] at hco hbd
    rw [ha]
    dsimp only
    have hex : ∀ J s, Sg [(m * a - J * d, 1)] s → Sg (extL m l (J * d)) s := fun J s h => h.ratio (A := 1) (B := 1) (by omega) (by omega) (fun r => by
      rw [ext_coef, hco]
      by_cases h1 : r = 1
      · subst h1; simp [coefOf]
      · have h2 : ¬ (1 : Int) = r := fun e => h1 e.symm
        simp [coefOf, h1, h2])
    have hma := mul_abs_le a m 100000 1000000000 (by omega) (by omega) (by omega) (by omega)
    have hma1 : a * m ≤ 100000 * m := Int.mul_le_mul_of_nonneg_right hbd.2 (by omega)
    have hma2 : -100000 * m ≤ a * m := Int.mul_le_mul_of_nonneg_right hbd.1 (by omega)
    have e0 : -a * m = -(a * m) := by grind
    have e1 : m * a = a * m := Int.mul_comm _ _
    rw [e0]
    rw [e1] at hex
    generalize a * m = P at *
    have hdiv := Int.mul_ediv_add_emod P d
    have hmod1 := Int.emod_nonneg P (show d ≠ 0 by omega)
    have hmod2 := Int.emod_lt_of_pos P (show 0 < d by omega)
    obtain ⟨q, hq⟩ : ∃ q, P / d = q := ⟨_, rfl⟩
    obtain ⟨t, ht⟩ : ∃ t, P % d = t := ⟨_, rfl⟩
    rw [hq, ht] at hdiv
    rw [ht] at hmod1 hmod2
    have hqd : q * d = d * q := Int.mul_comm _ _
    have hqb : -(12800000 * m) - 1 ≤ q ∧ q ≤ 12800000 * m := by
      constructor
      · rcases Int.lt_or_le q (-(12800000 * m) - 1) with x | x
        · have h3 : q * d ≤ q * 1 := by
            have := Int.mul_le_mul_of_nonneg_left hd (show 0 ≤ -q by omega)
            grind
          omega
        · exact x
      · rcases Int.lt_or_le (12800000 * m) q with x | x
        · have h3 : q * 1 ≤ q * d := Int.mul_le_mul_of_nonneg_left hd (by omega)
          omega
        · exact x
    by_cases h0 : t = 0
    · have hn : -P / d = -q := by
        have : -P = d * -q := by rw [← hdiv, h0]; grind
        rw [this]
        exact Int.mul_ediv_cancel_left _ (by omega)
      rw [hq, hn]
      refine ⟨rfl, .inr ⟨by omega, hex q 0 ?_⟩, hqb⟩
      have : P - q * d = 0 := by omega
      rw [this]
      exact .inr (.inr ⟨rfl, fun r => by simp [coefOf]⟩)
    · have hn : -P / d = -q - 1 := by
        have e5 : -P = d * (-q - 1) + (d - t) := by rw [← hdiv]; grind
        rw [e5, Int.mul_add_ediv_left _ _ (by omega), Int.ediv_eq_zero_of_lt (by omega) (by omega)]
        omega
      rw [hq, hn]
      refine ⟨rfl, .inl ⟨by omega, hex q 1 ?_, ?_⟩, hqb⟩
      · exact .inl ⟨rfl, pos_one (by omega) (by omega)⟩
      · have e6 : -(-q - 1) = q + 1 := by omega
        show Sg (extL m l (-(-q - 1) * d)) (-1)
        rw [e6]
        refine hex (q + 1) (-1) (.inr (.inl ⟨rfl, ?_⟩))
        have e7 : (q + 1) * d = q * d + d := by grind
        have := pos_one (c := -(P - (q + 1) * d)) (ρ := 1) (by omega) (by omega)
        simpa [mulS] using this
  · rw [if_neg hr]
    obtain ⟨_, h1, h2, h3, h4⟩ := floor_sg v hm1 hm2 hr
    exact ⟨rfl, .inl ⟨rfl, h1, h2⟩, h3, h4⟩
end Go.Proofs.YtkjclafbpocabaaGreatDoor

/-! ## Q1 -/
namespace Go.Proofs.YtkjclafbpocabaaGreatDoor
open Go.RowKit Go.Maps
/-- Numbers that are fractions: their one coefficient is that of the root of 1. -/
def qL (c : Int) : List (Int × Int) := if c = 0 then [] else [(c, 1)]
theorem qL_coef (c r : Int) : coefOf (qL c) r = if r = 1 then c else 0 := by
  unfold qL
  by_cases h : c = 0
  · rw [if_pos h, h]; simp [coefOf]
  · rw [if_neg h]
    by_cases hr : r = 1
    · subst hr; simp [coefOf]
    · have h2 : ¬ (1 : Int) = r := fun e => hr e.symm
      simp [coefOf, hr, h2]
theorem qL_len (c : Int) : (qL c).length ≤ 1 := by unfold qL; split <;> simp
theorem one_coef (c r : Int) : coefOf [(c, 1)] r = if r = 1 then c else 0 := by
  by_cases hr : r = 1
  · subst hr; simp [coefOf]
  · have h2 : ¬ (1 : Int) = r := fun e => hr e.symm
    simp [coefOf, hr, h2]
/-- A valid number all of whose roots are 1 is a fraction. -/
theorem only_one {d : Int} {l : List (Int × Int)} (v : Vld d l) (h : ∀ q, q ≠ 1 → coefOf l q = 0) : l = qL (coefOf l 1) := by
  have ht : ∀ t ∈ l, t.2 = 1 := fun t ht => by
    by_cases e : t.2 = 1
    · exact e
    · have h0 := h t.2 e
      have h1 := (v.terms.2 t.1 t.2).1 ht
      rw [h0] at h1
      exact absurd h1.1.symm h1.2
  match l, v, ht with
  | [], _, _ => simp [qL, coefOf]
  | [t], v, ht =>
    obtain ⟨c, r⟩ := t
    obtain rfl : r = 1 := ht (c, r) (by simp)
    have hc := (v.cf (c, 1) (by simp)).2.2
    simp only at hc
    rw [one_coef]; simp [qL, hc]
  | t :: u :: us, v, ht =>
    have h1 := ht t (by simp)
    have h2 := ht u (by simp)
    have := (asc_pairwise _ v.asc)
    simp only [List.pairwise_cons] at this
    have := this.1 u (by simp)
    omega
theorem vld_one (n : Int) (h1 : -100000 ≤ n) (h2 : n ≤ 100000) : Vld 1 (qL n) := by
  refine ⟨by omega, by omega, by have := qL_len n; omega, fun t ht => ?_, fun t ht => ?_, fun t ht => ?_, ?_, ?_⟩
  · unfold qL at ht; split at ht <;> simp at ht; subst ht; simp only; omega
  · unfold qL at ht; split at ht <;> simp at ht; subst ht; simp only; omega
  · unfold qL at ht; split at ht <;> simp at ht; subst ht
    intro e he hd
    have := Int.le_of_dvd (by simp) hd
    have h4 : 2 * 2 ≤ e * e := Int.mul_le_mul he he (by omega) (by omega)
    simp at this; omega
  · intro i hi hl
    have := qL_len n
    omega
  · unfold qL; split <;> simp [dvF]
/-- What Make gives for one part with the root of 1. -/
theorem make_q {m c : Int} (hm1 : 1 ≤ m) (hm2 : m ≤ 100000) (hc1 : -100000 ≤ c) (hc2 : c ≤ 100000) {r : Int × List (Int × Int) × Int} (h : makeF m [(c, 1)] r) :
    ∃ d a, r = (d, qL a, 0) ∧ Vld d (qL a) ∧ a * m = c * d := by
  obtain ⟨h0, v, hc⟩ := make_frac hm1 hm2 hc1 hc2 h
  have ho : r.2.1 = qL (coefOf r.2.1 1) := only_one v (fun q hq => by
    have := hc q
    rw [one_coef, if_neg hq] at this
    rcases Int.mul_eq_zero.mp (by simpa using this) with h | h
    · exact h
    · omega)
  refine ⟨r.1, coefOf r.2.1 1, ?_, by rw [← ho]; exact v, ?_⟩
  · obtain ⟨a, b, e⟩ := r
    simp only at h0 ho ⊢
    rw [← ho, h0]
  · have := hc 1
    rw [one_coef] at this; simpa using this
theorem rel_one {d D m : Int} {l : List (Int × Int)} (v : Vld d l) (hD : D ≠ 0) (f : Int → Int) (h : ∀ r, coefOf l r * D = f r * d) (hf : ∀ r, r ≠ 1 → f r = 0) : ∃ c, l = qL c ∧ c * D = f 1 * d := by
  refine ⟨coefOf l 1, only_one v (fun q hq => ?_), h 1⟩
  have := h q
  rw [hf q hq] at this
  rcases Int.mul_eq_zero.mp (by simpa using this) with h | h
  · exact h
  · exact absurd h hD
theorem add_q {s d a e b d' : Int} {l' : List (Int × Int)} (va : Vld d (qL a)) (vb : Vld e (qL b)) (h : addF s d (qL a) e (qL b) (d', l', 0)) :
    ∃ c, l' = qL c ∧ Vld d' l' ∧ c * (d * e) = (e * a + s * d * b) * d' := by
  obtain ⟨v, hc⟩ := addF_ok va vb h
  obtain ⟨c, rfl, e1⟩ := rel_one (m := 0) v (den_ne va.d1 vb.d1) _ hc (fun r hr => by rw [qL_coef, qL_coef, if_neg hr, if_neg hr]; simp)
  exact ⟨c, rfl, v, by rw [e1, qL_coef, qL_coef]; simp⟩
theorem prod_q (a b r : Int) : coefOf (prodL (qL a) (qL b)) r = if r = 1 then a * b else 0 := by
  by_cases ha : a = 0
  · subst ha; simp [qL, prodL, coefOf]
  · by_cases hb : b = 0
    · subst hb; simp [qL, prodL, coefOf, ha]
    · have e : prodL (qL a) (qL b) = [(a * b, 1)] := by
        have e0 : prodL (qL a) (qL b) = [mulT (a, 1) (b, 1)] := by simp [qL, ha, hb, prodL]
        rw [e0, mulT_eq, gS_one, rS_one]; simp
      rw [e, one_coef]
theorem mul_q {d a e b d' : Int} {l' : List (Int × Int)} (va : Vld d (qL a)) (vb : Vld e (qL b)) (h : mulF d (qL a) e (qL b) (d', l', 0)) :
    ∃ c, l' = qL c ∧ Vld d' l' ∧ c * (d * e) = a * b * d' := by
  obtain ⟨v, hc⟩ := mulF_ok va vb h
  obtain ⟨c, rfl, e1⟩ := rel_one (m := 0) (f := fun r => coefOf (prodL (qL a) (qL b)) r) v (den_ne va.d1 vb.d1) hc (fun r hr => by rw [prod_q, if_neg hr])
  exact ⟨c, rfl, v, by rw [e1, prod_q]; simp⟩
/-- The sign of a fraction, and how two of them compare. -/
theorem sg_q {a n : Int} (h : Sg (qL a) n) : (0 < a ↔ n = 1) ∧ (a = 0 ↔ n = 0) ∧ (a < 0 ↔ n = -1) :=
  sg_int_le (h.ratio (A := 1) (B := 1) (by omega) (by omega) (fun r => by rw [one_coef, qL_coef]))
theorem cmp_q {d a e b n : Int} (va : Vld d (qL a)) (vb : Vld e (qL b)) (h : CmpN d (qL a) e (qL b) n) : (b * d < a * e ↔ n = 1) ∧ (a * e = b * d ↔ n = 0) ∧ (a * e < b * d ↔ n = -1) := by
  have hs := cmp_sg va vb h
  have h1 : Sg [(e * a - d * b, 1)] n := hs.ratio (A := 1) (B := 1) (by omega) (by omega) (fun r => by
    rw [difL_coef, qL_coef, qL_coef, one_coef]
    by_cases hr : r = 1
    · simp [hr]
    · simp [hr])
  have h2 := sg_int_le h1
  have e1 : e * a = a * e := Int.mul_comm _ _
  have e2 : d * b = b * d := Int.mul_comm _ _
  omega
theorem bin_q (a : Int) : binF (qL a) = (a, (0, 0), true) := by
  unfold qL
  by_cases h : a = 0
  · rw [if_pos h, h]; rfl
  · rw [if_neg h]; rfl
theorem bounds_q {d m a : Int} (v : Vld d (qL a)) (hm1 : 1 ≤ m) (hm2 : m ≤ 1000000000) : BoundsF d m (qL a) = (a * m / d, -((-a) * m / d), 0) := by
  unfold BoundsF
  rw [if_pos v.bool, if_pos (by simp [inB]; omega), bin_q]
  simp
theorem nmrF_q (a : Int) : nmrF (qL a) = (a, true) := by
  unfold qL
  by_cases h : a = 0
  · rw [if_pos h, h]; rfl
  · rw [if_neg h]; rfl
theorem nmrF_of {d : Int} {l : List (Int × Int)} (v : Vld d l) (h : (nmrF l).2 = true) : l = qL (nmrF l).1 := by
  match l, v, h with
  | [], _, _ => rfl
  | [t], v, h =>
    obtain ⟨c, r⟩ := t
    by_cases hr : r = 1
    · subst hr
      have hc := (v.cf (c, 1) (by simp)).2.2
      simp [nmrF, qL]; simpa using hc
    · simp [nmrF, hr] at h
  | t :: u :: us, _, h => simp [nmrF] at h
end Go.Proofs.YtkjclafbpocabaaGreatDoor
