import Derived.Test.YtopnlcjbklmicaaK50
import Derived.WalkKit
import Derived.WalkSpells
import Derived.WalkLawsBesides
import Derived.Deep.QuietTactic
import Derived.BigQuiet
import Derived.Lib.Hide
import Derived.WalkSmall
import Derived.Maps.OwnSet
import Derived.Maps.RangeWalk
import Derived.Deep.RegionWith
import Derived.Deep.RegionHeld3
import Derived.Deep.DrawnRows
import Derived.Deep.DeepCutAuto
import Derived.OneCell
import Derived.KernelRfl
import Derived.Laws.StructEq
import Derived.StillTailTactics
import Derived.Laws.Externs
import Derived.RangeFuncBox
import Derived.Outline
import Derived.RangeFuncNested
import Derived.RangeFuncBound
import Derived.RangeFuncCalls
import Derived.RangeFuncLeaves
import Derived.Shelf.RegionOpen
import Derived.OwnWalkIn
import Derived.TacticsInMore
import Derived.LoopNIn
import Derived.LoopIn
import Derived.Test.YtopnlcjbklmicaaProg
namespace Go.Proofs.Ytopnlcjbklmicaa
open Go.RowKit Go.Maps Go.Shelf
set_option linter.unusedVariables false
set_option linter.unusedSimpArgs false
/-- The load on a brick. -/
def loadAt (rows : List (List (Nat × Nat))) (t b : Nat) : Nat × Nat := (rows[t]?.getD [])[b]?.getD (0, 1)
/-- Whether a brick is crushed. -/
def crushP (ts : List (List Int × List Int)) (rows : List (List (Nat × Nat))) (bears : List Int) (t b : Nat) : Bool :=
  decide ((bears[t]?.getD 0) * ((cellsL (ts[t]?.getD ([], [])).1 b).length : Int) * ((loadAt rows t b).2 : Int) < ((loadAt rows t b).1 : Int))
def pressP (rows : List (List (Nat × Nat))) (t b : Nat) : Bool := decide (0 < (loadAt rows t b).1)
/-- One place is ahead of another one, or the same. -/
def le2 (t b t' b' : Nat) : Prop := t < t' ∨ (t = t' ∧ b ≤ b')
theorem firstB_unique {ts : List (List Int × List Int)} {p : Nat → Nat → Bool} {r s : Option (Nat × Nat)} (h : FirstB ts p r) (k : FirstB ts p s) : r = s := by
  cases r with
  | none =>
    cases s with
    | none => rfl
    | some q => obtain ⟨t, b⟩ := q; obtain ⟨k1, k2, k3, _⟩ := k; rw [h t k1 b k2] at k3; cases k3
  | some q =>
    obtain ⟨t, b⟩ := q
    obtain ⟨h1, h2, h3, h4, h5⟩ := h
    cases s with
    | none => rw [k t h1 b h2] at h3; cases h3
    | some q =>
      obtain ⟨t', b'⟩ := q
      obtain ⟨k1, k2, k3, k4, k5⟩ := k
      rcases Nat.lt_trichotomy t t' with e | e | e
      · rw [k5 t e b h2] at h3; cases h3
      · subst e
        rcases Nat.lt_trichotomy b b' with e | e | e
        · rw [k4 b e] at h3; cases h3
        · rw [e]
        · rw [h4 b' e] at k3; cases k3
      · rw [h5 t' e b' k2] at k3; cases k3
/-- The first brick of a part is no earlier one. -/
theorem firstB_sub {ts : List (List Int × List Int)} {p q : Nat → Nat → Bool} {t b : Nat} {s : Option (Nat × Nat)} (hpq : ∀ t b, t < ts.length → b < (ts[t]?.getD ([], [])).2.length → p t b = true → q t b = true) (h : FirstB ts p (some (t, b))) (k : FirstB ts q s) : ∃ t' b', s = some (t', b') ∧ le2 t' b' t b := by
  obtain ⟨h1, h2, h3, h4, h5⟩ := h
  have h6 := hpq t b h1 h2 h3
  cases s with
  | none => rw [k t h1 b h2] at h6; cases h6
  | some r =>
    obtain ⟨t', b'⟩ := r
    obtain ⟨k1, k2, k3, k4, k5⟩ := k
    refine ⟨t', b', rfl, ?_⟩
    rcases Nat.lt_trichotomy t t' with e | e | e
    · rw [k5 t e b h2] at h6; cases h6
    · subst e
      exact .inr ⟨rfl, Classical.byContradiction fun hb => by rw [k4 b (by omega)] at h6; cases h6⟩
    · exact .inl e
theorem sumR_bound {f : Nat → Rat} {B : Rat} : ∀ {l : List Nat}, (∀ x ∈ l, f x ≤ B) → sumR f l ≤ l.length * B
  | [], _ => by simp [sumR]
  | x :: l, h => by
    have h1 := h x (by simp)
    have h2 := sumR_bound (l := l) (fun y hy => h y (by simp [hy]))
    simp only [sumR, List.length_cons, Rat.natCast_add]
    grind
/-- What bears all that there is. -/
theorem weight_most {ts : List (List Int × List Int)} (hl : ts.length ≤ 8) (hn : ∀ t, t < ts.length → nbAt ts t ≤ 36) (hw : ∀ t, t < ts.length → ∀ b, b < nbAt ts t → wtAt ts t b ≤ 1000) : sumR (wsum ts) (List.range ts.length) ≤ (288000 : Nat) := by
  have h1 : ∀ t ∈ List.range ts.length, wsum ts t ≤ (36000 : Nat) := fun t ht => by
    have ht := List.mem_range.1 ht
    have h2 : wsum ts t ≤ ((List.range (nbAt ts t)).length : Rat) * ((1000 : Nat) : Rat) := sumR_bound fun b hb => by exact_mod_cast hw t ht b (List.mem_range.1 hb)
    rw [List.length_range] at h2
    refine Rat.le_trans h2 ?_
    have h3 : nbAt ts t * 1000 ≤ 36000 := by have := hn t ht; omega
    exact_mod_cast h3
  have h2 := sumR_bound h1
  rw [List.length_range] at h2
  refine Rat.le_trans h2 ?_
  have h3 : ts.length * 36000 ≤ 288000 := by omega
  exact_mod_cast h3
theorem full_bears {ts : List (List Int × List Int)} {N : Nat} {rows : List (List (Nat × Nat))} {fl : List (Nat × Nat)} (hT : ∀ t, t < ts.length → TierV ts N t) (h : loadsF ts N = (rows, fl, 0)) (hl : ts.length ≤ 8) (hn : ∀ t, t < ts.length → nbAt ts t ≤ 36) (hw : ∀ t, t < ts.length → ∀ b, b < nbAt ts t → wtAt ts t b ≤ 1000)
    {r : Option (Nat × Nat)} (hr : FirstB ts (crushP ts rows (List.replicate ts.length 1000000)) r) : r = none := by
  refine firstB_unique hr fun t ht b hb => ?_
  obtain ⟨_, _, _, h4⟩ := loadsF_val hT h
  have h5 := (h4 t ht).le b hb
  have h6 := (h4 t ht).cop b hb
  have h7 := Rat.le_trans h5 (weight_most hl hn hw)
  unfold crushP
  rw [decide_eq_false_iff_not]
  have e : (List.replicate ts.length (1000000 : Int))[t]?.getD 0 = 1000000 := by simp [ht]
  rw [e]
  have h8 : val (loadAt rows t b) ≤ ((288000 : Nat) : Rat) / ((1 : Nat) : Rat) := by
    rw [show ((288000 : Nat) : Rat) / ((1 : Nat) : Rat) = ((288000 : Nat) : Rat) by rw [show ((1 : Nat) : Rat) = 1 by rfl]; grind]; exact h7
  have h9 := (le_cross _ _ _ _ h6.1 (by decide)).1 h8
  have h10 : 1 ≤ (cellsL (ts[t]?.getD ([], [])).1 b).length := by
    have := (hT t ht).rs b hb
    unfold restsL at this
    exact Nat.le_trans this (List.length_filter_le _ _)
  generalize (cellsL (ts[t]?.getD ([], [])).1 b).length = n at h10 ⊢
  have h11 : (loadAt rows t b).1 ≤ 288000 * (loadAt rows t b).2 := by rw [Nat.mul_one] at h9; exact h9
  generalize loadAt rows t b = x at h11 ⊢
  have h12 : 288000 * x.2 ≤ 1000000 * n * x.2 := Nat.mul_le_mul (by omega) (Nat.le_refl _)
  intro h13
  have h14 : ((1000000 : Nat) : Int) * (n : Int) * (x.2 : Int) < (x.1 : Int) := h13
  generalize (1000000 : Nat) = M at h14 h12
  have h15 : M * n * x.2 < x.1 := by exact_mod_cast h14
  omega
theorem none_bears (ts : List (List Int × List Int)) (rows : List (List (Nat × Nat))) : crushP ts rows (List.replicate ts.length 0) = pressP rows := by
  funext t b
  unfold crushP pressP
  have e : (List.replicate ts.length (0 : Int))[t]?.getD 0 = 0 := by
    by_cases ht : t < ts.length <;> simp [ht]
  rw [e]
  simp
theorem some_bears {ts : List (List Int × List Int)} {rows : List (List (Nat × Nat))} {bears : List Int} (hb : ∀ x ∈ bears, 0 ≤ x) (t b : Nat) (h : crushP ts rows bears t b = true) : pressP rows t b = true := by
  unfold crushP at h
  unfold pressP
  rw [decide_eq_true_eq] at h ⊢
  have h1 : 0 ≤ bears[t]?.getD 0 := by
    by_cases ht : t < bears.length
    · rw [List.getElem?_eq_getElem ht]; exact hb _ (List.getElem_mem ht)
    · rw [List.getElem?_eq_none (by omega)]; exact Int.le_refl _
  have h2 : 0 ≤ (bears[t]?.getD 0) * ((cellsL (ts[t]?.getD ([], [])).1 b).length : Int) * ((loadAt rows t b).2 : Int) := Int.mul_nonneg (Int.mul_nonneg h1 (by omega)) (by omega)
  omega
/-- The first of the bricks from one on. -/
def FirstL (nb : Nat → Nat) (len : Nat) (p : Nat → Nat → Bool) (k i : Nat) : Option (Nat × Nat) → Prop
  | none => ∀ t b, le2 k i t b → t < len → b < nb t → p t b = false
  | some (t, b) => le2 k i t b ∧ t < len ∧ b < nb t ∧ p t b = true ∧ ∀ t' b', le2 k i t' b' → t' < len → b' < nb t' → p t' b' = true → le2 t b t' b'
theorem firstL_end (nb : Nat → Nat) (len : Nat) (p : Nat → Nat → Bool) : FirstL nb len p len 0 none := fun t b h ht => by
  unfold le2 at h; omega
theorem firstL_row {nb : Nat → Nat} {len : Nat} {p : Nat → Nat → Bool} {k : Nat} {r : Option (Nat × Nat)} (h : FirstL nb len p (k + 1) 0 r) : FirstL nb len p k (nb k) r := by
  cases r with
  | none => exact fun t b hl ht hb => h t b (by unfold le2 at hl ⊢; rcases hl with e | ⟨rfl, e⟩ <;> omega) ht hb
  | some q =>
    obtain ⟨t, b⟩ := q
    obtain ⟨h1, h2, h3, h4, h5⟩ := h
    refine ⟨by unfold le2 at h1 ⊢; omega, h2, h3, h4, fun t' b' hl ht hb => h5 t' b' (by unfold le2 at hl ⊢; rcases hl with e | ⟨rfl, e⟩ <;> omega) ht hb⟩
theorem firstL_no {nb : Nat → Nat} {len : Nat} {p : Nat → Nat → Bool} {k i : Nat} {r : Option (Nat × Nat)} (h : FirstL nb len p k (i + 1) r) (hp : p k i = false) : FirstL nb len p k i r := by
  cases r with
  | none =>
    intro t b hl ht hb
    by_cases e : t = k ∧ b = i
    · rw [e.1, e.2]; exact hp
    · exact h t b (by unfold le2 at hl ⊢; omega) ht hb
  | some q =>
    obtain ⟨t, b⟩ := q
    obtain ⟨h1, h2, h3, h4, h5⟩ := h
    refine ⟨by unfold le2 at h1 ⊢; omega, h2, h3, h4, fun t' b' hl ht hb hpt => ?_⟩
    by_cases e : t' = k ∧ b' = i
    · rw [e.1, e.2, hp] at hpt; cases hpt
    · exact h5 t' b' (by unfold le2 at hl ⊢; omega) ht hb hpt
theorem firstL_yes {nb : Nat → Nat} {len : Nat} {p : Nat → Nat → Bool} {k i : Nat} (hp : p k i = true) (hk : k < len) (hi : i < nb k) : FirstL nb len p k i (some (k, i)) :=
  ⟨.inr ⟨rfl, Nat.le_refl _⟩, hk, hi, hp, fun _ _ hl _ _ _ => hl⟩
theorem firstL_first {ts : List (List Int × List Int)} {p : Nat → Nat → Bool} {r : Option (Nat × Nat)} (h : FirstL (nbAt ts) ts.length p 0 0 r) : FirstB ts p r := by
  have h0 : ∀ t b, le2 0 0 t b := fun t b => by unfold le2; omega
  cases r with
  | none => exact fun t ht b hb => h t b (h0 t b) ht hb
  | some q =>
    obtain ⟨t, b⟩ := q
    obtain ⟨_, h2, h3, h4, h5⟩ := h
    refine ⟨h2, h3, h4, fun b' hb => ?_, fun t' ht b' hb => ?_⟩
    · refine Bool.eq_false_iff.2 fun e => ?_
      have := h5 t b' (h0 _ _) h2 (by omega) e
      unfold le2 at this; omega
    · refine Bool.eq_false_iff.2 fun e => ?_
      have := h5 t' b' (h0 _ _) (by omega) hb e
      unfold le2 at this; omega
end Go.Proofs.Ytopnlcjbklmicaa
