/-
  Contracts of the program's own functions (and their plain mathematics), on the way to the law: each for all arguments that its hypotheses let.
-/
import Derived.Test.YtedpafdfecofnaaGreatDoorF42
set_option linter.unusedSimpArgs false
set_option linter.unusedVariables false

/-! ## D9 -/
namespace Go.Proofs.YtedpafdfecofnaaGreatDoor
/-- The root of a term's square, with so many decimal digits behind it, rounded down; and whether it is exact. -/
def decT (m : Nat) (t : Int × Int) : Nat := isq (t.2.toNat * t.1.natAbs * t.1.natAbs * 100 ^ m)
def decX (m : Nat) (t : Int × Int) : Bool := decide (decT m t * decT m t = t.2.toNat * t.1.natAbs * t.1.natAbs * 100 ^ m)
def decH (m : Nat) (t : Int × Int) : Nat := decT m t + (if decX m t = true then 0 else 1)
/-- The sum over the terms of one side: those below 0, or the others. -/
def sumB (s : Bool) (f : Int × Int → Nat) (l : List (Int × Int)) : Nat := (l.map fun t => if decide (t.1 < 0) = s then f t else 0).sum
theorem sumB_cons (s : Bool) (f : Int × Int → Nat) (t : Int × Int) (l : List (Int × Int)) : sumB s f (t :: l) = (if decide (t.1 < 0) = s then f t else 0) + sumB s f l := by simp [sumB]
theorem sumB_snoc (s : Bool) (f : Int × Int → Nat) (l : List (Int × Int)) (t : Int × Int) : sumB s f (l ++ [t]) = sumB s f l + (if decide (t.1 < 0) = s then f t else 0) := by simp [sumB]
theorem sumB_take (s : Bool) (f : Int × Int → Nat) (l : List (Int × Int)) (k : Nat) (h : k < l.length) : sumB s f (l.take (k + 1)) = sumB s f (l.take k) + (if decide ((l[k]?.getD (0, 0)).1 < 0) = s then f (l[k]?.getD (0, 0)) else 0) := by
  rw [List.take_succ_eq_append_getElem h, sumB_snoc]
  simp [h]
theorem lt_of_sq {a b : Nat} (h : a * a < b * b) : a < b := by
  apply Classical.byContradiction
  intro hc
  have := Nat.mul_le_mul (show b ≤ a by omega) (show b ≤ a by omega)
  omega
theorem sq_lt {a b : Nat} (h : a < b) : a * a < b * b := by
  have h1 := Nat.mul_le_mul (show a + 1 ≤ b by omega) (show a + 1 ≤ b by omega)
  have e : (a + 1) * (a + 1) = a * a + 2 * a + 1 := by grind
  omega
/-- A decimal bound and a binary one of the same root. -/
theorem dec_up {a R A X Q B : Nat} (hA : A * A ≤ R * a * a * (X * X)) (hQ : R * (B * B) < (Q + 1) * (Q + 1)) : A * B ≤ a * (Q + 1) * X := by
  apply Classical.byContradiction
  intro hc
  have h1 := sq_lt (show a * (Q + 1) * X < A * B by omega)
  have e1 : a * (Q + 1) * X * (a * (Q + 1) * X) = a * a * (X * X) * ((Q + 1) * (Q + 1)) := by grind
  have e2 : A * B * (A * B) = A * A * (B * B) := by grind
  have h2 : A * A * (B * B) ≤ R * a * a * (X * X) * (B * B) := Nat.mul_le_mul_right _ hA
  have e3 : R * a * a * (X * X) * (B * B) = a * a * (X * X) * (R * (B * B)) := by grind
  have h3 : a * a * (X * X) * (R * (B * B)) ≤ a * a * (X * X) * ((Q + 1) * (Q + 1)) := Nat.mul_le_mul_left _ (by omega)
  omega
theorem dec_low {a R H X Q B : Nat} (hH : R * a * a * (X * X) ≤ H * H) (hQ : Q * Q ≤ R * (B * B)) : a * Q * X ≤ H * B := by
  apply Classical.byContradiction
  intro hc
  have h1 := sq_lt (show H * B < a * Q * X by omega)
  have e1 : a * Q * X * (a * Q * X) = a * a * (X * X) * (Q * Q) := by grind
  have e2 : H * B * (H * B) = H * H * (B * B) := by grind
  have h2 : R * a * a * (X * X) * (B * B) ≤ H * H * (B * B) := Nat.mul_le_mul_right _ hH
  have e3 : R * a * a * (X * X) * (B * B) = a * a * (X * X) * (R * (B * B)) := by grind
  have h3 : a * a * (X * X) * (Q * Q) ≤ a * a * (X * X) * (R * (B * B)) := Nat.mul_le_mul_left _ hQ
  omega
theorem hundred (m : Nat) : 100 ^ m = 10 ^ m * 10 ^ m := by rw [← Nat.mul_pow]
theorem four_two (D : Nat) : 4 ^ D = 2 ^ D * 2 ^ D := by rw [← Nat.mul_pow]
/-- The bounds of one term. -/
theorem term_dec (m D : Nat) (t : Int × Int) :
    (decT m t : Int) * 2 ^ D ≤ (t.1.natAbs : Int) * (qZ D t.2 + 1) * 10 ^ m ∧ (t.1.natAbs : Int) * qZ D t.2 * 10 ^ m ≤ (decH m t : Int) * 2 ^ D ∧ (t.1.natAbs : Int) * qZ D t.2 * 10 ^ m ≤ ((decT m t : Int) + 1) * 2 ^ D ∧ (decH m t : Int) ≤ decT m t + 1 := by
  obtain ⟨q1, q2⟩ := isq_spec (t.2.toNat * 4 ^ D)
  have a1 : decT m t * decT m t ≤ t.2.toNat * t.1.natAbs * t.1.natAbs * 100 ^ m := (isq_spec _).1
  have a2 : t.2.toNat * t.1.natAbs * t.1.natAbs * 100 ^ m < (decT m t + 1) * (decT m t + 1) := (isq_spec _).2
  have hH : t.2.toNat * t.1.natAbs * t.1.natAbs * 100 ^ m ≤ decH m t * decH m t := by
    unfold decH
    split
    · rename_i h
      have := of_decide_eq_true (show decide (decT m t * decT m t = t.2.toNat * t.1.natAbs * t.1.natAbs * 100 ^ m) = true from h)
      rw [Nat.add_zero, this]; exact Nat.le_refl _
    · exact Nat.le_of_lt a2
  have hle : decH m t ≤ decT m t + 1 := by unfold decH; split <;> omega
  rw [four_two] at q1 q2
  rw [hundred] at a1 a2 hH
  have u := dec_up (A := decT m t) (Q := isq (t.2.toNat * (2 ^ D * 2 ^ D))) a1 q2
  have v := dec_low (H := decH m t) (Q := isq (t.2.toNat * (2 ^ D * 2 ^ D))) hH q1
  have w := dec_low (H := decT m t + 1) (Q := isq (t.2.toNat * (2 ^ D * 2 ^ D))) (Nat.le_of_lt a2) q1
  have hq : qZ D t.2 = ((isq (t.2.toNat * (2 ^ D * 2 ^ D)) : Nat) : Int) := by unfold qZ qD; rw [four_two]
  rw [hq]
  refine ⟨by exact_mod_cast u, by exact_mod_cast v, by exact_mod_cast w, by omega⟩
theorem absS_one (t : Int × Int) (l : List (Int × Int)) : absS (t :: l) = (t.1.natAbs : Int) + absS l := rfl
/-- Decimal sums against binary ones. -/
theorem dec_sums (m D : Nat) (l : List (Int × Int)) :
    ((2 : Int) ^ D * ((sumB false (decT m) l : Int) - (sumB true (decH m) l : Int)) ≤ 10 ^ m * (SQ D l + absS l) ∧ 10 ^ m * (SQ D l - absS l) - 2 ^ D * (l.length : Int) ≤ (2 : Int) ^ D * ((sumB false (decT m) l : Int) - (sumB true (decH m) l : Int))) ∧
    ((2 : Int) ^ D * ((sumB true (decT m) l : Int) - (sumB false (decH m) l : Int)) ≤ 10 ^ m * (-SQ D l + absS l) ∧ 10 ^ m * (-SQ D l - absS l) - 2 ^ D * (l.length : Int) ≤ (2 : Int) ^ D * ((sumB true (decT m) l : Int) - (sumB false (decH m) l : Int))) := by
  induction l with
  | nil =>
    have e1 : ∀ s f, sumB s f [] = 0 := fun s f => rfl
    have e2 : SQ D [] = 0 := rfl
    have e3 : absS [] = 0 := rfl
    simp only [e1, e2, e3, List.length_nil]
    simp
  | cons t l ih =>
    obtain ⟨⟨i1, i2⟩, i3, i4⟩ := ih
    obtain ⟨u, v, w, hh⟩ := term_dec m D t
    rw [SQ_cons, absS_one, List.length_cons, sumB_cons, sumB_cons, sumB_cons, sumB_cons]
    have hX : (1 : Int) ≤ 10 ^ m := Tw.pow_pos' (by decide) m
    have hB : (1 : Int) ≤ 2 ^ D := Tw.pow_pos' (by decide) D
    generalize hq : qZ D t.2 = q at *
    generalize hx : (10 : Int) ^ m = X at *
    generalize hb : (2 : Int) ^ D = B at *
    generalize SQ D l = S at *
    generalize absS l = K at *
    generalize (decT m t) = A at *
    generalize (decH m t) = H at *
    have hHB : (H : Int) * B ≤ (A + 1) * B := Int.mul_le_mul_of_nonneg_right hh (by omega)
    have hq0 : 0 ≤ q := by rw [← hq]; exact Int.natCast_nonneg _
    by_cases hc : t.1 < 0
    · have hc1 : decide (t.1 < 0) = true := decide_eq_true hc
      rw [hc1]
      simp only [if_neg (show ¬ (true = false) by decide), if_pos (show true = true from rfl), Int.natCast_add, Int.natCast_zero, Int.natCast_one, Nat.zero_add, Int.zero_add, Int.natCast_succ]
      have e : t.1 = -(t.1.natAbs : Int) := by omega
      generalize (t.1.natAbs : Int) = a at *
      rw [e]
      have ha : 0 ≤ a := by omega
      have haX : 0 ≤ a * X := Int.mul_nonneg ha (by omega)
      refine ⟨⟨?_, ?_⟩, ?_, ?_⟩ <;> grind
    · have hc1 : decide (t.1 < 0) = false := decide_eq_false hc
      rw [hc1]
      simp only [if_neg (show ¬ (false = true) by decide), if_pos (show false = false from rfl), Int.natCast_add, Int.natCast_zero, Int.natCast_one, Nat.zero_add, Int.zero_add, Int.natCast_succ]
      have e : t.1 = (t.1.natAbs : Int) := by omega
      generalize hgen : (t.1.natAbs : Int) = a at *
      rw [e]
      have ha : 0 ≤ a := by omega
      have haX : 0 ≤ a * X := Int.mul_nonneg ha (by omega)
      refine ⟨⟨?_, ?_⟩, ?_, ?_⟩ <;> grind
theorem pos_of_dec (m : Nat) (S : Nat → Int) (K : Int) (hK : 0 ≤ K) (d : Int) (hd : 1 ≤ d) (h : ∀ D : Nat, (2 : Int) ^ D * d ≤ 10 ^ m * (S D + K)) : ∃ D, K < S D := by
  have hX : (1 : Int) ≤ 10 ^ m := Tw.pow_pos' (by decide) m
  obtain ⟨D, hD⟩ := two_big (10 ^ m * (2 * K))
  refine ⟨D, ?_⟩
  have h1 := h D
  have hB : (1 : Int) ≤ 2 ^ D := Tw.pow_pos' (by decide) D
  have h2 : (2 : Int) ^ D * 1 ≤ 2 ^ D * d := Int.mul_le_mul_of_nonneg_left hd (by omega)
  have h3 : 10 ^ m * (2 * K) < 10 ^ m * (S D + K) := by omega
  have h4 := Int.lt_of_mul_lt_mul_left h3 (by omega)
  omega
theorem dec_pos_side (m : Nat) (l : List (Int × Int)) (h : sumB true (decH m) l < sumB false (decT m) l) : Pos l :=
  pos_of_dec m (fun D => SQ D l) (absS l) (absS_nonneg l) ((sumB false (decT m) l : Int) - (sumB true (decH m) l : Int)) (by omega) (fun D => (dec_sums m D l).1.1)
theorem absS_neg (l : List (Int × Int)) : absS (mulS (-1) l) = absS l := by
  induction l with
  | nil => rfl
  | cons t l ih =>
    show absS ((-1 * t.1, t.2) :: mulS (-1) l) = _
    rw [absS_one, absS_one, ih]
    dsimp only
    omega
theorem dec_neg_side (m : Nat) (l : List (Int × Int)) (h : sumB false (decH m) l < sumB true (decT m) l) : Pos (mulS (-1) l) := by
  unfold Pos
  rw [absS_neg]
  refine pos_of_dec m (fun D => SQ D (mulS (-1) l)) (absS l) (absS_nonneg l) ((sumB true (decT m) l : Int) - (sumB false (decH m) l : Int)) (by omega) (fun D => ?_)
  have := (dec_sums m D l).2.1
  rw [SQ_mulS]
  rw [show -1 * SQ D l + absS l = -SQ D l + absS l by omega]
  exact this
/-- As long as no side is seen, there are not many digits. -/
theorem dec_few (m D : Nat) (l : List (Int × Int)) (hl : l.length ≤ 8) (hfar : absS l < (SQ D l).natAbs) (h1 : sumB false (decT m) l ≤ sumB true (decH m) l) (h2 : sumB true (decT m) l ≤ sumB false (decH m) l) : 3 * m ≤ D + 3 := by
  have hX : (1 : Int) ≤ 10 ^ m := Tw.pow_pos' (by decide) m
  have hB : (1 : Int) ≤ 2 ^ D := Tw.pow_pos' (by decide) D
  have key : (10 : Int) ^ m ≤ 2 ^ D * 8 := by
    have a1 := (dec_sums m D l).1.2
    have a2 := (dec_sums m D l).2.2
    have b1 : (2 : Int) ^ D * ((sumB false (decT m) l : Int) - (sumB true (decH m) l : Int)) ≤ 0 := Int.mul_nonpos_of_nonneg_of_nonpos (by omega) (by omega)
    have b2 : (2 : Int) ^ D * ((sumB true (decT m) l : Int) - (sumB false (decH m) l : Int)) ≤ 0 := Int.mul_nonpos_of_nonneg_of_nonpos (by omega) (by omega)
    have b3 : (2 : Int) ^ D * (l.length : Int) ≤ 2 ^ D * 8 := Int.mul_le_mul_of_nonneg_left (by omega) (by omega)
    rcases Int.lt_or_le 0 (SQ D l) with hp | hp
    · have c : (10 : Int) ^ m * 1 ≤ 10 ^ m * (SQ D l - absS l) := Int.mul_le_mul_of_nonneg_left (by omega) (by omega)
      omega
    · have c : (10 : Int) ^ m * 1 ≤ 10 ^ m * (-SQ D l - absS l) := Int.mul_le_mul_of_nonneg_left (by omega) (by omega)
      omega
  apply Classical.byContradiction
  intro hc
  have n1 : (2 : Nat) ^ (D + 4) ≤ 10 ^ m := by
    have c1 : (2 : Nat) ^ (D + 4) ≤ 2 ^ (3 * m) := Nat.pow_le_pow_right (by decide) (by omega)
    have c2 : (2 : Nat) ^ (3 * m) = 8 ^ m := by rw [Nat.pow_mul]
    have c3 : (8 : Nat) ^ m ≤ 10 ^ m := Nat.pow_le_pow_left (by decide) _
    omega
  have n2 : (2 : Int) ^ (D + 4) ≤ 10 ^ m := by exact_mod_cast n1
  have e : (2 : Int) ^ (D + 4) = 2 ^ D * 16 := by rw [Int.pow_add]; rfl
  omega
end Go.Proofs.YtedpafdfecofnaaGreatDoor
