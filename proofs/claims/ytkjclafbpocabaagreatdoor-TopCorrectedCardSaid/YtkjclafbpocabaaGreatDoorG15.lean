/-
  Contracts of the program's own functions (and their plain mathematics), on the way to the law: each for all arguments that its hypotheses let.
-/
set_option linter.unusedSimpArgs false
set_option linter.unusedVariables false

/-! ## T1 -/
/-
  DERIVED. Plain mathematics: a sum of different square roots with whole coefficients is far from 0.
-/
namespace Go.Proofs.YtkjclafbpocabaaGreatDoor.Tw
/-- Sums of products of roots of the numbers of a list. -/
def Tow : List Nat → Type
  | [] => Int
  | _ :: r => Tow r × Tow r
def add : (l : List Nat) → Tow l → Tow l → Tow l
  | [], a, b => Int.add a b
  | _ :: r, a, b => (add r a.1 b.1, add r a.2 b.2)
def neg : (l : List Nat) → Tow l → Tow l
  | [], a => Int.neg a
  | _ :: r, a => (neg r a.1, neg r a.2)
def int : (l : List Nat) → Int → Tow l
  | [], a => a
  | _ :: r, a => (int r a, int r 0)
def smul : (l : List Nat) → Int → Tow l → Tow l
  | [], n, a => Int.mul n a
  | _ :: r, n, a => (smul r n a.1, smul r n a.2)
def mul : (l : List Nat) → Tow l → Tow l → Tow l
  | [], a, b => Int.mul a b
  | n :: r, a, b => (add r (mul r a.1 b.1) (smul r n (mul r a.2 b.2)), add r (mul r a.1 b.2) (mul r a.2 b.1))
instance (l : List Nat) : Add (Tow l) := ⟨add l⟩
instance (l : List Nat) : Neg (Tow l) := ⟨neg l⟩
instance (l : List Nat) : Mul (Tow l) := ⟨mul l⟩
instance (l : List Nat) : Sub (Tow l) := ⟨fun a b => a + -b⟩
instance (l : List Nat) : OfNat (Tow l) 0 := ⟨int l 0⟩
instance (l : List Nat) : OfNat (Tow l) 1 := ⟨int l 1⟩

variable {l r : List Nat} {n : Nat}
theorem ext {a b : Tow (n :: r)} (h1 : a.1 = b.1) (h2 : a.2 = b.2) : a = b := Prod.ext h1 h2
theorem add1 (a b : Tow (n :: r)) : (a + b).1 = a.1 + b.1 := rfl
theorem add2 (a b : Tow (n :: r)) : (a + b).2 = a.2 + b.2 := rfl
theorem neg1 (a : Tow (n :: r)) : (-a).1 = -a.1 := rfl
theorem neg2 (a : Tow (n :: r)) : (-a).2 = -a.2 := rfl
theorem mul1 (a b : Tow (n :: r)) : (a * b).1 = a.1 * b.1 + smul r n (a.2 * b.2) := rfl
theorem mul2 (a b : Tow (n :: r)) : (a * b).2 = a.1 * b.2 + a.2 * b.1 := rfl
theorem smul1 (k : Int) (a : Tow (n :: r)) : (smul (n :: r) k a).1 = smul r k a.1 := rfl
theorem smul2 (k : Int) (a : Tow (n :: r)) : (smul (n :: r) k a).2 = smul r k a.2 := rfl
theorem zero1 : (0 : Tow (n :: r)).1 = 0 := rfl
theorem zero2 : (0 : Tow (n :: r)).2 = 0 := rfl
theorem sub_def (a b : Tow l) : a - b = a + -b := rfl
theorem sub1 (a b : Tow (n :: r)) : (a - b).1 = a.1 - b.1 := rfl
theorem sub2 (a b : Tow (n :: r)) : (a - b).2 = a.2 - b.2 := rfl

theorem add_comm (a b : Tow l) : a + b = b + a := by
  induction l with
  | nil => exact Int.add_comm a b
  | cons n r ih => exact ext (ih _ _) (ih _ _)
theorem add_assoc (a b c : Tow l) : a + b + c = a + (b + c) := by
  induction l with
  | nil => exact Int.add_assoc a b c
  | cons n r ih => exact ext (ih _ _ _) (ih _ _ _)
instance : Std.Commutative (α := Tow l) (· + ·) := ⟨add_comm⟩
instance : Std.Associative (α := Tow l) (· + ·) := ⟨add_assoc⟩
theorem add_zero (a : Tow l) : a + 0 = a := by
  induction l with
  | nil => exact Int.add_zero a
  | cons n r ih => exact ext (ih _) (ih _)
theorem zero_add (a : Tow l) : 0 + a = a := by rw [add_comm, add_zero]
theorem add_neg (a : Tow l) : a + -a = 0 := by
  induction l with
  | nil => exact Int.add_right_neg a
  | cons n r ih => exact ext (ih _) (ih _)
theorem smul_add (k : Int) (a b : Tow l) : smul l k (a + b) = smul l k a + smul l k b := by
  induction l with
  | nil => exact Int.mul_add k a b
  | cons n r ih => exact ext (ih _ _) (ih _ _)
theorem add_smul (j k : Int) (a : Tow l) : smul l (j + k) a = smul l j a + smul l k a := by
  induction l with
  | nil => exact Int.add_mul j k a
  | cons n r ih => exact ext (ih _) (ih _)
theorem smul_smul (j k : Int) (a : Tow l) : smul l j (smul l k a) = smul l (j * k) a := by
  induction l with
  | nil => exact (Int.mul_assoc j k a).symm
  | cons n r ih => exact ext (ih _) (ih _)
theorem smul_comm (j k : Int) (a : Tow l) : smul l j (smul l k a) = smul l k (smul l j a) := by
  rw [smul_smul, smul_smul, Int.mul_comm]
theorem smul_zero (k : Int) : smul l k (0 : Tow l) = 0 := by
  induction l with
  | nil => exact Int.mul_zero k
  | cons n r ih => exact ext ih ih
theorem zero_smul (a : Tow l) : smul l 0 a = 0 := by
  induction l with
  | nil => exact Int.zero_mul a
  | cons n r ih => exact ext (ih _) (ih _)
theorem one_smul (a : Tow l) : smul l 1 a = a := by
  induction l with
  | nil => exact Int.one_mul a
  | cons n r ih => exact ext (ih _) (ih _)
theorem neg_eq (a : Tow l) : -a = smul l (-1) a := by
  induction l with
  | nil => exact Int.neg_eq_neg_one_mul a
  | cons n r ih => exact ext (ih _) (ih _)
theorem mul_comm (a b : Tow l) : a * b = b * a := by
  induction l with
  | nil => exact Int.mul_comm a b
  | cons n r ih =>
    refine ext ?_ ?_
    · rw [mul1, mul1, ih a.1, ih a.2]
    · rw [mul2, mul2, ih a.1, ih a.2, add_comm]
theorem mul_add (a b c : Tow l) : a * (b + c) = a * b + a * c := by
  induction l with
  | nil => exact Int.mul_add a b c
  | cons n r ih =>
    refine ext ?_ ?_ <;> (simp only [mul1, mul2, add1, add2, ih, smul_add]; ac_rfl)
theorem add_mul (a b c : Tow l) : (a + b) * c = a * c + b * c := by
  rw [mul_comm, mul_add, mul_comm c, mul_comm c]
theorem smul_mul (k : Int) (a b : Tow l) : smul l k a * b = smul l k (a * b) := by
  induction l with
  | nil => exact Int.mul_assoc k a b
  | cons n r ih =>
    refine ext ?_ ?_ <;> simp only [mul1, mul2, smul1, smul2, ih, smul_add, smul_comm k n]
theorem mul_smul (k : Int) (a b : Tow l) : a * smul l k b = smul l k (a * b) := by
  rw [mul_comm, smul_mul, mul_comm]
theorem mul_assoc (a b c : Tow l) : a * b * c = a * (b * c) := by
  induction l with
  | nil => exact Int.mul_assoc a b c
  | cons n r ih =>
    refine ext ?_ ?_ <;> (simp only [mul1, mul2, mul_add, add_mul, smul_mul, mul_smul, smul_add, ih]; ac_rfl)
instance : Std.Commutative (α := Tow l) (· * ·) := ⟨mul_comm⟩
instance : Std.Associative (α := Tow l) (· * ·) := ⟨mul_assoc⟩
theorem mul_zero (a : Tow l) : a * 0 = 0 := by
  rw [← zero_smul (0 : Tow l), mul_smul, zero_smul, zero_smul]
theorem zero_mul (a : Tow l) : 0 * a = 0 := by rw [mul_comm, mul_zero]
theorem int_smul (k : Int) : int l k = smul l k 1 := by
  induction l with
  | nil => exact (Int.mul_one k).symm
  | cons n r ih =>
    exact ext ih (smul_zero k).symm
theorem one_mul (a : Tow l) : 1 * a = a := by
  induction l with
  | nil => exact Int.one_mul a
  | cons n r ih =>
    refine ext ?_ ?_
    · show (1 : Tow r) * a.1 + smul r n ((0 : Tow r) * a.2) = a.1
      rw [ih, zero_mul, smul_zero, add_zero]
    · show (1 : Tow r) * a.2 + (0 : Tow r) * a.1 = a.2
      rw [ih, zero_mul, add_zero]
theorem mul_one (a : Tow l) : a * 1 = a := by rw [mul_comm, one_mul]
theorem sub_eq_zero {a b : Tow l} (h : a - b = 0) : a = b := by
  have h1 : a + -b + b = 0 + b := by rw [← sub_def, h]
  rwa [add_assoc, add_comm (-b), add_neg, add_zero, zero_add] at h1
theorem sub_self (a : Tow l) : a - a = 0 := add_neg a
theorem smul_eq_zero {k : Int} (hk : k ≠ 0) {a : Tow l} (h : smul l k a = 0) : a = 0 := by
  induction l with
  | nil => exact (Int.mul_eq_zero.1 h).resolve_left hk
  | cons n r ih =>
    have h1 : smul r k a.1 = 0 := congrArg Prod.fst h
    have h2 : smul r k a.2 = 0 := congrArg Prod.snd h
    exact Prod.ext (ih h1) (ih h2)
theorem smul_inj {k : Int} (hk : k ≠ 0) {a b : Tow l} (h : smul l k a = smul l k b) : a = b := by
  apply sub_eq_zero
  apply smul_eq_zero hk
  rw [sub_def, smul_add, neg_eq, smul_comm, ← neg_eq, h, ← sub_def, sub_self]

/-- No square, times whatever members of a list. -/
def Free : Nat → List Nat → Prop
  | m, [] => ¬ ∃ t, t * t = m
  | m, q :: r => Free m r ∧ Free (m * q) r
def Ind : List Nat → Prop
  | [] => True
  | q :: r => Free q r ∧ Ind r
theorem free_pos {m : Nat} {l : List Nat} (h : Free m l) : m ≠ 0 := by
  induction l generalizing m with
  | nil => intro e; subst e; exact h ⟨0, rfl⟩
  | cons q r ih => exact ih h.1

theorem sq_int {A B : Int} {m : Nat} (h : A * A = m * (B * B)) (hm : ¬ ∃ t, t * t = m) : B = 0 := by
  apply Classical.byContradiction
  intro hB
  have h1 : A.natAbs * A.natAbs = m * (B.natAbs * B.natAbs) := by
    have := congrArg Int.natAbs h
    simpa [Int.natAbs_mul] using this
  have hb : B.natAbs ≠ 0 := by omega
  generalize A.natAbs = a at h1
  generalize B.natAbs = b at h1 hb
  have hd : b ^ 2 ∣ a ^ 2 := ⟨m, by rw [Nat.pow_two, Nat.pow_two, h1, Nat.mul_comm]⟩
  have hd' : b ∣ a := (Nat.pow_dvd_pow_iff (by decide)).1 hd
  obtain ⟨t, rfl⟩ := hd'
  apply hm
  refine ⟨t, ?_⟩
  have h2 : (b * b) * (t * t) = (b * b) * m := by
    rw [Nat.mul_mul_mul_comm] at h1; rw [h1, Nat.mul_comm]
  exact Nat.eq_of_mul_eq_mul_left (Nat.mul_pos (by omega) (by omega)) h2

theorem eq_zero {a : Tow (n :: r)} (h1 : a.1 = 0) (h2 : a.2 = 0) : a = 0 := ext h1 h2
/-- The other conjugate, and the product of both. -/
def cj (a : Tow (n :: r)) : Tow (n :: r) := (a.1, -a.2)
def N (a : Tow (n :: r)) : Tow r := a.1 * a.1 - smul r n (a.2 * a.2)
theorem mul_neg (a b : Tow l) : a * -b = -(a * b) := by rw [neg_eq, mul_smul, ← neg_eq]
theorem neg_mul (a b : Tow l) : -a * b = -(a * b) := by rw [neg_eq, smul_mul, ← neg_eq]
theorem smul_neg (k : Int) (a : Tow l) : smul l k (-a) = -smul l k a := by rw [neg_eq, smul_comm, ← neg_eq]
theorem neg_zero : -(0 : Tow l) = 0 := by rw [neg_eq, smul_zero]
theorem cj1 (a : Tow (n :: r)) : (cj a).1 = a.1 := rfl
theorem cj2 (a : Tow (n :: r)) : (cj a).2 = -a.2 := rfl
theorem mul_cj1 (a : Tow (n :: r)) : (a * cj a).1 = N a := by
  rw [mul1, cj1, cj2, mul_neg, smul_neg]; rfl
theorem mul_cj2 (a : Tow (n :: r)) : (a * cj a).2 = 0 := by
  rw [mul2, cj1, cj2, mul_neg, mul_comm a.2, add_comm, add_neg]
theorem N_zero {a : Tow (n :: r)} (h : N a = 0) : a.1 * a.1 = smul r n (a.2 * a.2) := sub_eq_zero h

def Dom (l : List Nat) : Prop := ∀ A B : Tow l, A * B = 0 → A = 0 ∨ B = 0
def SqL (l : List Nat) : Prop := ∀ m : Nat, Free m l → ∀ A B : Tow l, A * A = smul l m (B * B) → A = 0 ∧ B = 0
theorem dom_sq (l : List Nat) (h : Ind l) : Dom l ∧ SqL l := by
  induction l with
  | nil =>
    have hd : Dom [] := fun A B h => Int.mul_eq_zero.1 h
    refine ⟨hd, fun m hm A B h => ?_⟩
    have hB : B = 0 := sq_int h hm
    subst hB
    rw [mul_zero, smul_zero] at h
    exact ⟨(hd A A h).elim id id, rfl⟩
  | cons q r ih =>
    obtain ⟨hq, hr⟩ := h
    obtain ⟨hd, hs⟩ := ih hr
    have hN : ∀ A : Tow (q :: r), N A = 0 → A = 0 := fun A h => by
      obtain ⟨h1, h2⟩ := hs q hq A.1 A.2 (N_zero h)
      exact ext h1 h2
    have hd' : Dom (q :: r) := fun A B h => by
      have h1 : (A * cj A) * (B * cj B) = 0 := by
        have : (A * cj A) * (B * cj B) = (A * B) * (cj A * cj B) := by ac_rfl
        rw [this, h, zero_mul]
      have h2 : N A * N B = 0 := by
        have := congrArg Prod.fst h1
        change ((A * cj A) * (B * cj B)).1 = 0 at this
        rw [mul1, mul_cj1, mul_cj1, mul_cj2, zero_mul, smul_zero, add_zero] at this
        exact this
      exact (hd _ _ h2).imp (hN A) (hN B)
    refine ⟨hd', fun m hm A B h => ?_⟩
    by_cases hB : N B = 0
    · have hB' := hN B hB
      subst hB'
      rw [mul_zero, smul_zero] at h
      exact ⟨(hd' A A h).elim id id, rfl⟩
    · exfalso
      have h1 : (A * cj B) * (A * cj B) = smul (q :: r) m ((B * cj B) * (B * cj B)) := by
        have e1 : (A * cj B) * (A * cj B) = (A * A) * (cj B * cj B) := by ac_rfl
        have e2 : (B * cj B) * (B * cj B) = (B * B) * (cj B * cj B) := by ac_rfl
        rw [e1, e2, h, smul_mul]
      generalize hC : A * cj B = C at h1
      have g1 : C.1 * C.1 + smul r q (C.2 * C.2) = smul r m (N B * N B) := by
        have := congrArg Prod.fst h1
        change (C * C).1 = (smul (q :: r) m ((B * cj B) * (B * cj B))).1 at this
        rw [smul1, mul1, mul1, mul_cj1, mul_cj2, zero_mul, smul_zero, add_zero] at this
        exact this
      have g2 : C.1 * C.2 = 0 := by
        have := congrArg Prod.snd h1
        change (C * C).2 = (smul (q :: r) m ((B * cj B) * (B * cj B))).2 at this
        rw [smul2, mul2, mul2, mul_cj2, mul_zero, zero_mul, add_zero, smul_zero, mul_comm C.2] at this
        apply smul_eq_zero (k := 2) (by decide)
        rw [show (2 : Int) = 1 + 1 from rfl, add_smul, one_smul]; exact this
      rcases hd _ _ g2 with g | g
      · rw [g, zero_mul, zero_add] at g1
        have g3 : (smul r q C.2) * (smul r q C.2) = smul r ((m * q : Nat) : Int) (N B * N B) := by
          rw [smul_mul, mul_smul, g1, smul_smul, Int.mul_comm, Int.natCast_mul]
        exact hB (hs _ hm.2 _ _ g3).2
      · rw [g, zero_mul, smul_zero, add_zero] at g1
        exact hB (hs _ hm.1 _ _ g1).2
/-- The root of a number whose prime factors are in a list. -/
def mono : (l : List Nat) → Nat → Tow l
  | [], _ => (1 : Int)
  | p :: r, t => if p ∣ t then ((0 : Tow r), mono r (t / p)) else (mono r t, (0 : Tow r))
def Good : List Nat → Nat → Prop
  | [], t => t = 1
  | p :: r, t => if p ∣ t then Good r (t / p) else Good r t
theorem mono_yes1 {p t : Nat} (h : p ∣ t) : (mono (p :: r) t).1 = 0 := by
  show (if p ∣ t then ((0 : Tow r), mono r (t / p)) else (mono r t, (0 : Tow r))).1 = _
  rw [if_pos h]
theorem mono_yes2 {p t : Nat} (h : p ∣ t) : (mono (p :: r) t).2 = mono r (t / p) := by
  show (if p ∣ t then ((0 : Tow r), mono r (t / p)) else (mono r t, (0 : Tow r))).2 = _
  rw [if_pos h]
theorem mono_no1 {p t : Nat} (h : ¬ p ∣ t) : (mono (p :: r) t).1 = mono r t := by
  show (if p ∣ t then ((0 : Tow r), mono r (t / p)) else (mono r t, (0 : Tow r))).1 = _
  rw [if_neg h]
theorem mono_no2 {p t : Nat} (h : ¬ p ∣ t) : (mono (p :: r) t).2 = 0 := by
  show (if p ∣ t then ((0 : Tow r), mono r (t / p)) else (mono r t, (0 : Tow r))).2 = _
  rw [if_neg h]
theorem good_yes {p t : Nat} (h : p ∣ t) : Good (p :: r) t = Good r (t / p) := if_pos h
theorem good_no {p t : Nat} (h : ¬ p ∣ t) : Good (p :: r) t = Good r t := if_neg h
theorem mono_sq {t : Nat} (h : Good l t) : mono l t * mono l t = smul l t 1 := by
  induction l generalizing t with
  | nil => have : t = 1 := h
           subst this; rfl
  | cons p r ih =>
    by_cases hp : p ∣ t
    · rw [good_yes hp] at h
      have := ih h
      refine ext ?_ ?_
      · rw [mul1, smul1, mono_yes1 hp, mono_yes2 hp, this, zero_mul, zero_add, smul_smul, ← Int.natCast_mul, Nat.mul_div_cancel' hp]; rfl
      · rw [mul2, smul2, mono_yes1 hp, zero_mul, mul_zero, add_zero]; exact (smul_zero _).symm
    · rw [good_no hp] at h
      have := ih h
      refine ext ?_ ?_
      · rw [mul1, smul1, mono_no1 hp, mono_no2 hp, this, zero_mul, smul_zero, add_zero]; rfl
      · rw [mul2, smul2, mono_no2 hp, zero_mul, mul_zero, add_zero]; exact (smul_zero _).symm
/-- A sum of coefficients times roots. -/
def comb (l : List Nat) : List (Int × Nat) → Tow l
  | [] => 0
  | t :: ts => smul l t.1 (mono l t.2) + comb l ts
theorem comb1 (p : Nat) (r : List Nat) (ts : List (Int × Nat)) : (comb (p :: r) ts).1 = comb r (ts.filter fun t => !decide (p ∣ t.2)) := by
  induction ts with
  | nil => rfl
  | cons t ts ih =>
    show (smul (p :: r) t.1 (mono (p :: r) t.2)).1 + (comb (p :: r) ts).1 = _
    rw [ih, smul1]
    by_cases hp : p ∣ t.2
    · rw [mono_yes1 hp, List.filter_cons_of_neg (by simp [hp]), smul_zero, zero_add]
    · rw [mono_no1 hp, List.filter_cons_of_pos (by simp [hp])]; rfl
theorem comb2 (p : Nat) (r : List Nat) (ts : List (Int × Nat)) : (comb (p :: r) ts).2 = comb r ((ts.filter fun t => decide (p ∣ t.2)).map fun t => (t.1, t.2 / p)) := by
  induction ts with
  | nil => rfl
  | cons t ts ih =>
    show (smul (p :: r) t.1 (mono (p :: r) t.2)).2 + (comb (p :: r) ts).2 = _
    rw [ih, smul2]
    by_cases hp : p ∣ t.2
    · rw [mono_yes2 hp, List.filter_cons_of_pos (by simp [hp])]; rfl
    · rw [mono_no2 hp, List.filter_cons_of_neg (by simp [hp]), smul_zero, zero_add]
/-- Roots are independent. -/
theorem comb_zero (l : List Nat) (hl : ∀ p ∈ l, p ≠ 0) (ts : List (Int × Nat)) (hg : ∀ t ∈ ts, Good l t.2) (hn : (ts.map (·.2)).Nodup) (h : comb l ts = 0) : ∀ t ∈ ts, t.1 = 0 := by
  induction l generalizing ts with
  | nil =>
    intro t ht
    have h1 : ∀ u ∈ ts, u.2 = 1 := hg
    match ts, hn, h with
    | [], _, _ => cases ht
    | [u], _, h =>
      have : t = u := by simpa using ht
      subst this
      have h2 : Int.add (Int.mul t.1 1) 0 = 0 := h
      have h3 : t.1 * 1 + 0 = 0 := h2
      omega
    | u :: v :: us, hn, _ =>
      have e1 := h1 u (by simp)
      have e2 := h1 v (by simp)
      simp [e1, e2] at hn
  | cons p r ih =>
    have hp0 : p ≠ 0 := hl p (by simp)
    have a1 := ih (fun q hq => hl q (by simp [hq])) (ts.filter fun t => !decide (p ∣ t.2)) (fun t ht => by
      rw [List.mem_filter] at ht
      have := hg t ht.1
      rwa [good_no (by simpa using ht.2)] at this) ((List.filter_sublist.map _).nodup hn) (by rw [← comb1, h]; rfl)
    have a2 := ih (fun q hq => hl q (by simp [hq])) ((ts.filter fun t => decide (p ∣ t.2)).map fun t => (t.1, t.2 / p)) (fun t ht => by
      obtain ⟨u, hu, rfl⟩ := List.mem_map.1 ht
      rw [List.mem_filter] at hu
      have := hg u hu.1
      rwa [good_yes (by simpa using hu.2)] at this) (by
        rw [List.map_map]
        have hs : ((ts.filter fun t => decide (p ∣ t.2)).map (·.2)).Nodup := (List.filter_sublist.map _).nodup hn
        rw [List.Nodup, List.pairwise_map] at hs ⊢
        refine hs.imp_of_mem ?_
        intro u v hu hv huv e
        rw [List.mem_filter] at hu hv
        apply huv
        have hu2 : p ∣ u.2 := by simpa using hu.2
        have hv2 : p ∣ v.2 := by simpa using hv.2
        have e' : u.2 / p = v.2 / p := e
        rw [← Nat.mul_div_cancel' hu2, ← Nat.mul_div_cancel' hv2, e']) (by rw [← comb2, h]; rfl)
    intro t ht
    by_cases hp : p ∣ t.2
    · exact a2 (t.1, t.2 / p) (List.mem_map.2 ⟨t, List.mem_filter.2 ⟨ht, by simpa using hp⟩, rfl⟩)
    · exact a1 t (List.mem_filter.2 ⟨ht, by simpa using hp⟩)

def Prim (p : Nat) : Prop := 2 ≤ p ∧ ∀ d, d ∣ p → d = 1 ∨ d = p
theorem prim_dvd {p a b : Nat} (hp : Prim p) (h : p ∣ a * b) : p ∣ a ∨ p ∣ b := by
  rcases hp.2 (Nat.gcd p a) (Nat.gcd_dvd_left p a) with h1 | h1
  · exact .inr ((Nat.Coprime.dvd_of_dvd_mul_left (show Nat.Coprime p a from h1)) h)
  · exact .inl (h1 ▸ Nat.gcd_dvd_right p a)
theorem free_prim {p m : Nat} {l : List Nat} (hp : Prim p) (h1 : p ∣ m) (h2 : ¬ p * p ∣ m) (hl : ∀ q ∈ l, ¬ p ∣ q) : Free m l := by
  induction l generalizing m with
  | nil =>
    rintro ⟨t, rfl⟩
    have h3 : p ∣ t := (prim_dvd hp h1).elim id id
    exact h2 (Nat.mul_dvd_mul h3 h3)
  | cons q r ih =>
    refine ⟨ih h1 h2 (fun x hx => hl x (by simp [hx])), ih (Nat.dvd_trans h1 (Nat.dvd_mul_right ..)) ?_ (fun x hx => hl x (by simp [hx]))⟩
    intro h3
    obtain ⟨k, rfl⟩ := h1
    rw [Nat.mul_assoc] at h3
    have h4 : p ∣ k * q := Nat.dvd_of_mul_dvd_mul_left (by have := hp.1; omega) h3
    rcases prim_dvd hp h4 with h5 | h5
    · exact h2 (Nat.mul_dvd_mul (Nat.dvd_refl p) h5)
    · exact hl q (by simp) h5
theorem ind_prims {l : List Nat} (hp : ∀ p ∈ l, Prim p) (hn : l.Nodup) : Ind l := by
  induction l with
  | nil => trivial
  | cons p r ih =>
    have hpp := hp p (by simp)
    rw [List.nodup_cons] at hn
    refine ⟨free_prim hpp (Nat.dvd_refl p) (fun h => ?_) (fun q hq h => ?_), ih (fun q hq => hp q (by simp [hq])) hn.2⟩
    · have h2 := Nat.le_of_dvd (by have := hpp.1; omega) h
      have h3 := Nat.mul_le_mul_right p hpp.1
      have := hpp.1
      omega
    · rcases (hp q (by simp [hq])).2 p h with h1 | h1
      · have := hpp.1; omega
      · subst h1; exact hn.1 hq
/-- No square divides it. -/
def SqFr (t : Nat) : Prop := t ≠ 0 ∧ ∀ d, 2 ≤ d → ¬ d * d ∣ t
theorem exists_prim {t : Nat} (h : 2 ≤ t) : ∃ p, Prim p ∧ p ∣ t := by
  induction t using Nat.strongRecOn with
  | ind t ih =>
    by_cases hp : Prim t
    · exact ⟨t, hp, Nat.dvd_refl t⟩
    · unfold Prim at hp
      have : ∃ d, d ∣ t ∧ d ≠ 1 ∧ d ≠ t := by
        apply Classical.byContradiction
        intro hc
        apply hp
        refine ⟨h, fun d hd => ?_⟩
        apply Classical.byContradiction
        intro hc2
        exact hc ⟨d, hd, by omega, by omega⟩
      obtain ⟨d, hd, h1, h2⟩ := this
      have h3 := Nat.le_of_dvd (by omega) hd
      have h4 : d ≠ 0 := by intro e; subst e; have := Nat.eq_zero_of_zero_dvd hd; omega
      obtain ⟨p, hp, hpd⟩ := ih d (by omega) (by omega)
      exact ⟨p, hp, Nat.dvd_trans hpd hd⟩
theorem good_of {l : List Nat} (hl : ∀ p ∈ l, Prim p) {t : Nat} (hs : SqFr t) (h : ∀ p, Prim p → p ∣ t → p ∈ l) : Good l t := by
  induction l generalizing t with
  | nil =>
    show t = 1
    apply Classical.byContradiction
    intro h1
    obtain ⟨p, hp, hd⟩ := exists_prim (t := t) (by have := hs.1; omega)
    exact absurd (h p hp hd) (by simp)
  | cons p r ih =>
    have hpp := hl p (by simp)
    by_cases hd : p ∣ t
    · rw [good_yes hd]
      obtain ⟨k, rfl⟩ := hd
      have hk : p * k / p = k := Nat.mul_div_cancel_left k (by have := hpp.1; omega)
      rw [hk]
      refine ih (fun q hq => hl q (by simp [hq])) ⟨fun e => hs.1 (by simp [e]), fun d h2 hd => hs.2 d h2 (Nat.dvd_trans hd (Nat.dvd_mul_left ..))⟩ ?_
      intro q hq hqk
      have h1 := h q hq (Nat.dvd_trans hqk (Nat.dvd_mul_left ..))
      rcases List.mem_cons.1 h1 with e | h1
      · subst e
        exact absurd (Nat.mul_dvd_mul (Nat.dvd_refl q) hqk) (hs.2 q hpp.1)
      · exact h1
    · rw [good_no hd]
      refine ih (fun q hq => hl q (by simp [hq])) hs ?_
      intro q hq hqt
      rcases List.mem_cons.1 (h q hq hqt) with e | h1
      · subst e; exact absurd hqt hd
      · exact h1
/-- The integer that is the product of all conjugates. -/
def nrm : (l : List Nat) → Tow l → Int
  | [], a => a
  | _ :: r, a => nrm r (N a)
/-- A sum of roots by any roots of another tower. -/
def phi (P : List Nat) : (l : List Nat) → List (Tow P) → Tow l → Tow P
  | [], _, a => int P a
  | _ :: r, es, a => phi P r es.tail a.1 + es.headD 0 * phi P r es.tail a.2
/-- Roots of the numbers of a list. -/
def Roots (P : List Nat) : List Nat → List (Tow P) → Prop
  | [], es => es = []
  | n :: r, es => ∃ e es', es = e :: es' ∧ e * e = smul P n 1 ∧ Roots P r es'
theorem int_add (P : List Nat) (a b : Int) : int P (a + b) = int P a + int P b := by rw [int_smul, int_smul, int_smul, add_smul]
theorem int_mul (P : List Nat) (a b : Int) : int P (a * b) = int P a * int P b := by
  rw [int_smul, int_smul a, int_smul b, smul_mul, one_mul, smul_smul]
theorem phi_add {P l : List Nat} (es : List (Tow P)) (a b : Tow l) : phi P l es (a + b) = phi P l es a + phi P l es b := by
  induction l generalizing es with
  | nil => exact int_add P a b
  | cons n r ih =>
    show phi P r es.tail (a + b).1 + es.headD 0 * phi P r es.tail (a + b).2 = (phi P r es.tail a.1 + es.headD 0 * phi P r es.tail a.2) + (phi P r es.tail b.1 + es.headD 0 * phi P r es.tail b.2)
    rw [add1, add2, ih, ih, mul_add]; ac_rfl
theorem phi_smul {P l : List Nat} (es : List (Tow P)) (k : Int) (a : Tow l) : phi P l es (smul l k a) = smul P k (phi P l es a) := by
  induction l generalizing es with
  | nil => exact (int_mul P k a).trans (by rw [int_smul k, smul_mul, one_mul]; rfl)
  | cons n r ih =>
    show phi P r es.tail (smul (n :: r) k a).1 + es.headD 0 * phi P r es.tail (smul (n :: r) k a).2 = smul P k (phi P r es.tail a.1 + es.headD 0 * phi P r es.tail a.2)
    rw [smul1, smul2, ih, ih, smul_add, mul_smul]
theorem phi_neg {P l : List Nat} (es : List (Tow P)) (a : Tow l) : phi P l es (-a) = -phi P l es a := by rw [neg_eq, phi_smul, ← neg_eq]
theorem phi_mul {P l : List Nat} {es : List (Tow P)} (h : Roots P l es) (a b : Tow l) : phi P l es (a * b) = phi P l es a * phi P l es b := by
  induction l generalizing es with
  | nil => exact int_mul P a b
  | cons n r ih =>
    obtain ⟨e, es', rfl, he, hr⟩ := h
    show phi P r es' (a * b).1 + e * phi P r es' (a * b).2 = (phi P r es' a.1 + e * phi P r es' a.2) * (phi P r es' b.1 + e * phi P r es' b.2)
    rw [mul1, mul2, phi_add, phi_add, phi_smul, ih hr, ih hr, ih hr, ih hr]
    generalize phi P r es' a.1 = x
    generalize phi P r es' a.2 = y
    generalize phi P r es' b.1 = z
    generalize phi P r es' b.2 = u
    have h1 : smul P n (y * u) = (e * e) * (y * u) := by rw [he, smul_mul, one_mul]
    rw [h1]
    simp only [mul_add, add_mul]
    ac_rfl
theorem neg_add (a b : Tow l) : -(a + b) = -a + -b := by rw [neg_eq, smul_add, ← neg_eq, ← neg_eq]
def flip (P : List Nat) (es : List (Tow P)) (ss : List Bool) : List (Tow P) := es.zipWith (fun e s => if s then -e else e) ss
theorem roots_flip {P : List Nat} {l : List Nat} {es : List (Tow P)} (h : Roots P l es) (ss : List Bool) (hs : ss.length = l.length) : Roots P l (flip P es ss) := by
  induction l generalizing es ss with
  | nil => have : es = [] := h
           subst this; rfl
  | cons m q ih =>
    obtain ⟨f, fs, rfl, hf, hq⟩ := h
    match ss, hs with
    | s :: ss', hs =>
      refine ⟨_, _, rfl, ?_, ih hq ss' (by simpa using hs)⟩
      cases s
      · exact hf
      · show -f * -f = _
        rw [neg_mul, mul_neg, neg_eq, neg_eq (f * f), smul_smul, hf]; exact one_smul _
/-- Where the product of all conjugates is 0, one of them is. -/
theorem nrm_zero {P : List Nat} (hd : Dom P) {l : List Nat} {es : List (Tow P)} (h : Roots P l es) (a : Tow l) (h0 : nrm l a = 0) :
    ∃ ss : List Bool, ss.length = l.length ∧ phi P l (flip P es ss) a = 0 := by
  induction l generalizing es with
  | nil =>
    refine ⟨[], rfl, ?_⟩
    have : a = (0 : Int) := h0
    subst this; rfl
  | cons n r ih =>
    obtain ⟨e, es', rfl, he, hr⟩ := h
    obtain ⟨ss, hs, hz⟩ := ih hr (N a) h0
    have hr' := roots_flip hr ss hs
    have key : ∀ s : Bool, phi P (n :: r) (flip P (e :: es') (s :: ss)) a = phi P r (flip P es' ss) a.1 + (if s then -e else e) * phi P r (flip P es' ss) a.2 := fun s => rfl
    generalize flip P es' ss = fs at hz hr' key
    unfold N at hz
    rw [sub_def, phi_add, phi_neg, phi_smul, phi_mul hr', phi_mul hr'] at hz
    have k1 := key false
    have k2 := key true
    generalize phi P r fs a.1 = x at hz k1 k2
    generalize phi P r fs a.2 = y at hz k1 k2
    have h1 : (x + e * y) * (x + -e * y) = 0 := by
      rw [← hz]
      have h1 : smul P n (y * y) = (e * e) * (y * y) := by rw [he, smul_mul, one_mul]
      rw [h1]
      simp only [mul_add, add_mul, neg_mul, mul_neg]
      have e2 : e * y * x + -(x * (e * y)) = 0 := by rw [mul_comm x]; exact add_neg _
      have e3 : e * y * (e * y) = e * e * (y * y) := by ac_rfl
      have e4 : x * x + e * y * x + (-(x * (e * y)) + -(e * y * (e * y))) = (x * x + -(e * y * (e * y))) + (e * y * x + -(x * (e * y))) := by ac_rfl
      rw [neg_add, e4, e2, e3, add_zero]
    rcases hd _ _ h1 with h2 | h2
    · exact ⟨false :: ss, by simp [hs], k1.trans h2⟩
    · exact ⟨true :: ss, by simp [hs], k2.trans h2⟩

/-- A number and multiples of the roots of a list. -/
def lin (c0 : Int) : (l : List (Int × Nat)) → Tow (l.map (·.2))
  | [] => c0
  | t :: ts => (lin c0 ts, int (ts.map (·.2)) t.1)
theorem phi_int (P l : List Nat) (es : List (Tow P)) (k : Int) : phi P l es (int l k) = int P k := by
  induction l generalizing es k with
  | nil => rfl
  | cons n r ih =>
    show phi P r es.tail (int r k) + es.headD 0 * phi P r es.tail (int r 0) = _
    rw [ih, ih]
    show int P k + es.headD 0 * 0 = _
    rw [mul_zero, add_zero]
/-- The sum of roots, with signs, whose first one is r1: its product with that root is a conjugate. -/
theorem phi_lin {P : List Nat} (r1 : Nat) (c0 : Int) (ts : List (Int × Nat)) (ss : List Bool) (hs : ss.length = ts.length) (m1 : Tow P) :
    phi P ((ts.map fun t => (t.1, t.2 * r1)).map (·.2)) (flip P (ts.map fun t => m1 * mono P t.2) ss) (lin c0 (ts.map fun t => (t.1, t.2 * r1))) = int P c0 + m1 * comb P (ts.zipWith (fun t s => ((if s then -t.1 else t.1), t.2)) ss) := by
  induction ts generalizing ss with
  | nil => show int P c0 = int P c0 + m1 * 0; rw [mul_zero, add_zero]
  | cons t ts ih =>
    match ss, hs with
    | s :: ss, hs =>
      have := ih ss (by simpa using hs)
      show phi P ((ts.map fun t => (t.1, t.2 * r1)).map (·.2)) (flip P (ts.map fun t => m1 * mono P t.2) ss) (lin c0 (ts.map fun t => (t.1, t.2 * r1))) + (if s then -(m1 * mono P t.2) else m1 * mono P t.2) * phi P _ _ (int _ t.1) = int P c0 + m1 * (smul P (if s then -t.1 else t.1) (mono P t.2) + comb P (ts.zipWith (fun t s => ((if s then -t.1 else t.1), t.2)) ss))
      rw [this, phi_int, mul_add, int_smul t.1, mul_smul, mul_one, mul_smul]
      cases s
      · simp only [Bool.false_eq_true, if_false]; ac_rfl
      · simp only [if_true]
        rw [show smul P (-t.1) (m1 * mono P t.2) = smul P t.1 (-(m1 * mono P t.2)) by rw [neg_eq, smul_smul]; congr 1; omega]
        ac_rfl
theorem roots_mono {P : List Nat} {r1 : Nat} (h1 : Good P r1) (ts : List (Int × Nat)) (h : ∀ t ∈ ts, Good P t.2) :
    Roots P ((ts.map fun t => (t.1, t.2 * r1)).map (·.2)) (ts.map fun t => mono P r1 * mono P t.2) := by
  induction ts with
  | nil => rfl
  | cons t ts ih =>
    refine ⟨_, _, rfl, ?_, ih (fun u hu => h u (by simp [hu]))⟩
    have e : mono P r1 * mono P t.2 * (mono P r1 * mono P t.2) = (mono P r1 * mono P r1) * (mono P t.2 * mono P t.2) := by ac_rfl
    rw [e, mono_sq h1, mono_sq (h t (by simp)), smul_mul, one_mul, smul_smul, Int.natCast_mul, Int.mul_comm]
theorem one_ne (l : List Nat) : (1 : Tow l) ≠ 0 := by
  induction l with
  | nil => intro h; have : (1 : Int) = 0 := h; omega
  | cons n r ih => intro h; exact ih (congrArg Prod.fst h)
/-- The product of all conjugates of a sum of different roots is not 0. -/
theorem nrm_ne {P : List Nat} (hP : ∀ p ∈ P, Prim p) (hn : P.Nodup) (c1 : Int) (r1 : Nat) (ts : List (Int × Nat)) (h1 : Good P r1) (h : ∀ t ∈ ts, Good P t.2)
    (hr : r1 ≠ 0) (hd : (r1 :: ts.map (·.2)).Nodup) (hc : c1 ≠ 0) : nrm _ (lin (c1 * r1) (ts.map fun t => (t.1, t.2 * r1))) ≠ 0 := by
  intro h0
  have hD := (dom_sq P (ind_prims hP hn)).1
  obtain ⟨ss, hs, hz⟩ := nrm_zero hD (roots_mono h1 ts h) _ h0
  have hs' : ss.length = ts.length := by simpa using hs
  rw [phi_lin r1 (c1 * r1) ts ss hs' (mono P r1)] at hz
  have h2 : mono P r1 * comb P ((c1, r1) :: ts.zipWith (fun t s => ((if s then -t.1 else t.1), t.2)) ss) = 0 := by
    show mono P r1 * (smul P c1 (mono P r1) + _) = 0
    rw [mul_add, mul_smul, mono_sq h1, smul_smul, ← int_smul]; exact hz
  rcases hD _ _ h2 with h3 | h3
  · have h4 := mono_sq h1
    rw [h3, zero_mul] at h4
    exact one_ne P (smul_eq_zero (k := (r1 : Int)) (by omega) h4.symm)
  · have hz : ∀ (ts : List (Int × Nat)) (ss : List Bool), ss.length = ts.length → (ts.zipWith (fun t s => ((if s then -t.1 else t.1), t.2)) ss).map (·.2) = ts.map (·.2) := by
      intro ts
      induction ts with
      | nil => intro ss _; rfl
      | cons t ts ih =>
        intro ss hs
        match ss, hs with
        | s :: ss, hs => simp [ih ss (by simpa using hs)]
    have h5 := comb_zero P (fun p hp => by have := (hP p hp).1; omega) _ (fun t ht => by
      rcases List.mem_cons.1 ht with rfl | ht
      · exact h1
      · have : t.2 ∈ (ts.zipWith (fun t s => ((if s then -t.1 else t.1), t.2)) ss).map (·.2) := List.mem_map.2 ⟨t, ht, rfl⟩
        rw [hz ts ss hs'] at this
        obtain ⟨u, hu, e⟩ := List.mem_map.1 this
        rw [← e]; exact h u hu) (by rw [List.map_cons, hz ts ss hs']; exact hd) h3
    exact hc (h5 (c1, r1) (by simp))
/-- Between -B and B. -/
def Bd (x B : Int) : Prop := -B ≤ x ∧ x ≤ B
theorem Bd.nonneg {x B : Int} (h : Bd x B) : 0 ≤ B := by have := h.1; have := h.2; omega
theorem Bd.add {x y A B : Int} (h : Bd x A) (g : Bd y B) : Bd (x + y) (A + B) := by unfold Bd at *; omega
theorem Bd.sub {x y A B : Int} (h : Bd x A) (g : Bd y B) : Bd (x - y) (A + B) := by unfold Bd at *; omega
theorem Bd.mono {x A B : Int} (h : Bd x A) (g : A ≤ B) : Bd x B := by unfold Bd at *; omega
theorem bd_abs {x B : Int} : Bd x B ↔ (x.natAbs : Int) ≤ B := by unfold Bd; omega
theorem Bd.mul {x y A B : Int} (h : Bd x A) (g : Bd y B) : Bd (x * y) (A * B) := by
  rw [bd_abs] at *
  rw [Int.natAbs_mul, Int.natCast_mul]
  exact Int.mul_le_mul h g (by omega) (by omega)
theorem Bd.self (x : Int) : Bd x x.natAbs := by unfold Bd; omega
theorem bd_nonneg {x : Int} (h : 0 ≤ x) : Bd x x := by unfold Bd; omega

/-- The value of a sum of products of roots, with approximations. -/
def V (X : Int) (q : Nat → Int) : (l : List Nat) → Tow l → Int
  | [], a => a
  | n :: r, a => X * V X q r a.1 + q n * V X q r a.2
def nm (w : Nat → Int) : (l : List Nat) → Tow l → Int
  | [], a => (Int.natAbs a : Int)
  | n :: r, a => nm w r a.1 + w n * nm w r a.2
structure Appr (X : Int) (q w : Nat → Int) : Prop where
  x1 : 1 ≤ X
  w1 : ∀ n, 1 ≤ w n
  q0 : ∀ n, 0 ≤ q n
  qw : ∀ n, q n ≤ w n * X
  lo : ∀ n : Nat, q n * q n ≤ (n : Int) * (X * X)
  hi : ∀ n : Nat, (n : Int) * (X * X) ≤ q n * q n + 2 * (w n * X)
  nw : ∀ n : Nat, (n : Int) ≤ w n * w n
variable {X : Int} {q w : Nat → Int}
theorem V_add (a b : Tow l) : V X q l (a + b) = V X q l a + V X q l b := by
  induction l with
  | nil => rfl
  | cons n r ih =>
    show X * V X q r (a + b).1 + q n * V X q r (a + b).2 = (X * V X q r a.1 + q n * V X q r a.2) + (X * V X q r b.1 + q n * V X q r b.2)
    rw [add1, add2, ih, ih, Int.mul_add, Int.mul_add]; omega
theorem V_smul (k : Int) (a : Tow l) : V X q l (smul l k a) = k * V X q l a := by
  induction l with
  | nil => rfl
  | cons n r ih =>
    show X * V X q r (smul (n :: r) k a).1 + q n * V X q r (smul (n :: r) k a).2 = k * (X * V X q r a.1 + q n * V X q r a.2)
    rw [smul1, smul2, ih, ih, Int.mul_add, Int.mul_left_comm X, Int.mul_left_comm (q n)]
theorem V_sub (a b : Tow l) : V X q l (a - b) = V X q l a - V X q l b := by
  rw [sub_def, V_add, neg_eq, V_smul]; omega
theorem nm_nonneg (hw : ∀ n, 0 ≤ w n) (a : Tow l) : 0 ≤ nm w l a := by
  induction l with
  | nil => exact Int.natCast_nonneg _
  | cons n r ih => exact Int.add_nonneg (ih a.1) (Int.mul_nonneg (hw n) (ih a.2))
theorem nm_add (hw : ∀ n, 0 ≤ w n) (a b : Tow l) : nm w l (a + b) ≤ nm w l a + nm w l b := by
  induction l with
  | nil =>
    show ((Int.natAbs (Int.add a b) : Nat) : Int) ≤ (Int.natAbs a : Int) + (Int.natAbs b : Int)
    have := Int.natAbs_add_le a b
    have e : Int.natAbs (Int.add a b) ≤ Int.natAbs a + Int.natAbs b := this
    omega
  | cons n r ih =>
    show nm w r (a + b).1 + w n * nm w r (a + b).2 ≤ (nm w r a.1 + w n * nm w r a.2) + (nm w r b.1 + w n * nm w r b.2)
    rw [add1, add2]
    have h1 := ih a.1 b.1
    have h2 := Int.mul_le_mul_of_nonneg_left (ih a.2 b.2) (hw n)
    rw [Int.mul_add] at h2
    omega
theorem na_mul (a b : Int) : ((a * b).natAbs : Int) = (a.natAbs : Int) * (b.natAbs : Int) := by rw [Int.natAbs_mul, Int.natCast_mul]
theorem nm_smul (k : Int) (a : Tow l) : nm w l (smul l k a) = (k.natAbs : Int) * nm w l a := by
  induction l with
  | nil =>
    exact na_mul k a
  | cons n r ih =>
    show nm w r (smul (n :: r) k a).1 + w n * nm w r (smul (n :: r) k a).2 = (k.natAbs : Int) * (nm w r a.1 + w n * nm w r a.2)
    rw [smul1, smul2, ih, ih, Int.mul_add, Int.mul_left_comm (w n)]
theorem nm_mul (hw : ∀ n, 0 ≤ w n) (hn : ∀ n : Nat, (n : Int) ≤ w n * w n) (a b : Tow l) : nm w l (a * b) ≤ nm w l a * nm w l b := by
  induction l with
  | nil =>
    exact Int.le_of_eq (na_mul a b)
  | cons n r ih =>
    show nm w r (a * b).1 + w n * nm w r (a * b).2 ≤ (nm w r a.1 + w n * nm w r a.2) * (nm w r b.1 + w n * nm w r b.2)
    rw [mul1, mul2]
    have h1 := nm_add hw (a.1 * b.1) (smul r n (a.2 * b.2))
    rw [nm_smul] at h1
    have h2 := nm_add hw (a.1 * b.2) (a.2 * b.1)
    have e : (((n : Int).natAbs : Nat) : Int) = n := by omega
    rw [e] at h1
    have g1 := ih a.1 b.1
    have g2 := ih a.2 b.2
    have g3 := ih a.1 b.2
    have g4 := ih a.2 b.1
    have p2 := Int.mul_nonneg (nm_nonneg hw a.2) (nm_nonneg hw b.2)
    have k2 : (n : Int) * nm w r (a.2 * b.2) ≤ (w n * w n) * (nm w r a.2 * nm w r b.2) :=
      Int.mul_le_mul (hn n) g2 (nm_nonneg hw _) (Int.mul_nonneg (hw n) (hw n))
    have k3 : w n * nm w r (a.1 * b.2 + a.2 * b.1) ≤ w n * (nm w r a.1 * nm w r b.2 + nm w r a.2 * nm w r b.1) :=
      Int.mul_le_mul_of_nonneg_left (by omega) (hw n)
    have e2 : (nm w r a.1 + w n * nm w r a.2) * (nm w r b.1 + w n * nm w r b.2) = nm w r a.1 * nm w r b.1 + (w n * w n) * (nm w r a.2 * nm w r b.2) + w n * (nm w r a.1 * nm w r b.2 + nm w r a.2 * nm w r b.1) := by grind
    omega
theorem V_le (h : Appr X q w) (a : Tow l) : Bd (V X q l a) (X ^ l.length * nm w l a) := by
  induction l with
  | nil =>
    have e : X ^ ([] : List Nat).length * nm w [] a = nm w [] a := by rw [List.length_nil, Int.pow_zero, Int.one_mul]
    rw [e]; exact Bd.self a
  | cons n r ih =>
    have hx := h.x1
    have h1 := (bd_nonneg (show 0 ≤ X by omega)).mul (ih a.1)
    have h2 := (bd_nonneg (h.q0 n)).mul (ih a.2)
    have hp : 0 ≤ X ^ r.length * nm w r a.2 := (ih a.2).nonneg
    have h3 : q n * (X ^ r.length * nm w r a.2) ≤ (w n * X) * (X ^ r.length * nm w r a.2) := Int.mul_le_mul_of_nonneg_right (h.qw n) hp
    refine (h1.add h2).mono ?_
    show _ ≤ X ^ (r.length + 1) * (nm w r a.1 + w n * nm w r a.2)
    have e : X ^ (r.length + 1) * (nm w r a.1 + w n * nm w r a.2) = X * (X ^ r.length * nm w r a.1) + (w n * X) * (X ^ r.length * nm w r a.2) := by grind
    omega
theorem pow_pos' (h : 1 ≤ X) (k : Nat) : 1 ≤ X ^ k := by
  induction k with
  | zero => rw [Int.pow_zero]; exact Int.le_refl _
  | succ k ih => rw [Int.pow_succ]; have := Int.mul_le_mul ih h (by omega) (by omega); omega
/-- Approximations of products. -/
theorem V_mul (h : Appr X q w) (a b : Tow l) : Bd (X * (V X q l a * V X q l b - X ^ l.length * V X q l (a * b))) (2 * l.length * (X ^ l.length * X ^ l.length) * (nm w l a * nm w l b)) := by
  have hw0 : ∀ n, 0 ≤ w n := fun n => by have := h.w1 n; omega
  induction l with
  | nil =>
    have : V X q [] (a * b) = V X q [] a * V X q [] b := rfl
    rw [this]
    simp [Bd]
  | cons n r ih =>
    have hx := h.x1
    have E11 := ih a.1 b.1
    have E22 := ih a.2 b.2
    have E12 := ih a.1 b.2
    have E21 := ih a.2 b.1
    have v22 := V_le h (a.2 * b.2)
    have n22 := nm_mul hw0 h.nw a.2 b.2
    have eV : V X q (n :: r) (a * b) = X * (V X q r (a.1 * b.1) + n * V X q r (a.2 * b.2)) + q n * (V X q r (a.1 * b.2) + V X q r (a.2 * b.1)) := by
      show X * V X q r (a * b).1 + q n * V X q r (a * b).2 = _
      rw [mul1, mul2, V_add, V_add, V_smul]
    have eA : V X q (n :: r) a = X * V X q r a.1 + q n * V X q r a.2 := rfl
    have eB : V X q (n :: r) b = X * V X q r b.1 + q n * V X q r b.2 := rfl
    have mA : nm w (n :: r) a = nm w r a.1 + w n * nm w r a.2 := rfl
    have mB : nm w (n :: r) b = nm w r b.1 + w n * nm w r b.2 := rfl
    rw [eV, eA, eB, mA, mB, List.length_cons, Int.pow_succ]
    have a1 := nm_nonneg hw0 a.1
    have a2 := nm_nonneg hw0 a.2
    have b1 := nm_nonneg hw0 b.1
    have b2 := nm_nonneg hw0 b.2
    generalize V X q r (a.1 * b.1) = V11 at *
    generalize V X q r (a.2 * b.2) = V22 at *
    generalize V X q r (a.1 * b.2) = V12 at *
    generalize V X q r (a.2 * b.1) = V21 at *
    generalize V X q r a.1 = x1 at *
    generalize V X q r a.2 = x2 at *
    generalize V X q r b.1 = y1 at *
    generalize V X q r b.2 = y2 at *
    generalize nm w r (a.2 * b.2) = m22 at *
    generalize nm w r a.1 = α1 at *
    generalize nm w r a.2 = α2 at *
    generalize nm w r b.1 = β1 at *
    generalize nm w r b.2 = β2 at *
    have hP := pow_pos' hx r.length
    generalize X ^ r.length = P at *
    have hk : (0 : Int) ≤ r.length := Int.natCast_nonneg _
    have ek : ((r.length + 1 : Nat) : Int) = (r.length : Int) + 1 := by omega
    rw [ek]
    generalize (r.length : Int) = k at *
    have hs0 := h.q0 n
    have hs1 := h.qw n
    have hlo := h.lo n
    have hhi := h.hi n
    have hw1 := h.w1 n
    generalize q n = s at *
    generalize w n = u at *
    -- the pieces
    have hX : Bd X X := bd_nonneg (by omega)
    have hS : Bd s (u * X) := (bd_nonneg hs0).mono hs1
    have p1 := (hX.mul hX).mul E11
    have p2 := (hS.mul hS).mul E22
    have p3 := (hX.mul hS).mul (E12.add E21)
    have hd : Bd (s * s - n * (X * X)) (2 * (u * X)) := by unfold Bd; omega
    have p4 := ((hX.mul hd).mul (bd_nonneg (show 0 ≤ P by omega))).mul (v22.mono (Int.mul_le_mul_of_nonneg_left n22 (by omega)))
    have hsum := ((p1.add p2).add p3).add p4
    have e : X * ((X * x1 + s * x2) * (X * y1 + s * y2) - P * X * (X * (V11 + n * V22) + s * (V12 + V21))) = X * X * (X * (x1 * y1 - P * V11)) + s * s * (X * (x2 * y2 - P * V22)) + X * s * (X * (x1 * y2 - P * V12) + X * (x2 * y1 - P * V21)) + X * (s * s - n * (X * X)) * P * V22 := by grind
    rw [e]
    refine hsum.mono ?_
    have hab : 0 ≤ α2 * β2 := Int.mul_nonneg a2 b2
    have hC : 0 ≤ (X * X) * (P * P) := Int.mul_nonneg (Int.mul_nonneg (by omega) (by omega)) (Int.mul_nonneg (by omega) (by omega))
    generalize hCd : (X * X) * (P * P) = C at *
    have e1 : X * X * (2 * k * (P * P) * (α1 * β1)) + u * X * (u * X) * (2 * k * (P * P) * (α2 * β2)) + X * (u * X) * (2 * k * (P * P) * (α1 * β2) + 2 * k * (P * P) * (α2 * β1)) + X * (2 * (u * X)) * P * (P * (α2 * β2)) = 2 * k * C * ((α1 + u * α2) * (β1 + u * β2)) + 2 * C * (u * (α2 * β2)) := by rw [← hCd]; grind
    have e2 : 2 * (k + 1) * (P * X * (P * X)) * ((α1 + u * α2) * (β1 + u * β2)) = 2 * k * C * ((α1 + u * α2) * (β1 + u * β2)) + 2 * C * ((α1 + u * α2) * (β1 + u * β2)) := by rw [← hCd]; grind
    rw [e1, e2]
    have h5 : u * (α2 * β2) ≤ (α1 + u * α2) * (β1 + u * β2) := by
      have q1 : 0 ≤ α1 * β1 := Int.mul_nonneg a1 b1
      have q2 : 0 ≤ u * (α1 * β2) := Int.mul_nonneg (by omega) (Int.mul_nonneg a1 b2)
      have q3 : 0 ≤ u * (α2 * β1) := Int.mul_nonneg (by omega) (Int.mul_nonneg a2 b1)
      have q4 : u * (α2 * β2) ≤ u * (u * (α2 * β2)) := Int.mul_le_mul_of_nonneg_left (by have := Int.mul_le_mul_of_nonneg_right hw1 hab; omega) (by omega)
      have e : (α1 + u * α2) * (β1 + u * β2) = α1 * β1 + u * (α1 * β2) + u * (α2 * β1) + u * (u * (α2 * β2)) := by grind
      omega
    have h6 := Int.mul_le_mul_of_nonneg_left h5 (show 0 ≤ 2 * C by omega)
    omega

/-- One step: the product of a value with its conjugate. -/
theorem V_step (h : Appr X q w) {n : Nat} {r : List Nat} (a : Tow (n :: r)) :
    X * ((V X q r (N a)).natAbs : Int) ≤ ((V X q (n :: r) a).natAbs : Int) * nm w (n :: r) a + (2 * r.length + 2) * (X ^ r.length * (nm w (n :: r) a * nm w (n :: r) a)) := by
  have hw0 : ∀ n, 0 ≤ w n := fun n => by have := h.w1 n; omega
  have hx := h.x1
  have E11 := V_mul h a.1 a.1
  have E22 := V_mul h a.2 a.2
  have v22 := V_le h (a.2 * a.2)
  have n22 := nm_mul hw0 h.nw a.2 a.2
  have x1 := V_le h a.1
  have x2 := V_le h a.2
  have eN : V X q r (N a) = V X q r (a.1 * a.1) - n * V X q r (a.2 * a.2) := by
    unfold N; rw [V_sub, V_smul]
  have eA : V X q (n :: r) a = X * V X q r a.1 + q n * V X q r a.2 := rfl
  have mA : nm w (n :: r) a = nm w r a.1 + w n * nm w r a.2 := rfl
  rw [eN, eA, mA]
  have a1 := nm_nonneg hw0 a.1
  have a2 := nm_nonneg hw0 a.2
  generalize V X q r (a.1 * a.1) = V11 at *
  generalize V X q r (a.2 * a.2) = V22 at *
  generalize V X q r a.1 = x at *
  generalize V X q r a.2 = y at *
  generalize nm w r (a.2 * a.2) = m22 at *
  generalize nm w r a.1 = α at *
  generalize nm w r a.2 = β at *
  have hP := pow_pos' hx r.length
  generalize X ^ r.length = P at *
  have hk : (0 : Int) ≤ r.length := Int.natCast_nonneg _
  generalize (r.length : Int) = k at *
  have hs0 := h.q0 n
  have hs1 := h.qw n
  have hlo := h.lo n
  have hhi := h.hi n
  have hw1 := h.w1 n
  generalize q n = s at *
  generalize w n = u at *
  have hX : Bd X X := bd_nonneg (by omega)
  have hS : Bd s (u * X) := (bd_nonneg hs0).mono hs1
  have p1 := (hX.mul hX).mul E11
  have p2 := (hS.mul hS).mul E22
  have hd : Bd (s * s - n * (X * X)) (2 * (u * X)) := by unfold Bd; omega
  have p4 := ((hX.mul hd).mul (bd_nonneg (show 0 ≤ P by omega))).mul (v22.mono (Int.mul_le_mul_of_nonneg_left n22 (by omega)))
  have hcj : Bd (X * x - s * y) (X * (P * α) + (u * X) * (P * β)) := (hX.mul x1).sub (hS.mul x2)
  have p5 := (hX.mul (Bd.self (X * x + s * y))).mul hcj
  have hsum := ((p5.sub p1).add p2).add p4
  have e : X * (X * x + s * y) * (X * x - s * y) - X * X * (X * (x * x - P * V11)) + s * s * (X * (y * y - P * V22)) + X * (s * s - n * (X * X)) * P * V22 = (X * X * P) * (X * (V11 - n * V22)) := by grind
  rw [e] at hsum
  have hA0 : 0 ≤ α + u * β := Int.add_nonneg a1 (Int.mul_nonneg (by omega) a2)
  have hb := bd_abs.1 hsum
  rw [na_mul, na_mul X] at hb
  have e1 : (((X * X * P).natAbs : Nat) : Int) = X * X * P := by
    have : 0 ≤ X * X * P := Int.mul_nonneg (Int.mul_nonneg (by omega) (by omega)) (by omega)
    omega
  have e2 : ((X.natAbs : Nat) : Int) = X := by omega
  rw [e1, e2] at hb
  generalize ((V11 - n * V22).natAbs : Int) = z at *
  generalize (((X * x + s * y).natAbs : Nat) : Int) = v at *
  have hC : 0 < X * X * P := Int.mul_pos (Int.mul_pos (by omega) (by omega)) (by omega)
  refine Int.le_of_mul_le_mul_left (Int.le_trans hb ?_) hC
  have hT : 0 ≤ X * X * (P * P) := Int.mul_nonneg (Int.mul_nonneg (by omega) (by omega)) (Int.mul_nonneg (by omega) (by omega))
  have e3 : X * v * (X * (P * α) + u * X * (P * β)) + X * X * (2 * k * (P * P) * (α * α)) + u * X * (u * X) * (2 * k * (P * P) * (β * β)) + X * (2 * (u * X)) * P * (P * (β * β)) = X * X * P * (v * (α + u * β)) + X * X * (P * P) * (2 * k * (α * α + u * (u * (β * β))) + 2 * (u * (β * β))) := by grind
  have e4 : X * X * P * (v * (α + u * β) + (2 * k + 2) * (P * ((α + u * β) * (α + u * β)))) = X * X * P * (v * (α + u * β)) + X * X * (P * P) * ((2 * k + 2) * ((α + u * β) * (α + u * β))) := by grind
  rw [e3, e4]
  refine Int.add_le_add_left (Int.mul_le_mul_of_nonneg_left ?_ hT) _
  have q1 : 0 ≤ α * α := Int.mul_nonneg a1 a1
  have q2 : 0 ≤ u * (α * β) := Int.mul_nonneg (by omega) (Int.mul_nonneg a1 a2)
  have q0 : 0 ≤ β * β := Int.mul_nonneg a2 a2
  have q4 : u * (β * β) ≤ u * (u * (β * β)) := Int.mul_le_mul_of_nonneg_left (by have := Int.mul_le_mul_of_nonneg_right hw1 q0; omega) (by omega)
  have e5 : (α + u * β) * (α + u * β) = α * α + 2 * (u * (α * β)) + u * (u * (β * β)) := by grind
  rw [e5]
  have q5 : 0 ≤ k * (u * (α * β)) := Int.mul_nonneg hk q2
  have e6 : (2 * k + 2) * (α * α + 2 * (u * (α * β)) + u * (u * (β * β))) = 2 * k * (α * α + u * (u * (β * β))) + 4 * (k * (u * (α * β))) + 2 * (α * α) + 4 * (u * (α * β)) + 2 * (u * (u * (β * β))) := by grind
  omega
theorem nm_N (h : Appr X q w) {n : Nat} {r : List Nat} (a : Tow (n :: r)) : nm w r (N a) ≤ nm w (n :: r) a * nm w (n :: r) a := by
  have hw0 : ∀ n, 0 ≤ w n := fun n => by have := h.w1 n; omega
  have mA : nm w (n :: r) a = nm w r a.1 + w n * nm w r a.2 := rfl
  rw [mA]
  have a1 := nm_nonneg hw0 a.1
  have a2 := nm_nonneg hw0 a.2
  have n11 := nm_mul hw0 h.nw a.1 a.1
  have n22 := nm_mul hw0 h.nw a.2 a.2
  have h0 := nm_add hw0 (a.1 * a.1) (-(smul r n (a.2 * a.2)))
  have e0 : nm w r (-(smul r n (a.2 * a.2))) = n * nm w r (a.2 * a.2) := by
    rw [neg_eq, nm_smul, nm_smul]
    have e : (((n : Int).natAbs : Nat) : Int) = n := by omega
    rw [e]; simp
  have e1 : nm w r (N a) = nm w r (a.1 * a.1 + -(smul r n (a.2 * a.2))) := rfl
  rw [e1]
  rw [e0] at h0
  have k2 : (n : Int) * nm w r (a.2 * a.2) ≤ (w n * w n) * (nm w r a.2 * nm w r a.2) :=
    Int.mul_le_mul (h.nw n) n22 (nm_nonneg hw0 _) (Int.mul_nonneg (hw0 n) (hw0 n))
  have q2 : 0 ≤ w n * (nm w r a.1 * nm w r a.2) := Int.mul_nonneg (hw0 n) (Int.mul_nonneg a1 a2)
  have e5 : (nm w r a.1 + w n * nm w r a.2) * (nm w r a.1 + w n * nm w r a.2) = nm w r a.1 * nm w r a.1 + 2 * (w n * (nm w r a.1 * nm w r a.2)) + (w n * w n) * (nm w r a.2 * nm w r a.2) := by grind
  omega
/-- A value whose conjugates' product is not 0 is not small. -/
theorem V_far (h : Appr X q w) (l : List Nat) (a : Tow l) (M : Int) (hM : 1 ≤ M) (ha : nm w l a ≤ M) (h0 : nrm l a ≠ 0) :
    X ^ l.length * X * M ≤ ((V X q l a).natAbs : Int) * X * M ^ (2 ^ l.length) + l.length * (l.length + 1) * (X ^ l.length * M ^ (2 ^ l.length) * M) := by
  induction l generalizing M with
  | nil =>
    have hx := h.x1
    have h1 : (1 : Int) ≤ (V X q [] a).natAbs := by
      have : (V X q [] a) ≠ 0 := h0
      omega
    generalize ((V X q [] a).natAbs : Int) = v at *
    have := Int.mul_le_mul_of_nonneg_right h1 (Int.mul_nonneg (show 0 ≤ X by omega) (show 0 ≤ M by omega))
    have e1 : M ^ 2 ^ ([] : List Nat).length = M := by rw [List.length_nil, Nat.pow_zero, Int.pow_succ, Int.pow_zero, Int.one_mul]
    rw [e1, List.length_nil, Int.pow_zero, Int.one_mul]
    rw [Int.one_mul, ← Int.mul_assoc] at this
    simpa using this
  | cons n r ih =>
    have hx := h.x1
    have hw0 : ∀ n, 0 ≤ w n := fun n => by have := h.w1 n; omega
    have A0 := nm_nonneg hw0 a
    have hMM : 1 ≤ M * M := by have := Int.mul_le_mul hM hM (by omega) (by omega); omega
    have hAM : nm w (n :: r) a * nm w (n :: r) a ≤ M * M := Int.mul_le_mul ha ha A0 (by omega)
    have h1 := ih (N a) (M * M) hMM (Int.le_trans (nm_N h a) hAM) h0
    have h2 := V_step h a
    have eV : (2 : Nat) ^ (n :: r).length = 2 ^ r.length + 2 ^ r.length := by rw [List.length_cons, Nat.pow_succ]; omega
    have eM : (M * M) ^ (2 ^ r.length) = M ^ (2 ^ (n :: r).length) := by
      rw [eV, Int.pow_add, Int.mul_pow]
    rw [eM] at h1
    have hMp := pow_pos' hM (2 ^ (n :: r).length)
    generalize M ^ (2 ^ (n :: r).length) = Q at *
    rw [List.length_cons, Int.pow_succ]
    have hP := pow_pos' hx r.length
    generalize X ^ r.length = P at *
    have hk : (0 : Int) ≤ r.length := Int.natCast_nonneg _
    have ek : ((r.length + 1 : Nat) : Int) = (r.length : Int) + 1 := by omega
    rw [ek]
    generalize (r.length : Int) = k at *
    generalize nm w (n :: r) a = A at *
    have hz : (0 : Int) ≤ (V X q r (N a)).natAbs := by omega
    have hv : (0 : Int) ≤ (V X q (n :: r) a).natAbs := by omega
    generalize ((V X q r (N a)).natAbs : Int) = z at *
    generalize ((V X q (n :: r) a).natAbs : Int) = v at *
    -- h1 : P * X * (M * M) ≤ z * X * Q + k (k+1) (P Q (M M)); h2 : X z ≤ v A + (2k+2) (P (A A))
    have h3 : X * z ≤ v * M + (2 * k + 2) * (P * (M * M)) := by
      have g1 := Int.mul_le_mul_of_nonneg_left ha hv
      have g2 := Int.mul_le_mul_of_nonneg_left hAM (show 0 ≤ P by omega)
      have g3 := Int.mul_le_mul_of_nonneg_left g2 (show 0 ≤ 2 * k + 2 by omega)
      omega
    have h4 := Int.mul_le_mul_of_nonneg_right h3 (Int.mul_nonneg (show 0 ≤ X by omega) (show 0 ≤ Q by omega))
    have h5 := Int.mul_le_mul_of_nonneg_left h1 (show 0 ≤ X by omega)
    have e1 : X * (P * X * (M * M)) = M * (P * X * X * M) := by grind
    have e2 : X * (z * X * Q + k * (k + 1) * (P * Q * (M * M))) = X * z * (X * Q) + M * (k * (k + 1) * (P * X * Q * M)) := by grind
    have e3 : (v * M + (2 * k + 2) * (P * (M * M))) * (X * Q) = M * (v * X * Q) + M * ((2 * k + 2) * (P * X * Q * M)) := by grind
    have e4 : M * (v * X * Q + (k + 1) * (k + 1 + 1) * (P * X * Q * M)) = M * (v * X * Q) + M * ((2 * k + 2) * (P * X * Q * M)) + M * (k * (k + 1) * (P * X * Q * M)) := by grind
    rw [e1, e2] at h5
    rw [e3] at h4
    refine Int.le_of_mul_le_mul_left (a := M) ?_ (by omega)
    rw [e4]
    omega

def sumQ (q : Nat → Int) : List (Int × Nat) → Int
  | [] => 0
  | t :: ts => t.1 * q t.2 + sumQ q ts
def sumA : List (Int × Nat) → Int
  | [] => 0
  | t :: ts => (t.1.natAbs : Int) + sumA ts
theorem sumA_nonneg (ts : List (Int × Nat)) : 0 ≤ sumA ts := by
  induction ts with
  | nil => exact Int.le_refl _
  | cons t ts ih => show 0 ≤ (t.1.natAbs : Int) + sumA ts; omega
theorem V_int (l : List Nat) (k : Int) : V X q l (int l k) = X ^ l.length * k := by
  induction l generalizing k with
  | nil => show k = X ^ 0 * k; rw [Int.pow_zero, Int.one_mul]
  | cons n r ih =>
    show X * V X q r (int r k) + q n * V X q r (int r 0) = X ^ (r.length + 1) * k
    rw [ih, ih, Int.pow_succ]; grind
theorem nm_int (l : List Nat) (k : Int) : nm w l (int l k) = k.natAbs := by
  induction l generalizing k with
  | nil => rfl
  | cons n r ih =>
    show nm w r (int r k) + w n * nm w r (int r 0) = k.natAbs
    rw [ih, ih]; simp
theorem V_lin (c0 : Int) (ts : List (Int × Nat)) : X * V X q _ (lin c0 ts) = X ^ ts.length * (X * c0 + sumQ q ts) := by
  induction ts with
  | nil => show X * c0 = X ^ 0 * (X * c0 + 0); rw [Int.pow_zero, Int.one_mul, Int.add_zero]
  | cons t ts ih =>
    show X * (X * V X q _ (lin c0 ts) + q t.2 * V X q _ (int (ts.map (·.2)) t.1)) = X ^ (ts.length + 1) * (X * c0 + (t.1 * q t.2 + sumQ q ts))
    rw [ih, V_int, List.length_map, Int.pow_succ]; grind
theorem nm_lin (c0 W : Int) (ts : List (Int × Nat)) (hw : ∀ t ∈ ts, w t.2 ≤ W) : nm w _ (lin c0 ts) ≤ (c0.natAbs : Int) + W * sumA ts := by
  induction ts with
  | nil => show (Int.natAbs c0 : Int) ≤ _; simp [sumA]
  | cons t ts ih =>
    show nm w _ (lin c0 ts) + w t.2 * nm w _ (int (ts.map (·.2)) t.1) ≤ (c0.natAbs : Int) + W * ((t.1.natAbs : Int) + sumA ts)
    rw [nm_int, Int.mul_add]
    have h1 := ih (fun u hu => hw u (by simp [hu]))
    have h2 := Int.mul_le_mul_of_nonneg_right (hw t (by simp)) (show (0 : Int) ≤ (t.1.natAbs : Int) by omega)
    omega

/-- The product of two approximations is that of the product. -/
theorem appr_mul (h : Appr X q w) (hs : ∀ n : Nat, (n : Int) * (X * X) < (q n + 1) * (q n + 1)) (a b : Nat) (W : Int) (hW1 : 1 ≤ W) (ha : w a ≤ W) (hb : w b ≤ W) : Bd (q a * q b - X * q (b * a)) ((2 * W + 1) * X) := by
  have hx := h.x1
  have qa := h.q0 a
  have qb := h.q0 b
  have qc := h.q0 (b * a)
  have la := h.lo a
  have lb := h.lo b
  have lc := h.lo (b * a)
  have sa := hs a
  have sb := hs b
  have sc := hs (b * a)
  have wa := h.qw a
  have wb := h.qw b
  have eW : (2 * W + 1) * X = W * X + W * X + X := by grind
  have w1 := Int.mul_le_mul_of_nonneg_right ha (show 0 ≤ X by omega)
  have w2 := Int.mul_le_mul_of_nonneg_right hb (show 0 ≤ X by omega)
  rw [Int.natCast_mul] at lc sc
  generalize q a = x at *
  generalize q b = y at *
  generalize q (b * a) = z at *
  have a0 : (0 : Int) ≤ a := Int.natCast_nonneg _
  have b0 : (0 : Int) ≤ b := Int.natCast_nonneg _
  generalize (a : Int) = a at *
  generalize (b : Int) = b at *
  have hXX : 0 < X * X := Int.mul_pos (by omega) (by omega)
  rw [eW]
  constructor
  · -- X z < (x + 1)(y + 1)
    have h1 : (X * z) * (X * z) < ((x + 1) * (y + 1)) * ((x + 1) * (y + 1)) := by
      have e1 : (X * z) * (X * z) = (X * X) * (z * z) := by grind
      have e2 : ((x + 1) * (y + 1)) * ((x + 1) * (y + 1)) = ((x + 1) * (x + 1)) * ((y + 1) * (y + 1)) := by grind
      have h2 := Int.mul_le_mul_of_nonneg_left lc (show 0 ≤ X * X by omega)
      have e3 : (X * X) * (b * a * (X * X)) = (a * (X * X)) * (b * (X * X)) := by grind
      have h3 : (a * (X * X)) * (b * (X * X)) < ((x + 1) * (x + 1)) * ((y + 1) * (y + 1)) := by
        have g1 : (a * (X * X)) * (b * (X * X)) ≤ ((x + 1) * (x + 1)) * (b * (X * X)) := Int.mul_le_mul_of_nonneg_right (by omega) (Int.mul_nonneg b0 (by omega))
        have g2 : ((x + 1) * (x + 1)) * (b * (X * X)) < ((x + 1) * (x + 1)) * ((y + 1) * (y + 1)) := Int.mul_lt_mul_of_pos_left sb (Int.mul_pos (by omega) (by omega))
        omega
      rw [e1, e2]; omega
    have h2 : X * z < (x + 1) * (y + 1) := by
      apply Classical.byContradiction
      intro hc
      have hc' : (x + 1) * (y + 1) ≤ X * z := by omega
      have := Int.mul_le_mul hc' hc' (Int.mul_nonneg (by omega) (by omega)) (Int.mul_nonneg (by omega) qc)
      omega
    have e1 : (x + 1) * (y + 1) = x * y + x + y + 1 := by grind
    omega
  · -- x y < X (z + 1)
    have h1 : (x * y) * (x * y) < (X * (z + 1)) * (X * (z + 1)) := by
      have e1 : (x * y) * (x * y) = (x * x) * (y * y) := by grind
      have e2 : (X * (z + 1)) * (X * (z + 1)) = (X * X) * ((z + 1) * (z + 1)) := by grind
      have g1 := Int.mul_le_mul la lb (Int.mul_nonneg qb qb) (Int.mul_nonneg a0 (by omega))
      have g2 := Int.mul_lt_mul_of_pos_left sc hXX
      have e3 : (X * X) * (b * a * (X * X)) = (a * (X * X)) * (b * (X * X)) := by grind
      rw [e1, e2]; omega
    have h2 : x * y < X * (z + 1) := by
      apply Classical.byContradiction
      intro hc
      have hc' : X * (z + 1) ≤ x * y := by omega
      have := Int.mul_le_mul hc' hc' (Int.mul_nonneg (by omega) (by omega)) (Int.mul_nonneg qa qb)
      omega
    have e1 : X * (z + 1) = X * z + X := by grind
    have := Int.mul_nonneg (show 0 ≤ W by omega) (show 0 ≤ X by omega)
    omega

theorem sumQ_near (h : Appr X q w) (hs : ∀ n : Nat, (n : Int) * (X * X) < (q n + 1) * (q n + 1)) (r1 : Nat) (W : Int) (hW1 : 1 ≤ W) (h1 : w r1 ≤ W) (ts : List (Int × Nat)) (ht : ∀ t ∈ ts, w t.2 ≤ W) :
    Bd (q r1 * sumQ q ts - X * sumQ q (ts.map fun t => (t.1, t.2 * r1))) ((2 * W + 1) * X * sumA ts) := by
  induction ts with
  | nil => simp [sumQ, sumA, Bd]
  | cons t ts ih =>
    have i1 := ih (fun u hu => ht u (by simp [hu]))
    have i2 := (Bd.self t.1).mul (appr_mul h hs r1 t.2 W hW1 h1 (ht t (by simp)))
    have hh := i2.add i1
    have e : q r1 * sumQ q (t :: ts) - X * sumQ q ((t :: ts).map fun t => (t.1, t.2 * r1)) = t.1 * (q r1 * q t.2 - X * q (t.2 * r1)) + (q r1 * sumQ q ts - X * sumQ q (ts.map fun t => (t.1, t.2 * r1))) := by
      show q r1 * (t.1 * q t.2 + sumQ q ts) - X * (t.1 * q (t.2 * r1) + sumQ q (ts.map fun t => (t.1, t.2 * r1))) = _
      grind
    have e2 : (2 * W + 1) * X * sumA (t :: ts) = (t.1.natAbs : Int) * ((2 * W + 1) * X) + (2 * W + 1) * X * sumA ts := by
      show (2 * W + 1) * X * ((t.1.natAbs : Int) + sumA ts) = _
      grind
    rw [e, e2]; exact hh
theorem sumA_map (m : Nat) (ts : List (Int × Nat)) : sumA (ts.map fun u => (u.1, u.2 * m)) = sumA ts := by
  induction ts with
  | nil => rfl
  | cons u us ih => show (u.1.natAbs : Int) + _ = (u.1.natAbs : Int) + _; rw [ih]

noncomputable def primes (n : Nat) : List Nat := (List.range (n + 1)).filter fun p => @decide (Prim p) (Classical.propDecidable _)
theorem primes_prim {n p : Nat} (h : p ∈ primes n) : Prim p := by
  have := (List.mem_filter.1 h).2
  simpa using this
theorem primes_nodup (n : Nat) : (primes n).Nodup := List.filter_sublist.nodup List.nodup_range
theorem primes_good {n t : Nat} (hs : SqFr t) (ht : t ≤ n) : Good (primes n) t :=
  good_of (fun p hp => primes_prim hp) hs fun p hp hd => List.mem_filter.2 ⟨by
    have := Nat.le_of_dvd (by have := hs.1; omega) hd
    simp; omega, by simpa using hp⟩

/-- A sum of different roots is not small, told by its approximations. -/
theorem sums_far (h : Appr X q w) (hs : ∀ n : Nat, (n : Int) * (X * X) < (q n + 1) * (q n + 1)) (R : Nat) (W W2 T : Int) (k : Nat)
    (ts : List (Int × Nat)) (hne : ts ≠ []) (hlen : ts.length ≤ k + 1) (hr : ∀ t ∈ ts, SqFr t.2 ∧ t.2 ≤ R) (hn : (ts.map (·.2)).Nodup) (hc : ∀ t ∈ ts, t.1 ≠ 0)
    (hW : ∀ n, n ≤ R → w n ≤ W) (hW2 : ∀ a b, a ≤ R → b ≤ R → w (a * b) ≤ W2) (hR : (R : Int) ≤ W2) (hT : sumA ts ≤ T) (hT1 : 1 ≤ T)
    (hX : ((3 * W + 1) + k * (k + 1)) * (W2 * T) ^ (2 ^ k) < X) : T < ((sumQ q ts).natAbs : Int) := by
  apply Classical.byContradiction
  intro hcon
  have hv : ((sumQ q ts).natAbs : Int) ≤ T := by omega
  clear hcon
  match ts, hne with
  | t :: ts, _ =>
    have hx := h.x1
    have hw0 : ∀ n, 0 ≤ w n := fun n => by have := h.w1 n; omega
    obtain ⟨⟨hs1, hr1⟩, hrs⟩ := List.forall_mem_cons.1 hr
    obtain ⟨hc1, hcs⟩ := List.forall_mem_cons.1 hc
    have hWr := hW t.2 hr1
    have hW1 : 1 ≤ W := Int.le_trans (h.w1 t.2) hWr
    have hW2' : 1 ≤ W2 := Int.le_trans (h.w1 (t.2 * t.2)) (hW2 _ _ hr1 hr1)
    -- the product of all conjugates
    have hnz := nrm_ne (fun p hp => primes_prim hp) (primes_nodup R) t.1 t.2 ts (primes_good hs1 hr1) (fun u hu => primes_good (hrs u hu).1 (hrs u hu).2) hs1.1 hn hc1
    have hsA : sumA (t :: ts) = (t.1.natAbs : Int) + sumA ts := rfl
    have hA := sumA_map t.2 ts
    have hM : nm w _ (lin (t.1 * t.2) (ts.map fun u => (u.1, u.2 * t.2))) ≤ W2 * T := by
      refine Int.le_trans (nm_lin _ W2 _ (fun u hu => ?_)) ?_
      · obtain ⟨v, hv, rfl⟩ := List.mem_map.1 hu
        exact hW2 _ _ (hrs v hv).2 hr1
      · rw [hA, na_mul]
        have e : (((t.2 : Int).natAbs : Nat) : Int) = t.2 := by omega
        rw [e]
        have h1 : (t.1.natAbs : Int) * t.2 ≤ (t.1.natAbs : Int) * W2 := Int.mul_le_mul_of_nonneg_left (by omega) (by omega)
        have h2 : W2 * ((t.1.natAbs : Int) + sumA ts) ≤ W2 * T := Int.mul_le_mul_of_nonneg_left (by omega) (by omega)
        rw [Int.mul_add, Int.mul_comm W2 (t.1.natAbs : Int)] at h2
        omega
    have hM1 : 1 ≤ W2 * T := by have := Int.mul_le_mul hW2' hT1 (by omega) (by omega); omega
    have hfar := V_far h _ _ (W2 * T) hM1 hM hnz
    have hlin := V_lin (X := X) (q := q) (t.1 * t.2) (ts.map fun u => (u.1, u.2 * t.2))
    have hl1 : ((ts.map fun u => (u.1, u.2 * t.2)).map (·.2)).length = ts.length := by simp
    have hl2 : (ts.map fun u => (u.1, u.2 * t.2)).length = ts.length := by simp
    rw [hl1] at hfar
    rw [hl2] at hlin
    generalize V X q _ (lin (t.1 * t.2) (ts.map fun u => (u.1, u.2 * t.2))) = v0 at hfar hlin
    -- what is near
    have hnear := sumQ_near h hs t.2 W hW1 hWr ts (fun u hu => hW _ (hrs u hu).2)
    have hsq : Bd (q t.2 * q t.2 - X * (X * t.2)) ((2 * W + 1) * X) := by
      have h1 := h.lo t.2
      have h2 := h.hi t.2
      have e : (t.2 : Int) * (X * X) = X * (X * t.2) := by grind
      rw [e] at h1 h2
      have h3 := Int.mul_le_mul_of_nonneg_right hWr (show 0 ≤ X by omega)
      have e2 : (2 * W + 1) * X = 2 * (W * X) + X := by grind
      rw [e2]
      unfold Bd; omega
    have hq0 := h.q0 t.2
    have hqw : q t.2 ≤ W * X := Int.le_trans (h.qw t.2) (Int.mul_le_mul_of_nonneg_right hWr (by omega))
    have hsQ : sumQ q (t :: ts) = t.1 * q t.2 + sumQ q ts := rfl
    rw [hsQ] at hv
    generalize sumQ q ts = S at *
    generalize sumQ q (ts.map fun u => (u.1, u.2 * t.2)) = S2 at *
    generalize q t.2 = q1 at *
    have hsum := ((Bd.self t.1).mul hsq).add hnear
    have e1 : t.1 * (q1 * q1 - X * (X * t.2)) + (q1 * S - X * S2) = q1 * (t.1 * q1 + S) - X * (X * (t.1 * t.2) + S2) := by grind
    have e2 : (t.1.natAbs : Int) * ((2 * W + 1) * X) + (2 * W + 1) * X * sumA ts = X * ((2 * W + 1) * sumA (t :: ts)) := by rw [hsA]; grind
    rw [e1, e2] at hsum
    generalize X * (t.1 * t.2) + S2 = Y at hsum hlin
    have hY : (Y.natAbs : Int) ≤ (3 * W + 1) * T := by
      have g1 : Bd (q1 * (t.1 * q1 + S)) (W * X * T) := ((bd_nonneg hq0).mono hqw).mul (bd_abs.2 hv)
      have g2 := g1.sub hsum
      have e3 : q1 * (t.1 * q1 + S) - (q1 * (t.1 * q1 + S) - X * Y) = X * Y := by omega
      rw [e3] at g2
      have g3 := bd_abs.1 g2
      rw [na_mul] at g3
      have e4 : ((X.natAbs : Nat) : Int) = X := by omega
      rw [e4] at g3
      have g4 := Int.mul_le_mul_of_nonneg_left (Int.mul_le_mul_of_nonneg_left hT (show 0 ≤ 2 * W + 1 by omega)) (show 0 ≤ X by omega)
      refine Int.le_of_mul_le_mul_left (a := X) ?_ (by omega)
      have e5 : X * ((3 * W + 1) * T) = W * X * T + X * ((2 * W + 1) * T) := by grind
      rw [e5]; omega
    have hvX : ((v0.natAbs : Nat) : Int) * X = X ^ ts.length * (Y.natAbs : Int) := by
      have := congrArg (fun z : Int => ((z.natAbs : Nat) : Int)) hlin
      simp only [na_mul] at this
      have e4 : ((X.natAbs : Nat) : Int) = X := by omega
      have hp := pow_pos' hx ts.length
      have e5 : (((X ^ ts.length).natAbs : Nat) : Int) = X ^ ts.length := by omega
      rw [e4, e5] at this
      rw [Int.mul_comm]; exact this
    rw [hvX] at hfar
    have hp := pow_pos' hx ts.length
    have hMT : T ≤ W2 * T := by have := Int.mul_le_mul_of_nonneg_right hW2' (show 0 ≤ T by omega); omega
    have hlen' : ts.length ≤ k := by simp at hlen; omega
    have hQ : (W2 * T) ^ (2 ^ ts.length) ≤ (W2 * T) ^ (2 ^ k) := by
      have e : 2 ^ k = 2 ^ ts.length + (2 ^ k - 2 ^ ts.length) := by
        have := Nat.pow_le_pow_right (show 0 < 2 by decide) hlen'; omega
      rw [e, Int.pow_add]
      have h1 := pow_pos' hM1 (2 ^ ts.length)
      have h2 := pow_pos' hM1 (2 ^ k - 2 ^ ts.length)
      have := Int.mul_le_mul_of_nonneg_left h2 (show 0 ≤ (W2 * T) ^ (2 ^ ts.length) by omega)
      omega
    have hQ1 := pow_pos' hM1 (2 ^ ts.length)
    generalize X ^ ts.length = P at *
    generalize W2 * T = M at *
    generalize M ^ (2 ^ ts.length) = Q at *
    generalize M ^ (2 ^ k) = Q2 at *
    have hj : ((ts.length : Nat) : Int) * ((ts.length : Nat) + 1) ≤ k * (k + 1) := Int.mul_le_mul (by omega) (by omega) (by omega) (by omega)
    have hj0 : 0 ≤ ((ts.length : Nat) : Int) * ((ts.length : Nat) + 1) := Int.mul_nonneg (by omega) (by omega)
    generalize ((ts.length : Nat) : Int) * ((ts.length : Nat) + 1) = j at *
    generalize (k : Int) * (k + 1) = kk at *
    generalize (Y.natAbs : Int) = y at *
    have g1 : y ≤ (3 * W + 1) * M := Int.le_trans hY (Int.mul_le_mul_of_nonneg_left hMT (by omega))
    have g2 : P * y * Q ≤ P * ((3 * W + 1) * M) * Q := Int.mul_le_mul_of_nonneg_right (Int.mul_le_mul_of_nonneg_left g1 (by omega)) (by omega)
    have g3 : P * M * X ≤ P * M * ((3 * W + 1 + j) * Q) := by
      have e1 : P * M * X = P * X * M := by grind
      have e2 : P * M * ((3 * W + 1 + j) * Q) = P * ((3 * W + 1) * M) * Q + j * (P * Q * M) := by grind
      rw [e1, e2]; omega
    have g4 := Int.le_of_mul_le_mul_left g3 (Int.mul_pos (by omega) (by omega))
    have g5 : (3 * W + 1 + j) * Q ≤ (3 * W + 1 + kk) * Q2 := Int.mul_le_mul (by omega) hQ (by omega) (by omega)
    omega
end Go.Proofs.YtkjclafbpocabaaGreatDoor.Tw
