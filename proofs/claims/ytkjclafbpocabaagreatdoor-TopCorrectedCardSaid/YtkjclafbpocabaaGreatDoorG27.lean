/-
  Contracts of the program's own functions (and their plain mathematics), on the way to the law: each for all arguments that its hypotheses let.
-/
import Derived.Test.YtkjclafbpocabaaGreatDoorG26
import Derived.Test.YtkjclafbpocabaaGreatDoorG21
set_option linter.unusedSimpArgs false
set_option linter.unusedVariables false

/-! ## W5 -/
namespace Go.Proofs.YtkjclafbpocabaaGreatDoor
open Go.RowKit Go.Maps Go.Shelf Go.Sort
/-! The integer below a sum of roots: its approximations decide it. -/
theorem sumQ_SQ (D : Nat) (l : List (Int × Int)) : Tw.sumQ (qD D) (natT l) = SQ D l := by rw [sumQ_enc, SQ_enc]
theorem absS_le2 {l : List (Int × Int)} {C : Int} (h : ∀ t ∈ l, (t.1.natAbs : Int) ≤ C) : absS l ≤ l.length * C := by
  induction l with
  | nil => simp [absS, natT, Tw.sumA]
  | cons t l ih =>
    rw [absS_cons]
    have h1 := h t (by simp)
    have h2 := ih (fun u hu => h u (by simp [hu]))
    have e : ((t :: l).length : Int) * C = C + l.length * C := by simp; grind
    omega
theorem isq_two (D : Nat) : isq (4 ^ D) = 2 ^ D := by
  have e : 4 ^ D = 2 ^ D * 2 ^ D := by rw [← Nat.mul_pow]
  rw [e]
  exact (isq_uniq (Nat.le_refl _) (by
    have : (2 ^ D + 1) * (2 ^ D + 1) = 2 ^ D * 2 ^ D + 2 * 2 ^ D + 1 := by grind
    omega)).symm
theorem qZ_one (D : Nat) : qZ D 1 = 2 ^ D := by
  unfold qZ qD
  rw [show (1 : Int).toNat * 4 ^ D = 4 ^ D by simp, isq_two]
  simp
theorem fQ_le5 (D : Nat) (r : Int) (hr : r ≤ 1000) : fQ1 D r ≤ 2 ^ (D + 5) := by
  unfold fQ1
  have h1 := (isq_spec (r.toNat * 4 ^ D)).1
  have e1 : 2 ^ (D + 5) = 32 * 2 ^ D := by rw [Nat.pow_add]; omega
  have e2 : (32 * 2 ^ D) * (32 * 2 ^ D) = 1024 * 4 ^ D := by rw [Nat.mul_mul_mul_comm, ← Nat.mul_pow]
  have hp : 0 < 4 ^ D := Nat.pow_pos (by decide)
  have h2 : r.toNat * 4 ^ D ≤ 1000 * 4 ^ D := Nat.mul_le_mul_right _ (by omega)
  rw [e1]
  rcases Nat.lt_or_ge (isq (r.toNat * 4 ^ D)) (32 * 2 ^ D) with h | h
  · omega
  · exfalso
    have := Nat.mul_le_mul h h
    omega
/-- A number times m, less K. -/
def extL (m : Int) (l : List (Int × Int)) (K : Int) : List (Int × Int) := mulS m l ++ [(-K, 1)]
theorem ext_coef (m : Int) (l : List (Int × Int)) (K : Int) (r : Int) : coefOf (extL m l K) r = m * coefOf l r - (if r = 1 then K else 0) := by
  unfold extL
  rw [coef_append, coef_mulS]
  by_cases h : (1 : Int) = r
  · subst h; simp [coefOf]; omega
  · have h2 : ¬ r = 1 := fun e => h e.symm
    simp [coefOf, h, h2]
theorem ext_SQ (D : Nat) (m : Int) (l : List (Int × Int)) (K : Int) : SQ D (extL m l K) = SQ D (mulS m l) - K * 2 ^ D := by
  unfold extL
  rw [SQ_append, SQ_cons, qZ_one]
  have : SQ D [] = 0 := rfl
  rw [this]
  grind
/-- A number that is no fraction. -/
def Irr (l : List (Int × Int)) : Prop := ¬ ((binF l).2.2 = true ∧ (binF l).2.1.1 = 0)
theorem irr_rest {d : Int} {l : List (Int × Int)} (v : Vld d l) (h : Irr l) : l.filter (fun t => decide (t.2 ≠ 1)) ≠ [] := by
  intro e
  have hall : ∀ t ∈ l, t.2 = 1 := fun t ht => by
    apply Classical.byContradiction
    intro hn
    have : t ∈ l.filter (fun t => decide (t.2 ≠ 1)) := List.mem_filter.2 ⟨ht, by simpa using hn⟩
    rw [e] at this
    simp at this
  apply h
  match l, v, hall with
  | [], _, _ => simp [binF]
  | [t], _, hall => have := hall t (by simp); simp [binF, this]
  | t :: u :: us, v, hall =>
    have a := v.asc 1 (by omega) (by simp)
    simp at a
    have := hall t (by simp)
    have := hall u (by simp)
    omega
theorem vld_abs {d m : Int} {l : List (Int × Int)} (v : Vld d l) (hm1 : 1 ≤ m) (hm2 : m ≤ 1000000000) : absS (mulS m l) ≤ 400000000000000 := by
  have h := absS_le2 (l := mulS m l) (C := 100000000000000) (fun t ht => by
    obtain ⟨u, hu, rfl⟩ := List.mem_map.1 ht
    have h1 := v.cf u hu
    have := mul_abs_le m u.1 1000000000 100000 (by omega) (by omega) h1.1 h1.2.1
    dsimp only
    omega)
  have hl : ((mulS m l).length : Int) ≤ 4 := by have := v.len; simp [mulS]; omega
  have : ((mulS m l).length : Int) * 100000000000000 ≤ 4 * 100000000000000 := Int.mul_le_mul_of_nonneg_right hl (by omega)
  omega
/-- A multiple of a number that is no fraction is far from every integer. -/
theorem ext_far {d m : Int} {l : List (Int × Int)} (v : Vld d l) (hm1 : 1 ≤ m) (hm2 : m ≤ 1000000000) (hirr : Irr l) (K : Int) (hK1 : -100000000000000000 ≤ K) (hK2 : K ≤ 100000000000000000) :
    (1152921504606846976 : Int) < ((SQ 6656 (extL m l K)).natAbs : Int) := by
  obtain ⟨D, hD⟩ : ∃ D, D = 6656 := ⟨_, rfl⟩
  rw [← hD]
  have hrest := irr_rest v hirr
  have hcf := coef_filter 1
  obtain ⟨rs, hrs⟩ : ∃ rs, l.filter (fun t => decide (t.2 ≠ 1)) = rs := ⟨_, rfl⟩
  have hsub : ∀ t ∈ rs, t ∈ l ∧ t.2 ≠ 1 := fun t ht => by
    rw [← hrs] at ht
    have := List.mem_filter.1 ht
    exact ⟨this.1, by simpa using this.2⟩
  have hnd : (rs.map (·.2)).Nodup := by
    rw [← hrs]
    have := pairwise_nodup (asc_pairwise l v.asc)
    exact List.Nodup.sublist (List.Sublist.map _ List.filter_sublist) this
  have hlen : rs.length ≤ 4 := by rw [← hrs]; exact Nat.le_trans (List.length_filter_le _ _) v.len
  have hco : ∀ r, coefOf rs r = if r = 1 then 0 else coefOf l r := fun r => by rw [← hrs]; exact hcf r l
  rw [hrs] at hrest
  have ha : -100000 ≤ coefOf l 1 ∧ coefOf l 1 ≤ 100000 := by
    by_cases h0 : coefOf l 1 = 0
    · omega
    · obtain ⟨t, ht, he⟩ := coefOf_ne h0
      have h1 := (v.terms.2 t.1 t.2).1 ht
      rw [he] at h1
      have h2 := v.cf t ht
      omega
  obtain ⟨a, hae⟩ : ∃ a, coefOf l 1 = a := ⟨_, rfl⟩
  rw [hae] at ha
  have hma := mul_abs_le m a 1000000000 100000 (by omega) (by omega) ha.1 ha.2
  obtain ⟨ts, hts⟩ : ∃ ts, ts = (if m * a - K = 0 then [] else [(m * a - K, 1)]) ++ mulS m rs := ⟨_, rfl⟩
  have hmem : ∀ t ∈ ts, (t = (m * a - K, 1) ∧ m * a - K ≠ 0) ∨ ∃ u ∈ rs, t = (m * u.1, u.2) := fun t ht => by
    rw [hts] at ht
    rcases List.mem_append.1 ht with h | h
    · by_cases h0 : m * a - K = 0
      · rw [if_pos h0] at h; simp at h
      · rw [if_neg h0] at h; simp at h; exact .inl ⟨h, h0⟩
    · obtain ⟨u, hu, rfl⟩ := List.mem_map.1 h
      exact .inr ⟨u, hu, rfl⟩
  have hcoef : ∀ r, coefOf ts r = coefOf (extL m l K) r := fun r => by
    rw [hts, coef_append, coef_mulS, hco, ext_coef]
    by_cases h : r = 1
    · subst h
      rw [if_pos rfl, if_pos rfl, hae]
      by_cases h0 : m * a - K = 0
      · rw [if_pos h0, h0]; simp [coefOf]
      · rw [if_neg h0]; simp [coefOf]
    · rw [if_neg h, if_neg h]
      have h2 : ¬ (1 : Int) = r := fun e => h e.symm
      by_cases h0 : m * a - K = 0
      · rw [if_pos h0]; simp [coefOf]
      · rw [if_neg h0]; simp [coefOf, h2]
  have e1 : SQ D (extL m l K) = SQ D ts := by
    have := SQ_ratio (l := extL m l K) (m := ts) (A := 1) (B := 1) (fun r => by rw [hcoef]) D
    omega
  rw [e1, ← sumQ_SQ]
  have hrn : (mulS m rs).map (·.2) = rs.map (·.2) := by simp [mulS, Function.comp_def]
  have hlen5 : ts.length ≤ 5 := by
    rw [hts, List.length_append]
    have : (if m * a - K = 0 then ([] : List (Int × Int)) else [(m * a - K, 1)]).length ≤ 1 := by split <;> simp
    simp [mulS] at this ⊢
    omega
  refine roots_far D 4 1152921504606846976 (natT ts) ?_ ?_ (by decide) ?_ ?_ ?_ ?_ ?_
  · rw [hts]
    intro e
    simp [natT, mulS] at e
    exact hrest e.2
  · simpa [natT] using hlen5
  · intro t ht
    obtain ⟨u, hu, rfl⟩ := List.mem_map.1 ht
    rcases hmem u hu with ⟨rfl, _⟩ | ⟨x, hx, rfl⟩
    · refine ⟨⟨by show (1 : Int).toNat ≠ 0; decide, fun e he hd => ?_⟩, by show (1 : Int).toNat ≤ 1000; decide⟩
      have h5 : e * e ≤ 1 := Nat.le_of_dvd (show 0 < (1 : Int).toNat by decide) hd
      have h6 := Nat.mul_le_mul he he
      omega
    · have h1 := v.rt x (hsub x hx).1
      exact ⟨sqfr_of h1.1 (v.sq x (hsub x hx).1), by show x.2.toNat ≤ 1000; omega⟩
  · refine natT_map ts (fun t ht => ?_) ?_
    · rcases hmem t ht with ⟨rfl, _⟩ | ⟨x, hx, rfl⟩
      · show (1 : Int) ≤ 1; decide
      · exact (v.rt x (hsub x hx).1).1
    · rw [hts, List.map_append, hrn]
      by_cases h0 : m * a - K = 0
      · rw [if_pos h0]; simpa using hnd
      · rw [if_neg h0]
        rw [List.map_cons, List.map_nil, List.singleton_append, List.nodup_cons]
        refine ⟨fun hc => ?_, hnd⟩
        obtain ⟨x, hx, he⟩ := List.mem_map.1 hc
        exact (hsub x hx).2 he
  · intro t ht
    obtain ⟨u, hu, rfl⟩ := List.mem_map.1 ht
    rcases hmem u hu with ⟨rfl, h0⟩ | ⟨x, hx, rfl⟩
    · exact h0
    · have := (v.cf x (hsub x hx).1).2.2
      exact Int.mul_ne_zero (by omega) this
  · have h := absS_le2 (l := ts) (C := 200000000000000000) (fun t ht => by
      rcases hmem t ht with ⟨rfl, _⟩ | ⟨x, hx, rfl⟩
      · dsimp only; omega
      · have h1 := v.cf x (hsub x hx).1
        have := mul_abs_le m x.1 1000000000 100000 (by omega) (by omega) h1.1 h1.2.1
        dsimp only
        omega)
    have h5 : (ts.length : Int) * 200000000000000000 ≤ 5 * 200000000000000000 := Int.mul_le_mul_of_nonneg_right (by omega) (by omega)
    show absS ts ≤ _
    omega
  · rw [hD]
    exact num_up 1152921504606846976 70 4 6656 (by decide) (by decide)
theorem nat_floor {x y M : Nat} (hM : 0 < M) (hxy : x ≤ y) (h : ∀ K : Nat, x < K * M → ¬ K * M ≤ y) : x / M = y / M := by
  have h1 : x / M ≤ y / M := Nat.div_le_div_right hxy
  rcases Nat.lt_or_ge (x / M) (y / M) with h2 | h2
  · exfalso
    exact h (y / M) ((Nat.div_lt_iff_lt_mul hM).1 h2) (Nat.div_mul_le_self y M)
  · omega
/-- The integer below: decided, and in its place. -/
theorem floor_sg {d m : Int} {l : List (Int × Int)} (v : Vld d l) (hm1 : 1 ≤ m) (hm2 : m ≤ 1000000000) (hirr : Irr l) :
    flBL d.toNat 6656 (mulS m l) = true ∧ Sg (extL m l (flrL d.toNat (mulS m l) * d)) 1 ∧ Sg (extL m l ((flrL d.toNat (mulS m l) + 1) * d)) (-1) ∧
      -(12800000 * m) - 1 ≤ flrL d.toNat (mulS m l) ∧ flrL d.toNat (mulS m l) ≤ 12800000 * m := by
  have hd1 := v.d1
  have hd2 := v.d2
  have far := fun K h1 h2 => ext_far v hm1 hm2 hirr K h1 h2
  have habs := vld_abs v hm1 hm2
  have hone := enc_one 6656 (mulS m l)
  have hV := SQ_enc 6656 (mulS m l)
  have lA : encP (fQ 6656) (mulS m l) ≤ encP (fQ1 6656) (mulS m l) := encP_lt (fQ 6656) _
  have lB : encN (fQ 6656) (mulS m l) ≤ encN (fQ1 6656) (mulS m l) := encN_lt (fQ 6656) _
  have hfl : ∀ t ∈ mulS m l, (t.1.toNat ≤ 100000 * m.toNat ∧ (-t.1).toNat ≤ 100000 * m.toNat) ∧ fQ1 6656 t.2 ≤ 2 ^ (6656 + 5) := fun t ht => by
    obtain ⟨u, hu, rfl⟩ := List.mem_map.1 ht
    have h1 := v.cf u hu
    have h2 := v.rt u hu
    have h3 : m * u.1 ≤ m * 100000 := Int.mul_le_mul_of_nonneg_left h1.2.1 (by omega)
    have h4 : m * -100000 ≤ m * u.1 := Int.mul_le_mul_of_nonneg_left h1.1 (by omega)
    exact ⟨⟨by dsimp only; omega, by dsimp only; omega⟩, fQ_le5 6656 u.2 (by omega)⟩
  have uA := encP_le (fQ1 6656) (mulS m l) (100000 * m.toNat) (2 ^ (6656 + 5)) (fun t ht => ⟨(hfl t ht).1.1, (hfl t ht).2⟩)
  have uB := encN_le (fQ1 6656) (mulS m l) (100000 * m.toNat) (2 ^ (6656 + 5)) (fun t ht => ⟨(hfl t ht).1.2, (hfl t ht).2⟩)
  have hlen : (mulS m l).length ≤ 4 := by have := v.len; simpa [mulS] using this
  have hextS := fun K => ext_SQ 6656 m l K
  unfold flrL flNL flBL
  generalize encP (fQ 6656) (mulS m l) = A0 at *
  generalize encP (fQ1 6656) (mulS m l) = A1 at *
  generalize encN (fQ 6656) (mulS m l) = B0 at *
  generalize encN (fQ1 6656) (mulS m l) = B1 at *
  obtain ⟨D, hD⟩ : ∃ D, D = 6656 := ⟨_, rfl⟩
  rw [← hD] at far hV uA uB hextS ⊢
  obtain ⟨P, hP⟩ : ∃ P : Nat, 2 ^ D = P := ⟨_, rfl⟩
  have hP1 : 1 ≤ P := by rw [← hP]; exact Nat.pow_pos (by decide)
  have hPi : (2 : Int) ^ D = (P : Int) := by rw [← hP]; simp
  have eP : 2 ^ (D + 5) = 32 * P := by rw [Nat.pow_add, hP]; omega
  rw [eP] at uA uB
  have vA : A1 ≤ 12800000 * m.toNat * P := by
    refine Nat.le_trans uA (Nat.le_trans (Nat.mul_le_mul_right _ hlen) ?_)
    have : 4 * (100000 * m.toNat * (32 * P)) = 12800000 * m.toNat * P := by grind
    omega
  have vB : B1 ≤ 12800000 * m.toNat * P := by
    refine Nat.le_trans uB (Nat.le_trans (Nat.mul_le_mul_right _ hlen) ?_)
    have : 4 * (100000 * m.toNat * (32 * P)) = 12800000 * m.toNat * P := by grind
    omega
  clear uA uB hfl eP
  -- how far multiples are
  obtain ⟨V, hVe⟩ : ∃ V, SQ D (mulS m l) = V := ⟨_, rfl⟩
  rw [hVe] at hV
  have far2 : ∀ K : Int, -100000000000000000 ≤ K → K ≤ 100000000000000000 → (1152921504606846976 : Int) < ((V - K * P).natAbs : Int) := fun K h1 h2 => by
    have := far K h1 h2
    rwa [hextS, hVe, hPi] at this
  have hS : (A1 : Int) - A0 + (B1 - B0) ≤ 400000000000000 := by omega
  have hV0 := far2 0 (by omega) (by omega)
  rw [Int.zero_mul, Int.sub_zero] at hV0
  have hdn : ((d.toNat : Nat) : Int) = d := by omega
  obtain ⟨n, hn⟩ : ∃ n, d.toNat = n := ⟨_, rfl⟩
  rw [hn] at hdn ⊢
  have hn1 : 1 ≤ n := by omega
  have hn2 : n ≤ 100000 := by omega
  have hM : 0 < n * P := Nat.mul_pos hn1 hP1
  have hmn : m.toNat ≤ 1000000000 := by omega
  -- a multiple that is not above a bound
  have kb : ∀ K X : Nat, K * (n * P) ≤ X → X ≤ 12800000 * m.toNat * P → K * n ≤ 12800000 * m.toNat := fun K X h1 h2 => by
    have h3 : K * n * P ≤ 12800000 * m.toNat * P := by rw [Nat.mul_assoc]; omega
    exact Nat.le_of_mul_le_mul_right h3 hP1
  have ki : ∀ K : Nat, ((K * (n * P) : Nat) : Int) = ((K * n : Nat) : Int) * P := fun K => by rw [← Nat.mul_assoc, Int.natCast_mul]
  -- what follows from where F lies
  have fin : ∀ F : Int, -(12800000 * m) - 1 ≤ F → F ≤ 12800000 * m → -13000000000000000 ≤ F * d → F * d ≤ 13000000000000000 → F * d * P ≤ V → V ≤ (F + 1) * d * P →
      Sg (extL m l (F * d)) 1 ∧ Sg (extL m l ((F + 1) * d)) (-1) ∧ -(12800000 * m) - 1 ≤ F ∧ F ≤ 12800000 * m := fun F h1 h2 h3 h4 h5 h6 => by
    have e1 : (F + 1) * d = F * d + d := by grind
    have f1 := far2 (F * d) (by omega) (by omega)
    have f2 := far2 ((F + 1) * d) (by omega) (by omega)
    have g1 : 1152921504606846976 < V - F * d * P := by omega
    have g2 : 1152921504606846976 < (F + 1) * d * P - V := by omega
    have ab : ∀ K : Int, -100000000000000000 ≤ K → K ≤ 100000000000000000 → absS (extL m l K) ≤ 1152921504606846976 := fun K k1 k2 => by
      have : absS (extL m l K) = absS (mulS m l) + (K.natAbs : Int) := by
        unfold extL
        generalize mulS m l = z
        induction z with
        | nil => simp [absS, natT, Tw.sumA]
        | cons t z ih => rw [List.cons_append, absS_cons, absS_cons, ih]; omega
      omega
    refine ⟨.inl ⟨rfl, D, ?_⟩, .inr (.inl ⟨rfl, D, ?_⟩), h1, h2⟩
    · rw [hextS, hVe, hPi]
      have := ab (F * d) (by omega) (by omega)
      omega
    · rw [SQ_mulS, hextS, hVe, hPi]
      have h7 := ab ((F + 1) * d) (by omega) (by omega)
      have h8 : absS (mulS (-1) (extL m l ((F + 1) * d))) = absS (extL m l ((F + 1) * d)) := by
        generalize extL m l ((F + 1) * d) = z
        induction z with
        | nil => rfl
        | cons t z ih =>
          have : mulS (-1) (t :: z) = (-1 * t.1, t.2) :: mulS (-1) z := rfl
          rw [this, absS_cons, absS_cons, ih]
          dsimp only
          omega
      omega
  unfold flB flN
  by_cases hc : B1 ≤ A0
  · rw [if_pos hc, if_pos hc]
    have hq : (A0 - B1) / n / P = (A1 - B0) / n / P := by
      rw [Nat.div_div_eq_div_mul, Nat.div_div_eq_div_mul]
      refine nat_floor hM (by omega) (fun K k1 k2 => ?_)
      have k3 := kb K _ k2 (by omega)
      have k4 := far2 ((K * n : Nat) : Int) (by omega) (by omega)
      rw [← ki K] at k4
      omega
    rw [hP]
    refine ⟨by simpa using hq, ?_⟩
    rw [Nat.div_div_eq_div_mul, Nat.div_div_eq_div_mul] at hq
    rw [Nat.div_div_eq_div_mul]
    obtain ⟨q, hqe⟩ : ∃ q, (A0 - B1) / (n * P) = q := ⟨_, rfl⟩
    rw [hqe] at hq ⊢
    have q1 : q * (n * P) ≤ A0 - B1 := by rw [← hqe]; exact Nat.div_mul_le_self _ _
    have q2 : A1 - B0 < (q + 1) * (n * P) := (Nat.div_lt_iff_lt_mul hM).1 (by omega)
    have q3 := kb q _ q1 (by omega)
    have q4 : q ≤ q * n := Nat.le_mul_of_pos_right _ hn1
    have q5 := ki q
    have q6 := ki (q + 1)
    have e1 : ((q : Nat) : Int) * d = ((q * n : Nat) : Int) := by rw [Int.natCast_mul, hdn]
    have e2 : (((q : Nat) : Int) + 1) * d = (((q + 1) * n : Nat) : Int) := by rw [Int.natCast_mul, hdn]; simp
    refine fin (q : Int) (by omega) (by omega) (by rw [e1]; omega) (by rw [e1]; omega) ?_ ?_
    · rw [e1, ← q5]; omega
    · rw [e2, ← q6]; omega
  · have hc2 : A1 ≤ B0 := by omega
    rw [if_neg hc, if_neg hc, if_pos hc2, if_pos hc2]
    have hq : (B0 - A1) / n / P = (B1 - A0) / n / P := by
      rw [Nat.div_div_eq_div_mul, Nat.div_div_eq_div_mul]
      refine nat_floor hM (by omega) (fun K k1 k2 => ?_)
      have k3 := kb K _ k2 (by omega)
      have k4 := far2 (-((K * n : Nat) : Int)) (by omega) (by omega)
      rw [Int.neg_mul, ← ki K] at k4
      omega
    rw [hP]
    refine ⟨by simpa using hq, ?_⟩
    rw [Nat.div_div_eq_div_mul, Nat.div_div_eq_div_mul] at hq
    rw [Nat.div_div_eq_div_mul]
    obtain ⟨q, hqe⟩ : ∃ q, (B0 - A1) / (n * P) = q := ⟨_, rfl⟩
    rw [hqe] at hq ⊢
    have q1 : q * (n * P) ≤ B0 - A1 := by rw [← hqe]; exact Nat.div_mul_le_self _ _
    have q2 : B1 - A0 < (q + 1) * (n * P) := (Nat.div_lt_iff_lt_mul hM).1 (by omega)
    have q3 := kb q _ q1 (by omega)
    have q4 : q ≤ q * n := Nat.le_mul_of_pos_right _ hn1
    have q5 := ki q
    have q6 := ki (q + 1)
    have e1 : (-((q : Nat) : Int) - 1 + 1) * d = -((q * n : Nat) : Int) := by rw [Int.natCast_mul, hdn]; grind
    have e2 : (-((q : Nat) : Int) - 1) * d = -(((q + 1) * n : Nat) : Int) := by rw [Int.natCast_mul, hdn]; simp; grind
    have q7 : (q + 1) * n = q * n + n := by grind
    refine fin (-(q : Int) - 1) (by omega) (by omega) (by rw [e2]; omega) (by rw [e2]; omega) ?_ ?_
    · rw [e2, Int.neg_mul, ← q6]; omega
    · rw [e1, Int.neg_mul, ← q5]; omega
end Go.Proofs.YtkjclafbpocabaaGreatDoor

/-! ## W1 -/
namespace Go.Proofs.YtkjclafbpocabaaGreatDoor
open Go.RowKit Go.Maps Go.Shelf Go.Sort
/-! Plain mathematics of square roots. -/
theorem rat_uniq {X p U q V Y : Int} (hX : 1 ≤ X) (hU : 1 ≤ U) (hV : 1 ≤ V) (hY : 1 ≤ Y) (hp : Rt p) (hq : Rt q) (h : X * X * p * (V * V) = U * U * q * (Y * Y)) : p = q ∧ X * V = U * Y := by
  have a1 : 1 ≤ X * V := by have := Int.mul_le_mul hX hV (by omega) (by omega); omega
  have a2 : 1 ≤ U * Y := by have := Int.mul_le_mul hU hY (by omega) (by omega); omega
  have hp1 := hp.1
  have hq1 := hq.1
  have key := sqf_uniqN (X * V).toNat (U * Y).toNat p.toNat q.toNat (by omega) (by omega) (by
    apply Int.natCast_inj.1
    rw [Int.natCast_mul, Int.natCast_mul, Int.natCast_mul, Int.natCast_mul, Int.toNat_of_nonneg (by omega), Int.toNat_of_nonneg (by omega), Int.toNat_of_nonneg (by omega), Int.toNat_of_nonneg (by omega)]
    clear a1 a2
    grind) (sqfN hp.2 hp.1) (sqfN hq.2 hq.1)
  omega
theorem gcd_one_of {a b x y : Int} (hx : x ∣ a) (hy : y ∣ b) (h : Int.gcd a b = 1) : Int.gcd x y = 1 := by
  have h1 : (Int.gcd x y : Int) ∣ a := Int.dvd_trans (Int.gcd_dvd_left x y) hx
  have h2 : (Int.gcd x y : Int) ∣ b := Int.dvd_trans (Int.gcd_dvd_right x y) hy
  have h3 : Int.gcd x y ∣ Int.gcd a b := Int.dvd_gcd h1 h2
  rw [h] at h3
  exact Nat.dvd_one.1 h3
theorem rt_coprime {x y : Int} (hx : Rt x) (hy : Rt y) (h : Int.gcd x y = 1) : Rt (x * y) := by
  have := Rt.r hx hy
  unfold rS gS at this
  rw [h] at this
  simpa using this
/-- What the root of a fraction is. -/
theorem frac_val {num den : Int} {f : Int × Int} {d : Int} (h : FracR num den f d) (hd : 1 ≤ den) : 0 ≤ num ∧ 0 ≤ f.1 ∧ Rt f.2 ∧ 1 ≤ d ∧ f.1 * f.1 * f.2 * den = num * (d * d) := by
  obtain ⟨s1, q1, s2, q2, h1, h2, rfl, rfl⟩ := h
  have hg : 1 ≤ (Int.gcd num den : Int) := by
    have := Int.gcd_pos_of_ne_zero_right num (show den ≠ 0 by omega)
    omega
  obtain ⟨n', hn'⟩ := Int.gcd_dvd_left num den
  obtain ⟨d', hd'⟩ := Int.gcd_dvd_right num den
  generalize hG : (Int.gcd num den : Int) = g at *
  have e1 : num / g = n' := by rw [hn']; exact Int.mul_ediv_cancel_left _ (by omega)
  have e2 : den / g = d' := by rw [hd']; exact Int.mul_ediv_cancel_left _ (by omega)
  have hc : Int.gcd n' d' = 1 := by
    have hg0 : 0 < Int.gcd num den := by omega
    have := Int.gcd_ediv_gcd_ediv_gcd_of_ne_zero_right (n := num) (m := den) (by omega)
    rw [hG, e1, e2] at this
    exact this
  rw [e1] at h1
  rw [e2] at h2
  have hd1 : 1 ≤ d' := by
    rcases Int.lt_or_le 0 d' with x | x
    · omega
    · have : g * d' ≤ g * 0 := Int.mul_le_mul_of_nonneg_left x (by omega)
      omega
  rcases h2 with ⟨z, _⟩ | ⟨_, hs2, hq2, hm2, hf2⟩
  · omega
  have hd2 : 1 ≤ s2 * q2 := by have := Int.mul_le_mul hs2 hq2 (by omega) (by omega); omega
  rcases h1 with ⟨rfl, rfl, rfl⟩ | ⟨hn1, hs1, hq1, hm1, hf1⟩
  · refine ⟨by omega, by simp, ?_, hd2, by rw [hn']; simp⟩
    simp only [Int.one_mul]
    exact ⟨hq2, hf2⟩
  · have hnn : 0 ≤ g * n' := Int.mul_nonneg (by omega) (by omega)
    refine ⟨by omega, by dsimp only; omega, ?_, hd2, ?_⟩
    · exact rt_coprime ⟨hq1, hf1⟩ ⟨hq2, hf2⟩ (gcd_one_of ⟨s1 * s1, by rw [← hm1, Int.mul_comm]⟩ ⟨s2 * s2, by rw [← hm2, Int.mul_comm]⟩ hc)
    · dsimp only
      rw [hn', hd', ← hm1, ← hm2]
      clear hm1 hm2 hn' hd' hnn e1 e2 hc hG hd1 hn1
      grind
/-- A number of at most two terms, one of them whole: its parts. -/
theorem bin_coef {d : Int} {l : List (Int × Int)} (v : Vld d l) (h : (binF l).2.2 = true) (r : Int) :
    coefOf l r = (if r = 1 then (binF l).1 else 0) + (if (binF l).2.1.2 = r then (binF l).2.1.1 else 0) := by
  match l, v, h with
  | [], _, _ =>
    change (0 : Int) = (if r = 1 then (0 : Int) else 0) + (if (0 : Int) = r then (0 : Int) else 0)
    rw [ite_self, ite_self]; rfl
  | [t], _, _ =>
    by_cases ht : t.2 = 1
    · by_cases hr : r = 1
      · subst hr; simp [binF, ht, coefOf]
      · have hr2 : ¬ (1 : Int) = r := fun e => hr e.symm
        simp [binF, ht, coefOf, hr, hr2]
    · simp [binF, ht, coefOf]
  | [t, u], v, h =>
    by_cases ht : t.2 = 1
    · have hu := v.asc 1 (by omega) (by simp)
      simp [ht] at hu
      by_cases hr : r = 1
      · subst hr
        have hu1 : ¬ u.2 = 1 := by omega
        simp [binF, ht, coefOf, hu1]
      · have hr2 : ¬ (1 : Int) = r := fun e => hr e.symm
        simp [binF, ht, coefOf, hr, hr2]
    · simp [binF, ht] at h
  | t :: u :: x :: us, _, h =>
    by_cases ht : t.2 = 1
    · simp [binF, ht] at h
    · simp [binF, ht] at h
theorem bin_rt {d : Int} {l : List (Int × Int)} (v : Vld d l) (h : (binF l).2.1.1 ≠ 0) : Rt (binF l).2.1.2 := by
  have hr := v.rts
  match l, v, h with
  | [], _, h => simp [binF] at h
  | [t], _, h =>
    by_cases ht : t.2 = 1
    · simp [binF, ht] at h
    · have := hr t (by simp)
      simpa [binF, ht] using this
  | t :: u :: us, v, h =>
    by_cases ht : t.2 = 1
    · have := hr u (by simp)
      simpa [binF, ht] using this
    · have := hr t (by simp)
      simpa [binF, ht] using this
theorem two_sq_coef (x ρ y σ : Int) (r : Int) (h1 : 1 ≤ ρ) (h2 : 1 ≤ σ) : coefOf (prodL [(x, ρ), (y, σ)] [(x, ρ), (y, σ)]) r = (if r = 1 then x * x * ρ + y * y * σ else 0) + (if rS ρ σ = r then 2 * (x * y * gS ρ σ) else 0) := by
  simp only [prodL, List.flatMap_cons, List.flatMap_nil, List.map_cons, List.map_nil, List.append_nil, List.cons_append, List.nil_append, mulT_eq, gS_self h1, gS_self h2, rS_self h1, rS_self h2, gS_comm σ ρ, rS_comm σ ρ]
  simp only [coefOf, List.foldl_cons, List.foldl_nil]
  by_cases a : r = 1
  · subst a
    by_cases b : rS ρ σ = 1
    · simp [b] <;> grind
    · simp [b] <;> grind
  · have a' : ¬ (1 : Int) = r := fun e => a e.symm
    by_cases b : rS ρ σ = r
    · simp [a, a', b] <;> grind
    · simp [a, a', b]
theorem sq_cross {a b : Int} (ha : Rt a) (hb : Rt b) : gS a b * gS a b * rS a b = a * b ∧ 1 ≤ gS a b := by
  obtain ⟨x, rfl, hx1, hx2⟩ := ha.nat
  obtain ⟨y, rfl, hy1, hy2⟩ := hb.nat
  rw [gS_nat, rS_nat]
  have h1 := gr_nat x y
  have h2 := Nat.gcd_pos_of_pos_left y (show 0 < x by omega)
  refine ⟨by exact_mod_cast h1, by omega⟩
theorem sq_zero {x : Int} (h : x * x = 0) : x = 0 := by
  rcases Int.mul_eq_zero.1 h with h | h <;> exact h
theorem sq_inj {x y : Int} (hx : 0 ≤ x) (hy : 0 ≤ y) (h : x * x = y * y) : x = y := by
  have e : (x - y) * (x + y) = 0 := by grind
  rcases Int.mul_eq_zero.1 e with e | e <;> omega
/-- The square of what Root adds up is the number. -/
theorem root_sq {d : Int} {l : List (Int × Int)} (v : Vld d l) (hb : (binF l).2.2 = true) {w : Int} (hw : w * w = rootM l) {f1 f2 : Int × Int} {d1 d2 : Int} (h1 : FracR ((binF l).1 + w) (2 * d) f1 d1) (h2 : FracR ((binF l).1 - w) (2 * d) f2 d2) (r : Int) :
    coefOf (prodL [(d2 * f1.1, f1.2), (d1 * (if (binF l).2.1.1 < 0 then -f2.1 else f2.1), f2.2)] [(d2 * f1.1, f1.2), (d1 * (if (binF l).2.1.1 < 0 then -f2.1 else f2.1), f2.2)]) r * d = coefOf l r * (d1 * d2 * (d1 * d2)) := by
  have hd := v.d1
  obtain ⟨n1, p1, r1, k1, e1⟩ := frac_val h1 (by omega)
  obtain ⟨n2, p2, r2, k2, e2⟩ := frac_val h2 (by omega)
  rw [two_sq_coef _ _ _ _ _ r1.1 r2.1, bin_coef v hb]
  have hbr := bin_rt v
  unfold rootM at hw
  obtain ⟨a, ha⟩ : ∃ a, (binF l).1 = a := ⟨_, rfl⟩
  obtain ⟨b, hbb⟩ : ∃ b, (binF l).2.1.1 = b := ⟨_, rfl⟩
  obtain ⟨m, hm⟩ : ∃ m, (binF l).2.1.2 = m := ⟨_, rfl⟩
  rw [ha, hbb, hm] at hw
  rw [ha] at n1 n2 e1 e2
  rw [hbb, hm] at hbr
  rw [ha, hbb, hm]
  obtain ⟨x, ρ⟩ := f1
  obtain ⟨y, σ⟩ := f2
  dsimp only at *
  obtain ⟨g, hg⟩ : ∃ g, gS ρ σ = g := ⟨_, rfl⟩
  obtain ⟨q, hq⟩ : ∃ q, rS ρ σ = q := ⟨_, rfl⟩
  have hc := sq_cross r1 r2
  have hq1 := (Rt.r r1 r2)
  rw [hg, hq] at hc
  rw [hq] at hq1
  rw [hg, hq]
  obtain ⟨hc1, hc2⟩ := hc
  have z : (if b < 0 then -y else y) * (if b < 0 then -y else y) = y * y := by split <;> grind
  have s1 : (d2 * x * (d2 * x) * ρ + d1 * (if b < 0 then -y else y) * (d1 * (if b < 0 then -y else y)) * σ) * d = a * (d1 * d2 * (d1 * d2)) := by
    have t : d1 * (if b < 0 then -y else y) * (d1 * (if b < 0 then -y else y)) = d1 * d1 * (y * y) := by rw [← z]; grind
    rw [t]
    have h3 : (2 : Int) ≠ 0 := by decide
    apply Int.eq_of_mul_eq_mul_left h3
    clear h1 h2 hw hc1 hq hg hbr z t ha hbb hm hb v
    grind
  have s2 : (2 * (d2 * x * (d1 * (if b < 0 then -y else y)) * g) * d) * (2 * (d2 * x * (d1 * (if b < 0 then -y else y)) * g) * d) * q = (d1 * d2 * (d1 * d2) * b) * (d1 * d2 * (d1 * d2) * b) * m := by
    have t1 : (2 * (d2 * x * (d1 * (if b < 0 then -y else y)) * g) * d) * (2 * (d2 * x * (d1 * (if b < 0 then -y else y)) * g) * d) * q = (d1 * d2 * (d1 * d2)) * (x * x * ρ * (2 * d)) * (y * y * σ * (2 * d)) := by
      have u : ∀ Y : Int, (2 * (d2 * x * (d1 * Y) * g) * d) * (2 * (d2 * x * (d1 * Y) * g) * d) * q = (d1 * d2 * (d1 * d2)) * (x * x) * (Y * Y) * (2 * d * (2 * d)) * (g * g * q) := by intro Y; grind
      rw [u, z, hc1]; grind
    rw [t1, e1, e2]
    have t2 : (a + w) * (a - w) = b * b * m := by grind
    have t3 : (d1 * d2 * (d1 * d2)) * ((a + w) * (d1 * d1)) * ((a - w) * (d2 * d2)) = (d1 * d2 * (d1 * d2)) * (d1 * d2 * (d1 * d2)) * ((a + w) * (a - w)) := by grind
    rw [t3, t2]; grind
  have hD : 1 ≤ d1 * d2 := by have := Int.mul_le_mul k1 k2 (by omega) (by omega); omega
  have hDD : 1 ≤ d1 * d2 * (d1 * d2) := by have := Int.mul_le_mul hD hD (by omega) (by omega); omega
  have s3 : 2 * (d2 * x * (d1 * (if b < 0 then -y else y)) * g) * d = d1 * d2 * (d1 * d2) * b ∧ (b ≠ 0 → q = m) := by
    generalize hX : 2 * (d2 * x * (d1 * (if b < 0 then -y else y)) * g) * d = X at s2 ⊢
    generalize hB : d1 * d2 * (d1 * d2) * b = B at s2 ⊢
    by_cases b0 : b = 0
    · subst b0
      have hB0 : B = 0 := by rw [← hB]; simp
      have s5 : X * X * q = 0 := by rw [s2, hB0]; simp
      rcases Int.mul_eq_zero.1 s5 with s5 | s5
      · exact ⟨by rw [sq_zero s5, hB0], fun h => absurd rfl h⟩
      · have := hq1.1; omega
    · have hm1 := hbr b0
      have hX0 : X ≠ 0 := by
        intro e
        have s5 : B * B * m = 0 := by rw [← s2, e]; simp
        rcases Int.mul_eq_zero.1 s5 with s5 | s5
        · rw [sq_zero s5] at hB
          rcases Int.mul_eq_zero.1 hB with h | h
          · omega
          · exact b0 h
        · have := hm1.1; omega
      have hB0 : B ≠ 0 := by
        intro e
        rw [e] at hB
        rcases Int.mul_eq_zero.1 hB with h | h
        · omega
        · exact b0 h
      have key := rat_uniq (X := (X.natAbs : Int)) (U := (B.natAbs : Int)) (V := 1) (Y := 1) (by omega) (by omega) (by omega) (by omega) hq1 hm1 (by
        rw [Int.natAbs_mul_self', Int.natAbs_mul_self']
        simpa using s2)
      refine ⟨?_, fun _ => key.1⟩
      have habs := key.2
      have hsgX : (0 < b → 0 ≤ X) ∧ (b < 0 → X ≤ 0) := by
        rw [← hX]
        have q1 : 0 ≤ d2 * x := Int.mul_nonneg (by omega) p1
        have q2 : 0 ≤ d1 * y := Int.mul_nonneg (by omega) p2
        have q3 : 0 ≤ d2 * x * (d1 * y) * g := Int.mul_nonneg (Int.mul_nonneg q1 q2) (by omega)
        have q4 : 0 ≤ 2 * (d2 * x * (d1 * y) * g) * d := Int.mul_nonneg (by omega) (by omega)
        constructor
        · intro hb1
          rw [if_neg (by omega)]
          exact q4
        · intro hb1
          rw [if_pos hb1]
          have : 2 * (d2 * x * (d1 * -y) * g) * d = -(2 * (d2 * x * (d1 * y) * g) * d) := by grind
          omega
      have hsgB : (0 < b → 0 ≤ B) ∧ (b < 0 → B ≤ 0) := by
        rw [← hB]
        constructor
        · intro hb1
          exact Int.mul_nonneg (by omega) (by omega)
        · intro hb1
          have := Int.mul_nonneg (show 0 ≤ d1 * d2 * (d1 * d2) by omega) (show 0 ≤ -b by omega)
          rw [Int.mul_neg] at this
          omega
      rcases Int.lt_or_le b 0 with hb1 | hb1
      · have := hsgX.2 hb1; have := hsgB.2 hb1; omega
      · have := hsgX.1 (by omega); have := hsgB.1 (by omega); omega
  obtain ⟨s3, s4⟩ := s3
  rw [Int.add_mul, Int.add_mul]
  congr 1
  · split
    · exact s1
    · simp
  · by_cases b0 : b = 0
    · subst b0
      have s5 : 2 * (d2 * x * (d1 * (if (0 : Int) < 0 then -y else y)) * g) * d = 0 := by rw [s3]; simp
      rw [show (if m = r then (0 : Int) else 0) = 0 by split <;> rfl, Int.zero_mul]
      split
      · exact s5
      · simp
    · rw [s4 b0]
      split
      · rw [s3, Int.mul_comm]
      · simp
end Go.Proofs.YtkjclafbpocabaaGreatDoor
