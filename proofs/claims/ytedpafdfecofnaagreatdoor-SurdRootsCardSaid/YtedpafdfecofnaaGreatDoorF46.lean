/-
  Contracts of the program's own functions (and their plain mathematics), on the way to the law: each for all arguments that its hypotheses let.
-/
import Derived.Test.YtedpafdfecofnaaGreatDoorF42
import Derived.Test.YtedpafdfecofnaaGreatDoorF43
import Derived.Test.YtedpafdfecofnaaGreatDoorF21
set_option linter.unusedSimpArgs false
set_option linter.unusedVariables false

/-! ## W5 -/
namespace Go.Proofs.YtedpafdfecofnaaGreatDoor
open Go.RowKit Go.Maps Go.Shelf Go.Sort
/-! The integer below a sum of roots: its approximations decide it. -/
theorem sumQ_SQ (D : Nat) (l : List (Int × Int)) : Tw.sumQ (qD D) (natT l) = SQ D l := by rw [sumQ_enc, SQ_enc]
theorem absS_le2 {l : List (Int × Int)} {C : Int} (h : ∀ t ∈ l, (t.1.natAbs : Int) ≤ C) : absS l ≤ l.length * C := by
  induction l with
  | nil => simp [absS, natT, Tw.sumA]
  | cons t l ih =>
    rw [absS_cons]
    have h1 := h t (by simp)
    have h2 := ih (fun u hu => h u (by simp [hu]))
    have e : ((t :: l).length : Int) * C = C + l.length * C := by simp; grind
    omega
theorem isq_two (D : Nat) : isq (4 ^ D) = 2 ^ D := by
  have e : 4 ^ D = 2 ^ D * 2 ^ D := by rw [← Nat.mul_pow]
  rw [e]
  exact (isq_uniq (Nat.le_refl _) (by
    have : (2 ^ D + 1) * (2 ^ D + 1) = 2 ^ D * 2 ^ D + 2 * 2 ^ D + 1 := by grind
    omega)).symm
theorem qZ_one (D : Nat) : qZ D 1 = 2 ^ D := by
  unfold qZ qD
  rw [show (1 : Int).toNat * 4 ^ D = 4 ^ D by simp, isq_two]
  simp
theorem fQ_le5 (D : Nat) (r : Int) (hr : r ≤ 1000) : fQ1 D r ≤ 2 ^ (D + 5) := by
  unfold fQ1
  have h1 := (isq_spec (r.toNat * 4 ^ D)).1
  have e1 : 2 ^ (D + 5) = 32 * 2 ^ D := by rw [Nat.pow_add]; omega
  have e2 : (32 * 2 ^ D) * (32 * 2 ^ D) = 1024 * 4 ^ D := by rw [Nat.mul_mul_mul_comm, ← Nat.mul_pow]
  have hp : 0 < 4 ^ D := Nat.pow_pos (by decide)
  have h2 : r.toNat * 4 ^ D ≤ 1000 * 4 ^ D := Nat.mul_le_mul_right _ (by omega)
  rw [e1]
  rcases Nat.lt_or_ge (isq (r.toNat * 4 ^ D)) (32 * 2 ^ D) with h | h
  · omega
  · exfalso
    have := Nat.mul_le_mul h h
    omega
/-- A number times m, less K. -/
def extL (m : Int) (l : List (Int × Int)) (K : Int) : List (Int × Int) := mulS m l ++ [(-K, 1)]
theorem ext_coef (m : Int) (l : List (Int × Int)) (K : Int) (r : Int) : coefOf (extL m l K) r = m * coefOf l r - (if r = 1 then K else 0) := by
  unfold extL
  rw [coef_append, coef_mulS]
  by_cases h : (1 : Int) = r
  · subst h; simp [coefOf]; omega
  · have h2 : ¬ r = 1 := fun e => h e.symm
    simp [coefOf, h, h2]
theorem ext_SQ (D : Nat) (m : Int) (l : List (Int × Int)) (K : Int) : SQ D (extL m l K) = SQ D (mulS m l) - K * 2 ^ D := by
  unfold extL
  rw [SQ_append, SQ_cons, qZ_one]
  have : SQ D [] = 0 := rfl
  rw [this]
  grind
/-- A number that is no fraction. -/
def Irr (l : List (Int × Int)) : Prop := ¬ ((binF l).2.2 = true ∧ (binF l).2.1.1 = 0)
theorem irr_rest {d : Int} {l : List (Int × Int)} (v : Vld d l) (h : Irr l) : l.filter (fun t => decide (t.2 ≠ 1)) ≠ [] := by
  intro e
  have hall : ∀ t ∈ l, t.2 = 1 := fun t ht => by
    apply Classical.byContradiction
    intro hn
    have : t ∈ l.filter (fun t => decide (t.2 ≠ 1)) := List.mem_filter.2 ⟨ht, by simpa using hn⟩
    rw [e] at this
    simp at this
  apply h
  match l, v, hall with
  | [], _, _ => simp [binF]
  | [t], _, hall => have := hall t (by simp); simp [binF, this]
  | t :: u :: us, v, hall =>
    have a := v.asc 1 (by omega) (by simp)
    simp at a
    have := hall t (by simp)
    have := hall u (by simp)
    omega
theorem vld_abs {d m : Int} {l : List (Int × Int)} (v : Vld d l) (hm1 : 1 ≤ m) (hm2 : m ≤ 1000000000) : absS (mulS m l) ≤ 400000000000000 := by
  have h := absS_le2 (l := mulS m l) (C := 100000000000000) (fun t ht => by
    obtain ⟨u, hu, rfl⟩ := List.mem_map.1 ht
    have h1 := v.cf u hu
    have := mul_abs_le m u.1 1000000000 100000 (by omega) (by omega) h1.1 h1.2.1
    dsimp only
    omega)
  have hl : ((mulS m l).length : Int) ≤ 4 := by have := v.len; simp [mulS]; omega
  have : ((mulS m l).length : Int) * 100000000000000 ≤ 4 * 100000000000000 := Int.mul_le_mul_of_nonneg_right hl (by omega)
  omega
/-- A multiple of a number that is no fraction is far from every integer. -/
theorem ext_far {d m : Int} {l : List (Int × Int)} (v : Vld d l) (hm1 : 1 ≤ m) (hm2 : m ≤ 1000000000) (hirr : Irr l) (K : Int) (hK1 : -100000000000000000 ≤ K) (hK2 : K ≤ 100000000000000000) :
    (1152921504606846976 : Int) < ((SQ 6656 (extL m l K)).natAbs : Int) := by
  obtain ⟨D, hD⟩ : ∃ D, D = 6656 := ⟨_, rfl⟩
  rw [← hD]
  have hrest := irr_rest v hirr
  have hcf := coef_filter 1
  obtain ⟨rs, hrs⟩ : ∃ rs, l.filter (fun t => decide (t.2 ≠ 1)) = rs := ⟨_, rfl⟩
  have hsub : ∀ t ∈ rs, t ∈ l ∧ t.2 ≠ 1 := fun t ht => by
    rw [← hrs] at ht
    have := List.mem_filter.1 ht
    exact ⟨this.1, by simpa using this.2⟩
  have hnd : (rs.map (·.2)).Nodup := by
    rw [← hrs]
    have := pairwise_nodup (asc_pairwise l v.asc)
    exact List.Nodup.sublist (List.Sublist.map _ List.filter_sublist) this
  have hlen : rs.length ≤ 4 := by rw [← hrs]; exact Nat.le_trans (List.length_filter_le _ _) v.len
  have hco : ∀ r, coefOf rs r = if r = 1 then 0 else coefOf l r := fun r => by rw [← hrs]; exact hcf r l
  rw [hrs] at hrest
  have ha : -100000 ≤ coefOf l 1 ∧ coefOf l 1 ≤ 100000 := by
    by_cases h0 : coefOf l 1 = 0
    · omega
    · obtain ⟨t, ht, he⟩ := coefOf_ne h0
      have h1 := (v.terms.2 t.1 t.2).1 ht
      rw [he] at h1
      have h2 := v.cf t ht
      omega
  obtain ⟨a, hae⟩ : ∃ a, coefOf l 1 = a := ⟨_, rfl⟩
  rw [hae] at ha
  have hma := mul_abs_le m a 1000000000 100000 (by omega) (by omega) ha.1 ha.2
  obtain ⟨ts, hts⟩ : ∃ ts, ts = (if m * a - K = 0 then [] else [(m * a - K, 1)]) ++ mulS m rs := ⟨_, rfl⟩
  have hmem : ∀ t ∈ ts, (t = (m * a - K, 1) ∧ m * a - K ≠ 0) ∨ ∃ u ∈ rs, t = (m * u.1, u.2) := fun t ht => by
    rw [hts] at ht
    rcases List.mem_append.1 ht with h | h
    · by_cases h0 : m * a - K = 0
      · rw [if_pos h0] at h; simp at h
      · rw [if_neg h0] at h; simp at h; exact .inl ⟨h, h0⟩
    · obtain ⟨u, hu, rfl⟩ := List.mem_map.1 h
      exact .inr ⟨u, hu, rfl⟩
  have hcoef : ∀ r, coefOf ts r = coefOf (extL m l K) r := fun r => by
    rw [hts, coef_append, coef_mulS, hco, ext_coef]
    by_cases h : r = 1
    · subst h
      rw [if_pos rfl, if_pos rfl, hae]
      by_cases h0 : m * a - K = 0
      · rw [if_pos h0, h0]; simp [coefOf]
      · rw [if_neg h0]; simp [coefOf]
    · rw [if_neg h, if_neg h]
      have h2 : ¬ (1 : Int) = r := fun e => h e.symm
      by_cases h0 : m * a - K = 0
      · rw [if_pos h0]; simp [coefOf]
      · rw [if_neg h0]; simp [coefOf, h2]
  have e1 : SQ D (extL m l K) = SQ D ts := by
    have := SQ_ratio (l := extL m l K) (m := ts) (A := 1) (B := 1) (fun r => by rw [hcoef]) D
    omega
  rw [e1, ← sumQ_SQ]
  have hrn : (mulS m rs).map (·.2) = rs.map (·.2) := by simp [mulS, Function.comp_def]
  have hlen5 : ts.length ≤ 5 := by
    rw [hts, List.length_append]
    have : (if m * a - K = 0 then ([] : List (Int × Int)) else [(m * a - K, 1)]).length ≤ 1 := by split <;> simp
    simp [mulS] at this ⊢
    omega
  refine roots_far D 4 1152921504606846976 (natT ts) ?_ ?_ (by decide) ?_ ?_ ?_ ?_ ?_
  · rw [hts]
    intro e
    simp [natT, mulS] at e
    exact hrest e.2
  · simpa [natT] using hlen5
  · intro t ht
    obtain ⟨u, hu, rfl⟩ := List.mem_map.1 ht
    rcases hmem u hu with ⟨rfl, _⟩ | ⟨x, hx, rfl⟩
    · refine ⟨⟨by show (1 : Int).toNat ≠ 0; decide, fun e he hd => ?_⟩, by show (1 : Int).toNat ≤ 1000; decide⟩
      have h5 : e * e ≤ 1 := Nat.le_of_dvd (show 0 < (1 : Int).toNat by decide) hd
      have h6 := Nat.mul_le_mul he he
      omega
    · have h1 := v.rt x (hsub x hx).1
      exact ⟨sqfr_of h1.1 (v.sq x (hsub x hx).1), by show x.2.toNat ≤ 1000; omega⟩
  · refine natT_map ts (fun t ht => ?_) ?_
    · rcases hmem t ht with ⟨rfl, _⟩ | ⟨x, hx, rfl⟩
      · show (1 : Int) ≤ 1; decide
      · exact (v.rt x (hsub x hx).1).1
    · rw [hts, List.map_append, hrn]
      by_cases h0 : m * a - K = 0
      · rw [if_pos h0]; simpa using hnd
      · rw [if_neg h0]
        rw [List.map_cons, List.map_nil, List.singleton_append, List.nodup_cons]
        refine ⟨fun hc => ?_, hnd⟩
        obtain ⟨x, hx, he⟩ := List.mem_map.1 hc
        exact (hsub x hx).2 he
  · intro t ht
    obtain ⟨u, hu, rfl⟩ := List.mem_map.1 ht
    rcases hmem u hu with ⟨rfl, h0⟩ | ⟨x, hx, rfl⟩
    · exact h0
    · have := (v.cf x (hsub x hx).1).2.2
      exact Int.mul_ne_zero (by omega) this
  · have h := absS_le2 (l := ts) (C := 200000000000000000) (fun t ht => by
      rcases hmem t ht with ⟨rfl, _⟩ | ⟨x, hx, rfl⟩
      · dsimp only; omega
      · have h1 := v.cf x (hsub x hx).1
        have := mul_abs_le m x.1 1000000000 100000 (by omega) (by omega) h1.1 h1.2.1
        dsimp only
        omega)
    have h5 : (ts.length : Int) * 200000000000000000 ≤ 5 * 200000000000000000 := Int.mul_le_mul_of_nonneg_right (by omega) (by omega)
    show absS ts ≤ _
    omega
  · rw [hD]
    exact num_up 1152921504606846976 70 4 6656 (by decide) (by decide)
theorem nat_floor {x y M : Nat} (hM : 0 < M) (hxy : x ≤ y) (h : ∀ K : Nat, x < K * M → ¬ K * M ≤ y) : x / M = y / M := by
  have h1 : x / M ≤ y / M := Nat.div_le_div_right hxy
  rcases Nat.lt_or_ge (x / M) (y / M) with h2 | h2
  · exfalso
    exact h (y / M) ((Nat.div_lt_iff_lt_mul hM).1 h2) (Nat.div_mul_le_self y M)
  · omega
/-- The integer below: decided, and in its place. -/
theorem floor_sg {d m : Int} {l : List (Int × Int)} (v : Vld d l) (hm1 : 1 ≤ m) (hm2 : m ≤ 1000000000) (hirr : Irr l) :
    flBL d.toNat 6656 (mulS m l) = true ∧ Sg (extL m l (flrL d.toNat (mulS m l) * d)) 1 ∧ Sg (extL m l ((flrL d.toNat (mulS m l) + 1) * d)) (-1) ∧
      -(12800000 * m) - 1 ≤ flrL d.toNat (mulS m l) ∧ flrL d.toNat (mulS m l) ≤ 12800000 * m := by
  have hd1 := v.d1
  have hd2 := v.d2
  have far := fun K h1 h2 => ext_far v hm1 hm2 hirr K h1 h2
  have habs := vld_abs v hm1 hm2
  have hone := enc_one 6656 (mulS m l)
  have hV := SQ_enc 6656 (mulS m l)
  have lA : encP (fQ 6656) (mulS m l) ≤ encP (fQ1 6656) (mulS m l) := encP_lt (fQ 6656) _
  have lB : encN (fQ 6656) (mulS m l) ≤ encN (fQ1 6656) (mulS m l) := encN_lt (fQ 6656) _
  have hfl : ∀ t ∈ mulS m l, (t.1.toNat ≤ 100000 * m.toNat ∧ (-t.1).toNat ≤ 100000 * m.toNat) ∧ fQ1 6656 t.2 ≤ 2 ^ (6656 + 5) := fun t ht => by
    obtain ⟨u, hu, rfl⟩ := List.mem_map.1 ht
    have h1 := v.cf u hu
    have h2 := v.rt u hu
    have h3 : m * u.1 ≤ m * 100000 := Int.mul_le_mul_of_nonneg_left h1.2.1 (by omega)
    have h4 : m * -100000 ≤ m * u.1 := Int.mul_le_mul_of_nonneg_left h1.1 (by omega)
    exact ⟨⟨by dsimp only; omega, by dsimp only; omega⟩, fQ_le5 6656 u.2 (by omega)⟩
  have uA := encP_le (fQ1 6656) (mulS m l) (100000 * m.toNat) (2 ^ (6656 + 5)) (fun t ht => ⟨(hfl t ht).1.1, (hfl t ht).2⟩)
  have uB := encN_le (fQ1 6656) (mulS m l) (100000 * m.toNat) (2 ^ (6656 + 5)) (fun t ht => ⟨(hfl t ht).1.2, (hfl t ht).2⟩)
  have hlen : (mulS m l).length ≤ 4 := by have := v.len; simpa [mulS] using this
  have hextS := fun K => ext_SQ 6656 m l K
  unfold flrL flNL flBL
  generalize encP (fQ 6656) (mulS m l) = A0 at *
  generalize encP (fQ1 6656) (mulS m l) = A1 at *
  generalize encN (fQ 6656) (mulS m l) = B0 at *
  generalize encN (fQ1 6656) (mulS m l) = B1 at *
  obtain ⟨D, hD⟩ : ∃ D, D = 6656 := ⟨_, rfl⟩
  rw [← hD] at far hV uA uB hextS ⊢
  obtain ⟨P, hP⟩ : ∃ P : Nat, 2 ^ D = P := ⟨_, rfl⟩
  have hP1 : 1 ≤ P := by rw [← hP]; exact Nat.pow_pos (by decide)
  have hPi : (2 : Int) ^ D = (P : Int) := by rw [← hP]; simp
  have eP : 2 ^ (D + 5) = 32 * P := by rw [Nat.pow_add, hP]; omega
  rw [eP] at uA uB
  have vA : A1 ≤ 12800000 * m.toNat * P := by
    refine Nat.le_trans uA (Nat.le_trans (Nat.mul_le_mul_right _ hlen) ?_)
    have : 4 * (100000 * m.toNat * (32 * P)) = 12800000 * m.toNat * P := by grind
    omega
  have vB : B1 ≤ 12800000 * m.toNat * P := by
    refine Nat.le_trans uB (Nat.le_trans (Nat.mul_le_mul_right _ hlen) ?_)
    have : 4 * (100000 * m.toNat * (32 * P)) = 12800000 * m.toNat * P := by grind
    omega
  clear uA uB hfl eP
  -- how far multiples are
  obtain ⟨V, hVe⟩ : ∃ V, SQ D (mulS m l) = V := ⟨_, rfl⟩
  rw [hVe] at hV
  have far2 : ∀ K : Int, -100000000000000000 ≤ K → K ≤ 100000000000000000 → (1152921504606846976 : Int) < ((V - K * P).natAbs : Int) := fun K h1 h2 => by
    have := far K h1 h2
    rwa [hextS, hVe, hPi] at this
  have hS : (A1 : Int) - A0 + (B1 - B0) ≤ 400000000000000 := by omega
  have hV0 := far2 0 (by omega) (by omega)
  rw [Int.zero_mul, Int.sub_zero] at hV0
  have hdn : ((d.toNat : Nat) : Int) = d := by omega
  obtain ⟨n, hn⟩ : ∃ n, d.toNat = n := ⟨_, rfl⟩
  rw [hn] at hdn ⊢
  have hn1 : 1 ≤ n := by omega
  have hn2 : n ≤ 100000 := by omega
  have hM : 0 < n * P := Nat.mul_pos hn1 hP1
  have hmn : m.toNat ≤ 1000000000 := by omega
  -- a multiple that is not above a bound
  have kb : ∀ K X : Nat, K * (n * P) ≤ X → X ≤ 12800000 * m.toNat * P → K * n ≤ 12800000 * m.toNat := fun K X h1 h2 => by
    have h3 : K * n * P ≤ 12800000 * m.toNat * P := by rw [Nat.mul_assoc]; omega
    exact Nat.le_of_mul_le_mul_right h3 hP1
  have ki : ∀ K : Nat, ((K * (n * P) : Nat) : Int) = ((K * n : Nat) : Int) * P := fun K => by rw [← Nat.mul_assoc, Int.natCast_mul]
  -- what follows from where F lies
  have fin : ∀ F : Int, -(12800000 * m) - 1 ≤ F → F ≤ 12800000 * m → -13000000000000000 ≤ F * d → F * d ≤ 13000000000000000 → F * d * P ≤ V → V ≤ (F + 1) * d * P →
      Sg (extL m l (F * d)) 1 ∧ Sg (extL m l ((F + 1) * d)) (-1) ∧ -(12800000 * m) - 1 ≤ F ∧ F ≤ 12800000 * m := fun F h1 h2 h3 h4 h5 h6 => by
    have e1 : (F + 1) * d = F * d + d := by grind
    have f1 := far2 (F * d) (by omega) (by omega)
    have f2 := far2 ((F + 1) * d) (by omega) (by omega)
    have g1 : 1152921504606846976 < V - F * d * P := by omega
    have g2 : 1152921504606846976 < (F + 1) * d * P - V := by omega
    have ab : ∀ K : Int, -100000000000000000 ≤ K → K ≤ 100000000000000000 → absS (extL m l K) ≤ 1152921504606846976 := fun K k1 k2 => by
      have : absS (extL m l K) = absS (mulS m l) + (K.natAbs : Int) := by
        unfold extL
        generalize mulS m l = z
        induction z with
        | nil => simp [absS, natT, Tw.sumA]
        | cons t z ih => rw [List.cons_append, absS_cons, absS_cons, ih]; omega
      omega
    refine ⟨.inl ⟨rfl, D, ?_⟩, .inr (.inl ⟨rfl, D, ?_⟩), h1, h2⟩
    · rw [hextS, hVe, hPi]
      have := ab (F * d) (by omega) (by omega)
      omega
    · rw [SQ_mulS, hextS, hVe, hPi]
      have h7 := ab ((F + 1) * d) (by omega) (by omega)
      have h8 : absS (mulS (-1) (extL m l ((F + 1) * d))) = absS (extL m l ((F + 1) * d)) := by
        generalize extL m l ((F + 1) * d) = z
        induction z with
        | nil => rfl
        | cons t z ih =>
          have : mulS (-1) (t :: z) = (-1 * t.1, t.2) :: mulS (-1) z := rfl
          rw [this, absS_cons, absS_cons, ih]
          dsimp only
          omega
      omega
  unfold flB flN
  by_cases hc : B1 ≤ A0
  · rw [if_pos hc, if_pos hc]
    have hq : (A0 - B1) / n / P = (A1 - B0) / n / P := by
      rw [Nat.div_div_eq_div_mul, Nat.div_div_eq_div_mul]
      refine nat_floor hM (by omega) (fun K k1 k2 => ?_)
      have k3 := kb K _ k2 (by omega)
      have k4 := far2 ((K * n : Nat) : Int) (by omega) (by omega)
      rw [← ki K] at k4
      omega
    rw [hP]
    refine ⟨by simpa using hq, ?_⟩
    rw [Nat.div_div_eq_div_mul, Nat.div_div_eq_div_mul] at hq
    rw [Nat.div_div_eq_div_mul]
    obtain ⟨q, hqe⟩ : ∃ q, (A0 - B1) / (n * P) = q := ⟨_, rfl⟩
    rw [hqe] at hq ⊢
    have q1 : q * (n * P) ≤ A0 - B1 := by rw [← hqe]; exact Nat.div_mul_le_self _ _
    have q2 : A1 - B0 < (q + 1) * (n * P) := (Nat.div_lt_iff_lt_mul hM).1 (by omega)
    have q3 := kb q _ q1 (by omega)
    have q4 : q ≤ q * n := Nat.le_mul_of_pos_right _ hn1
    have q5 := ki q
    have q6 := ki (q + 1)
    have e1 : ((q : Nat) : Int) * d = ((q * n : Nat) : Int) := by rw [Int.natCast_mul, hdn]
    have e2 : (((q : Nat) : Int) + 1) * d = (((q + 1) * n : Nat) : Int) := by rw [Int.natCast_mul, hdn]; simp
    refine fin (q : Int) (by omega) (by omega) (by rw [e1]; omega) (by rw [e1]; omega) ?_ ?_
    · rw [e1, ← q5]; omega
    · rw [e2, ← q6]; omega
  · have hc2 : A1 ≤ B0 := by omega
    rw [if_neg hc, if_neg hc, if_pos hc2, if_pos hc2]
    have hq : (B0 - A1) / n / P = (B1 - A0) / n / P := by
      rw [Nat.div_div_eq_div_mul, Nat.div_div_eq_div_mul]
      refine nat_floor hM (by omega) (fun K k1 k2 => ?_)
      have k3 := kb K _ k2 (by omega)
      have k4 := far2 (-((K * n : Nat) : Int)) (by omega) (by omega)
      rw [Int.neg_mul, ← ki K] at k4
      omega
    rw [hP]
    refine ⟨by simpa using hq, ?_⟩
    rw [Nat.div_div_eq_div_mul, Nat.div_div_eq_div_mul] at hq
    rw [Nat.div_div_eq_div_mul]
    obtain ⟨q, hqe⟩ : ∃ q, (B0 - A1) / (n * P) = q := ⟨_, rfl⟩
    rw [hqe] at hq ⊢
    have q1 : q * (n * P) ≤ B0 - A1 := by rw [← hqe]; exact Nat.div_mul_le_self _ _
    have q2 : B1 - A0 < (q + 1) * (n * P) := (Nat.div_lt_iff_lt_mul hM).1 (by omega)
    have q3 := kb q _ q1 (by omega)
    have q4 : q ≤ q * n := Nat.le_mul_of_pos_right _ hn1
    have q5 := ki q
    have q6 := ki (q + 1)
    have e1 : (-((q : Nat) : Int) - 1 + 1) * d = -((q * n : Nat) : Int) := by rw [Int.natCast_mul, hdn]; grind
    have e2 : (-((q : Nat) : Int) - 1) * d = -(((q + 1) * n : Nat) : Int) := by rw [Int.natCast_mul, hdn]; simp; grind
    have q7 : (q + 1) * n = q * n + n := by grind
    refine fin (-(q : Int) - 1) (by omega) (by omega) (by rw [e2]; omega) (by rw [e2]; omega) ?_ ?_
    · rw [e2, Int.neg_mul, ← q6]; omega
    · rw [e1, Int.neg_mul, ← q5]; omega
end Go.Proofs.YtedpafdfecofnaaGreatDoor

/-! ## W6 -/
namespace Go.Proofs.YtedpafdfecofnaaGreatDoor
open Go.RowKit Go.Maps Go.Shelf Go.Sort
/-! What follows of where both bounds lie. -/
/-- Both bounds of m times a number: m x lies strictly between them, or is both. -/
def BSpec (d m : Int) (l : List (Int × Int)) (low high : Int) : Prop :=
  (high = low + 1 ∧ Sg (extL m l (low * d)) 1 ∧ Sg (extL m l (high * d)) (-1)) ∨ (high = low ∧ Sg (extL m l (low * d)) 0)
theorem sg_int (c : Int) : Sg [(c, 1)] (if c < 0 then -1 else if c = 0 then 0 else 1) := by
  rcases Int.lt_or_le c 0 with h | h
  · rw [if_pos h]
    refine .inr (.inl ⟨rfl, ?_⟩)
    have := pos_one (c := -c) (ρ := 1) (by omega) (by omega)
    simpa [mulS] using this
  · rw [if_neg (by omega)]
    by_cases h0 : c = 0
    · subst h0; exact .inr (.inr ⟨rfl, fun r => by simp [coefOf]⟩)
    · rw [if_neg h0]
      exact .inl ⟨rfl, pos_one (by omega) (by omega)⟩
theorem sg_int_le {c n : Int} (h : Sg [(c, 1)] n) : (0 < c ↔ n = 1) ∧ (c = 0 ↔ n = 0) ∧ (c < 0 ↔ n = -1) := by
  have e := h.uniq (sg_int c)
  rcases Int.lt_or_le c 0 with h | h
  · rw [if_pos h] at e; omega
  · rw [if_neg (by omega)] at e
    by_cases h0 : c = 0
    · rw [if_pos h0] at e; omega
    · rw [if_neg h0] at e; omega
/-- The sum of what is not below 0. -/
theorem Sg.add_up {l m : List (Int × Int)} {a b : Int} (h : Sg l a) (g : Sg m b) (ha : 0 ≤ a) (hb : 0 ≤ b) : ∃ c, Sg (l ++ m) c ∧ 0 ≤ c ∧ (c = 0 → a = 0 ∧ b = 0) := by
  have ra := h.range
  have rb := g.range
  by_cases a0 : a = 0
  · subst a0
    rcases h with ⟨e, _⟩ | ⟨e, _⟩ | ⟨_, hz⟩
    · omega
    · omega
    · exact ⟨b, g.ratio (A := 1) (B := 1) (by omega) (by omega) (fun r => by rw [coef_append, hz]; simp), hb, fun e => ⟨rfl, e⟩⟩
  · by_cases b0 : b = 0
    · subst b0
      rcases g with ⟨e, _⟩ | ⟨e, _⟩ | ⟨_, hz⟩
      · omega
      · omega
      · exact ⟨a, h.ratio (A := 1) (B := 1) (by omega) (by omega) (fun r => by rw [coef_append, hz]; simp), ha, fun e => ⟨e, rfl⟩⟩
    · obtain rfl : a = 1 := by omega
      obtain rfl : b = 1 := by omega
      exact ⟨1, h.add g, by omega, fun e => by omega⟩
theorem Sg.times {l : List (Int × Int)} {n k : Int} (h : Sg l n) (hk : 0 < k) : Sg (mulS k l) n := h.ratio (A := k) (B := 1) hk (by omega) (fun r => by rw [coef_mulS]; grind)
/-- Bounds of multiples: k J is not above J'. -/
theorem ext_le {d m k : Int} {l : List (Int × Int)} (hd : 1 ≤ d) (hk : 1 ≤ k) {J J' s s' : Int} (h : Sg (extL m l (J * d)) s) (h' : Sg (extL (m * k) l (J' * d)) s') (hs : 0 ≤ s) (hs' : s' ≤ 0) : J * k ≤ J' ∧ (J * k = J' → s = 0 ∧ s' = 0) := by
  obtain ⟨c, hc, c0, c1⟩ := (h.times (k := k) (by omega)).add_up h'.neg hs (by omega)
  have hz : Sg [((J' - J * k) * d, 1)] c := hc.ratio (A := 1) (B := 1) (by omega) (by omega) (fun r => by
    rw [coef_append, coef_mulS, coef_mulS, ext_coef, ext_coef]
    by_cases h : r = 1
    · subst h; simp [coefOf]; grind
    · have h2 : ¬ (1 : Int) = r := fun e => h e.symm
      simp [coefOf, h, h2]; grind)
  have hi := sg_int_le hz
  have key : 0 ≤ (J' - J * k) * d ∧ ((J' - J * k) * d = 0 → c = 0) := ⟨by omega, fun e => hi.2.1.1 e⟩
  constructor
  · rcases Int.lt_or_le (J' - J * k) 0 with h | h
    · have := Int.mul_le_mul_of_nonneg_right (show J' - J * k ≤ -1 by omega) (show 0 ≤ d by omega)
      omega
    · omega
  · intro e
    have : J' - J * k = 0 := by omega
    have := c1 (key.2 (by rw [this]; simp))
    omega
theorem ext_ge {d m k : Int} {l : List (Int × Int)} (hd : 1 ≤ d) (hk : 1 ≤ k) {J J' s s' : Int} (h : Sg (extL m l (J * d)) s) (h' : Sg (extL (m * k) l (J' * d)) s') (hs : s ≤ 0) (hs' : 0 ≤ s') : J' ≤ J * k ∧ (J' = J * k → s = 0 ∧ s' = 0) := by
  obtain ⟨c, hc, c0, c1⟩ := h'.add_up (h.times (k := k) (by omega)).neg hs' (by omega)
  have hz : Sg [((J * k - J') * d, 1)] c := hc.ratio (A := 1) (B := 1) (by omega) (by omega) (fun r => by
    rw [coef_append, coef_mulS, coef_mulS, ext_coef, ext_coef]
    by_cases h : r = 1
    · subst h; simp [coefOf]; grind
    · have h2 : ¬ (1 : Int) = r := fun e => h e.symm
      simp [coefOf, h, h2]; grind)
  have hi := sg_int_le hz
  have key : 0 ≤ (J * k - J') * d ∧ ((J * k - J') * d = 0 → c = 0) := ⟨by omega, fun e => hi.2.1.1 e⟩
  constructor
  · rcases Int.lt_or_le (J * k - J') 0 with h | h
    · have := Int.mul_le_mul_of_nonneg_right (show J * k - J' ≤ -1 by omega) (show 0 ≤ d by omega)
      omega
    · omega
  · intro e
    have : J * k - J' = 0 := by omega
    have := c1 (key.2 (by rw [this]; simp))
    omega
/-- The bounds of a denominator that is k times as great are no wider. -/
theorem spec_scale {d m k : Int} {l : List (Int × Int)} (hd : 1 ≤ d) (hk : 1 ≤ k) {low high less more : Int} (h : BSpec d m l low high) (h' : BSpec d (m * k) l less more) : low * k ≤ less ∧ more ≤ high * k ∧ less ≤ more := by
  obtain ⟨s, hs, s0⟩ : ∃ s, Sg (extL m l (low * d)) s ∧ 0 ≤ s := by
    rcases h with ⟨_, h, _⟩ | ⟨_, h⟩
    · exact ⟨1, h, by omega⟩
    · exact ⟨0, h, by omega⟩
  obtain ⟨t, ht, t0⟩ : ∃ t, Sg (extL m l (high * d)) t ∧ t ≤ 0 := by
    rcases h with ⟨_, _, h⟩ | ⟨e, h⟩
    · exact ⟨-1, h, by omega⟩
    · exact ⟨0, by rw [e]; exact h, by omega⟩
  rcases h' with ⟨e, h1, h2⟩ | ⟨e, h1⟩
  · have a := ext_le hd hk hs h2 s0 (by omega)
    have b := ext_ge hd hk ht h1 t0 (by omega)
    have c : low * k ≠ more := fun e => by have := (a.2 e).2; omega
    have d : less ≠ high * k := fun e => by have := (b.2 e).2; omega
    omega
  · have a := ext_le hd hk hs h1 s0 (by omega)
    have b := ext_ge hd hk ht h1 t0 (by omega)
    omega
/-- A fraction in lowest terms. -/
theorem make_frac {m c : Int} (hm1 : 1 ≤ m) (hm2 : m ≤ 100000) (hc1 : -100000 ≤ c) (hc2 : c ≤ 100000) {r : Int × List (Int × Int) × Int} (h : makeF m [(c, 1)] r) : r.2.2 = 0 ∧ Vld r.1 r.2.1 ∧ ∀ q, coefOf r.2.1 q * m = coefOf [(c, 1)] q * r.1 := by
  have hp : isPartF (c, 1) = true := by simp [isPartF, inB]; omega
  have hb : inB m 1 100000 = true := by simp [inB]; omega
  unfold makeF at h
  rw [if_neg (by simp), if_pos ⟨hb, by simp [hp]⟩] at h
  obtain ⟨t, ht, rfl⟩ := h
  have hs1 : splitF 1 = (1, 1) := by decide
  have hcoef : ∀ q, plusC zeroC 1 (List.map mkT [(c, 1)]) q = coefOf [(c, 1)] q := fun q => by
    simp [plusC, zeroC, mkT, hs1]
  have hm0 : m ≠ 0 := by omega
  have one : Rt 1 := by
    have := Rt.of_nat (n := 1) (by omega) (by
      intro e he hd
      have := Nat.le_of_dvd (by omega) hd
      have := Nat.mul_le_mul he he
      omega)
    exact_mod_cast this
  have key : ∀ (d : Int) (l : List (Int × Int)), Vld d l → (∀ q, coefOf l q * m = coefOf [(c, 1)] q * d) → (finF m t).2.2 = 0 ∧ Vld (finF m t).1 (finF m t).2.1 ∧ ∀ q, coefOf (finF m t).2.1 q * m = coefOf [(c, 1)] q * (finF m t).1 := fun d l v e => by
    rw [fin_of hm0 ht v (fun q => by rw [hcoef]; exact e q)]
    exact ⟨rfl, v, e⟩
  by_cases h0 : c = 0
  · subst h0
    exact key 1 [] ⟨by omega, by omega, by simp, fun t ht => by simp at ht, fun t ht => by simp at ht, fun t ht => by simp at ht, fun i _ h => by simp at h, by decide⟩ (fun q => by simp [coefOf])
  · have hg : 1 ≤ (Int.gcd m c : Int) := by
      have := Int.gcd_pos_of_ne_zero_left c hm0
      omega
    obtain ⟨a, ha⟩ := Int.gcd_dvd_left m c
    obtain ⟨b, hb2⟩ := Int.gcd_dvd_right m c
    have hgc := Int.gcd_ediv_gcd_ediv_gcd_of_ne_zero_right (n := m) (m := c) h0
    generalize hG : (Int.gcd m c : Int) = g at *
    have e1 : m / g = a := by rw [ha]; exact Int.mul_ediv_cancel_left _ (by omega)
    have e2 : c / g = b := by rw [hb2]; exact Int.mul_ediv_cancel_left _ (by omega)
    rw [e1, e2] at hgc
    have ha1 : 1 ≤ a := by
      rcases Int.lt_or_le 0 a with y | y
      · omega
      · have : g * a ≤ g * 0 := Int.mul_le_mul_of_nonneg_left y (by omega)
        omega
    have ha2 : a ≤ m := by
      have : 1 * a ≤ g * a := Int.mul_le_mul_of_nonneg_right hg (by omega)
      omega
    have hb0 : b ≠ 0 := fun e => by rw [e] at hb2; simp at hb2; exact h0 hb2
    have hbc : (b.natAbs : Int) ≤ c.natAbs := by
      have e3 : c.natAbs = g.natAbs * b.natAbs := by rw [hb2]; exact Int.natAbs_mul g b
      have : 1 * b.natAbs ≤ g.natAbs * b.natAbs := Nat.mul_le_mul_right _ (by omega)
      omega
    refine key a [(b, 1)] ⟨ha1, by omega, by simp, fun t ht => ?_, fun t ht => ?_, fun t ht => ?_, fun i h1 h2 => ?_, ?_⟩ (fun q => ?_)
    · simp at ht; subst ht; dsimp only; omega
    · simp at ht; subst ht; dsimp only; omega
    · simp at ht; subst ht; exact one.2
    · simp at h2; omega
    · unfold dvF
      simp only [List.foldl_cons, List.foldl_nil, Int.gcd_zero_right]
      rw [← hgc]
      simp [Int.gcd]
    · rw [ha, hb2]
      simp only [coefOf, List.foldl_cons, List.foldl_nil]
      clear e1 e2 hgc hG ha hb2
      split
      · grind
      · simp
/-- How a number compares with its bounds. -/
theorem cmp_low {d m : Int} {l : List (Int × Int)} (v : Vld d l) (hm : 1 ≤ m) {J s da p : Int} {la : List (Int × Int)} (va : Vld da la) (ea : ∀ q, coefOf la q * m = coefOf [(J, 1)] q * da) (h : Sg (extL m l (J * d)) s) (hp : Sg (difL da la d l) p) : p = -s := by
  have hda := va.d1
  refine hp.uniq (h.neg.ratio (A := da) (B := m) (by omega) (by omega) (fun r => ?_))
  rw [coef_mulS, ext_coef, difL_coef]
  have e := ea r
  have e2 : (d * coefOf la r - da * coefOf l r) * m = d * (coefOf la r * m) - da * coefOf l r * m := by grind
  rw [e2, e]
  by_cases h1 : r = 1
  · subst h1; simp [coefOf]; grind
  · have h2 : ¬ (1 : Int) = r := fun e => h1 e.symm
    simp [coefOf, h1, h2]; grind
theorem cmp_high {d m : Int} {l : List (Int × Int)} (v : Vld d l) (hm : 1 ≤ m) {J s db q : Int} {lb : List (Int × Int)} (vb : Vld db lb) (eb : ∀ q, coefOf lb q * m = coefOf [(J, 1)] q * db) (h : Sg (extL m l (J * d)) s) (hq : Sg (difL d l db lb) q) : q = s := by
  have hdb := vb.d1
  refine hq.uniq (h.ratio (A := db) (B := m) (by omega) (by omega) (fun r => ?_))
  rw [ext_coef, difL_coef]
  have e := eb r
  have e2 : (db * coefOf l r - d * coefOf lb r) * m = db * coefOf l r * m - d * (coefOf lb r * m) := by grind
  rw [e2, e]
  by_cases h1 : r = 1
  · subst h1; simp [coefOf]; grind
  · have h2 : ¬ (1 : Int) = r := fun e => h1 e.symm
    simp [coefOf, h1, h2]; grind
/-- What Bounds gives, in its place. -/
theorem bounds_spec {d m : Int} {l : List (Int × Int)} (v : Vld d l) (hm1 : 1 ≤ m) (hm2 : m ≤ 1000000000) : (BoundsF d m l).2.2 = 0 ∧ BSpec d m l (BoundsF d m l).1 (BoundsF d m l).2.1 ∧ -(12800000 * m) - 1 ≤ (BoundsF d m l).1 ∧ (BoundsF d m l).1 ≤ 12800000 * m := by
  have hd := v.d1
  have hd2 := v.d2
  unfold BoundsF
  rw [if_pos v.bool, if_pos (by simp [inB]; omega)]
  by_cases hr : (binF l).2.2 = true ∧ (binF l).2.1.1 = 0
  · rw [if_pos hr]
    have hco : ∀ r, coefOf l r = if r = 1 then (binF l).1 else 0 := fun r => by rw [bin_coef v hr.1, hr.2]; simp
    have hbd := (bin_bd v).1
    obtain ⟨a, ha⟩ : ∃ a, (binF l).1 = a := ⟨_, rfl⟩
    rw [ha] at hco hbd
    rw [ha]
    dsimp only
    have hex : ∀ J s, Sg [(m * a - J * d, 1)] s → Sg (extL m l (J * d)) s := fun J s h => h.ratio (A := 1) (B := 1) (by omega) (by omega) (fun r => by
      rw [ext_coef, hco]
      by_cases h1 : r = 1
      · subst h1; simp [coefOf]
      · have h2 : ¬ (1 : Int) = r := fun e => h1 e.symm
        simp [coefOf, h1, h2])
    have hma := mul_abs_le a m 100000 1000000000 (by omega) (by omega) (by omega) (by omega)
    have hma1 : a * m ≤ 100000 * m := Int.mul_le_mul_of_nonneg_right hbd.2 (by omega)
    have hma2 : -100000 * m ≤ a * m := Int.mul_le_mul_of_nonneg_right hbd.1 (by omega)
    have e0 : -a * m = -(a * m) := by grind
    have e1 : m * a = a * m := Int.mul_comm _ _
    rw [e0]
    rw [e1] at hex
    generalize a * m = P at *
    have hdiv := Int.mul_ediv_add_emod P d
    have hmod1 := Int.emod_nonneg P (show d ≠ 0 by omega)
    have hmod2 := Int.emod_lt_of_pos P (show 0 < d by omega)
    obtain ⟨q, hq⟩ : ∃ q, P / d = q := ⟨_, rfl⟩
    obtain ⟨t, ht⟩ : ∃ t, P % d = t := ⟨_, rfl⟩
    rw [hq, ht] at hdiv
    rw [ht] at hmod1 hmod2
    have hqd : q * d = d * q := Int.mul_comm _ _
    have hqb : -(12800000 * m) - 1 ≤ q ∧ q ≤ 12800000 * m := by
      constructor
      · rcases Int.lt_or_le q (-(12800000 * m) - 1) with x | x
        · have h3 : q * d ≤ q * 1 := by
            have := Int.mul_le_mul_of_nonneg_left hd (show 0 ≤ -q by omega)
            grind
          omega
        · exact x
      · rcases Int.lt_or_le (12800000 * m) q with x | x
        · have h3 : q * 1 ≤ q * d := Int.mul_le_mul_of_nonneg_left hd (by omega)
          omega
        · exact x
    by_cases h0 : t = 0
    · have hn : -P / d = -q := by
        have : -P = d * -q := by rw [← hdiv, h0]; grind
        rw [this]
        exact Int.mul_ediv_cancel_left _ (by omega)
      rw [hq, hn]
      refine ⟨rfl, .inr ⟨by omega, hex q 0 ?_⟩, hqb⟩
      have : P - q * d = 0 := by omega
      rw [this]
      exact .inr (.inr ⟨rfl, fun r => by simp [coefOf]⟩)
    · have hn : -P / d = -q - 1 := by
        have e5 : -P = d * (-q - 1) + (d - t) := by rw [← hdiv]; grind
        rw [e5, Int.mul_add_ediv_left _ _ (by omega), Int.ediv_eq_zero_of_lt (by omega) (by omega)]
        omega
      rw [hq, hn]
      refine ⟨rfl, .inl ⟨by omega, hex q 1 ?_, ?_⟩, hqb⟩
      · exact .inl ⟨rfl, pos_one (by omega) (by omega)⟩
      · have e6 : -(-q - 1) = q + 1 := by omega
        show Sg (extL m l (-(-q - 1) * d)) (-1)
        rw [e6]
        refine hex (q + 1) (-1) (.inr (.inl ⟨rfl, ?_⟩))
        have e7 : (q + 1) * d = q * d + d := by grind
        have := pos_one (c := -(P - (q + 1) * d)) (ρ := 1) (by omega) (by omega)
        simpa [mulS] using this
  · rw [if_neg hr]
    obtain ⟨_, h1, h2, h3, h4⟩ := floor_sg v hm1 hm2 hr
    exact ⟨rfl, .inl ⟨rfl, h1, h2⟩, h3, h4⟩
end Go.Proofs.YtedpafdfecofnaaGreatDoor

/-! ## W7 -/
namespace Go.Proofs.YtedpafdfecofnaaGreatDoor
open Go.RowKit Go.Maps Go.Shelf Go.Sort
/-- Two words divided by a small number, digit by digit of half a word, where the divisor's low half is 0. -/
theorem div64_math {hi lo y s : Nat} (hs1 : 32 ≤ s) (hs2 : s ≤ 63) (hhi : hi < y) (hlo : lo < 18446744073709551616) :
    ∃ z un32 un10 : Nat, z = y * 2 ^ (s - 32) ∧ y * 2 ^ s = z * 4294967296 ∧ un32 = hi * 2 ^ s + lo / 2 ^ (64 - s) ∧ lo / 2 ^ (64 - s) < 2 ^ s ∧ un10 = lo * 2 ^ s % 18446744073709551616 ∧ un32 < z * 4294967296 ∧
      un32 / z < 4294967296 ∧ un32 % z * 4294967296 + un10 / 4294967296 < z * 4294967296 ∧ (un32 % z * 4294967296 + un10 / 4294967296) / z < 4294967296 ∧
      un32 / z * 4294967296 + (un32 % z * 4294967296 + un10 / 4294967296) / z = (hi * 18446744073709551616 + lo) / y ∧
      ((un32 % z * 4294967296 + un10 / 4294967296) % z * 4294967296 + un10 % 4294967296) / 2 ^ s = (hi * 18446744073709551616 + lo) % y ∧
      (un32 % z * 4294967296 + un10 / 4294967296) % z * 4294967296 + un10 % 4294967296 < z * 4294967296 := by
  obtain ⟨p, hp⟩ : ∃ p, 2 ^ s = p := ⟨_, rfl⟩
  obtain ⟨c, hc⟩ : ∃ c, 2 ^ (64 - s) = c := ⟨_, rfl⟩
  obtain ⟨z, hz⟩ : ∃ z, y * 2 ^ (s - 32) = z := ⟨_, rfl⟩
  have hp0 : 0 < p := by rw [← hp]; exact Nat.pow_pos (by decide)
  have hc0 : 0 < c := by rw [← hc]; exact Nat.pow_pos (by decide)
  have hpc : p * c = 18446744073709551616 := by rw [← hp, ← hc, ← Nat.pow_add, show s + (64 - s) = 64 by omega]
  have hyz : y * p = z * 4294967296 := by
    rw [← hz, ← hp, Nat.mul_assoc]
    have : 2 ^ s = 2 ^ (s - 32) * 4294967296 := by
      rw [show (4294967296 : Nat) = 2 ^ 32 from rfl, ← Nat.pow_add, show s - 32 + 32 = s by omega]
    rw [this]
  have hz0 : 0 < z := by rw [← hz]; exact Nat.mul_pos (by omega) (Nat.pow_pos (by decide))
  rw [hp, hc]
  have h1 := Nat.div_add_mod lo c
  have h2 := Nat.mod_lt lo hc0
  have hL : lo / c < p := by
    refine (Nat.div_lt_iff_lt_mul hc0).2 ?_
    rw [hpc]; exact hlo
  have hu10 : lo * p % 18446744073709551616 = p * (lo % c) := by
    have e : lo * p = p * (lo % c) + 18446744073709551616 * (lo / c) := by
      rw [← hpc]
      calc lo * p = (c * (lo / c) + lo % c) * p := by rw [h1]
        _ = _ := by grind
    rw [e, Nat.add_mul_mod_self_left, Nat.mod_eq_of_lt]
    have : p * (lo % c + 1) ≤ p * c := Nat.mul_le_mul_left _ h2
    rw [hpc, Nat.mul_add] at this
    omega
  obtain ⟨a, ha⟩ : ∃ a, lo / c = a := ⟨_, rfl⟩
  obtain ⟨t, ht⟩ : ∃ t, lo % c = t := ⟨_, rfl⟩
  rw [ha, ht] at h1
  rw [ha] at hL ⊢
  rw [ht] at hu10 h2
  have hub : hi * p + a < z * 4294967296 := by
    rw [← hyz]
    have : (hi + 1) * p ≤ y * p := Nat.mul_le_mul_right _ (by omega)
    rw [Nat.add_mul] at this
    omega
  have hN : (hi * 18446744073709551616 + lo) * p = (hi * p + a) * 18446744073709551616 + p * t := by
    rw [← hpc, ← h1]; grind
  have hu10b : p * t < 18446744073709551616 := by
    rw [← hu10]; exact Nat.mod_lt _ (by decide)
  refine ⟨z, hi * p + a, p * t, hz.symm, hyz, rfl, hL, hu10.symm, hub, ?_, ?_, ?_, ?_⟩
  · exact (Nat.div_lt_iff_lt_mul hz0).2 (by rw [Nat.mul_comm 4294967296]; exact hub)
  all_goals
    obtain ⟨U, hU⟩ : ∃ U, hi * p + a = U := ⟨_, rfl⟩
    obtain ⟨T, hT⟩ : ∃ T, p * t = T := ⟨_, rfl⟩
    obtain ⟨N, hNe⟩ : ∃ N, hi * 18446744073709551616 + lo = N := ⟨_, rfl⟩
    rw [hU, hT] at hN
    rw [hU] at hub
    rw [hT] at hu10b
    rw [hNe] at hN
    try rw [hU]
    try rw [hT]
    try rw [hNe]
    have e1 := Nat.div_add_mod U z
    have l1 := Nat.mod_lt U hz0
    obtain ⟨q1, hq1⟩ : ∃ q, U / z = q := ⟨_, rfl⟩
    obtain ⟨r1, hr1⟩ : ∃ r, U % z = r := ⟨_, rfl⟩
    rw [hq1, hr1] at e1
    rw [hr1] at l1
    try rw [hq1]
    try rw [hr1]
    have e2 := Nat.div_add_mod T 4294967296
    have l2 := Nat.mod_lt T (show 0 < 4294967296 by decide)
    have l3 : T / 4294967296 < 4294967296 := by omega
    obtain ⟨u1, hu1⟩ : ∃ q, T / 4294967296 = q := ⟨_, rfl⟩
    obtain ⟨u0, hu0⟩ : ∃ r, T % 4294967296 = r := ⟨_, rfl⟩
    rw [hu1, hu0] at e2
    rw [hu0] at l2
    rw [hu1] at l3
    try rw [hu1]
    try rw [hu0]
    have l4 : r1 * 4294967296 + u1 < z * 4294967296 := by
      have : (r1 + 1) * 4294967296 ≤ z * 4294967296 := Nat.mul_le_mul_right _ l1
      omega
  · exact l4
  all_goals
    obtain ⟨X, hX⟩ : ∃ X, r1 * 4294967296 + u1 = X := ⟨_, rfl⟩
    rw [hX] at l4
    try rw [hX]
    have e3 := Nat.div_add_mod X z
    have l5 := Nat.mod_lt X hz0
    have l6 : X / z < 4294967296 := (Nat.div_lt_iff_lt_mul hz0).2 (by rw [Nat.mul_comm]; exact l4)
    obtain ⟨q0, hq0⟩ : ∃ q, X / z = q := ⟨_, rfl⟩
    obtain ⟨r0, hr0⟩ : ∃ r, X % z = r := ⟨_, rfl⟩
    rw [hq0, hr0] at e3
    rw [hr0] at l5
    rw [hq0] at l6
    try rw [hq0]
    try rw [hr0]
    have l7 : r0 * 4294967296 + u0 < z * 4294967296 := by
      have : (r0 + 1) * 4294967296 ≤ z * 4294967296 := Nat.mul_le_mul_right _ l5
      omega
  · exact l6
  · have key : N * p = (q1 * 4294967296 + q0) * (y * p) + (r0 * 4294967296 + u0) := by
      rw [hN, hyz, ← e1, ← e2]
      have : (z * q1 + r1) * 18446744073709551616 + (4294967296 * u1 + u0) = z * q1 * 18446744073709551616 + 4294967296 * (r1 * 4294967296 + u1) + u0 := by grind
      rw [this, hX, ← e3]; grind
    have hQ : (q1 * 4294967296 + q0) * y ≤ N := by
      refine Nat.le_of_mul_le_mul_right ?_ hp0
      rw [Nat.mul_assoc]; omega
    obtain ⟨R, hR⟩ : ∃ R, N = (q1 * 4294967296 + q0) * y + R := ⟨N - (q1 * 4294967296 + q0) * y, by omega⟩
    have hRp : R * p = r0 * 4294967296 + u0 := by
      have : N * p = (q1 * 4294967296 + q0) * (y * p) + R * p := by rw [hR]; grind
      omega
    have hRy : R < y := by
      refine Nat.lt_of_mul_lt_mul_right (a := p) ?_
      rw [hRp, hyz]; exact l7
    refine ⟨?_, ?_, l7⟩
    · rw [hR, Nat.add_comm ((q1 * 4294967296 + q0) * y) R, Nat.add_mul_div_right _ _ (by omega), Nat.div_eq_of_lt hRy, Nat.zero_add]
    · rw [← hRp, Nat.mul_div_cancel _ hp0, hR, Nat.add_comm ((q1 * 4294967296 + q0) * y) R, Nat.add_mul_mod_self_right, Nat.mod_eq_of_lt hRy]
end Go.Proofs.YtedpafdfecofnaaGreatDoor
