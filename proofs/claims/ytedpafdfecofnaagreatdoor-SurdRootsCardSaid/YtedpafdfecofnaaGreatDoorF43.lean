/-
  Contracts of the program's own functions (and their plain mathematics), on the way to the law: each for all arguments that its hypotheses let.
-/
import Derived.Test.YtedpafdfecofnaaGreatDoorF42
import Derived.Test.YtedpafdfecofnaaGreatDoorF23
set_option linter.unusedSimpArgs false
set_option linter.unusedVariables false

/-! ## W1 -/
namespace Go.Proofs.YtedpafdfecofnaaGreatDoor
open Go.RowKit Go.Maps Go.Shelf Go.Sort
/-! Plain mathematics of square roots. -/
theorem rat_uniq {X p U q V Y : Int} (hX : 1 ≤ X) (hU : 1 ≤ U) (hV : 1 ≤ V) (hY : 1 ≤ Y) (hp : Rt p) (hq : Rt q) (h : X * X * p * (V * V) = U * U * q * (Y * Y)) : p = q ∧ X * V = U * Y := by
  have a1 : 1 ≤ X * V := by have := Int.mul_le_mul hX hV (by omega) (by omega); omega
  have a2 : 1 ≤ U * Y := by have := Int.mul_le_mul hU hY (by omega) (by omega); omega
  have hp1 := hp.1
  have hq1 := hq.1
  have key := sqf_uniqN (X * V).toNat (U * Y).toNat p.toNat q.toNat (by omega) (by omega) (by
    apply Int.natCast_inj.1
    rw [Int.natCast_mul, Int.natCast_mul, Int.natCast_mul, Int.natCast_mul, Int.toNat_of_nonneg (by omega), Int.toNat_of_nonneg (by omega), Int.toNat_of_nonneg (by omega), Int.toNat_of_nonneg (by omega)]
    clear a1 a2
    grind) (sqfN hp.2 hp.1) (sqfN hq.2 hq.1)
  omega
theorem gcd_one_of {a b x y : Int} (hx : x ∣ a) (hy : y ∣ b) (h : Int.gcd a b = 1) : Int.gcd x y = 1 := by
  have h1 : (Int.gcd x y : Int) ∣ a := Int.dvd_trans (Int.gcd_dvd_left x y) hx
  have h2 : (Int.gcd x y : Int) ∣ b := Int.dvd_trans (Int.gcd_dvd_right x y) hy
  have h3 : Int.gcd x y ∣ Int.gcd a b := Int.dvd_gcd h1 h2
  rw [h] at h3
  exact Nat.dvd_one.1 h3
theorem rt_coprime {x y : Int} (hx : Rt x) (hy : Rt y) (h : Int.gcd x y = 1) : Rt (x * y) := by
  have := Rt.r hx hy
  unfold rS gS at this
  rw [h] at this
  simpa using this
/-- What the root of a fraction is. -/
theorem frac_val {num den : Int} {f : Int × Int} {d : Int} (h : FracR num den f d) (hd : 1 ≤ den) : 0 ≤ num ∧ 0 ≤ f.1 ∧ Rt f.2 ∧ 1 ≤ d ∧ f.1 * f.1 * f.2 * den = num * (d * d) := by
  obtain ⟨s1, q1, s2, q2, h1, h2, rfl, rfl⟩ := h
  have hg : 1 ≤ (Int.gcd num den : Int) := by
    have := Int.gcd_pos_of_ne_zero_right num (show den ≠ 0 by omega)
    omega
  obtain ⟨n', hn'⟩ := Int.gcd_dvd_left num den
  obtain ⟨d', hd'⟩ := Int.gcd_dvd_right num den
  generalize hG : (Int.gcd num den : Int) = g at *
  have e1 : num / g = n' := by rw [hn']; exact Int.mul_ediv_cancel_left _ (by omega)
  have e2 : den / g = d' := by rw [hd']; exact Int.mul_ediv_cancel_left _ (by omega)
  have hc : Int.gcd n' d' = 1 := by
    have hg0 : 0 < Int.gcd num den := by omega
    have := Int.gcd_ediv_gcd_ediv_gcd_of_ne_zero_right (n := num) (m := den) (by omega)
    rw [hG, e1, e2] at this
    exact this
  rw [e1] at h1
  rw [e2] at h2
  have hd1 : 1 ≤ d' := by
    rcases Int.lt_or_le 0 d' with x | x
    · omega
    · have : g * d' ≤ g * 0 := Int.mul_le_mul_of_nonneg_left x (by omega)
      omega
  rcases h2 with ⟨z, _⟩ | ⟨_, hs2, hq2, hm2, hf2⟩
  · omega
  have hd2 : 1 ≤ s2 * q2 := by have := Int.mul_le_mul hs2 hq2 (by omega) (by omega); omega
  rcases h1 with ⟨rfl, rfl, rfl⟩ | ⟨hn1, hs1, hq1, hm1, hf1⟩
  · refine ⟨by omega, by simp, ?_, hd2, by rw [hn']; simp⟩
    simp only [Int.one_mul]
    exact ⟨hq2, hf2⟩
  · have hnn : 0 ≤ g * n' := Int.mul_nonneg (by omega) (by omega)
    refine ⟨by omega, by dsimp only; omega, ?_, hd2, ?_⟩
    · exact rt_coprime ⟨hq1, hf1⟩ ⟨hq2, hf2⟩ (gcd_one_of ⟨s1 * s1, by rw [← hm1, Int.mul_comm]⟩ ⟨s2 * s2, by rw [← hm2, Int.mul_comm]⟩ hc)
    · dsimp only
      rw [hn', hd', ← hm1, ← hm2]
      clear hm1 hm2 hn' hd' hnn e1 e2 hc hG hd1 hn1
      grind
/-- A number of at most two terms, one of them whole: its parts. -/
theorem bin_coef {d : Int} {l : List (Int × Int)} (v : Vld d l) (h : (binF l).2.2 = true) (r : Int) :
    coefOf l r = (if r = 1 then (binF l).1 else 0) + (if (binF l).2.1.2 = r then (binF l).2.1.1 else 0) := by
  match l, v, h with
  | [], _, _ =>
    change (0 : Int) = (if r = 1 then (0 : Int) else 0) + (if (0 : Int) = r then (0 : Int) else 0)
    rw [ite_self, ite_self]; rfl
  | [t], _, _ =>
    by_cases ht : t.2 = 1
    · by_cases hr : r = 1
      · subst hr; simp [binF, ht, coefOf]
      · have hr2 : ¬ (1 : Int) = r := fun e => hr e.symm
        simp [binF, ht, coefOf, hr, hr2]
    · simp [binF, ht, coefOf]
  | [t, u], v, h =>
    by_cases ht : t.2 = 1
    · have hu := v.asc 1 (by omega) (by simp)
      simp [ht] at hu
      by_cases hr : r = 1
      · subst hr
        have hu1 : ¬ u.2 = 1 := by omega
        simp [binF, ht, coefOf, hu1]
      · have hr2 : ¬ (1 : Int) = r := fun e => hr e.symm
        simp [binF, ht, coefOf, hr, hr2]
    · simp [binF, ht] at h
  | t :: u :: x :: us, _, h =>
    by_cases ht : t.2 = 1
    · simp [binF, ht] at h
    · simp [binF, ht] at h
theorem bin_rt {d : Int} {l : List (Int × Int)} (v : Vld d l) (h : (binF l).2.1.1 ≠ 0) : Rt (binF l).2.1.2 := by
  have hr := v.rts
  match l, v, h with
  | [], _, h => simp [binF] at h
  | [t], _, h =>
    by_cases ht : t.2 = 1
    · simp [binF, ht] at h
    · have := hr t (by simp)
      simpa [binF, ht] using this
  | t :: u :: us, v, h =>
    by_cases ht : t.2 = 1
    · have := hr u (by simp)
      simpa [binF, ht] using this
    · have := hr t (by simp)
      simpa [binF, ht] using this
theorem two_sq_coef (x ρ y σ : Int) (r : Int) (h1 : 1 ≤ ρ) (h2 : 1 ≤ σ) : coefOf (prodL [(x, ρ), (y, σ)] [(x, ρ), (y, σ)]) r = (if r = 1 then x * x * ρ + y * y * σ else 0) + (if rS ρ σ = r then 2 * (x * y * gS ρ σ) else 0) := by
  simp only [prodL, List.flatMap_cons, List.flatMap_nil, List.map_cons, List.map_nil, List.append_nil, List.cons_append, List.nil_append, mulT_eq, gS_self h1, gS_self h2, rS_self h1, rS_self h2, gS_comm σ ρ, rS_comm σ ρ]
  simp only [coefOf, List.foldl_cons, List.foldl_nil]
  by_cases a : r = 1
  · subst a
    by_cases b : rS ρ σ = 1
    · simp [b] <;> grind
    · simp [b] <;> grind
  · have a' : ¬ (1 : Int) = r := fun e => a e.symm
    by_cases b : rS ρ σ = r
    · simp [a, a', b] <;> grind
    · simp [a, a', b]
theorem sq_cross {a b : Int} (ha : Rt a) (hb : Rt b) : gS a b * gS a b * rS a b = a * b ∧ 1 ≤ gS a b := by
  obtain ⟨x, rfl, hx1, hx2⟩ := ha.nat
  obtain ⟨y, rfl, hy1, hy2⟩ := hb.nat
  rw [gS_nat, rS_nat]
  have h1 := gr_nat x y
  have h2 := Nat.gcd_pos_of_pos_left y (show 0 < x by omega)
  refine ⟨by exact_mod_cast h1, by omega⟩
theorem sq_zero {x : Int} (h : x * x = 0) : x = 0 := by
  rcases Int.mul_eq_zero.1 h with h | h <;> exact h
theorem sq_inj {x y : Int} (hx : 0 ≤ x) (hy : 0 ≤ y) (h : x * x = y * y) : x = y := by
  have e : (x - y) * (x + y) = 0 := by grind
  rcases Int.mul_eq_zero.1 e with e | e <;> omega
/-- The square of what Root adds up is the number. -/
theorem root_sq {d : Int} {l : List (Int × Int)} (v : Vld d l) (hb : (binF l).2.2 = true) {w : Int} (hw : w * w = rootM l) {f1 f2 : Int × Int} {d1 d2 : Int} (h1 : FracR ((binF l).1 + w) (2 * d) f1 d1) (h2 : FracR ((binF l).1 - w) (2 * d) f2 d2) (r : Int) :
    coefOf (prodL [(d2 * f1.1, f1.2), (d1 * (if (binF l).2.1.1 < 0 then -f2.1 else f2.1), f2.2)] [(d2 * f1.1, f1.2), (d1 * (if (binF l).2.1.1 < 0 then -f2.1 else f2.1), f2.2)]) r * d = coefOf l r * (d1 * d2 * (d1 * d2)) := by
  have hd := v.d1
  obtain ⟨n1, p1, r1, k1, e1⟩ := frac_val h1 (by omega)
  obtain ⟨n2, p2, r2, k2, e2⟩ := frac_val h2 (by omega)
  rw [two_sq_coef _ _ _ _ _ r1.1 r2.1, bin_coef v hb]
  have hbr := bin_rt v
  unfold rootM at hw
  obtain ⟨a, ha⟩ : ∃ a, (binF l).1 = a := ⟨_, rfl⟩
  obtain ⟨b, hbb⟩ : ∃ b, (binF l).2.1.1 = b := ⟨_, rfl⟩
  obtain ⟨m, hm⟩ : ∃ m, (binF l).2.1.2 = m := ⟨_, rfl⟩
  rw [ha, hbb, hm] at hw
  rw [ha] at n1 n2 e1 e2
  rw [hbb, hm] at hbr
  rw [ha, hbb, hm]
  obtain ⟨x, ρ⟩ := f1
  obtain ⟨y, σ⟩ := f2
  dsimp only at *
  obtain ⟨g, hg⟩ : ∃ g, gS ρ σ = g := ⟨_, rfl⟩
  obtain ⟨q, hq⟩ : ∃ q, rS ρ σ = q := ⟨_, rfl⟩
  have hc := sq_cross r1 r2
  have hq1 := (Rt.r r1 r2)
  rw [hg, hq] at hc
  rw [hq] at hq1
  rw [hg, hq]
  obtain ⟨hc1, hc2⟩ := hc
  have z : (if b < 0 then -y else y) * (if b < 0 then -y else y) = y * y := by split <;> grind
  have s1 : (d2 * x * (d2 * x) * ρ + d1 * (if b < 0 then -y else y) * (d1 * (if b < 0 then -y else y)) * σ) * d = a * (d1 * d2 * (d1 * d2)) := by
    have t : d1 * (if b < 0 then -y else y) * (d1 * (if b < 0 then -y else y)) = d1 * d1 * (y * y) := by rw [← z]; grind
    rw [t]
    have h3 : (2 : Int) ≠ 0 := by decide
    apply Int.eq_of_mul_eq_mul_left h3
    clear h1 h2 hw hc1 hq hg hbr z t ha hbb hm hb v
    grind
  have s2 : (2 * (d2 * x * (d1 * (if b < 0 then -y else y)) * g) * d) * (2 * (d2 * x * (d1 * (if b < 0 then -y else y)) * g) * d) * q = (d1 * d2 * (d1 * d2) * b) * (d1 * d2 * (d1 * d2) * b) * m := by
    have t1 : (2 * (d2 * x * (d1 * (if b < 0 then -y else y)) * g) * d) * (2 * (d2 * x * (d1 * (if b < 0 then -y else y)) * g) * d) * q = (d1 * d2 * (d1 * d2)) * (x * x * ρ * (2 * d)) * (y * y * σ * (2 * d)) := by
      have u : ∀ Y : Int, (2 * (d2 * x * (d1 * Y) * g) * d) * (2 * (d2 * x * (d1 * Y) * g) * d) * q = (d1 * d2 * (d1 * d2)) * (x * x) * (Y * Y) * (2 * d * (2 * d)) * (g * g * q) := by intro Y; grind
      rw [u, z, hc1]; grind
    rw [t1, e1, e2]
    have t2 : (a + w) * (a - w) = b * b * m := by grind
    have t3 : (d1 * d2 * (d1 * d2)) * ((a + w) * (d1 * d1)) * ((a - w) * (d2 * d2)) = (d1 * d2 * (d1 * d2)) * (d1 * d2 * (d1 * d2)) * ((a + w) * (a - w)) := by grind
    rw [t3, t2]; grind
  have hD : 1 ≤ d1 * d2 := by have := Int.mul_le_mul k1 k2 (by omega) (by omega); omega
  have hDD : 1 ≤ d1 * d2 * (d1 * d2) := by have := Int.mul_le_mul hD hD (by omega) (by omega); omega
  have s3 : 2 * (d2 * x * (d1 * (if b < 0 then -y else y)) * g) * d = d1 * d2 * (d1 * d2) * b ∧ (b ≠ 0 → q = m) := by
    generalize hX : 2 * (d2 * x * (d1 * (if b < 0 then -y else y)) * g) * d = X at s2 ⊢
    generalize hB : d1 * d2 * (d1 * d2) * b = B at s2 ⊢
    by_cases b0 : b = 0
    · subst b0
      have hB0 : B = 0 := by rw [← hB]; simp
      have s5 : X * X * q = 0 := by rw [s2, hB0]; simp
      rcases Int.mul_eq_zero.1 s5 with s5 | s5
      · exact ⟨by rw [sq_zero s5, hB0], fun h => absurd rfl h⟩
      · have := hq1.1; omega
    · have hm1 := hbr b0
      have hX0 : X ≠ 0 := by
        intro e
        have s5 : B * B * m = 0 := by rw [← s2, e]; simp
        rcases Int.mul_eq_zero.1 s5 with s5 | s5
        · rw [sq_zero s5] at hB
          rcases Int.mul_eq_zero.1 hB with h | h
          · omega
          · exact b0 h
        · have := hm1.1; omega
      have hB0 : B ≠ 0 := by
        intro e
        rw [e] at hB
        rcases Int.mul_eq_zero.1 hB with h | h
        · omega
        · exact b0 h
      have key := rat_uniq (X := (X.natAbs : Int)) (U := (B.natAbs : Int)) (V := 1) (Y := 1) (by omega) (by omega) (by omega) (by omega) hq1 hm1 (by
        rw [Int.natAbs_mul_self', Int.natAbs_mul_self']
        simpa using s2)
      refine ⟨?_, fun _ => key.1⟩
      have habs := key.2
      have hsgX : (0 < b → 0 ≤ X) ∧ (b < 0 → X ≤ 0) := by
        rw [← hX]
        have q1 : 0 ≤ d2 * x := Int.mul_nonneg (by omega) p1
        have q2 : 0 ≤ d1 * y := Int.mul_nonneg (by omega) p2
        have q3 : 0 ≤ d2 * x * (d1 * y) * g := Int.mul_nonneg (Int.mul_nonneg q1 q2) (by omega)
        have q4 : 0 ≤ 2 * (d2 * x * (d1 * y) * g) * d := Int.mul_nonneg (by omega) (by omega)
        constructor
        · intro hb1
          rw [if_neg (by omega)]
          exact q4
        · intro hb1
          rw [if_pos hb1]
          have : 2 * (d2 * x * (d1 * -y) * g) * d = -(2 * (d2 * x * (d1 * y) * g) * d) := by grind
          omega
      have hsgB : (0 < b → 0 ≤ B) ∧ (b < 0 → B ≤ 0) := by
        rw [← hB]
        constructor
        · intro hb1
          exact Int.mul_nonneg (by omega) (by omega)
        · intro hb1
          have := Int.mul_nonneg (show 0 ≤ d1 * d2 * (d1 * d2) by omega) (show 0 ≤ -b by omega)
          rw [Int.mul_neg] at this
          omega
      rcases Int.lt_or_le b 0 with hb1 | hb1
      · have := hsgX.2 hb1; have := hsgB.2 hb1; omega
      · have := hsgX.1 (by omega); have := hsgB.1 (by omega); omega
  obtain ⟨s3, s4⟩ := s3
  rw [Int.add_mul, Int.add_mul]
  congr 1
  · split
    · exact s1
    · simp
  · by_cases b0 : b = 0
    · subst b0
      have s5 : 2 * (d2 * x * (d1 * (if (0 : Int) < 0 then -y else y)) * g) * d = 0 := by rw [s3]; simp
      rw [show (if m = r then (0 : Int) else 0) = 0 by split <;> rfl, Int.zero_mul]
      split
      · exact s5
      · simp
    · rw [s4 b0]
      split
      · rw [s3, Int.mul_comm]
      · simp
end Go.Proofs.YtedpafdfecofnaaGreatDoor

/-! ## W2 -/
namespace Go.Proofs.YtedpafdfecofnaaGreatDoor
open Go.RowKit Go.Maps Go.Shelf Go.Sort
theorem pos_one {c ρ : Int} (hc : 1 ≤ c) (hρ : 1 ≤ ρ) : Pos [(c, ρ)] := by
  refine ⟨2, ?_⟩
  have h1 : 1 ≤ isq ρ.toNat := le_isq (by omega)
  have h2 : 4 * isq ρ.toNat ≤ isq (ρ.toNat * 4 ^ 2) := le_isq (by
    have := (isq_spec ρ.toNat).1
    have e : 4 * isq ρ.toNat * (4 * isq ρ.toNat) = 16 * (isq ρ.toNat * isq ρ.toNat) := by grind
    omega)
  have e1 : absS [(c, ρ)] = c := by
    simp [absS, natT, Tw.sumA]
    omega
  have e2 : SQ 2 [(c, ρ)] = c * (isq (ρ.toNat * 4 ^ 2) : Nat) := by simp [SQ, lin, qZ, qD]
  rw [e1, e2]
  have := Int.mul_le_mul_of_nonneg_left (show (4 : Int) ≤ (isq (ρ.toNat * 4 ^ 2) : Nat) by omega) (show 0 ≤ c by omega)
  omega
theorem sg_one {c ρ : Int} (hc : 0 ≤ c) (hρ : 1 ≤ ρ) : ∃ n, Sg [(c, ρ)] n ∧ 0 ≤ n := by
  by_cases h : c = 0
  · subst h
    exact ⟨0, .inr (.inr ⟨rfl, fun r => by simp [coefOf]⟩), by omega⟩
  · exact ⟨1, .inl ⟨rfl, pos_one (by omega) hρ⟩, by omega⟩
theorem sg_two {x ρ y σ : Int} (hx : 0 ≤ x) (hρ : 1 ≤ ρ) (hy : 0 ≤ y) (hσ : 1 ≤ σ) : ∃ n, Sg [(x, ρ), (y, σ)] n ∧ 0 ≤ n ∧ (n = 0 → x = 0 ∧ y = 0) := by
  by_cases h : x = 0
  · subst h
    obtain ⟨n, hn, h0⟩ := sg_one hy hσ
    refine ⟨n, hn.ratio (A := 1) (B := 1) (by omega) (by omega) (fun r => by simp [coefOf]), h0, fun e => ⟨rfl, ?_⟩⟩
    subst e
    rcases hn with ⟨e, _⟩ | ⟨e, _⟩ | ⟨_, e⟩
    · omega
    · omega
    · have := e σ
      simpa [coefOf] using this
  · by_cases h2 : y = 0
    · subst h2
      exact ⟨1, Sg.ratio (l := [(x, ρ)]) (.inl ⟨rfl, pos_one (by omega) hρ⟩) (A := 1) (B := 1) (by omega) (by omega) (fun r => by simp [coefOf]), by omega, fun e => by omega⟩
    · have := Sg.add (l := [(x, ρ)]) (m := [(y, σ)]) (n := 1) (.inl ⟨rfl, pos_one (by omega) hρ⟩) (.inl ⟨rfl, pos_one (by omega) hσ⟩)
      exact ⟨1, this, by omega, fun e => by omega⟩
/-- The product of a sum and a difference. -/
theorem diff_coef (x ρ y σ : Int) (r : Int) (h1 : 1 ≤ ρ) (h2 : 1 ≤ σ) : coefOf (prodL [(x, ρ), (-y, σ)] [(x, ρ), (y, σ)]) r = coefOf [(x * x * ρ - y * y * σ, 1)] r := by
  simp only [prodL, List.flatMap_cons, List.flatMap_nil, List.map_cons, List.map_nil, List.append_nil, List.cons_append, List.nil_append, mulT_eq, gS_self h1, gS_self h2, rS_self h1, rS_self h2, gS_comm σ ρ, rS_comm σ ρ]
  simp only [coefOf, List.foldl_cons, List.foldl_nil]
  by_cases a : (1 : Int) = r
  · by_cases b : rS ρ σ = r
    · simp only [a, b, if_true]; grind
    · simp only [a, b, if_true, if_false]; grind
  · by_cases b : rS ρ σ = r
    · simp only [a, b, if_true, if_false]; grind
    · simp only [a, b, if_false]
/-- A difference of two roots, the first not less than the second, is not below 0. -/
theorem diff_sg {x ρ y σ n : Int} (hx : 0 ≤ x) (hy : 0 ≤ y) (hρ : Rt ρ) (hσ : Rt σ) (hle : y * y * σ ≤ x * x * ρ) (h : Sg [(x, ρ), (-y, σ)] n) : 0 ≤ n := by
  rcases h.range with rfl | rfl | rfl
  · exfalso
    obtain ⟨k, hk, hk0, hk1⟩ := sg_two hx hρ.1 hy hσ.1
    have hr : ∀ t ∈ [(x, ρ), (y, σ)], Rt t.2 := fun t ht => by
      simp at ht; rcases ht with rfl | rfl
      · exact hρ
      · exact hσ
    have hr' : ∀ t ∈ [(x, ρ), (-y, σ)], Rt t.2 := fun t ht => by
      simp at ht; rcases ht with rfl | rfl
      · exact hρ
      · exact hσ
    have hm := h.mul hk hr' hr
    obtain ⟨j, hj, hj0⟩ := sg_one (c := x * x * ρ - y * y * σ) (ρ := 1) (by omega) (by omega)
    have hj2 := hj.ratio (m := prodL [(x, ρ), (-y, σ)] [(x, ρ), (y, σ)]) (A := 1) (B := 1) (by omega) (by omega) (fun r => by rw [diff_coef x ρ y σ r hρ.1 hσ.1])
    have e := hm.uniq hj2
    by_cases hk2 : k = 0
    · obtain ⟨rfl, rfl⟩ := hk1 hk2
      have : Sg [((0 : Int), ρ), (-0, σ)] 0 := .inr (.inr ⟨rfl, fun r => by simp [coefOf]⟩)
      have := h.uniq this
      omega
    · omega
  · omega
  · omega
theorem sum_terms {d1 d2 : Int} {f1 f2 : Int × Int} (σ : Int) : plusC (plusC zeroC d2 [f1]) d1 [(σ, f2.2)] = coefOf [(d2 * f1.1, f1.2), (d1 * σ, f2.2)] := by
  funext r
  simp only [plusC, zeroC, coefOf, List.foldl_cons, List.foldl_nil]
  by_cases a : f1.2 = r <;> by_cases b : f2.2 = r <;> simp [a, b]
/-- What Root returns: its square is the number, and it is not below 0. -/
theorem root_ok {d : Int} {l : List (Int × Int)} (v : Vld d l) {d' : Int} {l' : List (Int × Int)} (h : RootP d l (d', l', 0)) : Vld d' l' ∧ (∀ r, coefOf (prodL l' l') r * d = coefOf l r * (d' * d')) ∧ 0 ≤ sgnZ l' := by
  unfold RootP at h
  rw [if_pos v.bool] at h
  split at h
  · simp at h
  split at h
  · simp at h
  rename_i hneg hbf
  split at h
  · simp at h
  rename_i hM
  have hb : (binF l).2.2 = true := by simpa using hbf
  obtain ⟨hM1, hM2⟩ : 0 ≤ rootM l ∧ isq (rootM l).toNat * isq (rootM l).toNat = (rootM l).toNat := by
    constructor
    · exact Int.not_lt.1 fun e => hM (.inl e)
    · exact Decidable.not_not.1 fun e => hM (.inr e)
  obtain ⟨f1, d1, f2, d2, h1, h2, t, ht, he⟩ := h
  obtain ⟨w, hw⟩ : ∃ w : Nat, isq (rootM l).toNat = w := ⟨_, rfl⟩
  rw [hw] at h1 h2 hM2
  have hww : (w : Int) * w = rootM l := by
    have : ((w * w : Nat) : Int) = ((rootM l).toNat : Int) := by rw [hM2]
    rw [Int.natCast_mul, Int.toNat_of_nonneg hM1] at this
    exact this
  have hd := v.d1
  obtain ⟨n1, p1, r1, k1, e1⟩ := frac_val h1 (by omega)
  obtain ⟨n2, p2, r2, k2, e2⟩ := frac_val h2 (by omega)
  have key := root_sq v hb hww h1 h2
  rw [sum_terms] at ht
  obtain ⟨s, hs⟩ : ∃ s, (if (binF l).2.1.1 < 0 then -f2.1 else f2.1) = s := ⟨_, rfl⟩
  have hs2 : s = f2.1 ∨ s = -f2.1 := by rw [← hs]; split <;> simp
  rw [hs] at ht key
  have hD : d1 * d2 ≠ 0 := Int.mul_ne_zero (by omega) (by omega)
  have hD1 : 1 ≤ d1 * d2 := by have := Int.mul_le_mul k1 k2 (by omega) (by omega); omega
  obtain ⟨v', e'⟩ := fin_ok hD ht (fun u hu => by
    have a := (ht.2 u.1 u.2).1 hu
    have hne : coefOf [(d2 * f1.1, f1.2), (d1 * s, f2.2)] u.2 ≠ 0 := by
      intro e; rw [e] at a; exact a.2 a.1.symm
    obtain ⟨z, hz, e⟩ := coefOf_ne hne
    simp at hz
    rw [← e]
    rcases hz with rfl | rfl
    · exact r1
    · exact r2) he.symm
  refine ⟨v', fun r => ?_, ?_⟩
  · have a1 := prod_ratio (l := l') (l' := [(d2 * f1.1, f1.2), (d1 * s, f2.2)]) (A := d1 * d2) (B := d') (fun r => e' r) l' r
    have a2 := prod_ratio (l := l') (l' := [(d2 * f1.1, f1.2), (d1 * s, f2.2)]) (A := d1 * d2) (B := d') (fun r => e' r) [(d2 * f1.1, f1.2), (d1 * s, f2.2)] r
    rw [prod_comm [(d2 * f1.1, f1.2), (d1 * s, f2.2)] l' r] at a1
    have k := key r
    have hDD : d1 * d2 * (d1 * d2) ≠ 0 := Int.mul_ne_zero hD hD
    apply Int.eq_of_mul_eq_mul_right hDD
    generalize coefOf (prodL l' l') r = P at *
    generalize coefOf (prodL l' [(d2 * f1.1, f1.2), (d1 * s, f2.2)]) r = Q at *
    generalize coefOf (prodL [(d2 * f1.1, f1.2), (d1 * s, f2.2)] [(d2 * f1.1, f1.2), (d1 * s, f2.2)]) r = R at *
    generalize coefOf l r = C at *
    generalize d1 * d2 = D at *
    calc P * d * (D * D) = (P * D) * (D * d) := by grind
      _ = (Q * d') * (D * d) := by rw [a1]
      _ = (Q * D) * (d' * d) := by grind
      _ = (R * d') * (d' * d) := by rw [a2]
      _ = (R * d) * (d' * d') := by grind
      _ = C * (D * D) * (d' * d') := by rw [k]
      _ = C * (d' * d') * (D * D) := by grind
  · have hsg := sign_sg v'
    have hd'1 := v'.d1
    have hsg2 := hsg.ratio (m := [(d2 * f1.1, f1.2), (d1 * s, f2.2)]) (A := d1 * d2) (B := d') (by omega) (by omega) (fun r => e' r)
    have x0 : 0 ≤ d2 * f1.1 := Int.mul_nonneg (by omega) p1
    have y0 : 0 ≤ d1 * f2.1 := Int.mul_nonneg (by omega) p2
    rcases hs2 with rfl | rfl
    · obtain ⟨k, hk, hk0, _⟩ := sg_two x0 r1.1 y0 r2.1
      have := hsg2.uniq hk
      omega
    · rw [show d1 * -f2.1 = -(d1 * f2.1) by grind] at hsg2
      refine diff_sg x0 y0 r1 r2 ?_ hsg2
      have q1 : d2 * f1.1 * (d2 * f1.1) * f1.2 * (2 * d) = (d1 * d2) * (d1 * d2) * ((binF l).1 + w) := by
        calc d2 * f1.1 * (d2 * f1.1) * f1.2 * (2 * d) = d2 * d2 * (f1.1 * f1.1 * f1.2 * (2 * d)) := by grind
          _ = d2 * d2 * (((binF l).1 + w) * (d1 * d1)) := by rw [e1]
          _ = _ := by grind
      have q2 : d1 * f2.1 * (d1 * f2.1) * f2.2 * (2 * d) = (d1 * d2) * (d1 * d2) * ((binF l).1 - w) := by
        calc d1 * f2.1 * (d1 * f2.1) * f2.2 * (2 * d) = d1 * d1 * (f2.1 * f2.1 * f2.2 * (2 * d)) := by grind
          _ = d1 * d1 * (((binF l).1 - w) * (d2 * d2)) := by rw [e2]
          _ = _ := by grind
      have q3 : (d1 * d2) * (d1 * d2) * ((binF l).1 - w) ≤ (d1 * d2) * (d1 * d2) * ((binF l).1 + w) := Int.mul_le_mul_of_nonneg_left (by omega) (Int.mul_nonneg (by omega) (by omega))
      rw [← q1, ← q2] at q3
      exact Int.le_of_mul_le_mul_right q3 (by omega)
/-- Root refuses by 'out of range' just what is below 0. -/
theorem root_range {d : Int} {l : List (Int × Int)} (v : Vld d l) {r : Int × List (Int × Int) × Int} (h : RootP d l r) : sgnZ l < 0 ↔ r.2.2 = 3 := by
  unfold RootP at h
  rw [if_pos v.bool] at h
  split at h
  · rename_i hn; subst h; simpa using hn
  rename_i hn
  refine ⟨fun e => absurd e hn, fun e => ?_⟩
  split at h
  · subst h; simp at e
  split at h
  · subst h; simp at e
  · obtain ⟨f1, d1, f2, d2, h1, h2, t, ht, rfl⟩ := h
    unfold finF at e
    dsimp only at e
    split at e
    · simp at e
    · split at e <;> simp at e
/-- The square of a root is the number, by Mul. -/
theorem root_back {d : Int} {l : List (Int × Int)} (v : Vld d l) {d' : Int} {l' : List (Int × Int)} (h : RootP d l (d', l', 0)) {q : Int × List (Int × Int) × Int} (hq : mulF d' l' d' l' q) : q = (d, l, 0) := by
  obtain ⟨v', e, _⟩ := root_ok v h
  exact mulF_of v' v' hq v (fun r => (e r).symm)
end Go.Proofs.YtedpafdfecofnaaGreatDoor

/-! ## W3 -/
namespace Go.Proofs.YtedpafdfecofnaaGreatDoor
open Go.RowKit Go.Maps Go.Shelf Go.Sort
theorem sq_div {N k t : Int} (hk : 1 ≤ k) (h : N * (k * k) = t * t) : ∃ w : Nat, (t.natAbs : Int) = w * k ∧ N = (w : Int) * w := by
  have hkk : 1 ≤ k * k := by have := Int.mul_le_mul hk hk (by omega) (by omega); omega
  have hN : 0 ≤ N := by
    rcases Int.lt_or_le N 0 with x | x
    · have h1 : N * (k * k) ≤ -1 * (k * k) := Int.mul_le_mul_of_nonneg_right (by omega) (by omega)
      have h2 : 0 ≤ t * t := by
        have := Int.natAbs_mul_self' t
        have h3 : 0 ≤ (t.natAbs : Int) * t.natAbs := Int.mul_nonneg (by omega) (by omega)
        omega
      omega
    · exact x
  have hn : N.toNat * (k.toNat * k.toNat) = t.natAbs * t.natAbs := by
    apply Int.natCast_inj.1
    rw [Int.natCast_mul, Int.natCast_mul, Int.natCast_mul, Int.toNat_of_nonneg hN, Int.toNat_of_nonneg (by omega), Int.natAbs_mul_self']
    exact h
  have hd : k.toNat ∣ t.natAbs := (Nat.pow_dvd_pow_iff (n := 2) (by decide)).1 ⟨N.toNat, by rw [Nat.pow_two, Nat.pow_two, ← hn, Nat.mul_comm]⟩
  obtain ⟨w, hw⟩ := hd
  have hkp : 0 < k.toNat * k.toNat := Nat.mul_pos (by omega) (by omega)
  have h5 : N.toNat = w * w := by
    apply Nat.eq_of_mul_eq_mul_right hkp
    rw [hn, hw]
    grind
  refine ⟨w, ?_, ?_⟩
  · rw [hw, Int.natCast_mul, Int.toNat_of_nonneg (by omega), Int.mul_comm]
  · rw [← Int.natCast_mul, ← h5, Int.toNat_of_nonneg hN]
theorem rt_small {n : Nat} (h1 : 1 ≤ n) (h2 : n ≤ 3) : Rt n := by
  refine Rt.of_nat h1 ?_
  intro e he hd
  have := Nat.le_of_dvd (by omega) hd
  have := Nat.mul_le_mul he he
  omega
/-- A number of at most two terms. -/
theorem two_rep {d : Int} {l : List (Int × Int)} (v : Vld d l) (h : l.length ≤ 2) : ∃ c p e q : Int, Rt p ∧ Rt q ∧ p ≠ q ∧ ∀ r, coefOf l r = coefOf [(c, p), (e, q)] r := by
  have hr := v.rts
  have h1 : Rt 1 := by have := rt_small (n := 1) (by omega) (by omega); exact_mod_cast this
  have h2 : Rt 2 := by have := rt_small (n := 2) (by omega) (by omega); exact_mod_cast this
  match l, v, h with
  | [], _, _ => exact ⟨0, 1, 0, 2, h1, h2, by omega, fun r => by simp [coefOf]⟩
  | [t], _, _ =>
    by_cases hp : t.2 = 1
    · exact ⟨t.1, t.2, 0, 2, hr t (by simp), h2, by omega, fun r => by simp [coefOf]⟩
    · exact ⟨t.1, t.2, 0, 1, hr t (by simp), h1, hp, fun r => by simp [coefOf]⟩
  | [t, u], v, _ =>
    have := v.asc 1 (by omega) (by simp)
    simp at this
    exact ⟨t.1, t.2, u.1, u.2, hr t (by simp), hr u (by simp), by omega, fun r => rfl⟩
theorem rS_ne {p q : Int} (hp : Rt p) (hq : Rt q) (h : p ≠ q) : 1 < rS p q := by
  have h1 := (Rt.r hp hq).1
  rcases Int.lt_or_le 1 (rS p q) with x | x
  · exact x
  · exfalso
    have e : rS p q = 1 := by omega
    obtain ⟨a, ha⟩ := Int.gcd_dvd_left p q
    obtain ⟨b, hb⟩ := Int.gcd_dvd_right p q
    have hp1 := hp.1
    have hq1 := hq.1
    have hg : 1 ≤ (Int.gcd p q : Int) := by
      have := Int.gcd_pos_of_ne_zero_right p (show q ≠ 0 by omega)
      omega
    unfold rS gS at e
    generalize (Int.gcd p q : Int) = g at *
    have e1 : p / g = a := by rw [ha]; exact Int.mul_ediv_cancel_left _ (by omega)
    have e2 : q / g = b := by rw [hb]; exact Int.mul_ediv_cancel_left _ (by omega)
    rw [e1, e2] at e
    have ha1 : 1 ≤ a := by
      rcases Int.lt_or_le 0 a with y | y
      · omega
      · have : g * a ≤ g * 0 := Int.mul_le_mul_of_nonneg_left y (by omega)
        omega
    have hb1 : 1 ≤ b := by
      rcases Int.lt_or_le 0 b with y | y
      · omega
      · have : g * b ≤ g * 0 := Int.mul_le_mul_of_nonneg_left y (by omega)
        omega
    have h3 : a * 1 ≤ a * b := Int.mul_le_mul_of_nonneg_left hb1 (by omega)
    have h4 : 1 * b ≤ a * b := Int.mul_le_mul_of_nonneg_right ha1 (by omega)
    have ea : a = 1 := by omega
    have eb : b = 1 := by omega
    apply h
    rw [ha, hb, ea, eb]
/-- A number with no terms but one of 1 and one of k: its parts. -/
theorem bin_shape {d : Int} {l : List (Int × Int)} (v : Vld d l) {k : Int} (hk : 1 < k) (h : ∀ r, r ≠ 1 → r ≠ k → coefOf l r = 0) (h2 : coefOf l 1 = 0 → coefOf l k = 0) :
    (binF l).2.2 = true ∧ (binF l).1 = coefOf l 1 ∧ (binF l).2.1.1 = coefOf l k ∧ (coefOf l k ≠ 0 → (binF l).2.1.2 = k) := by
  have hm : ∀ t ∈ l, coefOf l t.2 = t.1 ∧ t.1 ≠ 0 ∧ (t.2 = 1 ∨ t.2 = k) := by
    intro t ht
    have a := (v.terms.2 t.1 t.2).1 ht
    refine ⟨a.1, a.2, ?_⟩
    by_cases e1 : t.2 = 1
    · exact .inl e1
    · by_cases e2 : t.2 = k
      · exact .inr e2
      · have := h t.2 e1 e2
        omega
  match l, v, h, h2, hm with
  | [], _, _, _, _ => simp [binF, coefOf]
  | [t], _, _, h2, hm =>
    obtain ⟨a, b, c | c⟩ := hm t (by simp)
    · have hk1 : ¬ (1 : Int) = k := by omega
      simp [binF, c, coefOf, hk1]
    · exfalso
      have hk1 : ¬ t.2 = 1 := by omega
      have e1 : coefOf [t] 1 = 0 := by simp [coefOf, hk1]
      have e2 := h2 e1
      rw [c] at a
      omega
  | [t, u], v, _, _, hm =>
    have ha := v.asc 1 (by omega) (by simp)
    simp at ha
    obtain ⟨a1, b1, c1⟩ := hm t (by simp)
    obtain ⟨a2, b2, c2⟩ := hm u (by simp)
    have et : t.2 = 1 := by omega
    have eu : u.2 = k := by omega
    rw [et] at a1
    rw [eu] at a2
    refine ⟨by simp [binF, et], ?_, ?_, fun _ => ?_⟩
    · rw [a1]; simp [binF, et]
    · rw [a2]; simp [binF, et]
    · simp [binF, et, eu]
  | t :: u :: x :: us, v, _, _, hm =>
    exfalso
    have ha := v.asc 1 (by omega) (by simp)
    have hb := v.asc 2 (by omega) (by simp)
    simp at ha hb
    have c1 := (hm t (by simp)).2.2
    have c2 := (hm u (by simp)).2.2
    have c3 := (hm x (by simp)).2.2
    omega
theorem match_root {x ρ D c p dx : Int} (hx : 0 ≤ x) (hρ : Rt ρ) (hp : Rt p) (hD : 1 ≤ D) (hdx : 1 ≤ dx) (h : x * x * ρ * (dx * dx) = c * c * p * (D * D)) (m : Int) (r : Int) :
    coefOf [(m * x, ρ)] r * dx = coefOf [(m * (c.natAbs : Int), p)] r * D := by
  have hp1 := hp.1
  have hρ1 := hρ.1
  by_cases hc : c = 0
  · subst hc
    have h1 : x * x * ρ * (dx * dx) = 0 := by rw [h]; simp
    have hx0 : x = 0 := by
      rcases Int.mul_eq_zero.1 h1 with h1 | h1
      · rcases Int.mul_eq_zero.1 h1 with h1 | h1
        · exact sq_zero h1
        · omega
      · have := sq_zero h1; omega
    subst hx0
    simp [coefOf]
  · have hx0 : x ≠ 0 := by
      intro e
      subst e
      have h1 : c * c * p * (D * D) = 0 := by rw [← h]; simp
      rcases Int.mul_eq_zero.1 h1 with h1 | h1
      · rcases Int.mul_eq_zero.1 h1 with h1 | h1
        · exact hc (sq_zero h1)
        · omega
      · have := sq_zero h1; omega
    obtain ⟨e1, e2⟩ := rat_uniq (X := x) (p := ρ) (U := (c.natAbs : Int)) (q := p) (V := dx) (Y := D) (by omega) (by omega) hdx hD hρ hp (by rw [Int.natAbs_mul_self']; exact h)
    subst e1
    simp only [coefOf, List.foldl_cons, List.foldl_nil]
    split
    · rw [Int.zero_add, Int.zero_add, Int.mul_assoc, e2, Int.mul_assoc]
    · simp
theorem Vld.neg {d : Int} {l : List (Int × Int)} (v : Vld d l) : Vld d (mulS (-1) l) := by
  have hm : ∀ t ∈ mulS (-1) l, ∃ u ∈ l, t = (-1 * u.1, u.2) := fun t ht => by
    obtain ⟨u, hu, rfl⟩ := List.mem_map.1 ht
    exact ⟨u, hu, rfl⟩
  refine ⟨v.d1, v.d2, by simpa [mulS] using v.len, fun t ht => ?_, fun t ht => ?_, fun t ht => ?_, ?_, ?_⟩
  · obtain ⟨u, hu, rfl⟩ := hm t ht
    have := v.cf u hu
    dsimp only
    omega
  · obtain ⟨u, hu, rfl⟩ := hm t ht
    exact v.rt u hu
  · obtain ⟨u, hu, rfl⟩ := hm t ht
    exact v.sq u hu
  · intro i h1 h2
    have hl : i < l.length := by simpa [mulS] using h2
    have := v.asc i h1 hl
    have hl2 : i - 1 < l.length := by omega
    simp [mulS, hl, hl2] at this ⊢
    exact this
  · have := v.dv
    unfold dvF at this ⊢
    unfold mulS
    rw [List.foldl_map]
    simpa using this
theorem sgn_nil {l : List (Int × Int)} (h : sgnZ l = 0) : l = [] := by
  unfold sgnZ at h
  split at h
  · assumption
  · unfold sgnL at h
    split at h <;> omega
theorem abs_sign (c e g ds dx B : Int) (hg : 1 ≤ g) (hds : 1 ≤ ds) (hdx : 1 ≤ dx) (hB : B * (dx * dx) = 2 * (c * e * g) * ds) (h0 : c = 0 → e = 0) :
    ∃ ε : Int, (ε = 1 ∨ ε = -1) ∧ (c.natAbs : Int) = ε * c ∧ (if B < 0 then -(e.natAbs : Int) else (e.natAbs : Int)) = ε * e := by
  have hdd : 1 ≤ dx * dx := by have := Int.mul_le_mul hdx hdx (by omega) (by omega); omega
  have hgd : 1 ≤ g * ds := by have := Int.mul_le_mul hg hds (by omega) (by omega); omega
  have e1 : B * (dx * dx) = 2 * ((c * e) * (g * ds)) := by rw [hB]; grind
  have neg : c * e < 0 → B < 0 := by
    intro h
    have h1 : (c * e) * (g * ds) ≤ -1 * (g * ds) := Int.mul_le_mul_of_nonneg_right (by omega) (by omega)
    rcases Int.lt_or_le B 0 with x | x
    · exact x
    · have := Int.mul_nonneg x (show 0 ≤ dx * dx by omega)
      omega
  have pos : 0 ≤ c * e → 0 ≤ B := by
    intro h
    have h1 := Int.mul_nonneg h (show 0 ≤ g * ds by omega)
    rcases Int.lt_or_le B 0 with x | x
    · have : B * (dx * dx) ≤ -1 * (dx * dx) := Int.mul_le_mul_of_nonneg_right (by omega) (by omega)
      omega
    · exact x
  rcases Int.lt_or_le c 0 with hc | hc
  · refine ⟨-1, .inr rfl, by omega, ?_⟩
    rcases Int.lt_or_le 0 e with he | he
    · have : c * e < 0 := Int.mul_neg_of_neg_of_pos hc he
      rw [if_pos (neg this)]
      omega
    · have : 0 ≤ c * e := Int.mul_nonneg_of_nonpos_of_nonpos (by omega) he
      rw [if_neg (by have := pos this; omega)]
      omega
  · refine ⟨1, .inl rfl, by omega, ?_⟩
    rcases Int.lt_or_le e 0 with he | he
    · have hc0 : 0 < c := by
        rcases Int.lt_or_le 0 c with x | x
        · exact x
        · have := h0 (by omega); omega
      have : c * e < 0 := Int.mul_neg_of_pos_of_neg hc0 he
      rw [if_pos (neg this)]
      omega
    · have : 0 ≤ c * e := Int.mul_nonneg hc he
      rw [if_neg (by have := pos this; omega)]
      omega
theorem coef_two (a b : Int × Int) (r : Int) : coefOf [a, b] r = coefOf [a] r + coefOf [b] r := coef_append [a] [b] r
/-- What Root adds up, for the square of a number of two terms: the number, or its opposite. -/
theorem root_match {c p e q g ds dx A B w D1 D2 : Int} {f1 f2 : Int × Int} (hp : Rt p) (hq : Rt q) (hg : 1 ≤ g) (hds : 1 ≤ ds) (hdx : 1 ≤ dx)
    (hA : A * (dx * dx) = (c * c * p + e * e * q) * ds) (hB : B * (dx * dx) = 2 * (c * e * g) * ds) (hw : w * (dx * dx) = ds * (c * c * p - e * e * q)) (hle : e * e * q ≤ c * c * p)
    (p1 : 0 ≤ f1.1) (r1 : Rt f1.2) (k1 : 1 ≤ D1) (e1 : f1.1 * f1.1 * f1.2 * (2 * ds) = (A + w) * (D1 * D1))
    (p2 : 0 ≤ f2.1) (r2 : Rt f2.2) (k2 : 1 ≤ D2) (e2 : f2.1 * f2.1 * f2.2 * (2 * ds) = (A - w) * (D2 * D2)) :
    ∃ ε : Int, (ε = 1 ∨ ε = -1) ∧ ∀ r, coefOf [(D2 * f1.1, f1.2), (D1 * (if B < 0 then -f2.1 else f2.1), f2.2)] r * dx = ε * coefOf [(c, p), (e, q)] r * (D1 * D2) := by
  have hp1 := hp.1
  have hq1 := hq.1
  have h0 : c = 0 → e = 0 := by
    intro h
    subst h
    have : 0 ≤ e * e * q := by
      rw [← Int.natAbs_mul_self' e]
      exact Int.mul_nonneg (Int.mul_nonneg (by omega) (by omega)) (by omega)
    have h1 : e * e * q = 0 := by simp at hle; omega
    rcases Int.mul_eq_zero.1 h1 with h1 | h1
    · exact sq_zero h1
    · omega
  obtain ⟨ε, hε, ea, eb⟩ := abs_sign c e g ds dx B hg hds hdx hB h0
  have n2 : (2 * ds : Int) ≠ 0 := by omega
  have m1 : f1.1 * f1.1 * f1.2 * (dx * dx) = c * c * p * (D1 * D1) := by
    apply Int.eq_of_mul_eq_mul_right n2
    calc f1.1 * f1.1 * f1.2 * (dx * dx) * (2 * ds) = (f1.1 * f1.1 * f1.2 * (2 * ds)) * (dx * dx) := by grind
      _ = (A + w) * (D1 * D1) * (dx * dx) := by rw [e1]
      _ = (A * (dx * dx) + w * (dx * dx)) * (D1 * D1) := by grind
      _ = ((c * c * p + e * e * q) * ds + ds * (c * c * p - e * e * q)) * (D1 * D1) := by rw [hA, hw]
      _ = _ := by grind
  have m2 : f2.1 * f2.1 * f2.2 * (dx * dx) = e * e * q * (D2 * D2) := by
    apply Int.eq_of_mul_eq_mul_right n2
    calc f2.1 * f2.1 * f2.2 * (dx * dx) * (2 * ds) = (f2.1 * f2.1 * f2.2 * (2 * ds)) * (dx * dx) := by grind
      _ = (A - w) * (D2 * D2) * (dx * dx) := by rw [e2]
      _ = (A * (dx * dx) - w * (dx * dx)) * (D2 * D2) := by grind
      _ = ((c * c * p + e * e * q) * ds - ds * (c * c * p - e * e * q)) * (D2 * D2) := by rw [hA, hw]
      _ = _ := by grind
  refine ⟨ε, hε, fun r => ?_⟩
  have t1 := match_root p1 r1 hp k1 hdx m1 D2 r
  obtain ⟨s, hs⟩ : ∃ s : Int, (if B < 0 then (-1 : Int) else 1) = s := ⟨_, rfl⟩
  have hs1 : (if B < 0 then -f2.1 else f2.1) = s * f2.1 := by rw [← hs]; split <;> omega
  have hs2 : (if B < 0 then -(e.natAbs : Int) else (e.natAbs : Int)) = s * (e.natAbs : Int) := by rw [← hs]; split <;> omega
  have t2 := match_root p2 r2 hq k2 hdx m2 (D1 * s) r
  rw [coef_two, coef_two, hs1, ← Int.mul_assoc D1 s, Int.add_mul, t1, t2]
  rw [hs2] at eb
  rw [ea, Int.mul_assoc D1 s, eb]
  simp only [coefOf, List.foldl_cons, List.foldl_nil]
  clear m1 m2 t1 t2 e1 e2 hA hB hw hle
  by_cases x : p = r <;> by_cases y : q = r <;> simp [x, y] <;> grind
end Go.Proofs.YtedpafdfecofnaaGreatDoor

/-! ## W4 -/
namespace Go.Proofs.YtedpafdfecofnaaGreatDoor
open Go.RowKit Go.Maps Go.Shelf Go.Sort
/-- The root of the square of a number of at most two terms: the number, or its opposite. -/
theorem root_find {dx ds : Int} {lx ls : List (Int × Int)} (vx : Vld dx lx) (hl : lx.length ≤ 2) (hm : mulF dx lx dx lx (ds, ls, 0)) {r : Int × List (Int × Int) × Int} (hr : RootP ds ls r) :
    (0 ≤ sgnZ lx → r = (dx, lx, 0)) ∧ (sgnZ lx < 0 → r = (dx, mulS (-1) lx, 0)) := by
  obtain ⟨vs, es⟩ := mulF_ok vx vx hm
  obtain ⟨c, p, e, q, hp, hq, hne, hc⟩ := two_rep vx hl
  have hdx := vx.d1
  have hds := vs.d1
  have hdd : 1 ≤ dx * dx := by have := Int.mul_le_mul hdx hdx (by omega) (by omega); omega
  have hk := rS_ne hp hq hne
  have hcr := sq_cross hp hq
  obtain ⟨k, hkk⟩ : ∃ k, rS p q = k := ⟨_, rfl⟩
  obtain ⟨g, hgg⟩ : ∃ g, gS p q = g := ⟨_, rfl⟩
  rw [hkk] at hk
  rw [hkk, hgg] at hcr
  obtain ⟨hcr, hg⟩ := hcr
  have hp1 := hp.1
  have hq1 := hq.1
  have es2 : ∀ r, coefOf ls r * (dx * dx) = ((if r = 1 then c * c * p + e * e * q else 0) + (if k = r then 2 * (c * e * g) else 0)) * ds := by
    intro r
    have a1 := prod_ratio (l := lx) (l' := [(c, p), (e, q)]) (A := 1) (B := 1) (fun r => by rw [hc]) lx r
    have a2 := prod_ratio (l := lx) (l' := [(c, p), (e, q)]) (A := 1) (B := 1) (fun r => by rw [hc]) [(c, p), (e, q)] r
    rw [Int.mul_one, Int.mul_one] at a1 a2
    rw [es r, a1, prod_comm, a2, two_sq_coef _ _ _ _ _ hp1 hq1, hkk, hgg]
  have hA : coefOf ls 1 * (dx * dx) = (c * c * p + e * e * q) * ds := by
    have := es2 1
    rw [if_pos rfl, if_neg (by omega), Int.add_zero] at this
    exact this
  have hB : coefOf ls k * (dx * dx) = 2 * (c * e * g) * ds := by
    have := es2 k
    rw [if_neg (by omega), if_pos rfl, Int.zero_add] at this
    exact this
  have ndd : dx * dx ≠ 0 := by omega
  have hz : ∀ r, r ≠ 1 → r ≠ k → coefOf ls r = 0 := by
    intro r h1 h2
    have := es2 r
    rw [if_neg h1, if_neg (fun e => h2 e.symm), Int.add_zero, Int.zero_mul] at this
    exact (Int.mul_eq_zero.1 this).resolve_right ndd
  have nn : ∀ x y : Int, 1 ≤ y → 0 ≤ x * x * y := fun x y hy => by
    rw [← Int.natAbs_mul_self' x]
    exact Int.mul_nonneg (Int.mul_nonneg (by omega) (by omega)) (by omega)
  have h0 : coefOf ls 1 = 0 → coefOf ls k = 0 := by
    intro h
    rw [h, Int.zero_mul] at hA
    have h1 : c * c * p + e * e * q = 0 := (Int.mul_eq_zero.1 hA.symm).resolve_right (by omega)
    have := nn c p hp1
    have := nn e q hq1
    have h2 : c * c * p = 0 := by omega
    have h3 : c = 0 := sq_zero ((Int.mul_eq_zero.1 h2).resolve_right (by omega))
    rw [h3] at hB
    have h4 : coefOf ls k * (dx * dx) = 0 := by rw [hB]; simp
    exact (Int.mul_eq_zero.1 h4).resolve_right ndd
  obtain ⟨b1, b2, b3, b4⟩ := bin_shape vs hk hz h0
  obtain ⟨A, hAe⟩ : ∃ A, coefOf ls 1 = A := ⟨_, rfl⟩
  obtain ⟨B, hBe⟩ : ∃ B, coefOf ls k = B := ⟨_, rfl⟩
  rw [hAe] at hA b2
  rw [hBe] at hB b3 b4
  have hM : rootM ls = A * A - B * B * k := by
    unfold rootM
    rw [b2, b3]
    by_cases hB0 : B = 0
    · rw [hB0]; simp
    · rw [b4 hB0]
  have hsq : rootM ls * ((dx * dx) * (dx * dx)) = (ds * (c * c * p - e * e * q)) * (ds * (c * c * p - e * e * q)) := by
    rw [hM]
    calc (A * A - B * B * k) * ((dx * dx) * (dx * dx)) = (A * (dx * dx)) * (A * (dx * dx)) - (B * (dx * dx)) * (B * (dx * dx)) * k := by grind
      _ = ((c * c * p + e * e * q) * ds) * ((c * c * p + e * e * q) * ds) - (2 * (c * e * g) * ds) * (2 * (c * e * g) * ds) * k := by rw [hA, hB]
      _ = ((c * c * p + e * e * q) * ds) * ((c * c * p + e * e * q) * ds) - 4 * (c * c) * (e * e) * (ds * ds) * (g * g * k) := by grind
      _ = ((c * c * p + e * e * q) * ds) * ((c * c * p + e * e * q) * ds) - 4 * (c * c) * (e * e) * (ds * ds) * (p * q) := by rw [hcr]
      _ = _ := by grind
  obtain ⟨w, hw1, hw2⟩ := sq_div hdd hsq
  have hiw : isq (rootM ls).toNat = w := by
    have e1 : (rootM ls).toNat = w * w := by rw [hw2, ← Int.natCast_mul]; rfl
    rw [e1]
    exact (isq_uniq (Nat.le_refl _) (by have : (w + 1) * (w + 1) = w * w + 2 * w + 1 := by grind
                                        omega)).symm
  have hsgn : 0 ≤ sgnZ ls := by
    have h1 := sign_sg vx
    have h2 := h1.mul h1 vx.rts vx.rts
    have h3 := h2.ratio (m := ls) (A := ds) (B := dx * dx) (by omega) (by omega) (fun r => (es r).symm)
    rw [(sign_sg vs).uniq h3]
    rw [← Int.natAbs_mul_self' (sgnZ lx)]
    exact Int.mul_nonneg (by omega) (by omega)
  have hr0 := hr
  unfold RootP at hr
  rw [if_pos vs.bool, if_neg (by omega), if_neg (by rw [b1]; simp), if_neg (by
    rintro (h | h)
    · rw [hw2] at h
      have : 0 ≤ (w : Int) * w := Int.mul_nonneg (by omega) (by omega)
      omega
    · rw [hiw] at h
      apply h
      rw [hw2, ← Int.natCast_mul]
      rfl)] at hr
  obtain ⟨f1, d1, f2, d2, h1, h2, t, ht, rfl⟩ := hr
  rw [hiw, b2] at h1 h2
  obtain ⟨_, p1, r1, k1, e1⟩ := frac_val h1 (by omega)
  obtain ⟨_, p2, r2, k2, e2⟩ := frac_val h2 (by omega)
  rw [sum_terms, b3] at ht
  have hD : d1 * d2 ≠ 0 := Int.mul_ne_zero (by omega) (by omega)
  have key : ∃ ε : Int, (ε = 1 ∨ ε = -1) ∧ ∀ r, coefOf [(d2 * f1.1, f1.2), (d1 * (if B < 0 then -f2.1 else f2.1), f2.2)] r * dx = ε * coefOf lx r * (d1 * d2) := by
    rcases Int.lt_or_le (c * c * p) (e * e * q) with hlt | hle
    · have hwx : (w : Int) * (dx * dx) = ds * (e * e * q - c * c * p) := by
        rw [← hw1]
        have h3 : ds * (c * c * p - e * e * q) ≤ 0 := by
          have := Int.mul_nonneg (show 0 ≤ ds by omega) (show 0 ≤ e * e * q - c * c * p by omega)
          have e5 : ds * (c * c * p - e * e * q) = -(ds * (e * e * q - c * c * p)) := by grind
          omega
        have e5 : ds * (e * e * q - c * c * p) = -(ds * (c * c * p - e * e * q)) := by grind
        omega
      obtain ⟨ε, hε, hz2⟩ := root_match (c := e) (p := q) (e := c) (q := p) (g := g) (ds := ds) (dx := dx) (A := A) (B := B) (w := w) hq hp hg hds hdx (by rw [hA]; grind) (by rw [hB]; grind) hwx (by omega) p1 r1 k1 e1 p2 r2 k2 e2
      exact ⟨ε, hε, fun r => by rw [hz2, hc]; congr 2; rw [coef_two, coef_two (c, p), Int.add_comm]⟩
    · have hwx : (w : Int) * (dx * dx) = ds * (c * c * p - e * e * q) := by
        rw [← hw1]
        have := Int.mul_nonneg (show 0 ≤ ds by omega) (show 0 ≤ c * c * p - e * e * q by omega)
        omega
      obtain ⟨ε, hε, hz2⟩ := root_match (c := c) (p := p) (e := e) (q := q) (g := g) (ds := ds) (dx := dx) (A := A) (B := B) (w := w) hp hq hg hds hdx hA hB hwx hle p1 r1 k1 e1 p2 r2 k2 e2
      exact ⟨ε, hε, fun r => by rw [hz2, hc]⟩
  obtain ⟨ε, hε, hz2⟩ := key
  rcases hε with rfl | rfl
  · have hf := fin_of hD ht vx (fun r => by rw [hz2]; grind)
    rw [hf]
    rw [hf] at hr0
    have := (root_ok vs hr0).2.2
    exact ⟨fun _ => rfl, fun h => by omega⟩
  · have hf := fin_of hD ht vx.neg (fun r => by rw [hz2, coef_mulS])
    rw [hf]
    rw [hf] at hr0
    have h3 := (root_ok vs hr0).2.2
    have h4 := (sign_sg vx.neg).uniq (sign_sg vx).neg
    refine ⟨fun h => ?_, fun _ => rfl⟩
    have : sgnZ lx = 0 := by omega
    rw [sgn_nil this]
    rfl
/-- 0 less a number. -/
theorem zero_less {d : Int} {l : List (Int × Int)} (v : Vld d l) {q : Int × List (Int × Int) × Int} (h : addF (-1) 1 [] d l q) : q = (d, mulS (-1) l, 0) := by
  have v0 : Vld 1 [] := ⟨by omega, by omega, by simp, fun t ht => by simp at ht, fun t ht => by simp at ht, fun t ht => by simp at ht, fun i _ h => by simp at h, by decide⟩
  exact addF_of v0 v h v.neg (fun r => by rw [coef_mulS]; simp [coefOf_nil])
theorem sign_range {d : Int} {l : List (Int × Int)} (v : Vld d l) : (sgnZ l = -1 ∨ sgnZ l = 0 ∨ sgnZ l = 1) ∧ (sgnZ l = 0 ↔ l = []) :=
  ⟨(sign_sg v).range, fun h => sgn_nil h, fun h => by rw [h]; rfl⟩
end Go.Proofs.YtedpafdfecofnaaGreatDoor
