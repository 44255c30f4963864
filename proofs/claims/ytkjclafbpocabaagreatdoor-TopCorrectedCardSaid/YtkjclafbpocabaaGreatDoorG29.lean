/-
  Contracts of the program's own functions (and their plain mathematics), on the way to the law: each for all arguments that its hypotheses let.
-/
import Derived.Test.YtkjclafbpocabaaGreatDoorG28
import Derived.WalkKit
import Derived.WalkSpells
import Derived.WalkLawsBesides
import Derived.Deep.QuietTactic
import Derived.BigQuiet
import Derived.Lib.Hide
import Derived.WalkSmall
import Derived.Maps.OwnSet
import Derived.Maps.RangeWalk
import Derived.Deep.RegionWith
import Derived.Deep.RegionHeld3
import Derived.Deep.DrawnRows
import Derived.Deep.DeepCutAuto
import Derived.OneCell
import Derived.KernelRfl
import Derived.Laws.StructEq
import Derived.StillTailTactics
import Derived.Laws.Externs
import Derived.RangeFuncBox
set_option linter.unusedSimpArgs false
set_option linter.unusedVariables false

/-! ## Q3 -/
namespace Go.Proofs.YtkjclafbpocabaaGreatDoor
open Go.RowKit Go.Maps
/-- The number is p / q. -/
def Val (d : Int) (l : List (Int × Int)) (p q : Int) : Prop := Vld d l ∧ 1 ≤ q ∧ ∃ c, l = qL c ∧ c * q = p * d
theorem cancel_r {x y k : Int} (hk : k ≠ 0) (h : x * k = y * k) : x = y := Int.eq_of_mul_eq_mul_right hk h
theorem val_uniq {d e p q : Int} {l m : List (Int × Int)} (h : Val d l p q) (g : Val e m p q) : d = e ∧ l = m := by
  obtain ⟨v, hq, c, rfl, hc⟩ := h
  obtain ⟨u, _, b, rfl, hb⟩ := g
  refine num_uniq v u (fun r => ?_)
  rw [qL_coef, qL_coef]
  by_cases hr : r = 1
  · simp only [hr, if_true]
    refine cancel_r (k := q) (by omega) ?_
    have e1 : c * e * q = c * q * e := by grind
    have e2 : b * d * q = b * q * d := by grind
    rw [e1, e2, hc, hb]; grind
  · simp [hr]
theorem val_ext {d p q p' q' : Int} {l : List (Int × Int)} (h : Val d l p q) (hq : 1 ≤ q') (e : p * q' = p' * q) : Val d l p' q' := by
  obtain ⟨v, h1, c, rfl, hc⟩ := h
  refine ⟨v, hq, c, rfl, cancel_r (k := q) (by omega) ?_⟩
  have e1 : c * q' * q = c * q * q' := by grind
  have e2 : p' * d * q = p' * q * d := by grind
  rw [e1, e2, hc, ← e]; grind
theorem val_same {d e p q p' q' : Int} {l m : List (Int × Int)} (h : Val d l p q) (g : Val e m p' q') (hh : p * q' = p' * q) : d = e ∧ l = m :=
  val_uniq (val_ext h g.2.1 hh) g
theorem val_cross {d e p q p' q' : Int} {l m : List (Int × Int)} (h : Val d l p q) (g : Val e m p' q') (hd : d = e) (hl : l = m) : p * q' = p' * q := by
  subst hd hl
  obtain ⟨v, h1, c, e1, hc⟩ := h
  obtain ⟨_, h2, b, e2, hb⟩ := g
  have hcb : c = b := by
    have := qL_coef c 1
    rw [← e1, e2, qL_coef] at this
    simpa using this.symm
  subst hcb
  have := v.d1
  refine cancel_r (k := d) (by omega) ?_
  have e3 : p * q' * d = p * d * q' := by grind
  have e4 : p' * q * d = p' * d * q := by grind
  rw [e3, e4, ← hc, ← hb]; grind
theorem val_make {m c : Int} (hm1 : 1 ≤ m) (hm2 : m ≤ 100000) (hc1 : -100000 ≤ c) (hc2 : c ≤ 100000) {r : Int × List (Int × Int) × Int} (h : makeF m [(c, 1)] r) : r.2.2 = 0 ∧ Val r.1 r.2.1 c m := by
  obtain ⟨d, a, rfl, v, e⟩ := make_q hm1 hm2 hc1 hc2 h
  exact ⟨rfl, v, hm1, a, rfl, e⟩
/-- The errors of sums and products of fractions. -/
theorem fin_err {den : Int} {c : Int → Int} {l : List (Int × Int)} (hl : IsTerms c l) (h : ∀ r, r ≠ 1 → c r = 0) : (finF den l).2.2 = 0 ∨ finF den l = (0, [], 10) := by
  have h1 : l.length ≤ 1 := by
    have ht : ∀ t ∈ l, t.2 = 1 := fun t ht => by
      have := (hl.2 t.1 t.2).1 ht
      by_cases e : t.2 = 1
      · exact e
      · rw [h _ e] at this; exact absurd this.1.symm this.2
    match l, hl, ht with
    | [], _, _ => simp
    | [t], _, _ => simp
    | t :: u :: us, hl, ht =>
      have h1 := ht t (by simp)
      have h2 := ht u (by simp)
      have := hl.1
      simp only [List.pairwise_cons] at this
      have := this.1 u (by simp)
      omega
  unfold finF
  simp only
  rw [if_neg (by omega)]
  split
  · exact .inr rfl
  · exact .inl rfl
theorem val_add {s d e p q p' q' : Int} {l m : List (Int × Int)} (x : Val d l p q) (y : Val e m p' q') {r : Int × List (Int × Int) × Int} (h : addF s d l e m r) :
    (r.2.2 = 0 ∧ Val r.1 r.2.1 (q' * p + s * q * p') (q * q')) ∨ r = (0, [], 10) := by
  obtain ⟨vx, hq, a, rfl, ha⟩ := x
  obtain ⟨vy, hq', b, rfl, hb⟩ := y
  have hpq : 1 ≤ q * q' := by have := Int.mul_le_mul hq hq' (by omega) (by omega); omega
  by_cases h0 : r.2.2 = 0
  · left
    obtain ⟨d', l', e'⟩ := r
    simp only at h0
    subst h0
    obtain ⟨c, rfl, v, hc⟩ := add_q vx vy h
    refine ⟨rfl, v, hpq, c, rfl, ?_⟩
    have hd := vx.d1
    have he := vy.d1
    refine cancel_r (k := d * e) (den_ne hd he) ?_
    have e1 : c * (q * q') * (d * e) = c * (d * e) * (q * q') := by grind
    rw [e1, hc]
    simp only
    have e2 : (e * a + s * d * b) * d' * (q * q') = (e * q' * (a * q) + s * d * q * (b * q')) * d' := by grind
    rw [e2, ha, hb]; grind
  · right
    have h2 := h
    unfold addF at h2
    rw [if_pos ⟨vx.bool, vy.bool⟩] at h2
    obtain ⟨t, ht, rfl⟩ := h2
    rcases fin_err (den := d * e) ht (fun r hr => by rw [combC_at, qL_coef, qL_coef, if_neg hr, if_neg hr]; simp) with h | h
    · exact absurd h h0
    · exact h
theorem val_mul {d e p q p' q' : Int} {l m : List (Int × Int)} (x : Val d l p q) (y : Val e m p' q') {r : Int × List (Int × Int) × Int} (h : mulF d l e m r) :
    (r.2.2 = 0 ∧ Val r.1 r.2.1 (p * p') (q * q')) ∨ r = (0, [], 10) := by
  obtain ⟨vx, hq, a, rfl, ha⟩ := x
  obtain ⟨vy, hq', b, rfl, hb⟩ := y
  have hpq : 1 ≤ q * q' := by have := Int.mul_le_mul hq hq' (by omega) (by omega); omega
  by_cases h0 : r.2.2 = 0
  · left
    obtain ⟨d', l', e'⟩ := r
    simp only at h0
    subst h0
    obtain ⟨c, rfl, v, hc⟩ := mul_q vx vy h
    refine ⟨rfl, v, hpq, c, rfl, ?_⟩
    refine cancel_r (k := d * e) (den_ne vx.d1 vy.d1) ?_
    have e1 : c * (q * q') * (d * e) = c * (d * e) * (q * q') := by grind
    rw [e1, hc]
    simp only
    have e2 : a * b * d' * (q * q') = (a * q) * (b * q') * d' := by grind
    rw [e2, ha, hb]; grind
  · right
    have h2 := h
    unfold mulF at h2
    rw [if_pos ⟨vx.bool, vy.bool⟩] at h2
    obtain ⟨t, ht, rfl⟩ := h2
    rcases fin_err (den := d * e) ht (fun r hr => by
      have : plusC zeroC 1 (prodL (qL a) (qL b)) r = coefOf (prodL (qL a) (qL b)) r := by simp [plusC, zeroC]
      rw [this, prod_q, if_neg hr]) with h | h
    · exact absurd h h0
    · exact h
theorem val_cmp {d e p q p' q' n : Int} {l m : List (Int × Int)} (x : Val d l p q) (y : Val e m p' q') (h : CmpN d l e m n) : (p' * q < p * q' ↔ n = 1) ∧ (p * q' = p' * q ↔ n = 0) ∧ (p * q' < p' * q ↔ n = -1) := by
  obtain ⟨vx, hq, a, rfl, ha⟩ := x
  obtain ⟨vy, hq', b, rfl, hb⟩ := y
  have h1 := cmp_q vx vy h
  have hd := vx.d1
  have he := vy.d1
  have k1 : 0 < q * q' := Int.mul_pos (by omega) (by omega)
  have k2 : 0 < d * e := Int.mul_pos (by omega) (by omega)
  have e1 : (p * q') * (d * e) = (a * e) * (q * q') := by
    have : (p * q') * (d * e) = p * d * (q' * e) := by grind
    rw [this, ← ha]; grind
  have e2 : (p' * q) * (d * e) = (b * d) * (q * q') := by
    have : (p' * q) * (d * e) = p' * e * (q * d) := by grind
    rw [this, ← hb]; grind
  have l1 : p' * q < p * q' ↔ b * d < a * e := by
    rw [← Int.mul_lt_mul_right k2, e1, e2, Int.mul_lt_mul_right k1]
  have l2 : p * q' < p' * q ↔ a * e < b * d := by
    rw [← Int.mul_lt_mul_right k2, e1, e2, Int.mul_lt_mul_right k1]
  omega
theorem pos_iff' {a q p d : Int} (h : a * q = p * d) (hq : 0 < q) (hd : 0 < d) : (0 < p ↔ 0 < a) ∧ (p < 0 ↔ a < 0) := by
  have e1 : 0 < a → 0 < p := fun g => by
    have h1 := Int.mul_pos g hq
    rcases Int.lt_or_le 0 p with h2 | h2
    · exact h2
    · have := Int.mul_le_mul_of_nonneg_right h2 (show 0 ≤ d by omega); omega
  have e2 : 0 < p → 0 < a := fun g => by
    have h1 := Int.mul_pos g hd
    rcases Int.lt_or_le 0 a with h2 | h2
    · exact h2
    · have := Int.mul_le_mul_of_nonneg_right h2 (show 0 ≤ q by omega); omega
  have e3 : p = 0 ↔ a = 0 := by
    constructor
    · intro g; subst g
      rcases Int.mul_eq_zero.mp (show a * q = 0 by simpa using h) with h | h <;> omega
    · intro g; subst g
      rcases Int.mul_eq_zero.mp (show p * d = 0 by simpa using h.symm) with h | h <;> omega
  refine ⟨⟨e2, e1⟩, ?_⟩
  constructor <;> intro g
  · rcases Int.lt_trichotomy a 0 with h | h | h
    · exact h
    · have := e3.2 h; omega
    · have := e1 h; omega
  · rcases Int.lt_trichotomy p 0 with h | h | h
    · exact h
    · have := e3.1 h; omega
    · have := e2 h; omega
theorem val_sgn {d p q : Int} {l : List (Int × Int)} (x : Val d l p q) : (0 < p ↔ sgnZ l = 1) ∧ (p = 0 ↔ sgnZ l = 0) ∧ (p < 0 ↔ sgnZ l = -1) := by
  obtain ⟨vx, hq, a, rfl, ha⟩ := x
  have h := sg_q (sign_sg vx)
  have hd := vx.d1
  have h2 := pos_iff' ha (by omega) (by omega)
  omega
theorem div_val {a d p q m : Int} (hd : 1 ≤ d) (hq : 1 ≤ q) (h : a * q = p * d) : a * m / d = p * m / q := by
  have e1 : a * m / d = (a * m * q) / (d * q) := (Int.mul_ediv_mul_of_pos_left _ _ (by omega)).symm
  have e2 : p * m / q = (p * m * d) / (q * d) := (Int.mul_ediv_mul_of_pos_left _ _ (by omega)).symm
  rw [e1, e2]
  have e3 : a * m * q = p * m * d := by
    have : a * m * q = a * q * m := by grind
    rw [this, h]; grind
  rw [e3, Int.mul_comm d q]
theorem val_bounds {d p q m : Int} {l : List (Int × Int)} (x : Val d l p q) (hm1 : 1 ≤ m) (hm2 : m ≤ 1000000000) : BoundsF d m l = (p * m / q, -((-p) * m / q), 0) := by
  obtain ⟨v, hq, a, rfl, ha⟩ := x
  rw [bounds_q v hm1 hm2, div_val v.d1 hq ha, div_val (a := -a) (p := -p) v.d1 hq (by rw [Int.neg_mul, Int.neg_mul, ha])]
theorem val_num {d p q : Int} {l : List (Int × Int)} (x : Val d l p q) : ∃ c, l = qL c ∧ nmrF l = (c, true) ∧ c * q = p * d ∧ Vld d (qL c) := by
  obtain ⟨v, hq, a, rfl, ha⟩ := x
  exact ⟨a, rfl, nmrF_q a, ha, v⟩
/-- For a numerator and a denominator that are small there is a number. -/
theorem val_exists {p q : Int} (hq1 : 1 ≤ q) (hq2 : q ≤ 100000) (h1 : -100000 ≤ p) (h2 : p ≤ 100000) : ∃ d l, Val d l p q := by
  have hg1 : 1 ≤ Int.gcd p q := Nat.pos_of_ne_zero (fun h => by have := (Int.gcd_eq_zero_iff.mp h).2; omega)
  obtain ⟨x, hx⟩ := Int.gcd_dvd_left (a := p) (b := q)
  obtain ⟨y, hy⟩ := Int.gcd_dvd_right (a := p) (b := q)
  obtain ⟨g, hg⟩ : ∃ g : Int, (Int.gcd p q : Int) = g := ⟨_, rfl⟩
  have hg0 : 1 ≤ g := by omega
  rw [hg] at hx hy
  have hy1 : 1 ≤ y := by
    rcases Int.lt_or_le 0 y with h | h
    · omega
    · have := Int.mul_le_mul_of_nonneg_left h (show 0 ≤ g by omega); omega
  have hy2 : y ≤ q := by
    have := Int.mul_le_mul_of_nonneg_right hg0 (show 0 ≤ y by omega); omega
  have hxb : -100000 ≤ x ∧ x ≤ 100000 := by
    rcases Int.lt_or_le x 0 with h | h
    · have := Int.mul_le_mul_of_nonneg_right hg0 (show 0 ≤ -x by omega)
      have e : g * -x = -(g * x) := Int.mul_neg _ _
      omega
    · have := Int.mul_le_mul_of_nonneg_right hg0 h
      omega
  have hco : Int.gcd y x = 1 := by
    have e : Int.gcd p q = Int.gcd (g * x) (g * y) := by rw [← hx, ← hy]
    rw [Int.gcd_mul_left] at e
    have e2 : g.natAbs = Int.gcd p q := by omega
    rw [e2] at e
    rw [Int.gcd_comm]
    exact (Nat.eq_of_mul_eq_mul_left (show 0 < Int.gcd p q by omega) (by omega : Int.gcd p q * Int.gcd x y = Int.gcd p q * 1))
  refine ⟨y, qL x, ⟨hy1, by omega, by have := qL_len x; omega, fun t ht => ?_, fun t ht => ?_, fun t ht => ?_, ?_, ?_⟩, hq1, x, rfl, ?_⟩
  · unfold qL at ht; split at ht <;> simp at ht; subst ht; simp only; omega
  · unfold qL at ht; split at ht <;> simp at ht; subst ht; simp only; omega
  · unfold qL at ht; split at ht <;> simp at ht; subst ht
    intro e he hd
    have := Int.le_of_dvd (by simp) hd
    have h4 : 2 * 2 ≤ e * e := Int.mul_le_mul he he (by omega) (by omega)
    simp at this; omega
  · intro i hi hl
    have := qL_len x
    omega
  · unfold qL
    split
    · rename_i h0
      subst h0
      simpa [dvF] using hco
    · have e : Int.gcd (Int.gcd y 0 : Int) x = 1 := by
        have : ((Int.gcd y 0 : Nat) : Int) = y := by simp; omega
        rw [this]; exact hco
      simpa [dvF] using e
  · rw [hx, hy]; grind
theorem addF_val {s d e p q : Int} {l m : List (Int × Int)} {r : Int × List (Int × Int) × Int} {a b : Int} {u v : Int}  (x : Val d l a b) (y : Val e m u v) (h : addF s d l e m r) (hq1 : 1 ≤ q) (hq2 : q ≤ 100000) (h1 : -100000 ≤ p) (h2 : p ≤ 100000) (he : p * (b * v) = (v * a + s * b * u) * q) :
    r.2.2 = 0 ∧ Val r.1 r.2.1 p q := by
  rcases val_add x y h with ⟨h0, hv⟩ | h0
  · exact ⟨h0, val_ext hv hq1 he.symm⟩
  · exfalso
    obtain ⟨D, L, hD⟩ := val_exists hq1 hq2 h1 h2
    obtain ⟨vd, _, c, rfl, hc⟩ := hD
    obtain ⟨vx, hb, a', rfl, ha⟩ := x
    obtain ⟨vy, hv, u', rfl, hu⟩ := y
    have := addF_of vx vy h vd (fun r => by
      rw [qL_coef, qL_coef, qL_coef]
      by_cases hr : r = 1
      · simp only [hr, if_true]
        refine cancel_r (k := q * (b * v)) (by have := Int.mul_pos (show 0 < b by omega) (show 0 < v by omega); have := Int.mul_pos (show 0 < q by omega) this; omega) ?_
        have e1 : c * (d * e) * (q * (b * v)) = c * q * (d * e * (b * v)) := by grind
        have e2 : p * D * (d * e * (b * v)) = p * (b * v) * (D * d * e) := by grind
        have e3 : (e * a' + s * d * u') * D * (q * (b * v)) = (e * v * (a' * b) + s * d * b * (u' * v)) * (D * q) := by grind
        rw [e1, hc, e2, he, e3, ha, hu]; grind
      · simp [hr])
    rw [h0] at this
    have := congrArg (fun t => t.2.2) this
    simp at this
theorem mulF_val {d e p q : Int} {l m : List (Int × Int)} {r : Int × List (Int × Int) × Int} {a b : Int} {u v : Int}  (x : Val d l a b) (y : Val e m u v) (h : mulF d l e m r) (hq1 : 1 ≤ q) (hq2 : q ≤ 100000) (h1 : -100000 ≤ p) (h2 : p ≤ 100000) (he : p * (b * v) = a * u * q) :
    r.2.2 = 0 ∧ Val r.1 r.2.1 p q := by
  rcases val_mul x y h with ⟨h0, hv⟩ | h0
  · exact ⟨h0, val_ext hv hq1 he.symm⟩
  · exfalso
    obtain ⟨D, L, hD⟩ := val_exists hq1 hq2 h1 h2
    obtain ⟨vd, _, c, rfl, hc⟩ := hD
    obtain ⟨vx, hb, a', rfl, ha⟩ := x
    obtain ⟨vy, hv, u', rfl, hu⟩ := y
    have := mulF_of vx vy h vd (fun r => by
      rw [qL_coef, prod_q]
      by_cases hr : r = 1
      · simp only [hr, if_true]
        refine cancel_r (k := q * (b * v)) (by have := Int.mul_pos (show 0 < b by omega) (show 0 < v by omega); have := Int.mul_pos (show 0 < q by omega) this; omega) ?_
        have e1 : c * (d * e) * (q * (b * v)) = c * q * (d * e * (b * v)) := by grind
        have e2 : p * D * (d * e * (b * v)) = p * (b * v) * (D * d * e) := by grind
        have e3 : a' * u' * D * (q * (b * v)) = (a' * b) * (u' * v) * (D * q) := by grind
        rw [e1, hc, e2, he, e3, ha, hu]; grind
      · simp [hr])
    rw [h0] at this
    have := congrArg (fun t => t.2.2) this
    simp at this
end Go.Proofs.YtkjclafbpocabaaGreatDoor

/-! ## W3 -/
namespace Go.Proofs.YtkjclafbpocabaaGreatDoor
open Go.RowKit Go.Maps Go.Shelf Go.Sort
theorem sq_div {N k t : Int} (hk : 1 ≤ k) (h : N * (k * k) = t * t) : ∃ w : Nat, (t.natAbs : Int) = w * k ∧ N = (w : Int) * w := by
  have hkk : 1 ≤ k * k := by have := Int.mul_le_mul hk hk (by omega) (by omega); omega
  have hN : 0 ≤ N := by
    rcases Int.lt_or_le N 0 with x | x
    · have h1 : N * (k * k) ≤ -1 * (k * k) := Int.mul_le_mul_of_nonneg_right (by omega) (by omega)
      have h2 : 0 ≤ t * t := by
        have := Int.natAbs_mul_self' t
        have h3 : 0 ≤ (t.natAbs : Int) * t.natAbs := Int.mul_nonneg (by omega) (by omega)
        omega
      omega
    · exact x
  have hn : N.toNat * (k.toNat * k.toNat) = t.natAbs * t.natAbs := by
    apply Int.natCast_inj.1
    rw [Int.natCast_mul, Int.natCast_mul, Int.natCast_mul, Int.toNat_of_nonneg hN, Int.toNat_of_nonneg (by omega), Int.natAbs_mul_self']
    exact h
  have hd : k.toNat ∣ t.natAbs := (Nat.pow_dvd_pow_iff (n := 2) (by decide)).1 ⟨N.toNat, by rw [Nat.pow_two, Nat.pow_two, ← hn, Nat.mul_comm]⟩
  obtain ⟨w, hw⟩ := hd
  have hkp : 0 < k.toNat * k.toNat := Nat.mul_pos (by omega) (by omega)
  have h5 : N.toNat = w * w := by
    apply Nat.eq_of_mul_eq_mul_right hkp
    rw [hn, hw]
    grind
  refine ⟨w, ?_, ?_⟩
  · rw [hw, Int.natCast_mul, Int.toNat_of_nonneg (by omega), Int.mul_comm]
  · rw [← Int.natCast_mul, ← h5, Int.toNat_of_nonneg hN]
theorem rt_small {n : Nat} (h1 : 1 ≤ n) (h2 : n ≤ 3) : Rt n := by
  refine Rt.of_nat h1 ?_
  intro e he hd
  have := Nat.le_of_dvd (by omega) hd
  have := Nat.mul_le_mul he he
  omega
/-- A number of at most two terms. -/
theorem two_rep {d : Int} {l : List (Int × Int)} (v : Vld d l) (h : l.length ≤ 2) : ∃ c p e q : Int, Rt p ∧ Rt q ∧ p ≠ q ∧ ∀ r, coefOf l r = coefOf [(c, p), (e, q)] r := by
  have hr := v.rts
  have h1 : Rt 1 := by have := rt_small (n := 1) (by omega) (by omega); exact_mod_cast this
  have h2 : Rt 2 := by have := rt_small (n := 2) (by omega) (by omega); exact_mod_cast this
  match l, v, h with
  | [], _, _ => exact ⟨0, 1, 0, 2, h1, h2, by omega, fun r => by simp [coefOf]⟩
  | [t], _, _ =>
    by_cases hp : t.2 = 1
    · exact ⟨t.1, t.2, 0, 2, hr t (by simp), h2, by omega, fun r => by simp [coefOf]⟩
    · exact ⟨t.1, t.2, 0, 1, hr t (by simp), h1, hp, fun r => by simp [coefOf]⟩
  | [t, u], v, _ =>
    have := v.asc 1 (by omega) (by simp)
    simp at this
    exact ⟨t.1, t.2, u.1, u.2, hr t (by simp), hr u (by simp), by omega, fun r => rfl⟩
theorem rS_ne {p q : Int} (hp : Rt p) (hq : Rt q) (h : p ≠ q) : 1 < rS p q := by
  have h1 := (Rt.r hp hq).1
  rcases Int.lt_or_le 1 (rS p q) with x | x
  · exact x
  · exfalso
    have e : rS p q = 1 := by omega
    obtain ⟨a, ha⟩ := Int.gcd_dvd_left p q
    obtain ⟨b, hb⟩ := Int.gcd_dvd_right p q
    have hp1 := hp.1
    have hq1 := hq.1
    have hg : 1 ≤ (Int.gcd p q : Int) := by
      have := Int.gcd_pos_of_ne_zero_right p (show q ≠ 0 by omega)
      omega
    unfold rS gS at e
    generalize (Int.gcd p q : Int) = g at *
    have e1 : p / g = a := by rw [ha]; exact Int.mul_ediv_cancel_left _ (by omega)
    have e2 : q / g = b := by rw [hb]; exact Int.mul_ediv_cancel_left _ (by omega)
    rw [e1, e2] at e
    have ha1 : 1 ≤ a := by
      rcases Int.lt_or_le 0 a with y | y
      · omega
      · have : g * a ≤ g * 0 := Int.mul_le_mul_of_nonneg_left y (by omega)
        omega
    have hb1 : 1 ≤ b := by
      rcases Int.lt_or_le 0 b with y | y
      · omega
      · have : g * b ≤ g * 0 := Int.mul_le_mul_of_nonneg_left y (by omega)
        omega
    have h3 : a * 1 ≤ a * b := Int.mul_le_mul_of_nonneg_left hb1 (by omega)
    have h4 : 1 * b ≤ a * b := Int.mul_le_mul_of_nonneg_right ha1 (by omega)
    have ea : a = 1 := by omega
    have eb : b = 1 := by omega
    apply h
    rw [ha, hb, ea, eb]
/-- A number with no terms but one of 1 and one of k: its parts. -/
theorem bin_shape {d : Int} {l : List (Int × Int)} (v : Vld d l) {k : Int} (hk : 1 < k) (h : ∀ r, r ≠ 1 → r ≠ k → coefOf l r = 0) (h2 : coefOf l 1 = 0 → coefOf l k = 0) :
    (binF l).2.2 = true ∧ (binF l).1 = coefOf l 1 ∧ (binF l).2.1.1 = coefOf l k ∧ (coefOf l k ≠ 0 → (binF l).2.1.2 = k) := by
  have hm : ∀ t ∈ l, coefOf l t.2 = t.1 ∧ t.1 ≠ 0 ∧ (t.2 = 1 ∨ t.2 = k) := by
    intro t ht
    have a := (v.terms.2 t.1 t.2).1 ht
    refine ⟨a.1, a.2, ?_⟩
    by_cases e1 : t.2 = 1
    · exact .inl e1
    · by_cases e2 : t.2 = k
      · exact .inr e2
      · have := h t.2 e1 e2
        omega
  match l, v, h, h2, hm with
  | [], _, _, _, _ => simp [binF, coefOf]
  | [t], _, _, h2, hm =>
    obtain ⟨a, b, c | c⟩ := hm t (by simp)
    · have hk1 : ¬ (1 : Int) = k := by omega
      simp [binF, c, coefOf, hk1]
    · exfalso
      have hk1 : ¬ t.2 = 1 := by omega
      have e1 : coefOf [t] 1 = 0 := by simp [coefOf, hk1]
      have e2 := h2 e1
      rw [c] at a
      omega
  | [t, u], v, _, _, hm =>
    have ha := v.asc 1 (by omega) (by simp)
    simp at ha
    obtain ⟨a1, b1, c1⟩ := hm t (by simp)
    obtain ⟨a2, b2, c2⟩ := hm u (by simp)
    have et : t.2 = 1 := by omega
    have eu : u.2 = k := by omega
    rw [et] at a1
    rw [eu] at a2
    refine ⟨by simp [binF, et], ?_, ?_, fun _ => ?_⟩
    · rw [a1]; simp [binF, et]
    · rw [a2]; simp [binF, et]
    · simp [binF, et, eu]
  | t :: u :: x :: us, v, _, _, hm =>
    exfalso
    have ha := v.asc 1 (by omega) (by simp)
    have hb := v.asc 2 (by omega) (by simp)
    simp at ha hb
    have c1 := (hm t (by simp)).2.2
    have c2 := (hm u (by simp)).2.2
    have c3 := (hm x (by simp)).2.2
    omega
theorem match_root {x ρ D c p dx : Int} (hx : 0 ≤ x) (hρ : Rt ρ) (hp : Rt p) (hD : 1 ≤ D) (hdx : 1 ≤ dx) (h : x * x * ρ * (dx * dx) = c * c * p * (D * D)) (m : Int) (r : Int) :
    coefOf [(m * x, ρ)] r * dx = coefOf [(m * (c.natAbs : Int), p)] r * D := by
  have hp1 := hp.1
  have hρ1 := hρ.1
  by_cases hc : c = 0
  · subst hc
    have h1 : x * x * ρ * (dx * dx) = 0 := by rw [h]; simp
    have hx0 : x = 0 := by
      rcases Int.mul_eq_zero.1 h1 with h1 | h1
      · rcases Int.mul_eq_zero.1 h1 with h1 | h1
        · exact sq_zero h1
        · omega
      · have := sq_zero h1; omega
    subst hx0
    simp [coefOf]
  · have hx0 : x ≠ 0 := by
      intro e
      subst e
      have h1 : c * c * p * (D * D) = 0 := by rw [← h]; simp
      rcases Int.mul_eq_zero.1 h1 with h1 | h1
      · rcases Int.mul_eq_zero.1 h1 with h1 | h1
        · exact hc (sq_zero h1)
        · omega
      · have := sq_zero h1; omega
    obtain ⟨e1, e2⟩ := rat_uniq (X := x) (p := ρ) (U := (c.natAbs : Int)) (q := p) (V := dx) (Y := D) (by omega) (by omega) hdx hD hρ hp (by rw [Int.natAbs_mul_self']; exact h)
    subst e1
    simp only [coefOf, List.foldl_cons, List.foldl_nil]
    split
    · rw [Int.zero_add, Int.zero_add, Int.mul_assoc, e2, Int.mul_assoc]
    · simp
theorem Vld.neg {d : Int} {l : List (Int × Int)} (v : Vld d l) : Vld d (mulS (-1) l) := by
  have hm : ∀ t ∈ mulS (-1) l, ∃ u ∈ l, t = (-1 * u.1, u.2) := fun t ht => by
    obtain ⟨u, hu, rfl⟩ := List.mem_map.1 ht
    exact ⟨u, hu, rfl⟩
  refine ⟨v.d1, v.d2, by simpa [mulS] using v.len, fun t ht => ?_, fun t ht => ?_, fun t ht => ?_, ?_, ?_⟩
  · obtain ⟨u, hu, rfl⟩ := hm t ht
    have := v.cf u hu
    dsimp only
    omega
  · obtain ⟨u, hu, rfl⟩ := hm t ht
    exact v.rt u hu
  · obtain ⟨u, hu, rfl⟩ := hm t ht
    exact v.sq u hu
  · intro i h1 h2
    have hl : i < l.length := by simpa [mulS] using h2
    have := v.asc i h1 hl
    have hl2 : i - 1 < l.length := by omega
    simp [mulS, hl, hl2] at this ⊢
    exact this
  · have := v.dv
    unfold dvF at this ⊢
    unfold mulS
    rw [List.foldl_map]
    simpa using this
theorem sgn_nil {l : List (Int × Int)} (h : sgnZ l = 0) : l = [] := by
  unfold sgnZ at h
  split at h
  · assumption
  · unfold sgnL at h
    split at h <;> omega
theorem abs_sign (c e g ds dx B : Int) (hg : 1 ≤ g) (hds : 1 ≤ ds) (hdx : 1 ≤ dx) (hB : B * (dx * dx) = 2 * (c * e * g) * ds) (h0 : c = 0 → e = 0) :
    ∃ ε : Int, (ε = 1 ∨ ε = -1) ∧ (c.natAbs : Int) = ε * c ∧ (if B < 0 then -(e.natAbs : Int) else (e.natAbs : Int)) = ε * e := by
  have hdd : 1 ≤ dx * dx := by have := Int.mul_le_mul hdx hdx (by omega) (by omega); omega
  have hgd : 1 ≤ g * ds := by have := Int.mul_le_mul hg hds (by omega) (by omega); omega
  have e1 : B * (dx * dx) = 2 * ((c * e) * (g * ds)) := by rw [hB]; grind
  have neg : c * e < 0 → B < 0 := by
    intro h
    have h1 : (c * e) * (g * ds) ≤ -1 * (g * ds) := Int.mul_le_mul_of_nonneg_right (by omega) (by omega)
    rcases Int.lt_or_le B 0 with x | x
    · exact x
    · have := Int.mul_nonneg x (show 0 ≤ dx * dx by omega)
      omega
  have pos : 0 ≤ c * e → 0 ≤ B := by
    intro h
    have h1 := Int.mul_nonneg h (show 0 ≤ g * ds by omega)
    rcases Int.lt_or_le B 0 with x | x
    · have : B * (dx * dx) ≤ -1 * (dx * dx) := Int.mul_le_mul_of_nonneg_right (by omega) (by omega)
      omega
    · exact x
  rcases Int.lt_or_le c 0 with hc | hc
  · refine ⟨-1, .inr rfl, by omega, ?_⟩
    rcases Int.lt_or_le 0 e with he | he
    · have : c * e < 0 := Int.mul_neg_of_neg_of_pos hc he
      rw [if_pos (neg this)]
      omega
    · have : 0 ≤ c * e := Int.mul_nonneg_of_nonpos_of_nonpos (by omega) he
      rw [if_neg (by have := pos this; omega)]
      omega
  · refine ⟨1, .inl rfl, by omega, ?_⟩
    rcases Int.lt_or_le e 0 with he | he
    · have hc0 : 0 < c := by
        rcases Int.lt_or_le 0 c with x | x
        · exact x
        · have := h0 (by omega); omega
      have : c * e < 0 := Int.mul_neg_of_pos_of_neg hc0 he
      rw [if_pos (neg this)]
      omega
    · have : 0 ≤ c * e := Int.mul_nonneg hc he
      rw [if_neg (by have := pos this; omega)]
      omega
theorem coef_two (a b : Int × Int) (r : Int) : coefOf [a, b] r = coefOf [a] r + coefOf [b] r := coef_append [a] [b] r
/-- What Root adds up, for the square of a number of two terms: the number, or its opposite. -/
theorem root_match {c p e q g ds dx A B w D1 D2 : Int} {f1 f2 : Int × Int} (hp : Rt p) (hq : Rt q) (hg : 1 ≤ g) (hds : 1 ≤ ds) (hdx : 1 ≤ dx)
    (hA : A * (dx * dx) = (c * c * p + e * e * q) * ds) (hB : B * (dx * dx) = 2 * (c * e * g) * ds) (hw : w * (dx * dx) = ds * (c * c * p - e * e * q)) (hle : e * e * q ≤ c * c * p)
    (p1 : 0 ≤ f1.1) (r1 : Rt f1.2) (k1 : 1 ≤ D1) (e1 : f1.1 * f1.1 * f1.2 * (2 * ds) = (A + w) * (D1 * D1))
    (p2 : 0 ≤ f2.1) (r2 : Rt f2.2) (k2 : 1 ≤ D2) (e2 : f2.1 * f2.1 * f2.2 * (2 * ds) = (A - w) * (D2 * D2)) :
    ∃ ε : Int, (ε = 1 ∨ ε = -1) ∧ ∀ r, coefOf [(D2 * f1.1, f1.2), (D1 * (if B < 0 then -f2.1 else f2.1), f2.2)] r * dx = ε * coefOf [(c, p), (e, q)] r * (D1 * D2) := by
  have hp1 := hp.1
  have hq1 := hq.1
  have h0 : c = 0 → e = 0 := by
    intro h
    subst h
    have : 0 ≤ e * e * q := by
      rw [← Int.natAbs_mul_self' e]
      exact Int.mul_nonneg (Int.mul_nonneg (by omega) (by omega)) (by omega)
    have h1 : e * e * q = 0 := by simp at hle; omega
    rcases Int.mul_eq_zero.1 h1 with h1 | h1
    · exact sq_zero h1
    · omega
  obtain ⟨ε, hε, ea, eb⟩ := abs_sign c e g ds dx B hg hds hdx hB h0
  have n2 : (2 * ds : Int) ≠ 0 := by omega
  have m1 : f1.1 * f1.1 * f1.2 * (dx * dx) = c * c * p * (D1 * D1) := by
    apply Int.eq_of_mul_eq_mul_right n2
    calc f1.1 * f1.1 * f1.2 * (dx * dx) * (2 * ds) = (f1.1 * f1.1 * f1.2 * (2 * ds)) * (dx * dx) := by grind
      _ = (A + w) * (D1 * D1) * (dx * dx) := by rw [e1]
      _ = (A * (dx * dx) + w * (dx * dx)) * (D1 * D1) := by grind
      _ = ((c * c * p + e * e * q) * ds + ds * (c * c * p - e * e * q)) * (D1 * D1) := by rw [hA, hw]
      _ = _ := by grind
  have m2 : f2.1 * f2.1 * f2.2 * (dx * dx) = e * e * q * (D2 * D2) := by
    apply Int.eq_of_mul_eq_mul_right n2
    calc f2.1 * f2.1 * f2.2 * (dx * dx) * (2 * ds) = (f2.1 * f2.1 * f2.2 * (2 * ds)) * (dx * dx) := by grind
      _ = (A - w) * (D2 * D2) * (dx * dx) := by rw [e2]
      _ = (A * (dx * dx) - w * (dx * dx)) * (D2 * D2) := by grind
      _ = ((c * c * p + e * e * q) * ds - ds * (c * c * p - e * e * q)) * (D2 * D2) := by rw [hA, hw]
      _ = _ := by grind
  refine ⟨ε, hε, fun r => ?_⟩
  have t1 := match_root p1 r1 hp k1 hdx m1 D2 r
  obtain ⟨s, hs⟩ : ∃ s : Int, (if B < 0 then (-1 : Int) else 1) = s := ⟨_, rfl⟩
  have hs1 : (if B < 0 then -f2.1 else f2.1) = s * f2.1 := by rw [← hs]; split <;> omega
  have hs2 : (if B < 0 then -(e.natAbs : Int) else (e.natAbs : Int)) = s * (e.natAbs : Int) := by rw [← hs]; split <;> omega
  have t2 := match_root p2 r2 hq k2 hdx m2 (D1 * s) r
  rw [coef_two, coef_two, hs1, ← Int.mul_assoc D1 s, Int.add_mul, t1, t2]
  rw [hs2] at eb
  rw [ea, Int.mul_assoc D1 s, eb]
  simp only [coefOf, List.foldl_cons, List.foldl_nil]
  clear m1 m2 t1 t2 e1 e2 hA hB hw hle
  by_cases x : p = r <;> by_cases y : q = r <;> simp [x, y] <;> grind
end Go.Proofs.YtkjclafbpocabaaGreatDoor

/-! ## W4 -/
namespace Go.Proofs.YtkjclafbpocabaaGreatDoor
open Go.RowKit Go.Maps Go.Shelf Go.Sort
/-- The root of the square of a number of at most two terms: the number, or its opposite. -/
theorem root_find {dx ds : Int} {lx ls : List (Int × Int)} (vx : Vld dx lx) (hl : lx.length ≤ 2) (hm : mulF dx lx dx lx (ds, ls, 0)) {r : Int × List (Int × Int) × Int} (hr : RootP ds ls r) :
    (0 ≤ sgnZ lx → r = (dx, lx, 0)) ∧ (sgnZ lx < 0 → r = (dx, mulS (-1) lx, 0)) := by
  obtain ⟨vs, es⟩ := mulF_ok vx vx hm
  obtain ⟨c, p, e, q, hp, hq, hne, hc⟩ := two_rep vx hl
  have hdx := vx.d1
  have hds := vs.d1
  have hdd : 1 ≤ dx * dx := by have := Int.mul_le_mul hdx hdx (by omega) (by omega); omega
  have hk := rS_ne hp hq hne
  have hcr := sq_cross hp hq
  obtain ⟨k, hkk⟩ : ∃ k, rS p q = k := ⟨_, rfl⟩
  obtain ⟨g, hgg⟩ : ∃ g, gS p q = g := ⟨_, rfl⟩
  rw [hkk] at hk
  rw [hkk, hgg] at hcr
  obtain ⟨hcr, hg⟩ := hcr
  have hp1 := hp.1
  have hq1 := hq.1
  have es2 : ∀ r, coefOf ls r * (dx * dx) = ((if r = 1 then c * c * p + e * e * q else 0) + (if k = r then 2 * (c * e * g) else 0)) * ds := by
    intro r
    have a1 := prod_ratio (l := lx) (l' := [(c, p), (e, q)]) (A := 1) (B := 1) (fun r => by rw [hc]) lx r
    have a2 := prod_ratio (l := lx) (l' := [(c, p), (e, q)]) (A := 1) (B := 1) (fun r => by rw [hc]) [(c, p), (e, q)] r
    rw [Int.mul_one, Int.mul_one] at a1 a2
    rw [es r, a1, prod_comm, a2, two_sq_coef _ _ _ _ _ hp1 hq1, hkk, hgg]
  have hA : coefOf ls 1 * (dx * dx) = (c * c * p + e * e * q) * ds := by
    have := es2 1
    rw [if_pos rfl, if_neg (by omega), Int.add_zero] at this
    exact this
  have hB : coefOf ls k * (dx * dx) = 2 * (c * e * g) * ds := by
    have := es2 k
    rw [if_neg (by omega), if_pos rfl, Int.zero_add] at this
    exact this
  have ndd : dx * dx ≠ 0 := by omega
  have hz : ∀ r, r ≠ 1 → r ≠ k → coefOf ls r = 0 := by
    intro r h1 h2
    have := es2 r
    rw [if_neg h1, if_neg (fun e => h2 e.symm), Int.add_zero, Int.zero_mul] at this
    exact (Int.mul_eq_zero.1 this).resolve_right ndd
  have nn : ∀ x y : Int, 1 ≤ y → 0 ≤ x * x * y := fun x y hy => by
    rw [← Int.natAbs_mul_self' x]
    exact Int.mul_nonneg (Int.mul_nonneg (by omega) (by omega)) (by omega)
  have h0 : coefOf ls 1 = 0 → coefOf ls k = 0 := by
    intro h
    rw [h, Int.zero_mul] at hA
    have h1 : c * c * p + e * e * q = 0 := (Int.mul_eq_zero.1 hA.symm).resolve_right (by omega)
    have := nn c p hp1
    have := nn e q hq1
    have h2 : c * c * p = 0 := by omega
    have h3 : c = 0 := sq_zero ((Int.mul_eq_zero.1 h2).resolve_right (by omega))
    rw [h3] at hB
    have h4 : coefOf ls k * (dx * dx) = 0 := by rw [hB]; simp
    exact (Int.mul_eq_zero.1 h4).resolve_right ndd
  obtain ⟨b1, b2, b3, b4⟩ := bin_shape vs hk hz h0
  obtain ⟨A, hAe⟩ : ∃ A, coefOf ls 1 = A := ⟨_, rfl⟩
  obtain ⟨B, hBe⟩ : ∃ B, coefOf ls k = B := ⟨_, rfl⟩
  rw [hAe] at hA b2
  rw [hBe] at hB b3 b4
  have hM : rootM ls = A * A - B * B * k := by
    unfold rootM
    rw [b2, b3]
    by_cases hB0 : B = 0
    · rw [hB0]; simp
    · rw [b4 hB0]
  have hsq : rootM ls * ((dx * dx) * (dx * dx)) = (ds * (c * c * p - e * e * q)) * (ds * (c * c * p - e * e * q)) := by
    rw [hM]
    calc (A * A - B * B * k) * ((dx * dx) * (dx * dx)) = (A * (dx * dx)) * (A * (dx * dx)) - (B * (dx * dx)) * (B * (dx * dx)) * k := by grind
      _ = ((c * c * p + e * e * q) * ds) * ((c * c * p + e * e * q) * ds) - (2 * (c * e * g) * ds) * (2 * (c * e * g) * ds) * k := by rw [hA, hB]
      _ = ((c * c * p + e * e * q) * ds) * ((c * c * p + e * e * q) * ds) - 4 * (c * c) * (e * e) * (ds * ds) * (g * g * k) := by grind
      _ = ((c * c * p + e * e * q) * ds) * ((c * c * p + e * e * q) * ds) - 4 * (c * c) * (e * e) * (ds * ds) * (p * q) := by rw [hcr]
      _ = _ := by grind
  obtain ⟨w, hw1, hw2⟩ := sq_div hdd hsq
  have hiw : isq (rootM ls).toNat = w := by
    have e1 : (rootM ls).toNat = w * w := by rw [hw2, ← Int.natCast_mul]; rfl
    rw [e1]
    exact (isq_uniq (Nat.le_refl _) (by have : (w + 1) * (w + 1) = w * w + 2 * w + 1 := by grind
                                        omega)).symm
  have hsgn : 0 ≤ sgnZ ls := by
    have h1 := sign_sg vx
    have h2 := h1.mul h1 vx.rts vx.rts
    have h3 := h2.ratio (m := ls) (A := ds) (B := dx * dx) (by omega) (by omega) (fun r => (es r).symm)
    rw [(sign_sg vs).uniq h3]
    rw [← Int.natAbs_mul_self' (sgnZ lx)]
    exact Int.mul_nonneg (by omega) (by omega)
  have hr0 := hr
  unfold RootP at hr
  rw [if_pos vs.bool, if_neg (by omega), if_neg (by rw [b1]; simp), if_neg (by
    rintro (h | h)
    · rw [hw2] at h
      have : 0 ≤ (w : Int) * w := Int.mul_nonneg (by omega) (by omega)
      omega
    · rw [hiw] at h
      apply h
      rw [hw2, ← Int.natCast_mul]
      rfl)] at hr
  obtain ⟨f1, d1, f2, d2, h1, h2, t, ht, rfl⟩ := hr
  rw [hiw, b2] at h1 h2
  obtain ⟨_, p1, r1, k1, e1⟩ := frac_val h1 (by omega)
  obtain ⟨_, p2, r2, k2, e2⟩ := frac_val h2 (by omega)
  rw [sum_terms, b3] at ht
  have hD : d1 * d2 ≠ 0 := Int.mul_ne_zero (by omega) (by omega)
  have key : ∃ ε : Int, (ε = 1 ∨ ε = -1) ∧ ∀ r, coefOf [(d2 * f1.1, f1.2), (d1 * (if B < 0 then -f2.1 else f2.1), f2.2)] r * dx = ε * coefOf lx r * (d1 * d2) := by
    rcases Int.lt_or_le (c * c * p) (e * e * q) with hlt | hle
    · have hwx : (w : Int) * (dx * dx) = ds * (e * e * q - c * c * p) := by
        rw [← hw1]
        have h3 : ds * (c * c * p - e * e * q) ≤ 0 := by
          have := Int.mul_nonneg (show 0 ≤ ds by omega) (show 0 ≤ e * e * q - c * c * p by omega)
          have e5 : ds * (c * c * p - e * e * q) = -(ds * (e * e * q - c * c * p)) := by grind
          omega
        have e5 : ds * (e * e * q - c * c * p) = -(ds * (c * c * p - e * e * q)) := by grind
        omega
      obtain ⟨ε, hε, hz2⟩ := root_match (c := e) (p := q) (e := c) (q := p) (g := g) (ds := ds) (dx := dx) (A := A) (B := B) (w := w) hq hp hg hds hdx (by rw [hA]; grind) (by rw [hB]; grind) hwx (by omega) p1 r1 k1 e1 p2 r2 k2 e2
      exact ⟨ε, hε, fun r => by rw [hz2, hc]; congr 2; rw [coef_two, coef_two (c, p), Int.add_comm]⟩
    · have hwx : (w : Int) * (dx * dx) = ds * (c * c * p - e * e * q) := by
        rw [← hw1]
        have := Int.mul_nonneg (show 0 ≤ ds by omega) (show 0 ≤ c * c * p - e * e * q by omega)
        omega
      obtain ⟨ε, hε, hz2⟩ := root_match (c := c) (p := p) (e := e) (q := q) (g := g) (ds := ds) (dx := dx) (A := A) (B := B) (w := w) hp hq hg hds hdx hA hB hwx hle p1 r1 k1 e1 p2 r2 k2 e2
      exact ⟨ε, hε, fun r => by rw [hz2, hc]⟩
  obtain ⟨ε, hε, hz2⟩ := key
  rcases hε with rfl | rfl
  · have hf := fin_of hD ht vx (fun r => by rw [hz2]; grind)
    rw [hf]
    rw [hf] at hr0
    have := (root_ok vs hr0).2.2
    exact ⟨fun _ => rfl, fun h => by omega⟩
  · have hf := fin_of hD ht vx.neg (fun r => by rw [hz2, coef_mulS])
    rw [hf]
    rw [hf] at hr0
    have h3 := (root_ok vs hr0).2.2
    have h4 := (sign_sg vx.neg).uniq (sign_sg vx).neg
    refine ⟨fun h => ?_, fun _ => rfl⟩
    have : sgnZ lx = 0 := by omega
    rw [sgn_nil this]
    rfl
/-- 0 less a number. -/
theorem zero_less {d : Int} {l : List (Int × Int)} (v : Vld d l) {q : Int × List (Int × Int) × Int} (h : addF (-1) 1 [] d l q) : q = (d, mulS (-1) l, 0) := by
  have v0 : Vld 1 [] := ⟨by omega, by omega, by simp, fun t ht => by simp at ht, fun t ht => by simp at ht, fun t ht => by simp at ht, fun i _ h => by simp at h, by decide⟩
  exact addF_of v0 v h v.neg (fun r => by rw [coef_mulS]; simp [coefOf_nil])
theorem sign_range {d : Int} {l : List (Int × Int)} (v : Vld d l) : (sgnZ l = -1 ∨ sgnZ l = 0 ∨ sgnZ l = 1) ∧ (sgnZ l = 0 ↔ l = []) :=
  ⟨(sign_sg v).range, fun h => sgn_nil h, fun h => by rw [h]; rfl⟩
end Go.Proofs.YtkjclafbpocabaaGreatDoor
