/-
  Contracts of the program's own functions (and their plain mathematics), on the way to the law: each for all arguments that its hypotheses let.
-/
import Derived.Test.YtedpafdfecofnaaGreatDoorF43
import Derived.Test.YtedpafdfecofnaaGreatDoorF30
import Derived.WalkKit
import Derived.WalkSpells
import Derived.WalkLawsBesides
import Derived.Deep.QuietTactic
import Derived.BigQuiet
import Derived.Lib.Hide
import Derived.WalkSmall
import Derived.Maps.OwnSet
import Derived.Maps.RangeWalk
import Derived.Deep.RegionWith
import Derived.Deep.RegionHeld3
import Derived.Deep.DrawnRows
import Derived.Deep.DeepCutAuto
import Derived.OneCell
import Derived.KernelRfl
import Derived.Laws.StructEq
import Derived.StillTailTactics
import Derived.Laws.Externs
import Derived.RangeFuncBox
import Derived.Test.YtedpafdfecofnaaGreatDoorPlain
import Derived.Test.YtedpafdfecofnaaGreatDoorF63
import Derived.Test.YtedpafdfecofnaaGreatDoorF32
set_option linter.unusedSimpArgs false
set_option linter.unusedVariables false

/-! ## D18 -/
namespace Go.Proofs.YtedpafdfecofnaaGreatDoor
open Go.RowKit Go.Maps Go.Shelf Go.Sort
theorem fin_eq {den den' : Int} {c c' : Int → Int} {l l' : List (Int × Int)} (hd : den ≠ 0) (hd' : den' ≠ 0) (hl : IsTerms c l) (hl' : IsTerms c' l') (h : ∀ r, c r * den' = c' r * den) : finF den l = finF den' l' := by
  obtain ⟨low, hc⟩ := fin_low hd hl
  obtain ⟨low', hc'⟩ := fin_low hd' hl'
  obtain ⟨e1, e2⟩ := low_uniq low low' (fun r => by
    apply Int.eq_of_mul_eq_mul_right hd
    apply Int.eq_of_mul_eq_mul_right hd'
    have a := hc r
    have b := hc' r
    have k := h r
    generalize coefOf (divS (sgnDv den l) l) r = x at *
    generalize den.tdiv (sgnDv den l) = y at *
    generalize coefOf (divS (sgnDv den' l') l') r = x' at *
    generalize den'.tdiv (sgnDv den' l') = y' at *
    calc x * y' * den * den' = (x * den) * (y' * den') := by grind
      _ = c r * y * (y' * den') := by rw [a]
      _ = (c r * den') * y * y' := by grind
      _ = (c' r * den) * y * y' := by rw [k]
      _ = (c' r * y') * (den * y) := by grind
      _ = (x' * den') * (den * y) := by rw [← b]
      _ = x' * y * den * den' := by grind)
  have hlen : l.length = l'.length := by have := congrArg List.length e2; simpa [divS] using this
  unfold finF
  dsimp only
  rw [e1, e2, hlen]
theorem rt1 : Rt 1 := by have := rt_small (n := 1) (by omega) (by omega); exact_mod_cast this
theorem splitR_val {n s q : Int} (h : SplitR n s q) : 0 ≤ s ∧ Rt q ∧ s * s * q = n := by
  rcases h with ⟨rfl, rfl, rfl⟩ | ⟨h1, hs, hq, hn, hf⟩
  · exact ⟨by decide, rt1, by decide⟩
  · exact ⟨by omega, ⟨hq, hf⟩, hn⟩
/-- A half of a root, both ways: f / d1 is the root of n / D, s / D is the root of n * D / D². -/
theorem half_eq {n D f q' d1 s q : Int} (hf : 0 ≤ f) (hq' : Rt q') (h1 : 1 ≤ d1) (hD : 1 ≤ D) (he : f * f * q' * D = n * (d1 * d1)) (hs : SplitR (n * D) s q) (m r : Int) :
    coefOf [(m * f, q')] r * D = coefOf [(m * s, q)] r * d1 := by
  obtain ⟨a, b, c⟩ := splitR_val hs
  have := match_root (x := f) (ρ := q') (D := d1) (c := s) (p := q) (dx := D) hf hq' b h1 hD (by
    rw [c]
    calc f * f * q' * (D * D) = (f * f * q' * D) * D := by grind
      _ = n * (d1 * d1) * D := by rw [he]
      _ = n * D * (d1 * d1) := by grind) m r
  rw [this, show (s.natAbs : Int) = s by omega]
theorem coef_one (x q r : Int) : coefOf [(x, q)] r = if q = r then x else 0 := by simp [coefOf]
theorem coef_two' (x q y p r : Int) : coefOf [(x, q), (y, p)] r = coefOf [(x, q)] r + coefOf [(y, p)] r := coef_append [(x, q)] [(y, p)] r
def PartR (den : Int) (l : List (Int × Int)) (r : Int × List (Int × Int) × Int) : Prop := ∃ us t, SpL l us ∧ IsTerms (plusC zeroC 1 us) t ∧ r = finF den t
theorem spl_one {c n : Int} {us : List (Int × Int)} (h : SpL [(c, n)] us) : ∃ s q, SplitR n s q ∧ us = [(c * s, q)] := by
  obtain ⟨h1, h2⟩ := h
  obtain ⟨u, rfl⟩ : ∃ u, us = [u] := List.length_eq_one_iff.1 (by simpa using h1)
  obtain ⟨s, q, hs, hu⟩ := h2 0 (by simp)
  exact ⟨s, q, hs, by simpa using hu⟩
theorem spl_two {c n e m : Int} {us : List (Int × Int)} (h : SpL [(c, n), (e, m)] us) : ∃ s q s2 q2, SplitR n s q ∧ SplitR m s2 q2 ∧ us = [(c * s, q), (e * s2, q2)] := by
  obtain ⟨h1, h2⟩ := h
  obtain ⟨u, v, rfl⟩ : ∃ u v, us = [u, v] := (by match us, h1 with
    | [u, v], _ => exact ⟨u, v, rfl⟩)
  obtain ⟨s, q, hs, hu⟩ := h2 0 (by simp)
  obtain ⟨s2, q2, hs2, hu2⟩ := h2 1 (by simp)
  exact ⟨s, q, s2, q2, hs, hs2, by simp at hu hu2; rw [hu, hu2]⟩
/-- What the reference's Root gives. -/
def RefP (d : Int) (l : List (Int × Int)) (r : Int × List (Int × Int) × Int) : Prop :=
  (¬ validF d l = true → r = (0, [], 2)) ∧ (validF d l = true → (sgnZ l < 0 → r = (0, [], 3)) ∧ (0 ≤ sgnZ l →
    (l = [] → r = (d, [], 0)) ∧ (∀ c ρ us, l = (c, ρ) :: us → (ρ ≠ 1 ∨ 1 < us.length) → r = (0, [], 11)) ∧ (∀ a, l = [(a, 1)] → PartR d [(1, a * d)] r) ∧
    ∀ a b ρ, l = [(a, 1), (b, ρ)] → ((a * a - b * b * ρ < 0 ∨ ∀ k : Nat, (k : Int) * k ≠ a * a - b * b * ρ) → r = (0, [], 11)) ∧
      ∀ k : Nat, (k : Int) * k = a * a - b * b * ρ → PartR (2 * d) [(1, (a + k) * 2 * d), ((if b < 0 then -1 else 1), (a - k) * 2 * d)] r))
theorem isq_sq (k : Nat) : isq (k * k) = k := (isq_uniq (Nat.le_refl _) (by simp only [Nat.add_mul, Nat.mul_add]; omega)).symm
/-- Both ways give the same. -/
theorem root_same {d : Int} {l : List (Int × Int)} {r r' : Int × List (Int × Int) × Int} (h : RootP d l r) (h' : RefP d l r') : r = r' := by
  unfold RootP at h
  obtain ⟨g1, g2⟩ := h'
  by_cases hv : validF d l = true
  case neg => rw [if_neg hv] at h; rw [h, g1 hv]
  rw [if_pos hv] at h
  have V := vld_of hv
  have hd := V.d1
  obtain ⟨g2, g3⟩ := g2 hv
  by_cases hn : sgnZ l < 0
  · rw [if_pos hn] at h; rw [h, g2 hn]
  rw [if_neg hn] at h
  obtain ⟨g3, g4, g5, g6⟩ := g3 (by omega)
  clear g1 g2
  rcases l with _ | ⟨⟨a, ρ⟩, us⟩
  · rw [g3 rfl]
    have e1 : rootM [] = 0 := rfl
    have e2 : (binF []).2.2 = true := rfl
    have e3 : (binF []).1 = 0 := rfl
    rw [e2, if_neg (by decide), e1, if_neg (by rw [show ((0 : Int)).toNat = 0 * 0 from rfl, isq_sq]; simp)] at h
    obtain ⟨f1, d1, f2, d2, k1, k2, t, ht, rfl⟩ := h
    rw [e3, show (0 : Int).toNat = 0 * 0 from rfl, isq_sq] at k1 k2
    obtain ⟨_, a1, b1, c1, w1⟩ := frac_val k1 (by omega)
    obtain ⟨_, a2, b2, c2, w2⟩ := frac_val k2 (by omega)
    have z1 : f1.1 = 0 := by
      have : f1.1 * f1.1 * f1.2 * (2 * d) = 0 := by rw [w1]; simp
      rcases Int.mul_eq_zero.1 this with h | h
      · rcases Int.mul_eq_zero.1 h with h | h
        · exact sq_zero h
        · have := b1.1; omega
      · omega
    have z2 : f2.1 = 0 := by
      have : f2.1 * f2.1 * f2.2 * (2 * d) = 0 := by rw [w2]; simp
      rcases Int.mul_eq_zero.1 this with h | h
      · rcases Int.mul_eq_zero.1 h with h | h
        · exact sq_zero h
        · have := b2.1; omega
      · omega
    obtain ⟨x1, y1⟩ := f1
    obtain ⟨x2, y2⟩ := f2
    dsimp only at z1 z2
    subst z1
    subst z2
    exact fin_of (by have := Int.mul_pos (a := d1) (b := d2) (by omega) (by omega); omega) ht V (fun r => by simp [plusC, zeroC, coefOf])
  by_cases hbad : ρ ≠ 1 ∨ 1 < us.length
  · rw [g4 a ρ us rfl hbad]
    by_cases h1 : ρ = 1
    · subst h1
      have h2 : 1 < us.length := by omega
      obtain ⟨u, vs, rfl⟩ : ∃ u vs, us = u :: vs := by cases us with | nil => simp at h2 | cons u vs => exact ⟨_, _, rfl⟩
      have e2 : (binF ((a, 1) :: u :: vs)).2.2 = false := by simp only [binF, if_true]; simp at h2 ⊢; intro e; subst e; simp at h2
      rwa [if_pos e2] at h
    · by_cases h2 : us.length = 0
      · have e : us = [] := List.length_eq_zero_iff.1 h2
        subst e
        have e2 : (binF [(a, ρ)]).2.2 = true := by simp [binF, h1]
        have e3 : rootM [(a, ρ)] = 0 - a * a * ρ := by simp [rootM, binF, h1]
        have hρ := (V.rt (a, ρ) (by simp)).1
        have ha := (V.cf (a, ρ) (by simp)).2.2
        dsimp only at hρ ha
        have hp : 0 < a * a * ρ := Int.mul_pos (by
          rcases Int.lt_or_lt_of_ne ha with h | h
          · exact Int.mul_pos_of_neg_of_neg h h
          · exact Int.mul_pos h h) (by omega)
        rwa [e2, if_neg (by decide), if_pos (.inl (by rw [e3]; omega))] at h
      · have e2 : (binF ((a, ρ) :: us)).2.2 = false := by simp [binF, h1]; intro e; subst e; simp at h2
        rwa [if_pos e2] at h
  obtain rfl : ρ = 1 := by omega
  rcases us with _ | ⟨⟨b, ρ⟩, vs⟩
  · obtain ⟨vs, t', hsp, ht', rfl⟩ := g5 a rfl
    obtain ⟨s, q, hs, rfl⟩ := spl_one hsp
    have e1 : rootM [(a, 1)] = a * a := by simp [rootM, binF]
    have e2 : (binF [(a, 1)]).2.2 = true := by simp [binF]
    have e3 : (binF [(a, 1)]).1 = a := by simp [binF]
    have e4 : (binF [(a, 1)]).2.1.1 = 0 := by simp [binF]
    have ha0 : 0 ≤ a := by
      obtain ⟨_, _, k⟩ := splitR_val hs
      have hk : 0 ≤ a * d := by
        rcases hs with ⟨h0, _⟩ | ⟨h0, _⟩ <;> omega
      rcases Int.lt_or_le a 0 with h | h
      · have := Int.mul_neg_of_neg_of_pos h (show 0 < d by omega); omega
      · exact h
    obtain ⟨k, rfl⟩ : ∃ k : Nat, a = k := ⟨a.toNat, by omega⟩
    have e5 : ((k : Int) * k).toNat = k * k := by rw [← Int.natCast_mul]; rfl
    rw [e2, if_neg (by decide), e1, if_neg (by rw [e5, isq_sq]; have := Int.mul_nonneg ha0 ha0; omega)] at h
    obtain ⟨f1, d1, f2, d2, k1, k2, t, ht, rfl⟩ := h
    rw [e3, e5, isq_sq] at k1 k2
    rw [e4] at ht
    obtain ⟨_, a1, b1, c1, w1⟩ := frac_val k1 (by omega)
    obtain ⟨_, a2, b2, c2, w2⟩ := frac_val k2 (by omega)
    have z2 : f2.1 = 0 := by
      have : f2.1 * f2.1 * f2.2 * (2 * d) = 0 := by rw [w2]; simp
      rcases Int.mul_eq_zero.1 this with h | h
      · rcases Int.mul_eq_zero.1 h with h | h
        · exact sq_zero h
        · have := b2.1; omega
      · omega
    obtain ⟨x1, y1⟩ := f1
    obtain ⟨x2, y2⟩ := f2
    dsimp only at *
    subst z2
    have w1' : x1 * x1 * y1 * d = k * (d1 * d1) := by
      have : (x1 * x1 * y1 * d) * 2 = (k * (d1 * d1)) * 2 := by grind
      omega
    have hp : d1 * d2 ≠ 0 := by have := Int.mul_pos (a := d1) (b := d2) (by omega) (by omega); omega
    refine fin_eq hp (by omega) ht ht' fun r => ?_
    have hh := half_eq (n := (k : Int)) a1 b1 c1 hd w1' hs 1 r
    simp only [plusC, zeroC]
    rw [show (1 : Int) * x1 = x1 by omega] at hh
    have hz : coefOf [((if (0 : Int) < 0 then -(0 : Int) else 0), y2)] r = 0 := by simp [coefOf]
    rw [hz]
    generalize coefOf [(x1, y1)] r = X at *
    generalize coefOf [(1 * s, q)] r = Y at *
    grind
  · have hvs : vs = [] := by
      rcases vs with _ | ⟨u, vs⟩
      · rfl
      · simp at hbad
    subst hvs
    obtain ⟨g7, g8⟩ := g6 a b ρ rfl
    have e1 : rootM [(a, 1), (b, ρ)] = a * a - b * b * ρ := by simp [rootM, binF]
    have e2 : (binF [(a, 1), (b, ρ)]).2.2 = true := by simp [binF]
    have e3 : (binF [(a, 1), (b, ρ)]).1 = a := by simp [binF]
    have e4 : (binF [(a, 1), (b, ρ)]).2.1.1 = b := by simp [binF]
    rw [e2, if_neg (by decide), e1, e3, e4] at h
    obtain ⟨m, hm⟩ : ∃ m, a * a - b * b * ρ = m := ⟨_, rfl⟩
    rw [hm] at h g7 g8
    by_cases hq : m < 0 ∨ isq m.toNat * isq m.toNat ≠ m.toNat
    · rw [if_pos hq] at h
      rw [h, g7]
      rcases hq with hq | hq
      · exact .inl hq
      · refine .inr fun k hk => hq ?_
        have : m.toNat = k * k := by rw [← hk, ← Int.natCast_mul]; rfl
        rw [this, isq_sq]
    · rw [if_neg hq] at h
      obtain ⟨k, hk⟩ : ∃ k, isq m.toNat = k := ⟨_, rfl⟩
      rw [hk] at hq h
      have hkk : (k : Int) * k = m := by
        have : k * k = m.toNat := by omega
        rw [← Int.natCast_mul, this]; omega
      obtain ⟨vs, t', hsp, ht', rfl⟩ := g8 k hkk
      obtain ⟨s, q, s2, q2, hs, hs2, rfl⟩ := spl_two hsp
      obtain ⟨f1, d1, f2, d2, k1, k2, t, ht, rfl⟩ := h
      obtain ⟨_, a1, b1, c1, w1⟩ := frac_val k1 (by omega)
      obtain ⟨_, a2, b2, c2, w2⟩ := frac_val k2 (by omega)
      obtain ⟨x1, y1⟩ := f1
      obtain ⟨x2, y2⟩ := f2
      dsimp only at *
      have hp : d1 * d2 ≠ 0 := by have := Int.mul_pos (a := d1) (b := d2) (by omega) (by omega); omega
      refine fin_eq hp (by omega) ht ht' fun r => ?_
      have h1 := half_eq (n := a + k) a1 b1 c1 (show 1 ≤ 2 * d by omega) w1 (by rw [← Int.mul_assoc]; exact hs) 1 r
      have h2 := half_eq (n := a - k) a2 b2 c2 (show 1 ≤ 2 * d by omega) w2 (by rw [← Int.mul_assoc]; exact hs2) (if b < 0 then -1 else 1) r
      have hx : (if b < 0 then -x2 else x2) = (if b < 0 then -1 else 1) * x2 := by split <;> omega
      simp only [plusC, zeroC]
      rw [hx, coef_two']
      rw [show (1 : Int) * x1 = x1 by omega] at h1
      generalize coefOf [(x1, y1)] r = X at *
      generalize coefOf [(1 * s, q)] r = Y at *
      generalize coefOf [((if b < 0 then -1 else 1) * x2, y2)] r = X2 at *
      generalize coefOf [((if b < 0 then -1 else 1) * s2, q2)] r = Y2 at *
      grind
end Go.Proofs.YtedpafdfecofnaaGreatDoor

/-! ## D19 -/
namespace Go.Proofs.YtedpafdfecofnaaGreatDoor
open Go.RowKit Go.Maps Go.Shelf Go.Sort
attribute [local go_sem ↓] Go.wp_at_zero Go.wp_at_succ
def Int1R (n : Int) (w : World) (e : Ending) (w' : World) : Prop := e = .returned (.int .i64 n) ∧ Below w.heap.size w w'
theorem rsign_vldR {d : Int} {l : List (Int × Int)} (V : Vld d l) (v : Value) (w : World) (ht : TermsAt w v l) : Calls Tryz.prog 36 #[v] w (Int1R (sgnZ l) w) := by
  have hl := V.len
  have hb : BdL 100000 l := fun t ht => ⟨(V.cf t ht).1, (V.cf t ht).2.1⟩
  have habs : absS l ≤ ((1099511627776 : Nat) : Int) := by
    have h1 := absS_bd l hb (by decide)
    have h2 : (100000 : Int) * (l.length : Int) ≤ 100000 * 4 := Int.mul_le_mul_of_nonneg_left (by omega) (by decide)
    omega
  refine (rsign_any l v w ht (by omega) (Lib.hid fun t ht => ?_) (Lib.hid (far_of 7 1099511627776 50 (by decide) (by omega) (vld_fine V).nd (vld_rt V) habs (by decide) (by decide)))).mono ?_
  · have h1 := hb t ht
    have h2 := vld_rt V t ht
    exact ⟨by omega, h2.1.1, h2.2⟩
  · rintro e w' ⟨n, rfl, hs, hb⟩
    obtain rfl : n = sgnZ l := hs.uniq (sign_sg V)
    exact ⟨rfl, hb⟩
/-- The whole number whose square is n, or -1. -/
def ExactR (n r : Int) : Prop := (∃ k : Nat, (k : Int) * k = n ∧ r = k) ∨ ((∀ k : Nat, (k : Int) * k ≠ n) ∧ r = -1)
theorem exact_no {n a b : Int} (h1 : -1 ≤ a) (h2 : b - a ≤ 1) (h3 : a = -1 ∨ a * a ≤ n) (h4 : n < b * b) (h5 : a = -1 ∨ a * a ≠ n) (hb : 0 ≤ b) : ExactR n (-1) := by
  refine .inr ⟨fun k hk => ?_, rfl⟩
  have hk0 : (0 : Int) ≤ k := Int.natCast_nonneg k
  have k1 : (k : Int) < b := by
    rcases Int.lt_or_le (k : Int) b with h | h
    · exact h
    · have := Int.mul_le_mul h h hb hk0; omega
  have k2 : (k : Int) ≤ a := by omega
  have a0 : 0 ≤ a := by omega
  have k3 := Int.mul_le_mul k2 k2 hk0 a0
  rcases h3 with h | h
  · omega
  · rcases h5 with h' | h' <;> omega
theorem exact_yes {n a : Int} (h1 : 0 ≤ a) (h : a * a = n) : ExactR n a := .inl ⟨a.toNat, by rw [show ((a.toNat : Nat) : Int) = a by omega]; exact h, by omega⟩
theorem mid_bd {m : Int} (h0 : 0 ≤ m) (h1 : m ≤ 3000000000) : 0 ≤ m * m ∧ m * m ≤ 9000000000000000000 := by
  have a := Int.mul_le_mul h1 h1 h0 (by omega)
  have b := Int.mul_nonneg h0 h0
  omega
set_option maxRecDepth 100000 in
set_option maxHeartbeats 4000000 in
theorem exact_any (n : Int) (h0 : 0 ≤ n) (h1 : n ≤ 1000000000000000) (w : World) :
    Calls Tryz.prog 67 #[.int .i64 n] w (fun e w' => ∃ r, ExactR n r ∧ e = .returned (.int .i64 r) ∧ w' = w) := by
  have H0 := Lib.hid h0
  have H1 := Lib.hid h1
  obtain ⟨M, hM⟩ : ∃ M : Int, 3000000000 = M := ⟨_, rfl⟩
  have HM := Lib.hid hM
  clear h0 h1 hM
  go_enter Tryz.func67, Tryz.ntmps67
  go_wp2
  go_loopw [3, 4] (fun x y wr => ∃ a b : Int, x = .int .i64 a ∧ y = .int .i64 b ∧ Hid (-1 ≤ a ∧ a < b ∧ b ≤ M) ∧ Hid (a = -1 ∨ a * a ≤ n) ∧ Hid (n < b * b) ∧ wr = w) (fun x y _ => (intOf y - intOf x).toNat)
  case atStart => exact ⟨-1, 3000000000, rfl, rfl, Lib.hid (by have := HM.out; omega), Lib.hid (.inl rfl), Lib.hid (by have := H1.out; omega), rfl⟩
  case round =>
    obtain ⟨a, b, rfl, rfl, P3, P4, P5, rfl⟩ := hrel
    have hw0 : IntKind.i64.wrap (b - a) = b - a := IntWalk.i64_in _ (by have := P3.out; have := HM.out; omega)
    by_cases hc : 1 < b - a
    · have hd0 : decide (1 < b - a) = true := decide_eq_true hc
      have hw1 : IntKind.i64.wrap (a + b) = a + b := IntWalk.i64_in _ (by have := P3.out; have := HM.out; omega)
      obtain ⟨m, hm⟩ : ∃ m, (a + b) / 2 = m := ⟨_, rfl⟩
      have hab : 0 ≤ a + b := by have := P3.out; omega
      have m1 : a < m ∧ m < b ∧ 0 ≤ m := by have := P3.out; omega
      have m3 := mid_bd m1.2.2 (by have := P3.out; have := HM.out; omega)
      have hw2 : IntKind.i64.wrap (m * m) = m * m := IntWalk.i64_in _ (by omega)
      have M1 := Lib.hid m1
      have hm2 : (a + b).tdiv 2 = m := by rw [← hm]; exact Int.tdiv_eq_ediv_of_nonneg hab
      have hwm : IntKind.i64.wrap m = m := IntWalk.i64_in _ (by have := P3.out; have := HM.out; omega)
      clear m1 m3
      by_cases hle : m * m ≤ n
      · have hd1 : decide (m * m ≤ n) = true := decide_eq_true hle
        have HL := Lib.hid hle
        have HC := Lib.hid hc
        clear hle hc
        go_wp2
        go_roundw
        case rel => exact ⟨m, b, rfl, rfl, Lib.hid (by have := M1.out; have := P3.out; omega), Lib.hid (.inr HL.out), P5, (by first | trivial | rfl)⟩
        case measure => have := M1.out; have := HC.out; simp only [intOf]; omega
      · have hd1 : decide (m * m ≤ n) = false := decide_eq_false hle
        have HL := Lib.hid hle
        have HC := Lib.hid hc
        clear hle hc
        go_wp2
        go_roundw
        case rel => exact ⟨a, m, rfl, rfl, Lib.hid (by have := M1.out; have := P3.out; omega), P4, Lib.hid (by have := HL.out; omega), (by first | trivial | rfl)⟩
        case measure => have := M1.out; have := HC.out; simp only [intOf]; omega
    · have hd0 : decide (1 < b - a) = false := decide_eq_false hc
      have HC := Lib.hid hc
      clear hc
      have HNO : Hid ((a = -1 ∨ a * a ≠ n) → ExactR n (-1)) := Lib.hid fun h => exact_no P3.out.1 (by have := HC.out; omega) P4.out P5.out h (by have := P3.out; omega)
      by_cases ha : 0 ≤ a
      · have hd1 : decide (0 ≤ a) = true := decide_eq_true ha
        have m3 := mid_bd ha (by have := P3.out; have := HM.out; omega)
        have hw2 : IntKind.i64.wrap (a * a) = a * a := IntWalk.i64_in _ (by omega)
        clear m3
        by_cases hq : a * a = n
        · have hd2 : (a * a == n) = true := by simpa using hq
          have HE : Hid (ExactR n a) := Lib.hid (exact_yes ha hq)
          clear hq
          go_wp2
          go_ret
          exact ⟨a, HE.out, rfl, rfl⟩
        · have hd2 : (a * a == n) = false := by simpa using hq
          have HE : Hid (ExactR n (-1)) := Lib.hid (HNO.out (.inr hq))
          clear hq
          go_wp2
          go_ret
          exact ⟨-1, HE.out, rfl, rfl⟩
      · have hd1 : decide (0 ≤ a) = false := decide_eq_false ha
        have HE : Hid (ExactR n (-1)) := Lib.hid (HNO.out (.inl (by have := P3.out; omega)))
        clear ha
        go_wp2
        go_ret
        exact ⟨-1, HE.out, rfl, rfl⟩
theorem ref_bad {d : Int} {l : List (Int × Int)} (h : ¬ validF d l = true) : RefP d l (0, [], 2) := ⟨fun _ => rfl, fun h' => absurd h' h⟩
theorem ref_neg {d : Int} {l : List (Int × Int)} (h : validF d l = true) (hn : sgnZ l < 0) : RefP d l (0, [], 3) := ⟨fun h' => absurd h h', fun _ => ⟨fun _ => rfl, fun h' => by omega⟩⟩
theorem ref_of {d : Int} {l : List (Int × Int)} {r : Int × List (Int × Int) × Int} (h : validF d l = true) (hn : 0 ≤ sgnZ l)
    (H : (l = [] → r = (d, [], 0)) ∧ (∀ c ρ us, l = (c, ρ) :: us → (ρ ≠ 1 ∨ 1 < us.length) → r = (0, [], 11)) ∧ (∀ a, l = [(a, 1)] → PartR d [(1, a * d)] r) ∧
    ∀ a b ρ, l = [(a, 1), (b, ρ)] → ((a * a - b * b * ρ < 0 ∨ ∀ k : Nat, (k : Int) * k ≠ a * a - b * b * ρ) → r = (0, [], 11)) ∧
      ∀ k : Nat, (k : Int) * k = a * a - b * b * ρ → PartR (2 * d) [(1, (a + k) * 2 * d), ((if b < 0 then -1 else 1), (a - k) * 2 * d)] r) : RefP d l r := ⟨fun h' => absurd h h', fun _ => ⟨fun h' => by omega, fun _ => H⟩⟩
theorem ref_nil {d : Int} {l : List (Int × Int)} (h : validF d l = true) (hn : 0 ≤ sgnZ l) (e : l = []) : RefP d l (d, l, 0) := ref_of h hn ⟨fun _ => by rw [e], fun c ρ us h => by simp [e] at h, fun a h => by simp [e] at h, fun a b ρ h => by simp [e] at h⟩
theorem ref_form {d c ρ : Int} {l us : List (Int × Int)} (h : validF d l = true) (hn : 0 ≤ sgnZ l) (e : l = (c, ρ) :: us) (hq : ρ ≠ 1 ∨ 1 < us.length) : RefP d l (0, [], 11) :=
  ref_of h hn ⟨fun h => by simp [e] at h, fun _ _ _ _ _ => rfl, fun a h => by
    rw [e] at h
    simp only [List.cons.injEq, Prod.mk.injEq] at h
    obtain ⟨⟨_, h1⟩, h2⟩ := h
    rcases hq with hq | hq
    · exact absurd h1 hq
    · rw [h2] at hq; simp at hq, fun a b σ h => by
    rw [e] at h
    simp only [List.cons.injEq, Prod.mk.injEq] at h
    obtain ⟨⟨_, h1⟩, h2⟩ := h
    rcases hq with hq | hq
    · exact absurd h1 hq
    · rw [h2] at hq; simp at hq⟩
theorem ref_one {d a : Int} {l : List (Int × Int)} {r : Int × List (Int × Int) × Int} (h : validF d l = true) (hn : 0 ≤ sgnZ l) (e : l = [(a, 1)]) (hp : PartR d [(1, a * d)] r) : RefP d l r :=
  ref_of h hn ⟨fun h => by simp [e] at h, fun c ρ us h hq => by
    rw [e] at h
    simp only [List.cons.injEq, Prod.mk.injEq] at h
    obtain ⟨⟨_, h1⟩, h2⟩ := h
    rcases hq with hq | hq
    · exact absurd h1.symm hq
    · rw [← h2] at hq; simp at hq, fun a' h => by
    rw [e] at h
    simp only [List.cons.injEq, Prod.mk.injEq] at h
    rw [← h.1.1]; exact hp, fun a' b σ h => by rw [e] at h; simp at h⟩
theorem ref_two {d a b ρ : Int} {l : List (Int × Int)} {r : Int × List (Int × Int) × Int} (h : validF d l = true) (hn : 0 ≤ sgnZ l) (e : l = [(a, 1), (b, ρ)])
    (hp : ((a * a - b * b * ρ < 0 ∨ ∀ k : Nat, (k : Int) * k ≠ a * a - b * b * ρ) → r = (0, [], 11)) ∧ ∀ k : Nat, (k : Int) * k = a * a - b * b * ρ → PartR (2 * d) [(1, (a + k) * 2 * d), ((if b < 0 then -1 else 1), (a - k) * 2 * d)] r) : RefP d l r :=
  ref_of h hn ⟨fun h => by simp [e] at h, fun c σ us h hq => by
    rw [e] at h
    simp only [List.cons.injEq, Prod.mk.injEq] at h
    obtain ⟨⟨_, h1⟩, h2⟩ := h
    rcases hq with hq | hq
    · exact absurd h1.symm hq
    · rw [← h2] at hq; simp at hq, fun a' h => by rw [e] at h; simp at h, fun a' b' σ h => by
    rw [e] at h
    simp only [List.cons.injEq, Prod.mk.injEq] at h
    obtain ⟨⟨h1, _⟩, ⟨h2, h3⟩, _⟩ := h
    subst h1 h2 h3
    exact hp⟩
theorem root_pb {c n : Int} (hc : -1 ≤ c ∧ c ≤ 1) (h0 : 0 ≤ n) (h1 : n ≤ 1000000000000) : ∀ s : Int, 1 ≤ s → (s * s ≤ n ∨ s = 1) → -1000000 ≤ c * s ∧ c * s ≤ 1000000 := by
  intro s h2 h3
  have hs : s ≤ 1000000 := by
    rcases h3 with h3 | h3
    · rcases Int.lt_or_le 1000000 s with h | h
      · have := Int.mul_le_mul (show 1000001 ≤ s by omega) (show 1000001 ≤ s by omega) (by omega) (by omega)
        omega
      · exact h
    · omega
  have hcs : c = -1 ∨ c = 0 ∨ c = 1 := by omega
  rcases hcs with rfl | rfl | rfl <;> omega
theorem termsAt_two (w : World) (b cap : Nat) (t u : Int × Int) (hb : b < w.heap.size) (hcap : 2 ≤ cap) (h0 : w.cell? ⟨b, 0, none⟩ = some (.int .i64 t.1)) (h1 : w.cell? ⟨b, 1, none⟩ = some (.int .i64 t.2)) (h2 : w.cell? ⟨b, 2, none⟩ = some (.int .i64 u.1)) (h3 : w.cell? ⟨b, 3, none⟩ = some (.int .i64 u.2)) : TermsAt w (.slice (some ⟨b, 0, none⟩) 2 cap) [t, u] := by
  refine ⟨by simp, .inr ⟨b, 0, cap, rfl, by simpa using hcap, hb, fun i hi => ?_⟩⟩
  have hi : i = 0 ∨ i = 1 := by simp at hi; omega
  rcases hi with rfl | rfl
  · exact ⟨by simpa using h0, by simpa using h1⟩
  · exact ⟨by simpa using h2, by simpa using h3⟩
theorem four_at (w : World) (a b c d : Value) (T : TypeId) : (w.alloc (.cells #[a, b, c, d] T)).cell? ⟨w.heap.size, 0, none⟩ = some a ∧ (w.alloc (.cells #[a, b, c, d] T)).cell? ⟨w.heap.size, 1, none⟩ = some b ∧ (w.alloc (.cells #[a, b, c, d] T)).cell? ⟨w.heap.size, 2, none⟩ = some c ∧ (w.alloc (.cells #[a, b, c, d] T)).cell? ⟨w.heap.size, 3, none⟩ = some d := by
  have h : (w.alloc (.cells #[a, b, c, d] T)).heap[w.heap.size]? = some (.cells #[a, b, c, d] T (0, 0)) := by unfold World.alloc; simp
  generalize w.alloc (.cells #[a, b, c, d] T) = W at *
  generalize w.heap.size = n at *
  exact ⟨by simp [World.cell?, h], by simp [World.cell?, h], by simp [World.cell?, h], by simp [World.cell?, h]⟩
theorem mul_bd3 {a d A D : Int} (h0 : 0 ≤ a) (h1 : a ≤ A) (h2 : 1 ≤ d) (h3 : d ≤ D) : 0 ≤ a * d ∧ a * d ≤ A * D := ⟨Int.mul_nonneg h0 (by omega), Int.mul_le_mul h1 h3 (by omega) (by omega)⟩
theorem val_num {d : Int} {l : List (Int × Int)} (V : Vld d l) (hs : 0 ≤ sgnZ l) {a b ρ : Int} (e : l = [(a, 1), (b, ρ)]) {k : Nat} (hk : (k : Int) * k = a * a - b * b * ρ) : (k : Int) ≤ a ∧ 0 ≤ a := by
  have e1 : rootM l = a * a - b * b * ρ := by rw [e]; simp [rootM, binF]
  have e2 : (binF l).2.2 = true := by rw [e]; simp [binF]
  have e3 : (binF l).1 = a := by rw [e]; simp [binF]
  have hk0 : 0 ≤ (k : Int) * k := Int.mul_nonneg (Int.natCast_nonneg k) (Int.natCast_nonneg k)
  have a0 := bin_pos V (by omega) e2 (by rw [e1]; omega)
  rw [e3] at a0
  have hρ := (V.rt (b, ρ) (by rw [e]; simp)).1
  dsimp only at hρ
  have hb : 0 ≤ b * b * ρ := Int.mul_nonneg (by rcases Int.le_total 0 b with h | h; exact Int.mul_nonneg h h; exact Int.mul_nonneg_of_nonpos_of_nonpos h h) (by omega)
  refine ⟨?_, a0⟩
  rcases Int.lt_or_le a k with h | h
  · have := Int.mul_le_mul (show a + 1 ≤ (k : Int) by omega) (show a + 1 ≤ (k : Int) by omega) (by omega) (by omega)
    have e : (a + 1) * (a + 1) = a * a + 2 * a + 1 := by grind
    omega
  · exact h
theorem val_one {d : Int} {l : List (Int × Int)} (V : Vld d l) (hs : 0 ≤ sgnZ l) {a : Int} (e : l = [(a, 1)]) : 0 ≤ a := by
  have e1 : rootM l = a * a := by rw [e]; simp [rootM, binF]
  have e2 : (binF l).2.2 = true := by rw [e]; simp [binF]
  have e3 : (binF l).1 = a := by rw [e]; simp [binF]
  have a0 := bin_pos V (by omega) e2 (by rw [e1]; rcases Int.le_total 0 a with h | h; exact Int.mul_nonneg h h; exact Int.mul_nonneg_of_nonpos_of_nonpos h h)
  rwa [e3] at a0
def NumV (P : Int × List (Int × Int) × Int → Prop) (w : World) (e : Ending) (w' : World) : Prop := ∃ r v, P r ∧ e = .returned (.tuple #[.agg #[.int .i64 r.1, v], .int .i64 r.2.2]) ∧ TermsAt w' v r.2.1 ∧ Below w.heap.size w w'
set_option maxRecDepth 100000 in
set_option maxHeartbeats 16000000 in
theorem rroot_any (d : Int) (v : Value) (l : List (Int × Int)) (w : World) (hx : TermsAt w v l) :
    Calls Tryz.prog 32 #[.agg #[.int .i64 d, v]] w (NumV (RefP d l) w) := by
  obtain ⟨ax, cx, rfl, px⟩ := hx.placed
  have PX := Lib.hid px
  have HX := Lib.hid hx
  clear hx px
  go_enter Tryz.func32, Tryz.ntmps32
  go_wp2_with fail
  refine (number_any d _ l _ ((HX.out.alloc _).alloc _)).mono ?_
  rintro e w1 ⟨rfl, hb⟩
  have X1 : Two w1 w.heap.size (.int .i64 d) (.slice ax l.length cx) 24 := ((Two.new w (.int .i64 d) (.slice ax l.length cx) 24).alloc _).below hb (by simp; omega)
  have R1 : Two w1 (w.heap.size + 1) (.int .i64 0) (.slice none 0 0) 24 := by
    have := (Two.new (w.alloc (.cells #[.int .i64 d, .slice ax l.length cx] 24)) (.int .i64 0) (.slice none 0 0) 24).below hb (by simp)
    simpa using this
  have B1 : Below w.heap.size w w1 := (((Below.refl _ _).alloc (Nat.le_refl _) _).alloc (by simp) _).trans (hb.mono (by simp; omega))
  have XX1 := Lib.hid X1
  have RR1 := Lib.hid R1
  have BB1 := Lib.hid B1
  clear hb X1 R1 B1
  have x0 := XX1.out.c0
  have x1 := XX1.out.c1
  have r0 := RR1.out.c0
  have r1 := RR1.out.c1
  have f0 := RR1.out.fr (i := 0)
  have f1 := RR1.out.fr (i := 1)
  cases hv : validF d l
  · have HV := Lib.hid hv
    clear hv
    have HP : Hid (RefP d l (0, [], 2)) := Lib.hid (ref_bad (by rw [HV.out]; decide))
    go_wp2
    obtain ⟨d0, d1, d2, hg⟩ := two_after RR1.out (.int .i64 0) (.slice none 0 0) rfl
    refine bodyPost_ret (v := .tuple #[.agg #[.int .i64 0, .slice none 0 0], .int .i64 2]) ?_ rfl ?_
    · simp [results, Tryz.results32, go_sem, d0, d1, d2]
    · exact ⟨_, _, HP.out, rfl, termsAt_nil _, BB1.out.grown hg BB1.out.size (by intro k hk; cases hk; omega)⟩
  have HV := Lib.hid hv
  have VV := Lib.hid (vld_of hv)
  clear hv
  go_wp2_with fail
  refine (rsign_vldR VV.out _ _ (HX.out.below BB1.out)).mono ?_
  rintro e w2 ⟨rfl, hb⟩
  clear x0 x1 r0 r1 f0 f1
  have XX2 := Lib.hid (XX1.out.below hb XX1.out.lt)
  have RR2 := Lib.hid (RR1.out.below hb RR1.out.lt)
  have BB2 := Lib.hid (BB1.out.trans (hb.mono BB1.out.size))
  clear hb XX1 RR1 BB1
  have x0 := XX2.out.c0
  have x1 := XX2.out.c1
  have r0 := RR2.out.c0
  have r1 := RR2.out.c1
  have f0 := RR2.out.fr (i := 0)
  have f1 := RR2.out.fr (i := 1)
  have hsz : w.heap.size + 1 < w2.heap.size := RR2.out.lt
  obtain ⟨sg, hsg⟩ : ∃ s, sgnZ l = s := ⟨_, rfl⟩
  rw [hsg]
  have HSG := Lib.hid hsg
  clear hsg
  by_cases hneg : sg < 0
  · have HNG := Lib.hid hneg
    have hd : decide (sg < 0) = true := decide_eq_true hneg
    clear hneg
    have HP : Hid (RefP d l (0, [], 3)) := Lib.hid (ref_neg HV.out (by rw [HSG.out]; exact HNG.out))
    go_wp2
    obtain ⟨d0, d1, d2, hg⟩ := two_after RR2.out (.int .i64 0) (.slice none 0 0) rfl
    refine bodyPost_ret (v := .tuple #[.agg #[.int .i64 0, .slice none 0 0], .int .i64 3]) ?_ rfl ?_
    · simp [results, Tryz.results32, go_sem, d0, d1, d2]
    · exact ⟨_, _, HP.out, rfl, termsAt_nil _, BB2.out.grown hg BB2.out.size (by intro k hk; cases hk; omega)⟩
  have hd : decide (sg < 0) = false := decide_eq_false hneg
  have HNG : Hid (0 ≤ sgnZ l) := Lib.hid (by rw [HSG.out]; omega)
  clear hneg HSG
  by_cases hl0 : l.length = 0
  · have hq0 : ((l.length : Int) == 0) = true := by simpa using hl0
    have HP : Hid (RefP d l (d, l, 0)) := Lib.hid (ref_nil HV.out HNG.out (List.length_eq_zero_iff.1 hl0))
    have HL0 := Lib.hid hl0
    clear hl0
    go_wp2
    obtain ⟨d0, d1, d2, hg⟩ := two_after RR2.out (.int .i64 d) (.slice ax l.length cx) rfl
    refine bodyPost_ret (v := .tuple #[.agg #[.int .i64 d, .slice ax l.length cx], .int .i64 0]) ?_ rfl ?_
    · simp [results, Tryz.results32, go_sem, d0, d1, d2]
    · refine ⟨_, _, HP.out, rfl, ?_, BB2.out.grown hg BB2.out.size (by intro k hk; cases hk; omega)⟩
      obtain rfl : l = [] := List.length_eq_zero_iff.1 HL0.out
      exact ⟨by simp, .inl ⟨rfl, _, _, rfl⟩⟩
  have hq0 : ((l.length : Int) == 0) = false := by simpa using hl0
  obtain ⟨a, ρ, us, hl⟩ : ∃ a ρ us, l = (a, ρ) :: us := by
    match l, hl0 with
    | [], h => simp at h
    | (a, ρ) :: us, _ => exact ⟨a, ρ, us, rfl⟩
  have HL := Lib.hid hl
  have HN : Hid (l.length = us.length + 1) := Lib.hid (by rw [hl]; rfl)
  clear hl
  obtain ⟨b0, off, rfl, hbl, hp1, hp2⟩ := PX.out 0 (by omega)
  have e0 : l[0]?.getD (0, 0) = (a, ρ) := by rw [HL.out]; rfl
  rw [e0] at hp1 hp2
  simp only [Nat.zero_mul, Nat.add_zero] at hp1 hp2
  have HC1 := Lib.hid ((BB2.out.cell (p := ⟨b0, _, none⟩) hbl).trans hp1)
  have HC2 := Lib.hid ((BB2.out.cell (p := ⟨b0, _, none⟩) hbl).trans hp2)
  have HBL : Hid (b0 < w2.heap.size) := Lib.hid (by omega)
  clear hp1 hp2 e0
  have hc1 := HC1.out
  have hc2 := HC2.out
  try dsimp only at hc1 hc2
  have hi0 : (0 : Int) < (l.length : Int) := by omega
  have hbl2 := HBL.out
  clear hl0
  by_cases hform : ρ ≠ 1 ∨ 1 < us.length
  · have HF : Hid (RefP d l (0, [], 11)) := Lib.hid (ref_form HV.out HNG.out HL.out hform)
    by_cases hρ : ρ = 1
    · subst hρ
      have hd2 : decide ((2 : Int) < (l.length : Int)) = true := decide_eq_true (by have := HN.out; omega)
      clear hform
      have HP : Hid (RefP d l (0, [], 11)) := Lib.hid (HF.out)
      go_wp2
      obtain ⟨d0, d1, d2, hg⟩ := two_after RR2.out (.int .i64 0) (.slice none 0 0) rfl
      refine bodyPost_ret (v := .tuple #[.agg #[.int .i64 0, .slice none 0 0], .int .i64 11]) ?_ rfl ?_
      · simp [results, Tryz.results32, go_sem, d0, d1, d2]
      · exact ⟨_, _, HP.out, rfl, termsAt_nil _, BB2.out.grown hg BB2.out.size (by intro k hk; cases hk; omega)⟩
    · have hq1 : (ρ != 1) = true := by simpa using hρ
      clear hform hρ
      have HP : Hid (RefP d l (0, [], 11)) := Lib.hid (HF.out)
      go_wp2
      obtain ⟨d0, d1, d2, hg⟩ := two_after RR2.out (.int .i64 0) (.slice none 0 0) rfl
      refine bodyPost_ret (v := .tuple #[.agg #[.int .i64 0, .slice none 0 0], .int .i64 11]) ?_ rfl ?_
      · simp [results, Tryz.results32, go_sem, d0, d1, d2]
      · exact ⟨_, _, HP.out, rfl, termsAt_nil _, BB2.out.grown hg BB2.out.size (by intro k hk; cases hk; omega)⟩
  obtain rfl : ρ = 1 := by omega
  have hus : us.length ≤ 1 := by omega
  clear hform
  have hd2 : decide ((2 : Int) < (l.length : Int)) = false := decide_eq_false (by have := HN.out; omega)
  have hbda := VV.out.cf (a, 1) (by rw [HL.out]; simp)
  dsimp only at hbda
  have hd1 := VV.out.d1
  have hdM := VV.out.d2
  obtain ⟨ha1, ha2, _⟩ := hbda
  by_cases hone : us.length = 0
  · have HE : Hid (l = [(a, 1)]) := Lib.hid (by rw [HL.out, List.length_eq_zero_iff.1 hone])
    have hq2 : ((l.length : Int) == 1) = true := by have := HN.out; simp; omega
    have ha0 := val_one VV.out HNG.out HE.out
    have hm := mul_bd3 ha0 ha2 hd1 hdM
    have hw1 : IntKind.i64.wrap (a * d) = a * d := IntWalk.i64_in _ (by omega)
    have HREF : Hid (∀ r, PartR d [(1, a * d)] r → RefP d l r) := Lib.hid fun r h => ref_one HV.out HNG.out HE.out h
    have HPB : Hid (PB [(1, a * d)] 1000000) := Lib.hid (fun t ht => by
      obtain rfl : t = (1, a * d) := by simpa using ht
      exact ⟨hm.1, by omega, root_pb (by omega) hm.1 (by omega)⟩)
    have HA := Lib.hid ((Below.refl w2.heap.size w2).alloc (Nat.le_refl _) (.cells #[.int .i64 1, .int .i64 (a * d)] 34))
    have T7 := Two.new w2 (.int .i64 1) (.int .i64 (a * d)) 34
    have HTQ : Hid (TermsAt (w2.alloc (.cells #[.int .i64 1, .int .i64 (a * d)] 34)) (.slice (some ⟨w2.heap.size, 0, none⟩) 1 1) [(1, a * d)]) := Lib.hid (termsAt_one _ _ 1 (1, a * d) T7.lt (Nat.le_refl _) T7.c0 T7.c1)
    clear hm T7 hone
    go_wp2_with fail
    refine (parts_any d 1000000 _ [(1, a * d)] _ HTQ.out (by simp) (by decide) (by simp) HPB.out (by omega) (by omega) (by omega)).mono ?_
    have XX3 := Lib.hid (XX2.out.below HA.out XX2.out.lt)
    have RR3 := Lib.hid (RR2.out.below HA.out RR2.out.lt)
    have BB3 := Lib.hid (BB2.out.trans (HA.out.mono BB2.out.size))
    rintro e w7 ⟨us, hsp, lf, hit, hlf, v, rfl, hta, hbw, hfr⟩
    have HP := Lib.hid (HREF.out _ ⟨us, lf, hsp, hit, rfl⟩)
    obtain ⟨r, hr⟩ : ∃ r, finF (d) lf = r := ⟨_, rfl⟩
    rw [hr] at hta HP
    rw [hr]
    have RR7 := Lib.hid (RR3.out.below hbw RR3.out.lt)
    have BB7 := Lib.hid (BB3.out.trans (hbw.mono BB3.out.size))
    have HFR : Hid (∀ k, v.ownBlock = some k → w.heap.size + 1 < k) := Lib.hid (fun k hk => by have := hfr k hk; have := RR3.out.lt; omega)
    have HTA := Lib.hid hta
    obtain ⟨a7, cap7, rfl, _⟩ := HTA.out.placed
    clear hta hbw hfr hit hr hsp x0 x1 r0 r1 f0 f1
    have r0 := RR7.out.c0
    have r1 := RR7.out.c1
    have f0 := RR7.out.fr (i := 0)
    have f1 := RR7.out.fr (i := 1)
    go_wp2
    obtain ⟨d0, d1, d2, hg⟩ := two_after RR7.out (.int .i64 r.1) (.slice a7 r.2.1.length cap7) rfl
    refine bodyPost_ret (v := .tuple #[.agg #[.int .i64 r.1, .slice a7 r.2.1.length cap7], .int .i64 r.2.2]) ?_ rfl ?_
    · simp [results, Tryz.results32, go_sem, d0, d1, d2]
    · refine ⟨_, _, HP.out, rfl, HTA.out.kept hg ?_, BB7.out.grown hg BB7.out.size (by intro k hk; cases hk; omega)⟩
      cases hv : (Value.slice a7 r.2.1.length cap7).ownBlock with
      | none => exact .inl rfl
      | some k => right; have := HFR.out k hv; simp; omega
  · obtain ⟨bq, σ, hu⟩ : ∃ b σ, us = [(b, σ)] := by
      match us, hone, hus with
      | [], h, _ => simp at h
      | [(b, σ)], _, _ => exact ⟨b, σ, rfl⟩
      | _ :: _ :: _, _, h => simp at h
    have HE : Hid (l = [(a, 1), (bq, σ)]) := Lib.hid (by rw [HL.out, hu])
    have HN2 : Hid (l.length = 2) := Lib.hid (by rw [HE.out]; rfl)
    clear hu hone hus HN
    have hq2 : ((l.length : Int) == 1) = false := by have := HN2.out; simp; omega
    have hi1 : (1 : Int) < (l.length : Int) := by have := HN2.out; omega
    obtain ⟨b1, off1, he1, hbl1, hp1, hp2⟩ := PX.out 1 (by omega)
    cases he1
    have e1 : l[1]?.getD (0, 0) = (bq, σ) := by rw [HE.out]; rfl
    rw [e1] at hp1 hp2
    simp only [Nat.one_mul] at hp1 hp2
    have hc3 := (BB2.out.cell (p := ⟨b0, _, none⟩) hbl).trans hp1
    have hc4 : w2.cell? ⟨b0, off + 3, none⟩ = some (.int .i64 σ) := (BB2.out.cell (p := ⟨b0, _, none⟩) hbl).trans hp2
    try dsimp only at hc3
    have hbb := VV.out.cf (bq, σ) (by rw [HE.out]; simp)
    have hrt := vld_rt VV.out (bq, σ) (by rw [HE.out]; simp)
    dsimp only at hbb hrt
    obtain ⟨hb1, hb2, _⟩ := hbb
    obtain ⟨⟨hs1, _⟩, hs2⟩ := hrt
    clear e1 hp1 hp2
    have q1 := sq_bd2 (a, 1) ⟨⟨ha1, ha2⟩, by omega, by omega⟩
    have q2 := sq_bd2 (bq, σ) ⟨⟨hb1, hb2⟩, by omega, by omega⟩
    dsimp only at q1 q2
    obtain ⟨w3, hw3⟩ : ∃ W, w2.alloc (.cells #[.int .i64 bq, .int .i64 σ] 34) = W := ⟨_, rfl⟩
    have hA3 : Below w2.heap.size w2 w3 := by rw [← hw3]; exact (Below.refl _ _).alloc (Nat.le_refl _) _
    have T3 : Two w3 w2.heap.size (.int .i64 bq) (.int .i64 σ) 34 := by rw [← hw3]; exact Two.new _ _ _ _
    have XX3 := Lib.hid (XX2.out.below hA3 XX2.out.lt)
    have RR3 := Lib.hid (RR2.out.below hA3 RR2.out.lt)
    have BB3 := Lib.hid (BB2.out.trans (hA3.mono BB2.out.size))
    have HW3 := Lib.hid hw3
    obtain ⟨m, hm⟩ : ∃ m, a * a - bq * bq * σ = m := ⟨_, rfl⟩
    have hw1 : IntKind.i64.wrap (a * a) = a * a := IntWalk.i64_in _ (by omega)
    have hw2 : IntKind.i64.wrap (bq * bq) = bq * bq := IntWalk.i64_in _ (by omega)
    have hw4 : IntKind.i64.wrap (bq * bq * σ) = bq * bq * σ := IntWalk.i64_in _ (by omega)
    have hw5 : IntKind.i64.wrap (a * a - bq * bq * σ) = m := by rw [hm]; exact IntWalk.i64_in _ (by omega)
    have hmb : m ≤ 10000000000 := by omega
    have HM := Lib.hid hm
    have HMB := Lib.hid hmb
    have T3H := Lib.hid T3
    clear hm hmb q1 q2 T3 hA3 hw3
    go_upto_region 13 with fail
    rw [HW3.out]
    clear x0 x1 r0 r1 f0 f1 hc1 hc2 hc3 hc4
    have x0 := XX3.out.c0
    have x1 := XX3.out.c1
    have r0 := RR3.out.c0
    have r1 := RR3.out.c1
    have f0 := RR3.out.fr (i := 0)
    have f1 := RR3.out.fr (i := 1)
    have t0 := T3H.out.c0
    have t1 := T3H.out.c1
    have t2 := T3H.out.lt
    have hsz3 : w.heap.size + 1 < w3.heap.size := RR3.out.lt
    by_cases hm0 : 0 ≤ m
    rotate_left
    · have hd3 : decide (0 ≤ m) = false := decide_eq_false hm0
      have HF : Hid (RefP d l (0, [], 11)) := Lib.hid (ref_two HV.out HNG.out HE.out ⟨fun _ => rfl, fun k hk => by
        have := Int.mul_nonneg (Int.natCast_nonneg k) (Int.natCast_nonneg k)
        rw [HM.out] at hk
        omega⟩)
      clear hm0
      have HP : Hid (RefP d l (0, [], 11)) := Lib.hid (HF.out)
      go_wp2
      obtain ⟨d0, d1, d2, hg⟩ := two_after RR3.out (.int .i64 0) (.slice none 0 0) rfl
      refine bodyPost_ret (v := .tuple #[.agg #[.int .i64 0, .slice none 0 0], .int .i64 11]) ?_ rfl ?_
      · simp [results, Tryz.results32, go_sem, d0, d1, d2]
      · exact ⟨_, _, HP.out, rfl, termsAt_nil _, BB3.out.grown hg BB3.out.size (by intro k hk; cases hk; omega)⟩
    have hd3 : decide (0 ≤ m) = true := decide_eq_true hm0
    have HM0 := Lib.hid hm0
    clear hm0
    go_wp2_with fail
    refine (exact_any m HM0.out (by have := HMB.out; omega) _).mono ?_
    rintro e w3 ⟨r, hr, rfl, rfl⟩
    rcases hr with ⟨k, hk, rfl⟩ | ⟨hk, rfl⟩
    rotate_left
    · have HF : Hid (RefP d l (0, [], 11)) := Lib.hid (ref_two HV.out HNG.out HE.out ⟨fun _ => rfl, fun k' hk' => by rw [HM.out] at hk'; exact absurd hk' (hk k')⟩)
      clear hk
      have HP : Hid (RefP d l (0, [], 11)) := Lib.hid (HF.out)
      go_wp2
      obtain ⟨d0, d1, d2, hg⟩ := two_after RR3.out (.int .i64 0) (.slice none 0 0) rfl
      refine bodyPost_ret (v := .tuple #[.agg #[.int .i64 0, .slice none 0 0], .int .i64 11]) ?_ rfl ?_
      · simp [results, Tryz.results32, go_sem, d0, d1, d2]
      · exact ⟨_, _, HP.out, rfl, termsAt_nil _, BB3.out.grown hg BB3.out.size (by intro k hk; cases hk; omega)⟩
    have HK := Lib.hid hk
    have hka := val_num VV.out HNG.out HE.out (k := k) (by rw [hk, HM.out])
    have hk0 : (0 : Int) ≤ (k : Int) := Int.natCast_nonneg k
    have hd4 : decide ((k : Int) < 0) = false := decide_eq_false (by omega)
    have m1 := mul_bd3 (a := (a + k) * 2) (A := 400000) (by omega) (by omega) hd1 hdM
    have m2 := mul_bd3 (a := (a - k) * 2) (A := 400000) (by omega) (by omega) hd1 hdM
    have hv1 : IntKind.i64.wrap (2 * d) = 2 * d := IntWalk.i64_in _ (by omega)
    have hv2 : IntKind.i64.wrap (a + k) = a + k := IntWalk.i64_in _ (by omega)
    have hv3 : IntKind.i64.wrap ((a + k) * 2) = (a + k) * 2 := IntWalk.i64_in _ (by omega)
    have hv4 : IntKind.i64.wrap ((a + k) * 2 * d) = (a + k) * 2 * d := IntWalk.i64_in _ (by omega)
    have hv5 : IntKind.i64.wrap (a - k) = a - k := IntWalk.i64_in _ (by omega)
    have hv6 : IntKind.i64.wrap ((a - k) * 2) = (a - k) * 2 := IntWalk.i64_in _ (by omega)
    have hv7 : IntKind.i64.wrap ((a - k) * 2 * d) = (a - k) * 2 * d := IntWalk.i64_in _ (by omega)
    have HM1 := Lib.hid m1
    have HM2 := Lib.hid m2
    clear m1 m2 hk hka hk0
    by_cases hbn : bq < 0
    · have hdn : decide (bq < 0) = true := decide_eq_true hbn
      have HREF : Hid (∀ r, PartR (2 * d) [(1, (a + k) * 2 * d), (-1, (a - k) * 2 * d)] r → RefP d l r) := Lib.hid fun r h => ref_two HV.out HNG.out HE.out ⟨fun h' => by
        rcases h' with h' | h'
        · have := HM0.out; rw [HM.out] at h'; omega
        · exact absurd (by rw [HM.out]; exact HK.out) (h' k), fun k' hk' => by
        have e : (k' : Int) = (k : Int) := sq_inj (Int.natCast_nonneg _) (Int.natCast_nonneg _) (by rw [hk', HK.out, HM.out])
        rw [e, if_pos hbn]
        exact h⟩
      have HA := Lib.hid ((Below.refl w3.heap.size w3).alloc (Nat.le_refl _) (.cells #[.int .i64 1, .int .i64 ((a + k) * 2 * d), .int .i64 (-1), .int .i64 ((a - k) * 2 * d)] 34))
      have HTQ : Hid (TermsAt (w3.alloc (.cells #[.int .i64 1, .int .i64 ((a + k) * 2 * d), .int .i64 (-1), .int .i64 ((a - k) * 2 * d)] 34)) (.slice (some ⟨w3.heap.size, 0, none⟩) 2 2) [(1, (a + k) * 2 * d), (-1, (a - k) * 2 * d)]) := Lib.hid (termsAt_two _ _ 2 (1, (a + k) * 2 * d) (-1, (a - k) * 2 * d) (by simp) (Nat.le_refl _) (four_at _ _ _ _ _ _).1 (four_at _ _ _ _ _ _).2.1 (four_at _ _ _ _ _ _).2.2.1 (four_at _ _ _ _ _ _).2.2.2)
      have HPB : Hid (PB [(1, (a + k) * 2 * d), (-1, (a - k) * 2 * d)] 1000000) := Lib.hid (fun t ht => by
        have ht : t = (1, (a + k) * 2 * d) ∨ t = (-1, (a - k) * 2 * d) := by simpa using ht
        rcases ht with rfl | rfl
        · exact ⟨HM1.out.1, by have := HM1.out.2; omega, root_pb (by omega) HM1.out.1 (by have := HM1.out.2; omega)⟩
        · exact ⟨HM2.out.1, by have := HM2.out.2; omega, root_pb (by omega) HM2.out.1 (by have := HM2.out.2; omega)⟩)
      clear hbn
      go_wp2_with fail
      refine (parts_any (2 * d) 1000000 _ [(1, (a + k) * 2 * d), (-1, (a - k) * 2 * d)] _ HTQ.out (by simp) (by decide) (by simp) HPB.out (by omega) (by omega) (by omega)).mono ?_
      have XX4 := Lib.hid (XX3.out.below HA.out XX3.out.lt)
      have RR4 := Lib.hid (RR3.out.below HA.out RR3.out.lt)
      have BB4 := Lib.hid (BB3.out.trans (HA.out.mono BB3.out.size))
      rintro e w7 ⟨us, hsp, lf, hit, hlf, v, rfl, hta, hbw, hfr⟩
      have HP := Lib.hid (HREF.out _ ⟨us, lf, hsp, hit, rfl⟩)
      obtain ⟨r, hr⟩ : ∃ r, finF (2 * d) lf = r := ⟨_, rfl⟩
      rw [hr] at hta HP
      rw [hr]
      have RR7 := Lib.hid (RR4.out.below hbw RR4.out.lt)
      have BB7 := Lib.hid (BB4.out.trans (hbw.mono BB4.out.size))
      have HFR : Hid (∀ k, v.ownBlock = some k → w.heap.size + 1 < k) := Lib.hid (fun k hk => by have := hfr k hk; have := RR4.out.lt; omega)
      have HTA := Lib.hid hta
      obtain ⟨a7, cap7, rfl, _⟩ := HTA.out.placed
      clear hta hbw hfr hit hr hsp x0 x1 r0 r1 f0 f1
      have r0 := RR7.out.c0
      have r1 := RR7.out.c1
      have f0 := RR7.out.fr (i := 0)
      have f1 := RR7.out.fr (i := 1)
      go_wp2
      obtain ⟨d0, d1, d2, hg⟩ := two_after RR7.out (.int .i64 r.1) (.slice a7 r.2.1.length cap7) rfl
      refine bodyPost_ret (v := .tuple #[.agg #[.int .i64 r.1, .slice a7 r.2.1.length cap7], .int .i64 r.2.2]) ?_ rfl ?_
      · simp [results, Tryz.results32, go_sem, d0, d1, d2]
      · refine ⟨_, _, HP.out, rfl, HTA.out.kept hg ?_, BB7.out.grown hg BB7.out.size (by intro k hk; cases hk; omega)⟩
        cases hv : (Value.slice a7 r.2.1.length cap7).ownBlock with
        | none => exact .inl rfl
        | some k => right; have := HFR.out k hv; simp; omega
    · have hdn : decide (bq < 0) = false := decide_eq_false hbn
      have HREF : Hid (∀ r, PartR (2 * d) [(1, (a + k) * 2 * d), (1, (a - k) * 2 * d)] r → RefP d l r) := Lib.hid fun r h => ref_two HV.out HNG.out HE.out ⟨fun h' => by
        rcases h' with h' | h'
        · have := HM0.out; rw [HM.out] at h'; omega
        · exact absurd (by rw [HM.out]; exact HK.out) (h' k), fun k' hk' => by
        have e : (k' : Int) = (k : Int) := sq_inj (Int.natCast_nonneg _) (Int.natCast_nonneg _) (by rw [hk', HK.out, HM.out])
        rw [e, if_neg hbn]
        exact h⟩
      have HA := Lib.hid ((Below.refl w3.heap.size w3).alloc (Nat.le_refl _) (.cells #[.int .i64 1, .int .i64 ((a + k) * 2 * d), .int .i64 (1), .int .i64 ((a - k) * 2 * d)] 34))
      have HTQ : Hid (TermsAt (w3.alloc (.cells #[.int .i64 1, .int .i64 ((a + k) * 2 * d), .int .i64 (1), .int .i64 ((a - k) * 2 * d)] 34)) (.slice (some ⟨w3.heap.size, 0, none⟩) 2 2) [(1, (a + k) * 2 * d), (1, (a - k) * 2 * d)]) := Lib.hid (termsAt_two _ _ 2 (1, (a + k) * 2 * d) (1, (a - k) * 2 * d) (by simp) (Nat.le_refl _) (four_at _ _ _ _ _ _).1 (four_at _ _ _ _ _ _).2.1 (four_at _ _ _ _ _ _).2.2.1 (four_at _ _ _ _ _ _).2.2.2)
      have HPB : Hid (PB [(1, (a + k) * 2 * d), (1, (a - k) * 2 * d)] 1000000) := Lib.hid (fun t ht => by
        have ht : t = (1, (a + k) * 2 * d) ∨ t = (1, (a - k) * 2 * d) := by simpa using ht
        rcases ht with rfl | rfl
        · exact ⟨HM1.out.1, by have := HM1.out.2; omega, root_pb (by omega) HM1.out.1 (by have := HM1.out.2; omega)⟩
        · exact ⟨HM2.out.1, by have := HM2.out.2; omega, root_pb (by omega) HM2.out.1 (by have := HM2.out.2; omega)⟩)
      clear hbn
      go_wp2_with fail
      refine (parts_any (2 * d) 1000000 _ [(1, (a + k) * 2 * d), (1, (a - k) * 2 * d)] _ HTQ.out (by simp) (by decide) (by simp) HPB.out (by omega) (by omega) (by omega)).mono ?_
      have XX4 := Lib.hid (XX3.out.below HA.out XX3.out.lt)
      have RR4 := Lib.hid (RR3.out.below HA.out RR3.out.lt)
      have BB4 := Lib.hid (BB3.out.trans (HA.out.mono BB3.out.size))
      rintro e w7 ⟨us, hsp, lf, hit, hlf, v, rfl, hta, hbw, hfr⟩
      have HP := Lib.hid (HREF.out _ ⟨us, lf, hsp, hit, rfl⟩)
      obtain ⟨r, hr⟩ : ∃ r, finF (2 * d) lf = r := ⟨_, rfl⟩
      rw [hr] at hta HP
      rw [hr]
      have RR7 := Lib.hid (RR4.out.below hbw RR4.out.lt)
      have BB7 := Lib.hid (BB4.out.trans (hbw.mono BB4.out.size))
      have HFR : Hid (∀ k, v.ownBlock = some k → w.heap.size + 1 < k) := Lib.hid (fun k hk => by have := hfr k hk; have := RR4.out.lt; omega)
      have HTA := Lib.hid hta
      obtain ⟨a7, cap7, rfl, _⟩ := HTA.out.placed
      clear hta hbw hfr hit hr hsp x0 x1 r0 r1 f0 f1
      have r0 := RR7.out.c0
      have r1 := RR7.out.c1
      have f0 := RR7.out.fr (i := 0)
      have f1 := RR7.out.fr (i := 1)
      go_wp2
      obtain ⟨d0, d1, d2, hg⟩ := two_after RR7.out (.int .i64 r.1) (.slice a7 r.2.1.length cap7) rfl
      refine bodyPost_ret (v := .tuple #[.agg #[.int .i64 r.1, .slice a7 r.2.1.length cap7], .int .i64 r.2.2]) ?_ rfl ?_
      · simp [results, Tryz.results32, go_sem, d0, d1, d2]
      · refine ⟨_, _, HP.out, rfl, HTA.out.kept hg ?_, BB7.out.grown hg BB7.out.size (by intro k hk; cases hk; omega)⟩
        cases hv : (Value.slice a7 r.2.1.length cap7).ownBlock with
        | none => exact .inl rfl
        | some k => right; have := HFR.out k hv; simp; omega
end Go.Proofs.YtedpafdfecofnaaGreatDoor
