/-
  Contracts of the program's own functions (and their plain mathematics), on the way to the law: each for all arguments that its hypotheses let.
-/
import Derived.Test.YtkjclafbpocabaaGreatDoorG31
import Derived.WalkKit
import Derived.WalkSpells
import Derived.WalkLawsBesides
import Derived.Deep.QuietTactic
import Derived.BigQuiet
import Derived.Lib.Hide
import Derived.WalkSmall
import Derived.Maps.OwnSet
import Derived.Maps.RangeWalk
import Derived.Deep.RegionWith
import Derived.Deep.RegionHeld3
import Derived.Deep.DrawnRows
import Derived.Deep.DeepCutAuto
import Derived.OneCell
import Derived.KernelRfl
import Derived.Laws.StructEq
import Derived.StillTailTactics
import Derived.Laws.Externs
import Derived.RangeFuncBox
import Derived.Test.YtkjclafbpocabaaGreatDoorPlain
set_option linter.unusedSimpArgs false
set_option linter.unusedVariables false

/-! ## Y2 -/
namespace Go.Proofs.YtkjclafbpocabaaGreatDoor
open Go.RowKit Go.Maps Go.Shelf Go.Sort
theorem quo_err2 {d e p q p' q' : Int} {l m : List (Int × Int)} (x : Val d l p q) (y : Val e m p' q') (hp : 1 ≤ p') {r : Int × List (Int × Int) × Int} (h : quoF d l e m r) : r.2.2 = 0 ∨ r.2.2 = 10 := by
  rcases val_quo x y hp h with ⟨e, _⟩ | rfl
  · exact .inl e
  · exact .inr rfl
/-- What the factor is: refused as over, or c times the root of k over D, squared the quotient of the areas. -/
theorem year_factor {da db p q u v fr to_ : Int} {la lb : List (Int × Int)} (VA : Hid (Val da la p q)) (VB : Hid (Val db lb u v)) (HR : Hid (YRange p q u v fr to_)) {Y Z : Int} (y1 : 0 ≤ Y) (y2 : Y ≤ 256) (z1 : 0 ≤ Z) (z2 : Z ≤ 256) {r : Int × List (Int × Int) × Int} (h : FactorR da la db lb Y Z r) :
    r.2.2 = 10 ∨ (r.2.2 = 0 ∧ ∃ (D c k : Int) (m : Int × List (Int × Int) × Int), r = (D, [(c, k)], 0) ∧ Vld D [(c, k)] ∧ 1 ≤ c ∧ Rt k ∧ Val m.1 m.2.1 ((q * (u * Z) + v * p) * (v * q)) ((v * q) * (q * (u * Y) + v * p)) ∧ c * c * k * ((v * q) * (q * (u * Y) + v * p)) = (q * (u * Z) + v * p) * (v * q) * (D * D) ∧ RootP m.1 m.2.1 (D, [(c, k)], 0)) := by
  obtain ⟨p1, p2, q1, q2, u1, u2, v1, v2, -, -, -, -⟩ := HR.out
  obtain ⟨rb, ra, hb, ha, hf⟩ := factor_val VA.out VB.out p1 p2 q1 q2 u1 u2 v1 v2 y1 y2 z1 z2 h
  have gb := grown_val VA.out VB.out p1 p2 q1 q2 u1 u2 v1 v2 y1 y2 hb
  have ga := grown_val VA.out VB.out p1 p2 q1 q2 u1 u2 v1 v2 z1 z2 ha
  rcases fact_val gb.2.1 ga.2.1 gb.2.2 ga.2.2 hf with e | ⟨m, _, _, hm, D, c, k, e, v0, hc, hk, he, hr⟩
  · left; rw [e]
  · right
    rw [e] at hr ⊢
    exact ⟨rfl, D, c, k, m, rfl, v0, hc, hk, hm, he, hr⟩
theorem year_pos {da db p q u v fr to_ : Int} {la lb : List (Int × Int)} (VA : Hid (Val da la p q)) (VB : Hid (Val db lb u v)) (HR : Hid (YRange p q u v fr to_)) {Y : Int} (y1 : 0 ≤ Y) (y2 : Y ≤ 256) {r : Int × List (Int × Int) × Int} (h : GrownR da la db lb Y r) : 1 ≤ q * (u * Y) + v * p := by
  obtain ⟨p1, p2, q1, q2, u1, u2, v1, v2, -, -, -, -⟩ := HR.out
  exact (grown_val VA.out VB.out p1 p2 q1 q2 u1 u2 v1 v2 y1 y2 h).2.2
theorem prod_same (c b k : Int) (hk : 1 ≤ k) : prodL [(c, k)] [(b, k)] = [(c * b * k, 1)] := by
  have e0 : prodL [(c, k)] [(b, k)] = [mulT (c, k) (b, k)] := by simp [prodL]
  rw [e0]
  have hg : (Int.gcd k k : Int) = k := by rw [Int.gcd_self]; omega
  simp only [mulT, hg, Int.ediv_self (show k ≠ 0 by omega)]
  simp
/-- The factor times the factor back is 1. -/
theorem back_one {D c k E b j X Z N : Int} (v1 : Vld D [(c, k)]) (hc : 1 ≤ c) (hk : Rt k) (v2 : Vld E [(b, j)]) (hb : 1 ≤ b) (hj : Rt j) (hX : 1 ≤ X) (hZ : 1 ≤ Z) (hN : 1 ≤ N)
    (e1 : c * c * k * (N * X) = Z * N * (D * D)) (e2 : b * b * j * (N * Z) = X * N * (E * E)) {s : Int × List (Int × Int) × Int} (hs : mulF D [(c, k)] E [(b, j)] s) : s = (1, [(1, 1)], 0) := by
  have hD := v1.d1
  have hE := v2.d1
  have hk1 := hk.1
  have hj1 := hj.1
  have p1 : c * c * k * X = Z * (D * D) := by
    refine cancel_r (k := N) (by omega) ?_
    have : c * c * k * X * N = c * c * k * (N * X) := by grind
    rw [this, e1]; grind
  have p2 : b * b * j * Z = X * (E * E) := by
    refine cancel_r (k := N) (by omega) ?_
    have : b * b * j * Z * N = b * b * j * (N * Z) := by grind
    rw [this, e2]; grind
  have p3 : c * c * k * (b * b * j) = D * D * (E * E) := by
    refine cancel_r (k := X * Z) (by have := Int.mul_pos (show 0 < X by omega) (show 0 < Z by omega); omega) ?_
    have : c * c * k * (b * b * j) * (X * Z) = (c * c * k * X) * (b * b * j * Z) := by grind
    rw [this, p1, p2]; grind
  have c1 : 1 ≤ c * b := by have := Int.mul_le_mul hc hb (by omega) (by omega); omega
  have c2 : 1 ≤ c * b * k := by have := Int.mul_le_mul c1 hk1 (by omega) (by omega); omega
  have c3 : 1 ≤ D * E := by have := Int.mul_le_mul hD hE (by omega) (by omega); omega
  obtain ⟨e, f⟩ := rat_uniq (X := c * b * k) (p := j) (U := D * E) (q := k) (V := 1) (Y := 1) c2 c3 (by omega) (by omega) hj hk (by
    have : c * b * k * (c * b * k) * j * (1 * 1) = c * c * k * (b * b * j) * k := by grind
    rw [this, p3]; grind)
  subst e
  refine mulF_of v1 v2 hs (val_one 1 (by omega) (by omega)).1 (fun r => ?_)
  rw [prod_same _ _ _ hk1, coef_single, coef_single]
  have f2 : c * b * j = D * E := by omega
  by_cases hr : r = 1
  · simp [hr, f2]
  · simp [hr]
theorem sign_call {d : Int} {l : List (Int × Int)} (hv : Hid (Vld d l ∧ True)) (h1 : Hid (sgnZ l = 1)) (v : Value) (w : World) (ht : TermsAt w v l) : Calls Tryz.prog 57 #[.agg #[.int .i64 d, v]] w (Int2To 1 0 w) :=
  (sign_any d v l w ht).mono fun e w' h => by
    rw [if_pos hv.out.1.bool, if_pos hv.out.1.bool, h1.out] at h
    exact h
theorem one_call (hsort : Hid SortC) (w : World) : Calls Tryz.prog 65 #[.int .i64 1, .int .i64 1] w (OneN (1, [(1, 1)]) w) :=
  (tfraction_any hsort 1 1 w (Lib.hid fun r h => (val_make (by omega) (by omega) (by omega) (by omega) h).1)).mono fun e w' ⟨r, hr, h⟩ => by
    rw [whole_is (by omega) (by omega) hr] at h
    exact h
theorem equal_call {d e : Int} {l m : List (Int × Int)} (h : d = e ∧ l = m) (v1 v2 : Value) (w : World) (h1 : TermsAt w v1 l) (h2 : TermsAt w v2 m) : Calls Tryz.prog 67 #[.agg #[.int .i64 d, v1], .agg #[.int .i64 e, v2]] w (AnsB true w) := by
  have := equals_any d e v1 v2 l m w h1 h2
  rwa [show decide (d = e ∧ l = m) = true from by simp [h.1, h.2]] at this
end Go.Proofs.YtkjclafbpocabaaGreatDoor
