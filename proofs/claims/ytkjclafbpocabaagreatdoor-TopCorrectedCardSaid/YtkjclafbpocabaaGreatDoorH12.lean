/-
  Contracts of the program's own functions (and their plain mathematics), on the way to the law: each for all arguments that its hypotheses let.
-/
import Derived.Test.YtkjclafbpocabaaGreatDoorH9
import Derived.WalkKit
import Derived.WalkSpells
import Derived.WalkLawsBesides
import Derived.Deep.QuietTactic
import Derived.BigQuiet
import Derived.Lib.Hide
import Derived.WalkSmall
import Derived.Maps.OwnSet
import Derived.Maps.RangeWalk
import Derived.Deep.RegionWith
import Derived.Deep.RegionHeld3
import Derived.Deep.DrawnRows
import Derived.Deep.DeepCutAuto
import Derived.OneCell
import Derived.KernelRfl
import Derived.Laws.StructEq
import Derived.StillTailTactics
import Derived.Laws.Externs
import Derived.RangeFuncBox
set_option linter.unusedSimpArgs false
set_option linter.unusedVariables false

/-! ## ZP4 -/
namespace Go.Proofs.YtkjclafbpocabaaGreatDoor
open Go.RowKit Go.Maps
theorem sumOld_snoc (p : Bool × List Int) : ∀ (ps : PiecesL) (pq : Int × Int), sumOld pq (ps ++ [p]) = (prodF p.2 * (sumOld pq ps).1 + 1 * (sumOld pq ps).2 * signI p.1, (sumOld pq ps).2 * prodF p.2)
  | [], pq => rfl
  | x :: ps, pq => by
    have := sumOld_snoc p ps (prodF x.2 * pq.1 + 1 * pq.2 * signI x.1, pq.2 * prodF x.2)
    simpa [sumOld] using this
theorem marks_prod {D : Int} {ps : PiecesL} (ho : PiecesOk ps) : prodF (marksAfterF D ps) = D := by
  unfold marksAfterF
  cases h : ps.getLast? with
  | none => simp [prodF]
  | some p =>
    simp only
    split
    · next hc =>
      have hp := (ho p (List.mem_of_getLast? h)).1.prod
      rw [prodF_append]
      have e1 : prodF [D.tdiv (prodF p.2)] = D.tdiv (prodF p.2) := by simp [prodF]
      rw [e1]
      exact Int.mul_tdiv_cancel' (Int.dvd_of_tmod_eq_zero hc.1)
    · simp [prodF]
theorem corr_ok {d c n δ : Int} (h : corrF d c n = (δ, 0)) : 1 ≤ c ∧ n * d * d - c * c ≠ 0 ∧ δ * (n * d * d - c * c) = 2 * c * d := by
  unfold corrF at h
  split at h
  · exact absurd (congrArg Prod.snd h) (by simp)
  · next h1 =>
    split at h
    · exact absurd (congrArg Prod.snd h) (by simp)
    · next h2 =>
      split at h
      · exact absurd (congrArg Prod.snd h) (by simp)
      · next h3 =>
        have h4 : (2 * c * d).tmod (n * d * d - c * c) = 0 := by
          rcases Decidable.em ((2 * c * d).tmod (n * d * d - c * c) = 0) with h | h
          · exact h
          · exact absurd (Or.inl h) h3
        have h5 : (2 * c * d).tdiv (n * d * d - c * c) = δ := congrArg Prod.fst h
        refine ⟨by omega, h2, ?_⟩
        rw [← h5]
        exact Int.tdiv_mul_cancel (Int.dvd_of_tmod_eq_zero h4)
/-- What an extension without an error says. -/
theorem ext_ok {n N : Int} {ps : PiecesL} {r : (Int × PiecesL) × Int} (h : ExtTo (n, ps) N r) (h0 : r.2 = 0) :
    oldF (n, ps) = true ∧ (1 ≤ N ∧ N ≤ 1000) ∧ ∃ x δ, ValueTo (n, ps) x ∧ x.2.2 = 0 ∧ corrF x.1 (nmrF x.2.1).1 N = (δ, 0) ∧ ps.length ≠ 8 ∧ isPieceFz (nextPiece δ ps) = true ∧ r.1 = (n, ps ++ [nextPiece δ ps]) := by
  unfold ExtTo at h
  split at h
  · subst h; exact absurd h0 (by decide)
  · next h1 =>
    split at h
    · subst h; exact absurd h0 (by decide)
    · next h2 =>
      have hN : 1 ≤ N ∧ N ≤ 1000 := by
        cases hh : inB N 1 1000 with
        | false => exact absurd hh h2
        | true => unfold inB at hh; simp only [Bool.and_eq_true, decide_eq_true_eq] at hh; exact hh
      obtain ⟨x, hx, ⟨he, rfl⟩ | ⟨he, δ, e, hc, ⟨h3, rfl⟩ | ⟨rfl, ⟨h4, rfl⟩ | ⟨h4, ⟨h5, rfl⟩ | ⟨h5, rfl⟩⟩⟩⟩⟩ := h
      · exact absurd h0 he
      · exact absurd h0 h3
      · exact absurd h0 (by decide)
      · exact absurd h0 (by decide)
      · exact ⟨by simpa using h1, hN, x, δ, hx, he, hc, h4, h5, rfl⟩
theorem ext_valid {n δ : Int} {ps : PiecesL} (ho : oldF (n, ps) = true) (h8 : ps.length ≠ 8) (hp : isPieceFz (nextPiece δ ps) = true) : oldF (n, ps ++ [nextPiece δ ps]) = true := by
  unfold oldF at ho ⊢
  simp only [Bool.and_eq_true, decide_eq_true_eq, List.all_append, List.all_cons, List.all_nil, Bool.and_true, List.length_append, List.length_cons, List.length_nil] at ho ⊢
  exact ⟨ho.1, by omega, ho.2.2, hp⟩
theorem val_own {d p q : Int} {l : List (Int × Int)} (x : Val d l p q) : ∃ c, nmrF l = (c, true) ∧ Val d l c d ∧ p * d = c * q := by
  have x' := x
  obtain ⟨v, hq, a, rfl, ha⟩ := x
  exact ⟨a, nmrF_q a, ⟨v, v.d1, a, rfl, rfl⟩, ha.symm⟩
/-- The correction is the mean of the value and of n divided by it. -/
theorem mean_eq {c d N P Q D s δ : Int} (hP : P * d = c * Q) (hδ : δ * (N * d * d - c * c) = 2 * c * d) (hs : s * D = δ) (hs2 : s * s = 1) :
    (((1 * c) * c + 1 * d * (N * d)) * 1) * (Q * D) = (D * P + 1 * Q * s) * ((d * (1 * c)) * 2) := by
  have e1 : (D * P + 1 * Q * s) * ((d * (1 * c)) * 2) = 2 * c * (D * (P * d)) + Q * (s * (2 * c * d)) := by grind
  rw [e1, hP, ← hδ, ← hs]
  have e2 : s * (s * D * (N * d * d - c * c)) = s * s * (D * (N * d * d - c * c)) := by grind
  rw [e2, hs2]; grind
theorem sign_sq (m : Bool) : signI m * signI m = 1 := by cases m <;> decide
theorem sign_abs (δ : Int) : signI (decide (δ < 0)) * max δ (-δ) = δ := by
  by_cases h : δ < 0
  · have : decide (δ < 0) = true := decide_eq_true h
    rw [this]; show -1 * max δ (-δ) = δ; omega
  · have : decide (δ < 0) = false := decide_eq_false h
    rw [this]; show 1 * max δ (-δ) = δ; omega
theorem corrected {n N : Int} {ps : PiecesL} {r : (Int × PiecesL) × Int} {x y f q s g t : Int × List (Int × Int) × Int} (he : ExtTo (n, ps) N r) (h0 : r.2 = 0) (hx : ValueTo (n, ps) x) (hy : ValueTo r.1 y)
    (hf : makeF 1 [(N, 1)] f) (hq : quoF f.1 f.2.1 x.1 x.2.1 q) (hs : addF 1 x.1 x.2.1 q.1 q.2.1 s) (hg : makeF 1 [(2, 1)] g) (ht : quoF s.1 s.2.1 g.1 g.2.1 t) :
    x.2.2 = 0 ∧ (y.2.2 = 0 ∨ y.2.2 = 10) ∧ (q.2.2 = 0 ∨ q.2.2 = 10) ∧ (q.2.2 = 0 → (s.2.2 = 0 ∨ s.2.2 = 10) ∧ (s.2.2 = 0 → (t.2.2 = 0 ∨ t.2.2 = 10) ∧ (t.2.2 = 0 → y.2.2 = 0 → (t.1 = y.1 ∧ t.2.1 = y.2.1) ∧ ¬ (x.1 = y.1 ∧ x.2.1 = y.2.1)))) := by
  obtain ⟨ho, hN, x0, δ, hx0, hxe, hc, h8, hp, hr⟩ := ext_ok he h0
  have := value_det hx hx0
  subst this
  rw [hr] at hy
  have hok := (oldF_ok ho).2.2
  have xv := (value_val ho hx).resolve_right (fun e => by rw [e] at hxe; exact absurd hxe (by decide))
  obtain ⟨c, hnm, xc, hcross⟩ := val_own xv.2
  rw [hnm] at hc
  simp only at hc
  obtain ⟨hc1, hab, hδ⟩ := corr_ok hc
  have hd1 := xc.1.d1
  have hδ0 : δ ≠ 0 := fun e => by
    rw [e, Int.zero_mul] at hδ
    have : 0 < 2 * c * x.1 := Int.mul_pos (by omega) (by omega)
    omega
  have fv := (val_make (m := 1) (c := N) (by omega) (by omega) (by omega) (by omega) hf).2
  have gv := (val_make (m := 1) (c := 2) (by omega) (by omega) (by omega) (by omega) hg).2
  have yv := value_val (ext_valid ho h8 hp) hy
  have qv := val_quo fv xc hc1 hq
  refine ⟨hxe, ?_, ?_, fun q0 => ?_⟩
  · rcases yv with h | h
    · exact .inl h.1
    · rw [h]; exact .inr rfl
  · rcases qv with h | h
    · exact .inl h.1
    · rw [h]; exact .inr rfl
  · have qv := qv.resolve_right (fun e => by rw [e] at q0; exact absurd q0 (by decide))
    have sv := val_add xc qv.2 hs
    refine ⟨?_, fun s0 => ?_⟩
    · rcases sv with h | h
      · exact .inl h.1
      · rw [h]; exact .inr rfl
    · have sv := sv.resolve_right (fun e => by rw [e] at s0; exact absurd s0 (by decide))
      have tv := val_quo sv.2 gv (by omega) ht
      refine ⟨?_, fun t0 y0 => ?_⟩
      · rcases tv with h | h
        · exact .inl h.1
        · rw [h]; exact .inr rfl
      · have tv := tv.resolve_right (fun e => by rw [e] at t0; exact absurd t0 (by decide))
        have yv := yv.resolve_right (fun e => by rw [e] at y0; exact absurd y0 (by decide))
        rw [sumOld_snoc] at yv
        have hD : 1 ≤ max δ (-δ) := by omega
        have hprod : prodF (nextPiece δ ps).2 = max δ (-δ) := marks_prod hok
        rw [hprod] at yv
        have hsg : signI (nextPiece δ ps).1 * max δ (-δ) = δ := sign_abs δ
        have hs2 := sign_sq (nextPiece δ ps).1
        have hQ := xv.2.2.1
        generalize (sumOld (n, 1) ps).1 = P at *
        generalize (sumOld (n, 1) ps).2 = Q at *
        generalize max δ (-δ) = D at *
        generalize signI (nextPiece δ ps).1 = σ at *
        refine ⟨val_same tv.2 yv.2 (mean_eq hcross hδ hsg hs2), fun e => ?_⟩
        have hxy := val_cross xv.2 yv.2 e.1 e.2
        simp only at hxy
        have e1 : Q * (Q * σ) = 0 := by
          have : (D * P + 1 * Q * σ) * Q = P * (Q * D) + Q * (Q * σ) := by grind
          rw [this] at hxy
          omega
        rcases Int.mul_eq_zero.mp e1 with h | h
        · omega
        · rcases Int.mul_eq_zero.mp h with h | h
          · omega
          · rw [h] at hs2; omega
end Go.Proofs.YtkjclafbpocabaaGreatDoor

/-! ## ZP5 -/
namespace Go.Proofs.YtkjclafbpocabaaGreatDoor
open Go.RowKit Go.Maps
theorem ext_err {o : Int × PiecesL} {N : Int} {r : (Int × PiecesL) × Int} (h : ExtTo o N r) (h0 : r.2 ≠ 0) : r.1 = (0, []) := by
  unfold ExtTo at h
  split at h
  · subst h; rfl
  · split at h
    · subst h; rfl
    · obtain ⟨x, hx, ⟨he, rfl⟩ | ⟨he, δ, e, hc, ⟨h3, rfl⟩ | ⟨rfl, ⟨h4, rfl⟩ | ⟨h4, ⟨h5, rfl⟩ | ⟨h5, rfl⟩⟩⟩⟩⟩ := h
      · rfl
      · rfl
      · rfl
      · rfl
      · exact absurd rfl h0
theorem cor_x {n N : Int} {ps : PiecesL} {r : (Int × PiecesL) × Int} {x : Int × List (Int × Int) × Int} (he : ExtTo (n, ps) N r) (h0 : r.2 = 0) (hx : ValueTo (n, ps) x) : x.2.2 = 0 ∧ (1 ≤ N ∧ N ≤ 1000) ∧ Vld x.1 x.2.1 := by
  obtain ⟨ho, hN, x0, δ, hx0, hxe, _⟩ := ext_ok he h0
  have := value_det hx hx0
  subst this
  have xv := (value_val ho hx).resolve_right (fun e => by rw [e] at hxe; exact absurd hxe (by decide))
  exact ⟨hxe, hN, xv.2.1⟩
theorem cor_y {n N : Int} {ps : PiecesL} {r : (Int × PiecesL) × Int} {y : Int × List (Int × Int) × Int} (he : ExtTo (n, ps) N r) (h0 : r.2 = 0) (hy : ValueTo r.1 y) : y.2.2 = 0 ∨ y.2.2 = 10 := by
  obtain ⟨ho, _, x0, δ, _, _, _, h8, hp, hr⟩ := ext_ok he h0
  rw [hr] at hy
  rcases value_val (ext_valid ho h8 hp) hy with h | h
  · exact .inl h.1
  · rw [h]; exact .inr rfl
theorem cor_q {n N : Int} {ps : PiecesL} {r : (Int × PiecesL) × Int} {x f q : Int × List (Int × Int) × Int} (he : ExtTo (n, ps) N r) (h0 : r.2 = 0) (hx : ValueTo (n, ps) x) (hf : makeF 1 [(N, 1)] f) (hq : quoF f.1 f.2.1 x.1 x.2.1 q) : (q.2.2 = 0 ∨ q.2.2 = 10) ∧ (q.2.2 = 0 → ∀ s, addF 1 x.1 x.2.1 q.1 q.2.1 s → (s.2.2 = 0 ∨ s.2.2 = 10)) := by
  obtain ⟨ho, hN, x0, δ, hx0, hxe, hc, _⟩ := ext_ok he h0
  have := value_det hx hx0
  subst this
  have xv := (value_val ho hx).resolve_right (fun e => by rw [e] at hxe; exact absurd hxe (by decide))
  obtain ⟨c, hnm, xc, _⟩ := val_own xv.2
  rw [hnm] at hc
  simp only at hc
  obtain ⟨hc1, _, _⟩ := corr_ok hc
  have fv := (val_make (m := 1) (c := N) (by omega) (by omega) (by omega) (by omega) hf).2
  have qv := val_quo fv xc hc1 hq
  refine ⟨?_, fun q0 s hs => ?_⟩
  · rcases qv with h | h
    · exact .inl h.1
    · rw [h]; exact .inr rfl
  · have qv := qv.resolve_right (fun e => by rw [e] at q0; exact absurd q0 (by decide))
    rcases val_add xc qv.2 hs with h | h
    · exact .inl h.1
    · rw [h]; exact .inr rfl
end Go.Proofs.YtkjclafbpocabaaGreatDoor
