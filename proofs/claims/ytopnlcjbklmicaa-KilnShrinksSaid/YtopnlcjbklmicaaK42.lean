import Derived.Test.YtopnlcjbklmicaaK41
import Derived.WalkKit
import Derived.WalkSpells
import Derived.WalkLawsBesides
import Derived.Deep.QuietTactic
import Derived.BigQuiet
import Derived.Lib.Hide
import Derived.WalkSmall
import Derived.Maps.OwnSet
import Derived.Maps.RangeWalk
import Derived.Deep.RegionWith
import Derived.Deep.RegionHeld3
import Derived.Deep.DrawnRows
import Derived.Deep.DeepCutAuto
import Derived.OneCell
import Derived.KernelRfl
import Derived.Laws.StructEq
import Derived.StillTailTactics
import Derived.Laws.Externs
import Derived.RangeFuncBox
import Derived.Outline
import Derived.RangeFuncNested
import Derived.RangeFuncBound
import Derived.RangeFuncCalls
import Derived.RangeFuncLeaves
import Derived.Shelf.RegionOpen
import Derived.OwnWalkIn
import Derived.TacticsInMore
import Derived.LoopNIn
import Derived.LoopIn
import Derived.Test.YtopnlcjbklmicaaProg
namespace Go.Proofs.Ytopnlcjbklmicaa
open Go.RowKit Go.Maps Go.Shelf
set_option linter.unusedVariables false
set_option linter.unusedSimpArgs false
/-- Each side for itself. -/
theorem leftL_fst (l : List (Int × Int)) (a b c : Int) : (leftL (a, b) l).1 = (leftL (a, c) l).1 := by
  induction l generalizing a b c with
  | nil => rfl
  | cons s l ih => exact ih _ _ _
theorem leftL_snd (l : List (Int × Int)) (a b c : Int) : (leftL (a, c) l).2 = (leftL (b, c) l).2 := by
  induction l generalizing a b c with
  | nil => rfl
  | cons s l ih => exact ih _ _ _
theorem leftL_le {l : List (Int × Int)} (hs : l.all stageF = true) : ∀ {a b : Int}, 0 ≤ a → a ≤ b → b ≤ 1000000000 → (0 ≤ (leftL (a, b) l).1 ∧ (leftL (a, b) l).1 ≤ (leftL (a, b) l).2 ∧ (leftL (a, b) l).2 ≤ b ∧ (leftL (a, b) l).1 ≤ a) := by
  induction l with
  | nil => intro a b h1 h2 h3; exact ⟨h1, h2, Int.le_refl _, Int.le_refl _⟩
  | cons s l ih =>
    intro a b h1 h2 h3
    simp at hs
    obtain ⟨q1, q2, q3⟩ := isSpreadF_range hs.1
    have v1 := loss_range (x := a) (m := s.2) (by omega) (by omega)
    have v2 := loss_range (x := b) (m := s.1) (by omega) (by omega)
    have e : b * s.1 = a * s.1 + (b - a) * s.1 := by rw [Int.sub_mul]; omega
    have h : (b - a) * s.1 ≤ (b - a) * 10000 := Int.mul_le_mul_of_nonneg_left (by omega) (by omega)
    have h' : a * s.1 ≤ a * s.2 := Int.mul_le_mul_of_nonneg_left (by omega) (by omega)
    have g := ih (by simpa using hs.2) (a := a - a * s.2 / 10000) (b := b - b * s.1 / 10000) (by omega) (by omega) (by omega)
    have e2 : leftL (a, b) (s :: l) = leftL (a - a * s.2 / 10000, b - b * s.1 / 10000) l := rfl
    rw [e2]
    omega
theorem leftF_pair {n : Int} {l : List (Int × Int)} (h1 : l.length ≤ 9) (h2 : l.all stageF = true) (h3 : 0 ≤ n ∧ n ≤ 1000000000) : leftF n l = ((leftL (n, n) l).1, (leftL (n, n) l).2, 0) := leftF_ok (by omega) h2 h3
/-- What the laws of losses say of numbers. -/
theorem allows_maths {m : Int} {x : Int × Int} {r : List (Int × Int)} (hl : (x :: r).length ≤ 9) (hs : (x :: r).all stageF = true) (hm : 0 ≤ m ∧ m < 500000000) :
    ∃ s1 s2 b1 b2 f1 f2 c2 d1 : Int, (leftF m (x :: r) = (s1, s2, 0) ∧ leftF (m + 1) (x :: r) = (b1, b2, 0) ∧ leftF m [x] = (f1, f2, 0) ∧ leftF f1 r = (s1, c2, 0) ∧ leftF f2 r = (d1, s2, 0)) ∧
      0 ≤ s1 ∧ s1 ≤ s2 ∧ s2 ≤ m ∧ s1 ≤ b1 ∧ s2 ≤ b2 ∧ s1 ≤ f1 ∧ s2 ≤ f2 ∧ 0 ≤ f1 := by
  have hs1 : [x].all stageF = true := by simp at hs ⊢; exact hs.1
  have hs2 : r.all stageF = true := by simp at hs ⊢; exact hs.2
  have hlr : r.length ≤ 9 := by simp at hl; omega
  have A := leftL_le hs (a := m) (b := m) (by omega) (by omega) (by omega)
  have B := leftL_mono hs (p := (m, m)) (q := (m + 1, m + 1)) (by show 0 ≤ m; omega) (by show 0 ≤ m; omega) (by show m ≤ m + 1; omega) (by show m ≤ m + 1; omega) (by show m + 1 ≤ _; omega) (by show m + 1 ≤ _; omega)
  have F := leftL_le hs1 (a := m) (b := m) (by omega) (by omega) (by omega)
  obtain ⟨f1, f2, hf⟩ : ∃ f1 f2, leftL (m, m) [x] = (f1, f2) := ⟨_, _, rfl⟩
  have e0 : leftL (m, m) (x :: r) = leftL (leftL (m, m) [x]) r := rfl
  rw [hf] at e0 F
  dsimp only at F
  have C := leftL_le hs2 (a := f1) (b := f2) (by omega) (by omega) (by omega)
  refine ⟨_, _, _, _, f1, f2, (leftL (f1, f1) r).2, (leftL (f2, f2) r).1, ⟨leftF_pair hl hs (by omega), leftF_pair hl hs (by omega), ?_, ?_, ?_⟩, ?_⟩
  · rw [leftF_pair (by simp) hs1 (by omega), hf]
  · rw [leftF_pair hlr hs2 (by omega), e0, leftL_fst r f1 f1 f2]
  · rw [leftF_pair hlr hs2 (by omega), e0, leftL_snd r f2 f1 f2]
  · rw [e0] at A B ⊢
    omega
theorem allows_need {m : Int} {l : List (Int × Int)} (hl : l.length ≤ 9) (hs : l.all stageF = true) (hm : 0 ≤ m ∧ m < 500000000) {r : Int × Int} (h : NeedTo m l r) :
    (∃ z1 z2, leftF 1000000000 l = (z1, z2, 0) ∧ z1 < m ∧ r = (0, 7)) ∨
    (∃ k z1 z2, r = (k, 0) ∧ 0 ≤ k ∧ k ≤ 1000000000 ∧ m ≤ k ∧ leftF k l = (z1, z2, 0) ∧ m ≤ z1 ∧ (k = 0 → m = 0) ∧ (k ≠ 0 → ∃ y1 y2, leftF (k - 1) l = (y1, y2, 0) ∧ y1 < m)) := by
  have hz : (leftF m l).2.2 = 0 := by rw [leftF_pair hl hs (by omega)]
  obtain ⟨k, ⟨h1, h2, h3, h4⟩, hr⟩ := h.2 hz
  by_cases hk : 1000000000 < k
  · rw [if_pos hk] at hr
    exact .inl ⟨_, _, leftF_pair hl hs (by omega), h3 _ (by omega) hk, hr⟩
  · rw [if_neg hk] at hr
    have g := h4 k (Int.le_refl _) (by omega)
    have g2 := leftL_le hs (a := k) (b := k) h1 (Int.le_refl _) (by omega)
    have g3 : m ≤ (leftL (k, k) l).1 := g
    exact .inr ⟨k, _, _, hr, h1, by omega, by omega, leftF_pair hl hs (by omega), g3, by omega, fun hk0 => ⟨_, _, leftF_pair hl hs (by omega), h3 _ (by omega) (by omega)⟩⟩
theorem srcAt_take {w : World} {ad : Addr} {c n : Nat} {x : Int × Int} {r : List (Int × Int)} (h : SrcAt w (.slice (some ad) n c) (x :: r)) (c' : Nat) : SrcAt w (.slice (some ad) 1 c') [x] := by
  rcases h with ⟨_, h⟩ | ⟨ad', c2, hv, hn⟩
  · cases h
  · obtain rfl : ad' = ad := by simp only [Value.slice.injEq, Option.some.injEq] at hv; exact hv.1.symm
    refine .inr ⟨ad', c', rfl, fun j u hj => hn j u ?_⟩
    have e : flatQ (x :: r) = flatQ [x] ++ flatQ r := rfl
    rw [e, List.getElem?_append_left (List.getElem?_eq_some_iff.1 hj).1]
    exact hj
theorem srcAt_drop {w : World} {b off c N : Nat} {x : Int × Int} {r : List (Int × Int)} (h : SrcAt w (.slice (some ⟨b, off, none⟩) N c) (x :: r)) (hN : (x :: r).length = N) (hc : N ≤ c) (c' : Nat) :
    SrcAt w (.slice (if c = 1 then some ⟨b, off, none⟩ else some ⟨b, off + 2, none⟩) (N - 1) c') r := by
  have hl : r.length = N - 1 := by simp at hN; omega
  rw [← hl]
  by_cases h1 : c = 1
  · rw [if_pos h1]
    have hr : r = [] := List.length_eq_zero_iff.1 (by simp at hN; omega)
    subst hr
    exact .inr ⟨_, c', rfl, fun j u hj => by simp [flatQ] at hj⟩
  · rw [if_neg h1]
    rcases h with ⟨_, h⟩ | ⟨ad', c2, hv, hn⟩
    · cases h
    · obtain rfl : ad' = ⟨b, off, none⟩ := by simp only [Value.slice.injEq, Option.some.injEq] at hv; exact hv.1.symm
      refine .inr ⟨⟨b, off + 2, none⟩, c', rfl, fun j u hj => ?_⟩
      have h2 := hn (j + 2) u (by rw [flatQ_cons]; exact hj)
      rw [addr_add] at h2 ⊢
      rw [show off + 2 + j = off + (j + 2) by omega]
      exact h2
theorem stages_eq {v : Value} {l : List (Int × Int)} {w : World} {N : Nat} (hN : l.length = N) (h : SrcAt w v l) (hl : N ≤ 1000) :
    Calls Try.prog 20 #[v] w fun e w' => ∃ a c, e = .returned (.slice a N c) ∧ PairsAt w' (.slice a N c) l ∧ Below w.heap.size w w' := by
  subst hN
  exact stages_any v l w h hl
theorem left_eq {n : Int} {v : Value} {l : List (Int × Int)} {w : World} {z1 z2 z3 : Int} (e : leftF n l = (z1, z2, z3)) (h : PairsAt w v l) :
    Calls Try.prog 19 #[.int .i64 n, v] w fun x w' => x = .returned (.tuple #[.agg #[.int .i64 z1, .int .i64 z2], .int .i64 z3]) ∧ Below w.heap.size w w' := by
  have g := left_any n v l w h
  rw [e] at g
  exact g
end Go.Proofs.Ytopnlcjbklmicaa
