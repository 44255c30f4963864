import Derived.Test.YtopnlcjbklmicaaK41
import Derived.WalkKit
import Derived.WalkSpells
import Derived.WalkLawsBesides
import Derived.Deep.QuietTactic
import Derived.BigQuiet
import Derived.Lib.Hide
import Derived.WalkSmall
import Derived.Maps.OwnSet
import Derived.Maps.RangeWalk
import Derived.Deep.RegionWith
import Derived.Deep.RegionHeld3
import Derived.Deep.DrawnRows
import Derived.Deep.DeepCutAuto
import Derived.OneCell
import Derived.KernelRfl
import Derived.Laws.StructEq
import Derived.StillTailTactics
import Derived.Laws.Externs
import Derived.RangeFuncBox
import Derived.Outline
import Derived.RangeFuncNested
import Derived.RangeFuncBound
import Derived.RangeFuncCalls
import Derived.RangeFuncLeaves
import Derived.Shelf.RegionOpen
import Derived.OwnWalkIn
import Derived.TacticsInMore
import Derived.LoopNIn
import Derived.LoopIn
import Derived.Test.YtopnlcjbklmicaaProg
namespace Go.Proofs.Ytopnlcjbklmicaa
open Go.RowKit Go.Maps Go.Shelf
set_option linter.unusedVariables false
set_option linter.unusedSimpArgs false
theorem loS_mono {n m k j : Int} (h1 : 0 ≤ n) (h2 : n ≤ m) (h3 : 0 ≤ k) (h4 : k ≤ j) : loS n k ≤ loS m j := by
  unfold loS
  have a : n * k ≤ m * k := Int.mul_le_mul_of_nonneg_right h2 h3
  have b : m * k ≤ m * j := Int.mul_le_mul_of_nonneg_left h4 (by omega)
  omega
theorem hiS_mono {n m k j : Int} (h1 : 0 ≤ n) (h2 : n ≤ m) (h3 : 0 ≤ k) (h4 : k ≤ j) : hiS n k ≤ hiS m j := by
  unfold hiS
  have a : n * k ≤ m * k := Int.mul_le_mul_of_nonneg_right h2 h3
  have b : m * k ≤ m * j := Int.mul_le_mul_of_nonneg_left h4 (by omega)
  omega
theorem loS_range {n k j : Int} (h1 : 0 ≤ n) (h3 : 0 ≤ k) (h4 : k ≤ j) (h5 : j ≤ 100000000) : 0 ≤ loS n k ∧ loS n k ≤ hiS n j ∧ hiS n j ≤ n := by
  unfold loS hiS
  have a : 0 ≤ n * k := Int.mul_nonneg h1 h3
  have b : n * k ≤ n * j := Int.mul_le_mul_of_nonneg_left h4 h1
  have c : n * j ≤ n * 100000000 := Int.mul_le_mul_of_nonneg_left h5 h1
  omega
theorem isClayF_mk {dl dh fl fh : Int} (h1 : 0 ≤ dl ∧ dl ≤ dh ∧ dh ≤ 9999) (h2 : 0 ≤ fl ∧ fl ≤ fh ∧ fh ≤ 9999) : isClayF dl dh fl fh = true := by
  simp [isClayF, isSpreadF, inB]; omega
/-- What the laws of shrinking say of numbers: three bricks. -/
theorem shrinks_maths {n dl dh fl fh : Int} (hn : 1 ≤ n ∧ n ≤ 999999) (h1 : 0 ≤ dl ∧ dl ≤ dh ∧ dh ≤ 9998) (h2 : 0 ≤ fl ∧ fl ≤ fh ∧ fh ≤ 9998) :
    ∃ s1 s2 u1 u2 v1 v2 : Int, (shrunkF n dl dh fl fh = (s1, s2, 0) ∧ shrunkF (n + 1) dl dh fl fh = (u1, u2, 0) ∧ shrunkF n (dl + 1) (dh + 1) fl fh = (v1, v2, 0)) ∧
      0 ≤ s1 ∧ s1 ≤ s2 ∧ s2 ≤ n ∧ s1 ≤ u1 ∧ s2 ≤ u2 ∧ v1 ≤ s1 ∧ v2 ≤ s2 := by
  have hc := isClayF_mk (dl := dl) (dh := dh) (fl := fl) (fh := fh) (by omega) (by omega)
  have hc2 := isClayF_mk (dl := dl + 1) (dh := dh + 1) (fl := fl) (fh := fh) (by omega) (by omega)
  obtain ⟨k1, k2, k3⟩ := ks_range hc
  obtain ⟨j1, j2, j3⟩ := ks_range hc2
  have e1 : (10000 - (dh + 1)) * (10000 - fh) ≤ (10000 - dh) * (10000 - fh) := Int.mul_le_mul_of_nonneg_right (by omega) (by omega)
  have e2 : (10000 - (dl + 1)) * (10000 - fl) ≤ (10000 - dl) * (10000 - fl) := Int.mul_le_mul_of_nonneg_right (by omega) (by omega)
  have r := loS_range (n := n) (k := (10000 - dh) * (10000 - fh)) (j := (10000 - dl) * (10000 - fl)) (by omega) (by omega) k3 k2.2
  have m1 := loS_mono (n := n) (m := n + 1) (k := (10000 - dh) * (10000 - fh)) (j := (10000 - dh) * (10000 - fh)) (by omega) (by omega) (by omega) (Int.le_refl _)
  have m2 := hiS_mono (n := n) (m := n + 1) (k := (10000 - dl) * (10000 - fl)) (j := (10000 - dl) * (10000 - fl)) (by omega) (by omega) (by omega) (Int.le_refl _)
  have m3 := loS_mono (n := n) (m := n) (by omega) (Int.le_refl _) (by omega) e1
  have m4 := hiS_mono (n := n) (m := n) (by omega) (Int.le_refl _) (by omega) e2
  exact ⟨_, _, _, _, _, _, ⟨shrunkF_eq hc (by omega), shrunkF_eq hc (by omega), shrunkF_eq hc2 (by omega)⟩, r.1, r.2.1, r.2.2, m1, m2, m3, m4⟩
/-- What is wanted: none, or both ends, and what each mould gives. -/
theorem shrinks_moulds {wl wh dl dh fl fh : Int} (h1 : 0 ≤ dl ∧ dl ≤ dh ∧ dh ≤ 9998) (h2 : 0 ≤ fl ∧ fl ≤ fh ∧ fh ≤ 9998) (hw : 0 ≤ wl ∧ wl ≤ wh ∧ wh ≤ 1000000) :
    (mouldsF wl wh dl dh fl fh = (0, 0, 7) ∧ ∀ n s1 s2, 1 ≤ n → n ≤ 1000000 → shrunkF n dl dh fl fh = (s1, s2, 0) → (s1 < wl ∨ wh < s2)) ∨
    (∃ m1 m2, mouldsF wl wh dl dh fl fh = (m1, m2, 0) ∧ 1 ≤ m1 ∧ m1 ≤ m2 ∧ m2 ≤ 1000000 ∧
      (∀ x, 1 ≤ x → x ≤ 1000000 → ∃ s1 s2, shrunkF x dl dh fl fh = (s1, s2, 0) ∧ (m1 ≤ x → x ≤ m2 → wl ≤ s1 ∧ s2 ≤ wh) ∧ (x < m1 → s1 < wl) ∧ (m2 < x → wh < s2))) := by
  have hc := isClayF_mk (dl := dl) (dh := dh) (fl := fl) (fh := fh) (by omega) (by omega)
  obtain ⟨k1, k2, k3⟩ := ks_range hc
  have hs : isSpreadF wl wh 1000000 = true := by simp [isSpreadF, inB]; omega
  unfold mouldsF
  rw [hc, hs, if_neg (by simp), if_neg (by simp)]
  have L := fun n => lo_ge (n := n) (kl := (10000 - dh) * (10000 - fh)) (wl := wl) k1.1
  have H := fun n => hi_le (n := n) (kh := (10000 - dl) * (10000 - fl)) (wh := wh) k2.1
  obtain ⟨f, hf⟩ : ∃ f, (wl * 100000000 + (10000 - dh) * (10000 - fh) - 1) / ((10000 - dh) * (10000 - fh)) = f := ⟨_, rfl⟩
  obtain ⟨g, hg⟩ : ∃ g, wh * 100000000 / ((10000 - dl) * (10000 - fl)) = g := ⟨_, rfl⟩
  rw [hf] at L ⊢
  rw [hg] at H ⊢
  split
  · rename_i h
    refine .inl ⟨rfl, fun n s1 s2 hn1 hn2 e => ?_⟩
    rw [shrunkF_eq hc ⟨hn1, hn2⟩] at e
    simp only [Prod.mk.injEq] at e
    have l := L n
    have h' := H n
    omega
  · rename_i h
    refine .inr ⟨_, _, rfl, by omega, by omega, by omega, fun x hx1 hx2 => ⟨_, _, shrunkF_eq hc ⟨hx1, hx2⟩, ?_, ?_, ?_⟩⟩
    all_goals
      have l := L x
      have h' := H x
      omega
end Go.Proofs.Ytopnlcjbklmicaa
