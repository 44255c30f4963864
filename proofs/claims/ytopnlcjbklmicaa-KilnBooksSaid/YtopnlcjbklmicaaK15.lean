import Derived.Test.YtopnlcjbklmicaaK14
import Derived.WalkKit
import Derived.WalkSpells
import Derived.WalkLawsBesides
import Derived.Deep.QuietTactic
import Derived.BigQuiet
import Derived.Lib.Hide
import Derived.WalkSmall
import Derived.Maps.OwnSet
import Derived.Maps.RangeWalk
import Derived.Deep.RegionWith
import Derived.Deep.RegionHeld3
import Derived.Deep.DrawnRows
import Derived.Deep.DeepCutAuto
import Derived.OneCell
import Derived.KernelRfl
import Derived.Laws.StructEq
import Derived.StillTailTactics
import Derived.Laws.Externs
import Derived.RangeFuncBox
import Derived.Outline
import Derived.RangeFuncNested
import Derived.RangeFuncBound
import Derived.RangeFuncCalls
import Derived.RangeFuncLeaves
import Derived.Shelf.RegionOpen
import Derived.OwnWalkIn
import Derived.TacticsInMore
import Derived.LoopNIn
import Derived.LoopIn
import Derived.Test.YtopnlcjbklmicaaProg
namespace Go.Proofs.Ytopnlcjbklmicaa
open Go.RowKit Go.Maps Go.Shelf
set_option linter.unusedVariables false
set_option linter.unusedSimpArgs false
theorem mul_bd {a b A B : Nat} (h1 : a ≤ A) (h2 : b ≤ B) : a * b ≤ A * B := Nat.mul_le_mul h1 h2
set_option maxHeartbeats 2000000 in
theorem plus_any (n1 d1 n2 d2 : Nat) (w : World) (h1 : n1 ≤ 1000000000) (h2 : 1 ≤ d1) (h3 : d1 ≤ 1000000000) (h4 : n2 ≤ 1000000000) (h5 : 1 ≤ d2) (h6 : d2 ≤ 1000000000) :
    Calls Try.prog 106 #[.agg #[.int .i64 n1, .int .i64 d1], .agg #[.int .i64 n2, .int .i64 d2]] w fun e w' =>
      e = .returned (.tuple #[.agg #[.int .i64 (lowestF (n1 * d2 + n2 * d1) (d1 * d2)).1, .int .i64 (lowestF (n1 * d2 + n2 * d1) (d1 * d2)).2.1], .int .i64 (lowestF (n1 * d2 + n2 * d1) (d1 * d2)).2.2]) ∧ Below w.heap.size w w' := by
  have A := ((Blk.new w #[.int .i64 n1, .int .i64 d1] 116).alloc (.cells #[.int .i64 n2, .int .i64 d2] 116)).alloc (.cells #[.int .i64 0, .int .i64 0] 116)
  have B := (Blk.newI (w.alloc (.cells #[.int .i64 n1, .int .i64 d1] 116)) (w.heap.size + 1) #[.int .i64 n2, .int .i64 d2] 116 (by simp)).alloc (.cells #[.int .i64 0, .int .i64 0] 116)
  have R := Blk.newI ((w.alloc (.cells #[.int .i64 n1, .int .i64 d1] 116)).alloc (.cells #[.int .i64 n2, .int .i64 d2] 116)) (w.heap.size + 1 + 1) #[.int .i64 0, .int .i64 0] 116 (by simp)
  have a0 := A.cell (i := 0) (v := .int .i64 n1) rfl
  have a1 := A.cell (i := 1) (v := .int .i64 d1) rfl
  have b0 := B.cell (i := 0) (v := .int .i64 n2) rfl
  have b1 := B.cell (i := 1) (v := .int .i64 d2) rfl
  have p1 := mul_bd h1 h6
  have p2 := mul_bd h4 h3
  have p3 := mul_bd h3 h6
  have p4 := mul_bd h2 h5
  obtain ⟨x, hx⟩ : ∃ x, n1 * d2 = x := ⟨_, rfl⟩
  obtain ⟨y, hy⟩ : ∃ y, n2 * d1 = y := ⟨_, rfl⟩
  obtain ⟨z, hz⟩ : ∃ z, d1 * d2 = z := ⟨_, rfl⟩
  have hxi : (n1 : Int) * (d2 : Int) = (x : Int) := by rw [← hx]; simp
  have hyi : (n2 : Int) * (d1 : Int) = (y : Int) := by rw [← hy]; simp
  have hzi : (d1 : Int) * (d2 : Int) = (z : Int) := by rw [← hz]; simp
  rw [hx] at p1
  rw [hy] at p2
  rw [hz] at p3 p4
  rw [hx, hy, hz]
  have hBB := ((((Below.refl _ w).alloc (Nat.le_refl _) (.cells #[.int .i64 n1, .int .i64 d1] 116)).alloc (by simp) (.cells #[.int .i64 n2, .int .i64 d2] 116)).alloc (by simp; omega) (.cells #[.int .i64 0, .int .i64 0] 116))
  have HC := Lib.hid (fun w => lowest_any (x + y) z w (by omega) (by omega) (by omega))
  obtain ⟨m, hm⟩ : ∃ m, x + y = m := ⟨_, rfl⟩
  have hmi : (x : Int) + (y : Int) = (m : Int) := by omega
  have hmm : m ≤ 4000000000000000000 := by omega
  rw [hm] at HC ⊢
  obtain ⟨r1, r2, r3, hr⟩ : ∃ r1 r2 r3, lowestF m z = (r1, r2, r3) := ⟨_, _, _, rfl⟩
  rw [hr] at HC ⊢
  have HBB := Lib.hid hBB
  have HR := Lib.hid R
  clear A B R hx hy hz hm hr hBB
  go_enter Try.func106, Try.ntmps106
  go_wp2_with fail
  refine (HC.out _).mono ?_
  rintro e w2 ⟨rfl, hb2⟩
  have HR2 := Lib.hid (HR.out.past hb2)
  have HB2 := Lib.hid (HBB.out.trans (hb2.mono HBB.out.size))
  have q0 := HR2.out.cell (i := 0) (v := .int .i64 0) rfl
  have q1 := HR2.out.cell (i := 1) (v := .int .i64 0) rfl
  have f0 := HR2.out.fr (i := 0)
  have f1 := HR2.out.fr (i := 1)
  clear hb2 a0 a1 b0 b1 HBB HR HC
  go_wp2
  obtain ⟨d0, d1, d2, hg, _⟩ := blk_after HR2.out (.int .i64 r1) (.int .i64 r2) rfl rfl
  refine bodyPost_ret (v := .tuple #[.agg #[.int .i64 r1, .int .i64 r2], .int .i64 r3]) ?_ rfl ?_
  · simp [results, Try.results106, go_sem, d0, d1, d2]
  · exact ⟨rfl, HB2.out.grown hg HB2.out.size (by intro k hk; cases hk; omega)⟩
/-- What a brick with a load presses on each of its cells, and the error. -/
def pressF (n d wt c : Nat) : Int × Int × Int :=
  if (lowestF (n * 1 + wt * d) (d * 1)).2.2 ≠ 0 then (0, 0, (lowestF (n * 1 + wt * d) (d * 1)).2.2)
  else lowestF (lowestF (n * 1 + wt * d) (d * 1)).1.toNat ((lowestF (n * 1 + wt * d) (d * 1)).2.1.toNat * c)
theorem lowestF_ok {n d : Nat} (hd : 1 ≤ d) : ((lowestF n d).2.2 = 10 ∧ (lowestF n d).1 = 0 ∧ (lowestF n d).2.1 = 0) ∨ ((lowestF n d).2.2 = 0 ∧ ∃ a b : Nat, lowestF n d = ((a : Int), (b : Int), 0) ∧ a ≤ 1000000000 ∧ 1 ≤ b ∧ b ≤ 1000000000) := by
  unfold lowestF
  split
  · exact .inl ⟨rfl, rfl, rfl⟩
  · rename_i h
    have hg : 0 < Nat.gcd n d := Nat.gcd_pos_of_pos_right _ (by omega)
    have hb : 1 ≤ d / Nat.gcd n d := Nat.div_pos (Nat.gcd_le_right _ (by omega)) hg
    exact .inr ⟨rfl, n / Nat.gcd n d, d / Nat.gcd n d, rfl, by omega, hb, by omega⟩
end Go.Proofs.Ytopnlcjbklmicaa
