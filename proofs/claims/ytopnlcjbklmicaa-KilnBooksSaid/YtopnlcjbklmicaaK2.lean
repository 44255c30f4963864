import Derived.Test.YtopnlcjbklmicaaK1
import Derived.WalkKit
import Derived.WalkSpells
import Derived.WalkLawsBesides
import Derived.Deep.QuietTactic
import Derived.BigQuiet
import Derived.Lib.Hide
import Derived.WalkSmall
import Derived.Maps.OwnSet
import Derived.Maps.RangeWalk
import Derived.Deep.RegionWith
import Derived.Deep.RegionHeld3
import Derived.Deep.DrawnRows
import Derived.Deep.DeepCutAuto
import Derived.OneCell
import Derived.KernelRfl
import Derived.Laws.StructEq
import Derived.StillTailTactics
import Derived.Laws.Externs
import Derived.RangeFuncBox
import Derived.Outline
import Derived.RangeFuncNested
import Derived.RangeFuncBound
import Derived.RangeFuncCalls
import Derived.RangeFuncLeaves
import Derived.Shelf.RegionOpen
import Derived.OwnWalkIn
import Derived.TacticsInMore
import Derived.LoopNIn
import Derived.LoopIn
import Derived.Test.YtopnlcjbklmicaaProg
namespace Go.Proofs.Ytopnlcjbklmicaa
open Go.RowKit Go.Maps Go.Shelf
set_option linter.unusedVariables false
set_option linter.unusedSimpArgs false
theorem ints_two (W : World) (b : Nat) (x y : Int) (T : TypeId) (h : W.heap.size = b) : IntsAt (W.alloc (.cells #[.int .i64 x, .int .i64 y] T)) (.slice (some ⟨b, 0, none⟩) 2 2) [x, y] := by
  have B := Blk.newI W b #[.int .i64 x, .int .i64 y] T h
  refine ⟨by simp, .inr ⟨b, 0, 2, rfl, Nat.le_refl _, B.lt, fun i hi => ?_⟩⟩
  match i, hi with
  | 0, _ => exact B.cell rfl
  | 1, _ => exact B.cell rfl
theorem ints_one (W : World) (b : Nat) (x : Int) (T : TypeId) (h : W.heap.size = b) : IntsAt (W.alloc (.cells #[.int .i64 x] T)) (.slice (some ⟨b, 0, none⟩) 1 1) [x] := by
  have B := Blk.newI W b #[.int .i64 x] T h
  refine ⟨by simp, .inr ⟨b, 0, 1, rfl, Nat.le_refl _, B.lt, fun i hi => ?_⟩⟩
  match i, hi with
  | 0, _ => exact B.cell rfl
def isSpreadF (lo hi most : Int) : Bool := inB lo 0 most && inB hi 0 most && decide (lo ≤ hi)
theorem isSpread_any (lo hi most : Int) (w : World) :
    Calls Try.prog 57 #[.agg #[.int .i64 lo, .int .i64 hi], .int .i64 most] w fun e w' => e = .returned (.bool (isSpreadF lo hi most)) ∧ Below w.heap.size w w' := by
  have B := Blk.new w #[.int .i64 lo, .int .i64 hi] 23
  have b0 := B.cell (i := 0) (v := .int .i64 lo) rfl
  have b1 := B.cell (i := 1) (v := .int .i64 hi) rfl
  have B2 := B.alloc (.cells #[.int .i64 lo, .int .i64 hi] 3)
  have c0 := B2.cell (i := 0) (v := .int .i64 lo) rfl
  have c1 := B2.cell (i := 1) (v := .int .i64 hi) rfl
  have HBB := Lib.hid (((Below.refl _ w).alloc (Nat.le_refl _) (.cells #[.int .i64 lo, .int .i64 hi] 23)).alloc (by simp) (.cells #[.int .i64 lo, .int .i64 hi] 3))
  have HF : Hid (isSpreadF lo hi most = (([lo, hi].all fun n => inB n 0 most) && decide (lo ≤ hi))) := Lib.hid (by simp [isSpreadF])
  obtain ⟨r, hr⟩ : ∃ r, ([lo, hi].all fun n => inB n 0 most) = r := ⟨_, rfl⟩
  have HI := Lib.hid (areWithin_any 0 most _ _ _ (ints_two (w.alloc (.cells #[.int .i64 lo, .int .i64 hi] 23)) (w.heap.size + 1) lo hi 3 (by simp)))
  rw [hr] at HF HI
  clear hr B B2
  go_enter Try.func57, Try.ntmps57
  go_wp2_with fail
  refine HI.out.mono ?_
  rintro e w2 ⟨rfl, rfl⟩
  cases r
  · go_wp2
    go_ret
    exact ⟨ret_bool (by rw [HF.out]; simp), HBB.out⟩
  · go_wp2
    go_ret
    exact ⟨ret_bool (by rw [HF.out]; simp), HBB.out⟩
theorem wrap_id {a : Int} (h1 : -9000000000000000000 ≤ a) (h2 : a ≤ 9000000000000000000) : IntKind.i64.wrap a = a := by
  unfold IntKind.wrap
  simp [IntKind.bits, IntKind.signed]
  omega
theorem dividedUp_any (n b : Int) (w : World) (hn0 : 0 ≤ n) (hn : n ≤ 1000000000000000) (hb0 : 1 ≤ b) (hb : b ≤ 1000000000) :
    Calls Try.prog 56 #[.int .i64 n, .int .i64 b] w fun e w' => e = .returned (.int .i64 ((n + b - 1) / b)) ∧ w' = w := by
  have h0 : 0 ≤ n + b - 1 := by omega
  have hd : (n + b - 1).tdiv b = (n + b - 1) / b := Int.tdiv_eq_ediv_of_nonneg h0
  have hq1 : (n + b - 1) / b ≤ n + b - 1 := Int.ediv_le_self _ h0
  have hq0 : 0 ≤ (n + b - 1) / b := Int.ediv_nonneg h0 (by omega)
  obtain ⟨q, hq⟩ : ∃ q, (n + b - 1) / b = q := ⟨_, rfl⟩
  rw [hq] at hd hq1 hq0 ⊢
  clear hq
  go_enter Try.func56, Try.ntmps56
  go_wp2
  go_ret
  exact ⟨ret_int (by first | rfl | omega), rfl⟩
end Go.Proofs.Ytopnlcjbklmicaa
