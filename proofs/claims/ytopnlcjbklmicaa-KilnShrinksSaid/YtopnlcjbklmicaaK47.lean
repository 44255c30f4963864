import Derived.Test.YtopnlcjbklmicaaK46
import Derived.WalkKit
import Derived.WalkSpells
import Derived.WalkLawsBesides
import Derived.Deep.QuietTactic
import Derived.BigQuiet
import Derived.Lib.Hide
import Derived.WalkSmall
import Derived.Maps.OwnSet
import Derived.Maps.RangeWalk
import Derived.Deep.RegionWith
import Derived.Deep.RegionHeld3
import Derived.Deep.DrawnRows
import Derived.Deep.DeepCutAuto
import Derived.OneCell
import Derived.KernelRfl
import Derived.Laws.StructEq
import Derived.StillTailTactics
import Derived.Laws.Externs
import Derived.RangeFuncBox
import Derived.Outline
import Derived.RangeFuncNested
import Derived.RangeFuncBound
import Derived.RangeFuncCalls
import Derived.RangeFuncLeaves
import Derived.Shelf.RegionOpen
import Derived.OwnWalkIn
import Derived.TacticsInMore
import Derived.LoopNIn
import Derived.LoopIn
import Derived.Test.YtopnlcjbklmicaaProg
namespace Go.Proofs.Ytopnlcjbklmicaa
open Go.RowKit Go.Maps Go.Shelf
set_option linter.unusedVariables false
set_option linter.unusedSimpArgs false
theorem u16_w {b : Int} (h : 0 ≤ b ∧ b ≤ 65535) : IntKind.i64.wrap b = b := wrap_id (by omega) (by omega)
/-- KilnShrinks, for all numbers. -/
theorem shrinks_all (b0 b1 b2 b3 n wa wb : Int) (w : World) (h0 : 0 ≤ b0 ∧ b0 ≤ 65535) (h1 : 0 ≤ b1 ∧ b1 ≤ 65535) (h2 : 0 ≤ b2 ∧ b2 ≤ 65535) (h3 : 0 ≤ b3 ∧ b3 ≤ 65535) (hn : 0 ≤ n ∧ n ≤ 4294967295) (ha : 0 ≤ wa ∧ wa ≤ 65535) (hb : 0 ≤ wb ∧ wb ≤ 65535) :
    Calls Try.prog 8 #[.agg #[.int .u16 b0, .int .u16 b1, .int .u16 b2, .int .u16 b3], .int .u32 n, .agg #[.int .u16 wa, .int .u16 wb]] w fun e w' => e = .returned (.bool true) ∧ Below w.heap.size w w' := by
  have M : ∀ b : Int, 0 ≤ b → 0 ≤ b.tmod 5000 ∧ b.tmod 5000 < 5000 := fun b h => ⟨Int.tmod_nonneg 5000 h, Int.tmod_lt_of_pos b (by omega)⟩
  have a0 := M b0 h0.1
  have a1 := M b1 h1.1
  have a2 := M b2 h2.1
  have a3 := M b3 h3.1
  have n1 := Int.tmod_nonneg (a := n) 999999 hn.1
  have n2 := Int.tmod_lt_of_pos n (b := 999999) (by omega)
  exact shrinks_any b0 b1 b2 b3 n wa wb (b0.tmod 5000) (b0.tmod 5000 + b2.tmod 5000) (b1.tmod 5000) (b1.tmod 5000 + b3.tmod 5000) (b2.tmod 5000) (b3.tmod 5000) (n.tmod 999999 + 1) w
    (u16_w h0) (u16_w h1) (u16_w h2) (u16_w h3) rfl rfl rfl rfl (u16_w (by omega)) (u16_w (by omega)) (u16_w (by omega)) (u16_w (by omega)) (u16_w (by omega)) (u16_w (by omega))
    (by omega) (by omega) hn rfl (by omega) ha hb
end Go.Proofs.Ytopnlcjbklmicaa
