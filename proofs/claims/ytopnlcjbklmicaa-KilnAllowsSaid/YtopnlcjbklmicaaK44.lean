import Derived.Test.YtopnlcjbklmicaaK43
import Derived.WalkKit
import Derived.WalkSpells
import Derived.WalkLawsBesides
import Derived.Deep.QuietTactic
import Derived.BigQuiet
import Derived.Lib.Hide
import Derived.WalkSmall
import Derived.Maps.OwnSet
import Derived.Maps.RangeWalk
import Derived.Deep.RegionWith
import Derived.Deep.RegionHeld3
import Derived.Deep.DrawnRows
import Derived.Deep.DeepCutAuto
import Derived.OneCell
import Derived.KernelRfl
import Derived.Laws.StructEq
import Derived.StillTailTactics
import Derived.Laws.Externs
import Derived.RangeFuncBox
import Derived.Outline
import Derived.RangeFuncNested
import Derived.RangeFuncBound
import Derived.RangeFuncCalls
import Derived.RangeFuncLeaves
import Derived.Shelf.RegionOpen
import Derived.OwnWalkIn
import Derived.TacticsInMore
import Derived.LoopNIn
import Derived.LoopIn
import Derived.Test.YtopnlcjbklmicaaProg
namespace Go.Proofs.Ytopnlcjbklmicaa
open Go.RowKit Go.Maps Go.Shelf
set_option linter.unusedVariables false
set_option linter.unusedSimpArgs false
set_option maxRecDepth 100000 in
set_option maxHeartbeats 2000000 in
theorem allows_any (n : Int) (v : Value) (l : List (Int × Int)) (w : World) (h : PairsAt w v l) (hsrc : SrcAt w v l) (hn : 0 ≤ n ∧ n ≤ 4294967295) :
    Calls Try.prog 9 #[.int .u32 n, v] w fun e w' => e = .returned (.bool true) ∧ Below w.heap.size w w' := by
  by_cases hl : 1 ≤ l.length ∧ l.length ≤ 9
  · obtain ⟨hl8, ⟨rfl, _⟩ | ⟨b, off, cap, rfl, hcap, _, _⟩⟩ := h
    · simp at hl
    · cases l with
      | nil => simp at hl
      | cons x r =>
        have hm := Int.tmod_nonneg (a := n) 500000000 hn.1
        have hm2 := Int.tmod_lt_of_pos n (b := 500000000) (by omega)
        exact allows_cons n _ b off _ cap x r w rfl hcap hl.2 hsrc hn rfl ⟨hm, hm2⟩
  · have HK := Lib.hid known_any
    obtain ⟨a, cap, rfl, hl8, _⟩ := h.placed
    clear hsrc h
    by_cases h1 : l.length < 1
    · have h1i : (l.length : Int) < 1 := by omega
      clear hl hl8 h1
      go_enter Try.func9, Try.ntmps9
      go_wp2_with fail
      refine (HK.out _).mono ?_
      rintro e w9 ⟨rfl, hb9⟩
      have HB9 := Lib.hid hb9
      clear hb9
      go_wp2
      go_ret
      exact ⟨rfl, HB9.out⟩
    · have h1i : 1 ≤ (l.length : Int) := by omega
      have h9i : 9 < (l.length : Int) := by omega
      clear hl h1
      go_enter Try.func9, Try.ntmps9
      go_wp2_with fail
      refine (HK.out _).mono ?_
      rintro e w9 ⟨rfl, hb9⟩
      have HB9 := Lib.hid hb9
      clear hb9
      go_wp2
      go_ret
      exact ⟨rfl, HB9.out⟩
end Go.Proofs.Ytopnlcjbklmicaa
