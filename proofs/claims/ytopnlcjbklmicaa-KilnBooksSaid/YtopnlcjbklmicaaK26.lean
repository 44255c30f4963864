import Derived.Test.YtopnlcjbklmicaaK25
import Derived.WalkKit
import Derived.WalkSpells
import Derived.WalkLawsBesides
import Derived.Deep.QuietTactic
import Derived.BigQuiet
import Derived.Lib.Hide
import Derived.WalkSmall
import Derived.Maps.OwnSet
import Derived.Maps.RangeWalk
import Derived.Deep.RegionWith
import Derived.Deep.RegionHeld3
import Derived.Deep.DrawnRows
import Derived.Deep.DeepCutAuto
import Derived.OneCell
import Derived.KernelRfl
import Derived.Laws.StructEq
import Derived.StillTailTactics
import Derived.Laws.Externs
import Derived.RangeFuncBox
import Derived.Outline
import Derived.RangeFuncNested
import Derived.RangeFuncBound
import Derived.RangeFuncCalls
import Derived.RangeFuncLeaves
import Derived.Shelf.RegionOpen
import Derived.OwnWalkIn
import Derived.TacticsInMore
import Derived.LoopNIn
import Derived.LoopIn
import Derived.Test.YtopnlcjbklmicaaProg
namespace Go.Proofs.Ytopnlcjbklmicaa
open Go.RowKit Go.Maps Go.Shelf
set_option linter.unusedVariables false
set_option linter.unusedSimpArgs false
def twoL : List (List Int × List Int) := [([0, 1], [3, 5]), ([0, 0], [4])]
theorem ints_blk {W : World} {b : Nat} {T : TypeId} (l : List Int) (h : Blk W b (l.map (fun x => Value.int .i64 x)).toArray T) (hl : l.length ≤ 1000) : IntsAt W (.slice (some ⟨b, 0, none⟩) l.length l.length) l :=
  ⟨by omega, .inr ⟨b, 0, l.length, rfl, Nat.le_refl _, h.lt, fun i hi => by
    have h2 := h.cell (i := i) (v := .int .i64 (l[i]?.getD 0)) (by simp [hi])
    simpa using h2⟩⟩
theorem two_tiers {W : World} {b : Nat} (B1 : Blk W (b + 1) #[.int .i64 0, .int .i64 1] 3) (B2 : Blk W (b + 1 + 1) #[.int .i64 3, .int .i64 5] 3) (B3 : Blk W (b + 1 + 1 + 1) #[.int .i64 0, .int .i64 0] 3) (B4 : Blk W (b + 1 + 1 + 1 + 1) #[.int .i64 4] 3)
    (B5 : Blk W (b + 1 + 1 + 1 + 1 + 1) #[.slice (some ⟨b + 1, 0, none⟩) 2 2, .slice (some ⟨b + 1 + 1, 0, none⟩) 2 2, .slice (some ⟨b + 1 + 1 + 1, 0, none⟩) 2 2, .slice (some ⟨b + 1 + 1 + 1 + 1, 0, none⟩) 1 1] 85) :
    TiersAt W.heap.size W (.slice (some ⟨b + 1 + 1 + 1 + 1 + 1, 0, none⟩) 2 2) twoL := by
  refine ⟨by simp [twoL], Nat.le_refl _, .inr ⟨_, 0, 2, rfl, by simp [twoL], B5.lt, fun i hi => ?_⟩⟩
  have hi2 : i = 0 ∨ i = 1 := by simp [twoL] at hi; omega
  have l1 := B1.lt
  have l2 := B2.lt
  have l3 := B3.lt
  have l4 := B4.lt
  rcases hi2 with rfl | rfl
  · exact ⟨_, _, B5.cell (i := 0) rfl, B5.cell (i := 1) rfl, ⟨ints_blk [0, 1] B1 (by simp), fun k hk => by simp [Value.ownBlock] at hk; omega⟩, ⟨ints_blk [3, 5] B2 (by simp), fun k hk => by simp [Value.ownBlock] at hk; omega⟩⟩
  · exact ⟨_, _, B5.cell (i := 2) rfl, B5.cell (i := 3) rfl, ⟨ints_blk [0, 0] B3 (by simp), fun k hk => by simp [Value.ownBlock] at hk; omega⟩, ⟨ints_blk [4] B4 (by simp), fun k hk => by simp [Value.ownBlock] at hk; omega⟩⟩
set_option maxHeartbeats 1000000 in
theorem two_any (w : World) : Calls Try.prog 58 #[] w fun e w' => ∃ tb, e = .returned (.agg #[.int .i64 2, .int .i64 1, .slice (some ⟨tb, 0, none⟩) 2 2]) ∧ TiersAt w'.heap.size w' (.slice (some ⟨tb, 0, none⟩) 2 2) twoL ∧ Below w.heap.size w w' := by
  go_enter Try.func58, Try.ntmps58
  go_wp2
  have A0 : Blk (w.alloc (.cells #[.int .i64 2, .int .i64 1, .slice (some ⟨w.heap.size + 1 + 1 + 1 + 1 + 1, 0, none⟩) 2 2] 69)) w.heap.size _ _ := Blk.new _ _ _
  have E0 := (Below.refl w.heap.size w).alloc (Nat.le_refl _) (.cells #[.int .i64 2, .int .i64 1, .slice (some ⟨w.heap.size + 1 + 1 + 1 + 1 + 1, 0, none⟩) 2 2] 69)
  obtain ⟨W0, h0⟩ : ∃ W0, w.alloc (.cells #[.int .i64 2, .int .i64 1, .slice (some ⟨w.heap.size + 1 + 1 + 1 + 1 + 1, 0, none⟩) 2 2] 69) = W0 := ⟨_, rfl⟩
  have s0 : W0.heap.size = w.heap.size + 1 := by rw [← h0]; simp
  rw [h0] at A0 E0 ⊢
  have A1 := Blk.newI W0 _ #[.int .i64 0, .int .i64 1] 3 s0
  have A2 := Blk.newI (W0.alloc (.cells #[.int .i64 0, .int .i64 1] 3)) (w.heap.size + 1 + 1) #[.int .i64 3, .int .i64 5] 3 (by simp [s0])
  have A3 := Blk.newI ((W0.alloc (.cells #[.int .i64 0, .int .i64 1] 3)).alloc (.cells #[.int .i64 3, .int .i64 5] 3)) (w.heap.size + 1 + 1 + 1) #[.int .i64 0, .int .i64 0] 3 (by simp [s0])
  have A4 := Blk.newI (((W0.alloc (.cells #[.int .i64 0, .int .i64 1] 3)).alloc (.cells #[.int .i64 3, .int .i64 5] 3)).alloc (.cells #[.int .i64 0, .int .i64 0] 3)) (w.heap.size + 1 + 1 + 1 + 1) #[.int .i64 4] 3 (by simp [s0])
  have A5 := Blk.newI ((((W0.alloc (.cells #[.int .i64 0, .int .i64 1] 3)).alloc (.cells #[.int .i64 3, .int .i64 5] 3)).alloc (.cells #[.int .i64 0, .int .i64 0] 3)).alloc (.cells #[.int .i64 4] 3)) (w.heap.size + 1 + 1 + 1 + 1 + 1) #[.slice (some ⟨w.heap.size + 1, 0, none⟩) 2 2, .slice (some ⟨w.heap.size + 1 + 1, 0, none⟩) 2 2, .slice (some ⟨w.heap.size + 1 + 1 + 1, 0, none⟩) 2 2, .slice (some ⟨w.heap.size + 1 + 1 + 1 + 1, 0, none⟩) 1 1] 85 (by simp [s0])
  have C0 := ((((A0.alloc (.cells #[.int .i64 0, .int .i64 1] 3)).alloc (.cells #[.int .i64 3, .int .i64 5] 3)).alloc (.cells #[.int .i64 0, .int .i64 0] 3)).alloc (.cells #[.int .i64 4] 3)).alloc (.cells #[.slice (some ⟨w.heap.size + 1, 0, none⟩) 2 2, .slice (some ⟨w.heap.size + 1 + 1, 0, none⟩) 2 2, .slice (some ⟨w.heap.size + 1 + 1 + 1, 0, none⟩) 2 2, .slice (some ⟨w.heap.size + 1 + 1 + 1 + 1, 0, none⟩) 1 1] 85)
  have c0 := C0.cell (i := 0) (v := .int .i64 2) rfl
  have c1 := C0.cell (i := 1) (v := .int .i64 1) rfl
  have c2 := C0.cell (i := 2) (v := .slice (some ⟨w.heap.size + 1 + 1 + 1 + 1 + 1, 0, none⟩) 2 2) rfl
  have HT := Lib.hid (two_tiers ((((A1.alloc _).alloc _).alloc _).alloc _) (((A2.alloc _).alloc _).alloc _) ((A3.alloc _).alloc _) (A4.alloc _) A5)
  have HB := Lib.hid (((((E0.alloc (by omega) (.cells #[.int .i64 0, .int .i64 1] 3)).alloc (by simp; omega) (.cells #[.int .i64 3, .int .i64 5] 3)).alloc (by simp; omega) (.cells #[.int .i64 0, .int .i64 0] 3)).alloc (by simp; omega) (.cells #[.int .i64 4] 3)).alloc (by simp; omega) (.cells #[.slice (some ⟨w.heap.size + 1, 0, none⟩) 2 2, .slice (some ⟨w.heap.size + 1 + 1, 0, none⟩) 2 2, .slice (some ⟨w.heap.size + 1 + 1 + 1, 0, none⟩) 2 2, .slice (some ⟨w.heap.size + 1 + 1 + 1 + 1, 0, none⟩) 1 1] 85))
  clear A1 A2 A3 A4 A5 C0 h0
  refine bodyPost_ret (v := .agg #[.int .i64 2, .int .i64 1, .slice (some ⟨w.heap.size + 1 + 1 + 1 + 1 + 1, 0, none⟩) 2 2]) ?_ rfl ⟨_, rfl, HT.out, HB.out⟩
  simp [results, Try.results58, go_sem, c0, c1, c2]
theorem two_check : checkF 2 1 twoL = 0 := by decide
theorem two_hang : FirstB twoL (hangP twoL) none ∧ loadsF twoL 2 = ([[(2, 1), (2, 1)], [(0, 1)]], [(5, 1), (7, 1)], 0) := by
  constructor
  · unfold FirstB
    decide
  · decide +kernel
end Go.Proofs.Ytopnlcjbklmicaa
