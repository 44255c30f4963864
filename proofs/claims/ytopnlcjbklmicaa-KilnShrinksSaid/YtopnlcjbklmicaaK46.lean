import Derived.Test.YtopnlcjbklmicaaK43
import Derived.Test.YtopnlcjbklmicaaK45
import Derived.WalkKit
import Derived.WalkSpells
import Derived.WalkLawsBesides
import Derived.Deep.QuietTactic
import Derived.BigQuiet
import Derived.Lib.Hide
import Derived.WalkSmall
import Derived.Maps.OwnSet
import Derived.Maps.RangeWalk
import Derived.Deep.RegionWith
import Derived.Deep.RegionHeld3
import Derived.Deep.DrawnRows
import Derived.Deep.DeepCutAuto
import Derived.OneCell
import Derived.KernelRfl
import Derived.Laws.StructEq
import Derived.StillTailTactics
import Derived.Laws.Externs
import Derived.RangeFuncBox
import Derived.Outline
import Derived.RangeFuncNested
import Derived.RangeFuncBound
import Derived.RangeFuncCalls
import Derived.RangeFuncLeaves
import Derived.Shelf.RegionOpen
import Derived.OwnWalkIn
import Derived.TacticsInMore
import Derived.LoopNIn
import Derived.LoopIn
import Derived.Test.YtopnlcjbklmicaaProg
namespace Go.Proofs.Ytopnlcjbklmicaa
open Go.RowKit Go.Maps Go.Shelf
set_option linter.unusedVariables false
set_option linter.unusedSimpArgs false
/-- The blocks of a list stand, and what was there is as it was. -/
def KeepG (l : List (Nat × Array Value × TypeId)) (w W : World) : Prop := (∀ p ∈ l, Blk W p.1 p.2.1 p.2.2) ∧ Below w.heap.size w W
theorem KeepG.past {l : List (Nat × Array Value × TypeId)} {w W W' : World} (h : KeepG l w W) (hb : Below W.heap.size W W') : KeepG l w W' :=
  ⟨fun p hp => (h.1 p hp).past hb, h.2.trans (hb.mono h.2.size)⟩
theorem KeepG.tail {a : Nat × Array Value × TypeId} {l : List (Nat × Array Value × TypeId)} {w W : World} (h : KeepG (a :: l) w W) : KeepG l w W := ⟨fun p hp => h.1 p (by simp [hp]), h.2⟩
theorem KeepG.far {l : List (Nat × Array Value × TypeId)} {w W : World} {xd i : Nat} {u : Value} (h : KeepG l w W) (hn : ∀ p ∈ l, p.1 ≠ xd) (hB : w.heap.size ≤ xd) : KeepG l w (W.setCell ⟨xd, i, none⟩ u) :=
  ⟨fun p hp => (h.1 p hp).far (b' := xd) (i := i) (u := u) (hn p hp), h.2.setCell (p := ⟨xd, i, none⟩) hB u⟩
theorem KeepG.new {l : List (Nat × Array Value × TypeId)} {w W : World} {xd : Nat} (h : KeepG l w W) (hx : W.heap.size = xd) (vs : Array Value) (T : TypeId) :
    KeepG l w (W.alloc (.cells vs T)) ∧ Blk (W.alloc (.cells vs T)) xd vs T ∧ (∀ p ∈ l, p.1 ≠ xd) ∧ w.heap.size ≤ xd :=
  ⟨h.past ((Below.refl _ W).alloc (Nat.le_refl _) _), Blk.newI W xd vs T hx, fun p hp => by have := (h.1 p hp).below_size; omega, by have := h.2.size; omega⟩
theorem KeepG.cons {l : List (Nat × Array Value × TypeId)} {w W : World} {xd : Nat} {vs : Array Value} {T : TypeId} (h : KeepG l w W) (hd : Blk W xd vs T) : KeepG ((xd, vs, T) :: l) w W :=
  ⟨fun p hp => by
    rcases List.mem_cons.1 hp with rfl | hp
    · exact hd
    · exact h.1 p hp, h.2⟩
/-- A new block behind what stands. -/
theorem KeepG.news {l : List (Nat × Array Value × TypeId)} {w W : World} {xd : Nat} (h : KeepG l w W) (hx : W.heap.size = xd) (vs : Array Value) (T : TypeId) : KeepG ((xd, vs, T) :: l) w (W.alloc (.cells vs T)) :=
  let g := h.new hx vs T
  g.1.cons g.2.1
theorem KeepG.hd {a : Nat × Array Value × TypeId} {l : List (Nat × Array Value × TypeId)} {w W : World} (h : KeepG (a :: l) w W) : Blk W a.1 a.2.1 a.2.2 := h.1 a (by simp)
def u16s (b0 b1 b2 b3 : Int) : Array Value := #[.int .u16 b0, .int .u16 b1, .int .u16 b2, .int .u16 b3]
set_option maxRecDepth 100000 in
set_option maxHeartbeats 4000000 in
theorem shrinks_any (b0 b1 b2 b3 n wa wb dl dh fl fh p2 p3 N : Int) (w : World)
    (c0 : IntKind.i64.wrap b0 = b0) (c1 : IntKind.i64.wrap b1 = b1) (c2 : IntKind.i64.wrap b2 = b2) (c3 : IntKind.i64.wrap b3 = b3)
    (q0 : b0.tmod 5000 = dl) (q1 : b1.tmod 5000 = fl) (q2 : b2.tmod 5000 = p2) (q3 : b3.tmod 5000 = p3) (r0 : IntKind.i64.wrap dl = dl) (r1 : IntKind.i64.wrap fl = fl) (r2 : IntKind.i64.wrap p2 = p2) (r3 : IntKind.i64.wrap p3 = p3)
    (q4 : IntKind.i64.wrap (dl + p2) = dh) (q5 : IntKind.i64.wrap (fl + p3) = fh)
    (h1 : 0 ≤ dl ∧ dl ≤ dh ∧ dh ≤ 9998) (h2 : 0 ≤ fl ∧ fl ≤ fh ∧ fh ≤ 9998)
    (hn : 0 ≤ n ∧ n ≤ 4294967295) (hN : n.tmod 999999 + 1 = N) (hNr : 1 ≤ N ∧ N ≤ 999999) (ha : 0 ≤ wa ∧ wa ≤ 65535) (hb : 0 ≤ wb ∧ wb ≤ 65535) :
    Calls Try.prog 8 #[.agg #[.int .u16 b0, .int .u16 b1, .int .u16 b2, .int .u16 b3], .int .u32 n, .agg #[.int .u16 wa, .int .u16 wb]] w fun e w' => e = .returned (.bool true) ∧ Below w.heap.size w w' := by
  have HK := Lib.hid known_any
  obtain ⟨x3, hx3⟩ : ∃ x, w.heap.size = x := ⟨_, rfl⟩
  go_enter Try.func8, Try.ntmps8
  go_upto_region 2 with fail
  have K1 : KeepG [] w w := ⟨fun p hp => by simp at hp, Below.refl _ _⟩
  have K2 := K1.news hx3 #[.int .u16 b0, .int .u16 b1, .int .u16 b2, .int .u16 b3] 96
  have K3 := K2.news (xd := x3 + 1) (by simp [hx3]) #[.int .u16 wa, .int .u16 wb] 98
  have K4 := K3.new (xd := x3 + 1 + 1) (by simp [hx3]) #[.int .i64 0, .int .i64 0, .int .i64 0, .int .i64 0] 25
  obtain ⟨wx, hwx⟩ : ∃ x, (((w.alloc (.cells #[.int .u16 b0, .int .u16 b1, .int .u16 b2, .int .u16 b3] 96)).alloc (.cells #[.int .u16 wa, .int .u16 wb] 98)).alloc (.cells #[.int .i64 0, .int .i64 0, .int .i64 0, .int .i64 0] 25)) = x := ⟨_, rfl⟩
  rw [hwx] at K4 ⊢
  obtain ⟨k1, k2, k3, k4⟩ := K4
  obtain ⟨xc, hxc⟩ : ∃ x, x3 + 1 + 1 = x := ⟨_, rfl⟩
  rw [hxc] at k2 k3 k4 ⊢
  obtain ⟨x5, hx5⟩ : ∃ x, x3 + 1 = x := ⟨_, rfl⟩
  rw [hx5] at k1 k3 ⊢
  have HNE := Lib.hid k3
  have HLE := Lib.hid k4
  refine region_plain (fun W => W.cell? ⟨x3, 0, none⟩ = some (.int .u16 b0) ∧ W.cell? ⟨x3, 1, none⟩ = some (.int .u16 b1)) 14 #[false, false, false, false, false, false, false, false, false, false, false, false, false, false] rfl rfl (by kernel_rfl) ?_
  obtain ⟨wy, hwy⟩ : ∃ x, wx.drew = x := ⟨_, rfl⟩
  have HKB := Lib.hid (k1.past (Below.refl _ _).drew)
  have HC := Lib.hid (k2.past (Below.refl _ _).drew)
  rw [hwy] at HKB HC ⊢
  clear hwy hwx hxc hx5 hx3 k1 k2 k3 k4 K1 K2 K3
  have hSS : wy.cell? ⟨x3, 0, none⟩ = some (.int .u16 b0) ∧ wy.cell? ⟨x3, 1, none⟩ = some (.int .u16 b1) := ⟨HKB.out.tail.hd.cell (i := 0) rfl, HKB.out.tail.hd.cell (i := 1) rfl⟩
  refine take_first (i := 0) (v := ?_) rfl (by kernel_rfl) (by kernel_rfl) (by kernel_rfl) (fun _ _ _ h => h) (by rfl) (by assumption) ?_ ?_
  rotate_left 1
  · intro X hSX
    (try dsimp only at hSX)
    first | (go_simp; done) | (go_simp; with_reducible rfl)
  try simp only [Act.put, List.setIfInBounds_toArray, List.set_cons_zero, List.set_cons_succ]
  refine take_first (i := 1) (v := ?_) rfl (by kernel_rfl) (by kernel_rfl) (by kernel_rfl) (fun _ _ _ h => h) (by rfl) (by assumption) ?_ ?_
  rotate_left 1
  · intro X hSX
    (try dsimp only at hSX)
    first | (go_simp; done) | (go_simp; with_reducible rfl)
  try simp only [Act.put, List.setIfInBounds_toArray, List.set_cons_zero, List.set_cons_succ]
  refine take_first (i := 2) (v := ?_) rfl (by kernel_rfl) (by kernel_rfl) (by kernel_rfl) (fun _ _ _ h => h) (by rfl) (by assumption) ?_ ?_
  rotate_left 1
  · intro X hSX
    (try dsimp only at hSX)
    first | (go_simp; done) | (go_simp; with_reducible rfl)
  try simp only [Act.put, List.setIfInBounds_toArray, List.set_cons_zero, List.set_cons_succ]
  refine take_first (i := 3) (v := ?_) rfl (by kernel_rfl) (by kernel_rfl) (by kernel_rfl) (fun _ _ _ h => h) (by rfl) (by assumption) ?_ ?_
  rotate_left 1
  · intro X hSX
    (try dsimp only at hSX)
    first | (go_simp; done) | (go_simp; with_reducible rfl)
  try simp only [Act.put, List.setIfInBounds_toArray, List.set_cons_zero, List.set_cons_succ]
  refine take_first (i := 4) (v := ?_) rfl (by kernel_rfl) (by kernel_rfl) (by kernel_rfl) (fun _ _ _ h => h) (by rfl) (by assumption) ?_ ?_
  rotate_left 1
  · intro X hSX
    (try dsimp only at hSX)
    first | (go_simp; done) | (go_simp; with_reducible rfl)
  try simp only [Act.put, List.setIfInBounds_toArray, List.set_cons_zero, List.set_cons_succ]
  refine take_first (i := 5) (v := ?_) rfl (by kernel_rfl) (by kernel_rfl) (by kernel_rfl) (fun _ _ _ h => h) (by rfl) (by assumption) ?_ ?_
  rotate_left 1
  · intro X hSX
    (try dsimp only at hSX)
    first | (go_simp; done) | (go_simp; with_reducible rfl)
  try simp only [Act.put, List.setIfInBounds_toArray, List.set_cons_zero, List.set_cons_succ]
  refine take_first (i := 6) (v := ?_) rfl (by kernel_rfl) (by kernel_rfl) (by kernel_rfl) (fun _ _ _ h => h) (by rfl) (by assumption) ?_ ?_
  rotate_left 1
  · intro X hSX
    (try dsimp only at hSX)
    first | (go_simp; done) | (go_simp; with_reducible rfl)
  try simp only [Act.put, List.setIfInBounds_toArray, List.set_cons_zero, List.set_cons_succ]
  refine take_first (i := 7) (v := ?_) rfl (by kernel_rfl) (by kernel_rfl) (by kernel_rfl) (fun _ _ _ h => h) (by rfl) (by assumption) ?_ ?_
  rotate_left 1
  · intro X hSX
    (try dsimp only at hSX)
    first | (go_simp; done) | (go_simp; with_reducible rfl)
  try simp only [Act.put, List.setIfInBounds_toArray, List.set_cons_zero, List.set_cons_succ]
  refine take_first (i := 8) (v := ?_) rfl (by kernel_rfl) (by kernel_rfl) (by kernel_rfl) (fun _ _ _ h => h) (by rfl) (by assumption) ?_ ?_
  rotate_left 1
  · intro X hSX
    (try dsimp only at hSX)
    first | (go_simp; done) | (go_simp; with_reducible rfl)
  try simp only [Act.put, List.setIfInBounds_toArray, List.set_cons_zero, List.set_cons_succ]
  refine take_first (i := 9) (v := ?_) rfl (by kernel_rfl) (by kernel_rfl) (by kernel_rfl) (fun _ _ _ h => h) (by rfl) (by assumption) ?_ ?_
  rotate_left 1
  · intro X hSX
    (try dsimp only at hSX)
    first | (go_simp; done) | (go_simp; with_reducible rfl)
  try simp only [Act.put, List.setIfInBounds_toArray, List.set_cons_zero, List.set_cons_succ]
  have e0 := HC.out.cell (i := 0) (v := .int .i64 0) rfl
  have f0 := HC.out.fr (i := 0)
  refine only_one (i := 10) (by kernel_rfl) rfl (by rfl) ?_
  intro K hK
  go_simp
  have HKC := Lib.hid (HKB.out.far (i := 0) (u := .int .i64 dl) HNE.out HLE.out)
  have HC2 := Lib.hid (HC.out.set 0 (by simp) (.int .i64 dl) rfl)
  clear hSS e0 f0 HKB HC
  have hSS : World.cell? _ ⟨x3, 0, none⟩ = some (.int .u16 b0) ∧ World.cell? _ ⟨x3, 1, none⟩ = some (.int .u16 b1) := ⟨HKC.out.tail.hd.cell (i := 0) rfl, HKC.out.tail.hd.cell (i := 1) rfl⟩
  refine hK.out _ _ hSS ?_
  clear hK K
  try simp only [Act.put, List.setIfInBounds_toArray, List.set_cons_zero, List.set_cons_succ]
  refine take_first (i := 11) (v := ?_) rfl (by kernel_rfl) (by kernel_rfl) (by kernel_rfl) (fun _ _ _ h => h) (by rfl) (by assumption) ?_ ?_
  rotate_left 1
  · intro X hSX
    (try dsimp only at hSX)
    first | (go_simp; done) | (go_simp; with_reducible rfl)
  try simp only [Act.put, List.setIfInBounds_toArray, List.set_cons_zero, List.set_cons_succ]
  refine take_first (i := 12) (v := ?_) rfl (by kernel_rfl) (by kernel_rfl) (by kernel_rfl) (fun _ _ _ h => h) (by rfl) (by assumption) ?_ ?_
  rotate_left 1
  · intro X hSX
    (try dsimp only at hSX)
    first | (go_simp; done) | (go_simp; with_reducible rfl)
  try simp only [Act.put, List.setIfInBounds_toArray, List.set_cons_zero, List.set_cons_succ]
  have e0 := HC2.out.cell (i := 2) (v := .int .i64 0) rfl
  have f0 := HC2.out.fr (i := 2)
  refine only_one (i := 13) (by kernel_rfl) rfl (by rfl) ?_
  intro K hK
  go_simp
  have HKD := Lib.hid (HKC.out.far (i := 2) (u := .int .i64 fl) HNE.out HLE.out)
  have HC3 := Lib.hid (HC2.out.set 2 (by simp) (.int .i64 fl) rfl)
  clear hSS e0 f0 HKC HC2
  have hSS : World.cell? _ ⟨x3, 0, none⟩ = some (.int .u16 b0) ∧ World.cell? _ ⟨x3, 1, none⟩ = some (.int .u16 b1) := ⟨HKD.out.tail.hd.cell (i := 0) rfl, HKD.out.tail.hd.cell (i := 1) rfl⟩
  refine hK.out _ _ hSS ?_
  clear hK K
  try simp only [Act.put, List.setIfInBounds_toArray, List.set_cons_zero, List.set_cons_succ]
  refine wpAnyH_done (by kernel_rfl) ?_ _
  clear hSS
  go_upto_region 3 with fail
  have HE := Lib.hid HC3.out
  clear HC3
  obtain ⟨wx, hwx⟩ : ∃ x, (wy.setCell ⟨xc, 0, none⟩ (.int .i64 dl)).setCell ⟨xc, 2, none⟩ (.int .i64 fl) = x := ⟨_, rfl⟩
  rw [hwx] at HKD HE ⊢
  refine region_plain (fun W => W.cell? ⟨x3, 2, none⟩ = some (.int .u16 b2) ∧ W.cell? ⟨x3, 3, none⟩ = some (.int .u16 b3) ∧ W.cell? ⟨xc, 0, none⟩ = some (.int .i64 dl) ∧ W.cell? ⟨xc, 2, none⟩ = some (.int .i64 fl)) 22 #[false, false, false, false, false, false, false, false, false, false, false, false, false, false, false, false, false, false, false, false, false, false] rfl rfl (by kernel_rfl) ?_
  obtain ⟨wz, hwz⟩ : ∃ x, wx.drew = x := ⟨_, rfl⟩
  have HKB := Lib.hid (HKD.out.past (Below.refl _ _).drew)
  have HC := Lib.hid (HE.out.past (Below.refl _ _).drew)
  rw [hwz] at HKB HC ⊢
  clear hwz hwx HKD HE
  have hSS : wz.cell? ⟨x3, 2, none⟩ = some (.int .u16 b2) ∧ wz.cell? ⟨x3, 3, none⟩ = some (.int .u16 b3) ∧ wz.cell? ⟨xc, 0, none⟩ = some (.int .i64 dl) ∧ wz.cell? ⟨xc, 2, none⟩ = some (.int .i64 fl) :=
    ⟨HKB.out.tail.hd.cell (i := 2) rfl, HKB.out.tail.hd.cell (i := 3) rfl, HC.out.cell (i := 0) rfl, HC.out.cell (i := 2) rfl⟩
  refine take_first (i := 0) (v := ?_) rfl (by kernel_rfl) (by kernel_rfl) (by kernel_rfl) (fun _ _ _ h => h) (by rfl) (by assumption) ?_ ?_
  rotate_left 1
  · intro X hSX
    (try dsimp only at hSX)
    first | (go_simp; done) | (go_simp; with_reducible rfl)
  try simp only [Act.put, List.setIfInBounds_toArray, List.set_cons_zero, List.set_cons_succ]
  refine take_first (i := 1) (v := ?_) rfl (by kernel_rfl) (by kernel_rfl) (by kernel_rfl) (fun _ _ _ h => h) (by rfl) (by assumption) ?_ ?_
  rotate_left 1
  · intro X hSX
    (try dsimp only at hSX)
    first | (go_simp; done) | (go_simp; with_reducible rfl)
  try simp only [Act.put, List.setIfInBounds_toArray, List.set_cons_zero, List.set_cons_succ]
  refine take_first (i := 2) (v := ?_) rfl (by kernel_rfl) (by kernel_rfl) (by kernel_rfl) (fun _ _ _ h => h) (by rfl) (by assumption) ?_ ?_
  rotate_left 1
  · intro X hSX
    (try dsimp only at hSX)
    first | (go_simp; done) | (go_simp; with_reducible rfl)
  try simp only [Act.put, List.setIfInBounds_toArray, List.set_cons_zero, List.set_cons_succ]
  refine take_first (i := 3) (v := ?_) rfl (by kernel_rfl) (by kernel_rfl) (by kernel_rfl) (fun _ _ _ h => h) (by rfl) (by assumption) ?_ ?_
  rotate_left 1
  · intro X hSX
    (try dsimp only at hSX)
    first | (go_simp; done) | (go_simp; with_reducible rfl)
  try simp only [Act.put, List.setIfInBounds_toArray, List.set_cons_zero, List.set_cons_succ]
  refine take_first (i := 4) (v := ?_) rfl (by kernel_rfl) (by kernel_rfl) (by kernel_rfl) (fun _ _ _ h => h) (by rfl) (by assumption) ?_ ?_
  rotate_left 1
  · intro X hSX
    (try dsimp only at hSX)
    first | (go_simp; done) | (go_simp; with_reducible rfl)
  try simp only [Act.put, List.setIfInBounds_toArray, List.set_cons_zero, List.set_cons_succ]
  refine take_first (i := 5) (v := ?_) rfl (by kernel_rfl) (by kernel_rfl) (by kernel_rfl) (fun _ _ _ h => h) (by rfl) (by assumption) ?_ ?_
  rotate_left 1
  · intro X hSX
    (try dsimp only at hSX)
    first | (go_simp; done) | (go_simp; with_reducible rfl)
  try simp only [Act.put, List.setIfInBounds_toArray, List.set_cons_zero, List.set_cons_succ]
  refine take_first (i := 6) (v := ?_) rfl (by kernel_rfl) (by kernel_rfl) (by kernel_rfl) (fun _ _ _ h => h) (by rfl) (by assumption) ?_ ?_
  rotate_left 1
  · intro X hSX
    (try dsimp only at hSX)
    first | (go_simp; done) | (go_simp; with_reducible rfl)
  try simp only [Act.put, List.setIfInBounds_toArray, List.set_cons_zero, List.set_cons_succ]
  refine take_first (i := 7) (v := ?_) rfl (by kernel_rfl) (by kernel_rfl) (by kernel_rfl) (fun _ _ _ h => h) (by rfl) (by assumption) ?_ ?_
  rotate_left 1
  · intro X hSX
    (try dsimp only at hSX)
    first | (go_simp; done) | (go_simp; with_reducible rfl)
  try simp only [Act.put, List.setIfInBounds_toArray, List.set_cons_zero, List.set_cons_succ]
  refine take_first (i := 8) (v := ?_) rfl (by kernel_rfl) (by kernel_rfl) (by kernel_rfl) (fun _ _ _ h => h) (by rfl) (by assumption) ?_ ?_
  rotate_left 1
  · intro X hSX
    (try dsimp only at hSX)
    first | (go_simp; done) | (go_simp; with_reducible rfl)
  try simp only [Act.put, List.setIfInBounds_toArray, List.set_cons_zero, List.set_cons_succ]
  refine take_first (i := 9) (v := ?_) rfl (by kernel_rfl) (by kernel_rfl) (by kernel_rfl) (fun _ _ _ h => h) (by rfl) (by assumption) ?_ ?_
  rotate_left 1
  · intro X hSX
    (try dsimp only at hSX)
    first | (go_simp; done) | (go_simp; with_reducible rfl)
  try simp only [Act.put, List.setIfInBounds_toArray, List.set_cons_zero, List.set_cons_succ]
  refine take_first (i := 10) (v := ?_) rfl (by kernel_rfl) (by kernel_rfl) (by kernel_rfl) (fun _ _ _ h => h) (by rfl) (by assumption) ?_ ?_
  rotate_left 1
  · intro X hSX
    (try dsimp only at hSX)
    first | (go_simp; done) | (go_simp; with_reducible rfl)
  try simp only [Act.put, List.setIfInBounds_toArray, List.set_cons_zero, List.set_cons_succ]
  refine take_first (i := 11) (v := ?_) rfl (by kernel_rfl) (by kernel_rfl) (by kernel_rfl) (fun _ _ _ h => h) (by rfl) (by assumption) ?_ ?_
  rotate_left 1
  · intro X hSX
    (try dsimp only at hSX)
    first | (go_simp; done) | (go_simp; with_reducible rfl)
  try simp only [Act.put, List.setIfInBounds_toArray, List.set_cons_zero, List.set_cons_succ]
  refine take_first (i := 12) (v := ?_) rfl (by kernel_rfl) (by kernel_rfl) (by kernel_rfl) (fun _ _ _ h => h) (by rfl) (by assumption) ?_ ?_
  rotate_left 1
  · intro X hSX
    (try dsimp only at hSX)
    first | (go_simp; done) | (go_simp; with_reducible rfl)
  try simp only [Act.put, List.setIfInBounds_toArray, List.set_cons_zero, List.set_cons_succ]
  refine take_first (i := 13) (v := ?_) rfl (by kernel_rfl) (by kernel_rfl) (by kernel_rfl) (fun _ _ _ h => h) (by rfl) (by assumption) ?_ ?_
  rotate_left 1
  · intro X hSX
    (try dsimp only at hSX)
    first | (go_simp; done) | (go_simp; with_reducible rfl)
  try simp only [Act.put, List.setIfInBounds_toArray, List.set_cons_zero, List.set_cons_succ]
  refine take_first (i := 14) (v := ?_) rfl (by kernel_rfl) (by kernel_rfl) (by kernel_rfl) (fun _ _ _ h => h) (by rfl) (by assumption) ?_ ?_
  rotate_left 1
  · intro X hSX
    (try dsimp only at hSX)
    first | (go_simp; done) | (go_simp; with_reducible rfl)
  try simp only [Act.put, List.setIfInBounds_toArray, List.set_cons_zero, List.set_cons_succ]
  refine take_first (i := 15) (v := ?_) rfl (by kernel_rfl) (by kernel_rfl) (by kernel_rfl) (fun _ _ _ h => h) (by rfl) (by assumption) ?_ ?_
  rotate_left 1
  · intro X hSX
    (try dsimp only at hSX)
    first | (go_simp; done) | (go_simp; with_reducible rfl)
  try simp only [Act.put, List.setIfInBounds_toArray, List.set_cons_zero, List.set_cons_succ]
  refine take_first (i := 16) (v := ?_) rfl (by kernel_rfl) (by kernel_rfl) (by kernel_rfl) (fun _ _ _ h => h) (by rfl) (by assumption) ?_ ?_
  rotate_left 1
  · intro X hSX
    (try dsimp only at hSX)
    first | (go_simp; done) | (go_simp; with_reducible rfl)
  try simp only [Act.put, List.setIfInBounds_toArray, List.set_cons_zero, List.set_cons_succ]
  refine take_first (i := 17) (v := ?_) rfl (by kernel_rfl) (by kernel_rfl) (by kernel_rfl) (fun _ _ _ h => h) (by rfl) (by assumption) ?_ ?_
  rotate_left 1
  · intro X hSX
    (try dsimp only at hSX)
    first | (go_simp; done) | (go_simp; with_reducible rfl)
  try simp only [Act.put, List.setIfInBounds_toArray, List.set_cons_zero, List.set_cons_succ]
  have e0 := HC.out.cell (i := 1) (v := .int .i64 0) rfl
  have f0 := HC.out.fr (i := 1)
  refine only_one (i := 18) (by kernel_rfl) rfl (by rfl) ?_
  intro K hK
  go_simp
  have HKC := Lib.hid (HKB.out.far (i := 1) (u := .int .i64 dh) HNE.out HLE.out)
  have HC2 := Lib.hid (HC.out.set 1 (by simp) (.int .i64 dh) rfl)
  clear hSS e0 f0 HKB HC
  have hSS : World.cell? _ ⟨x3, 2, none⟩ = some (.int .u16 b2) ∧ World.cell? _ ⟨x3, 3, none⟩ = some (.int .u16 b3) ∧ World.cell? _ ⟨xc, 0, none⟩ = some (.int .i64 dl) ∧ World.cell? _ ⟨xc, 2, none⟩ = some (.int .i64 fl) :=
    ⟨HKC.out.tail.hd.cell (i := 2) rfl, HKC.out.tail.hd.cell (i := 3) rfl, HC2.out.cell (i := 0) rfl, HC2.out.cell (i := 2) rfl⟩
  refine hK.out _ _ hSS ?_
  clear hK K
  try simp only [Act.put, List.setIfInBounds_toArray, List.set_cons_zero, List.set_cons_succ]
  refine take_first (i := 19) (v := ?_) rfl (by kernel_rfl) (by kernel_rfl) (by kernel_rfl) (fun _ _ _ h => h) (by rfl) (by assumption) ?_ ?_
  rotate_left 1
  · intro X hSX
    (try dsimp only at hSX)
    first | (go_simp; done) | (go_simp; with_reducible rfl)
  try simp only [Act.put, List.setIfInBounds_toArray, List.set_cons_zero, List.set_cons_succ]
  refine take_first (i := 20) (v := ?_) rfl (by kernel_rfl) (by kernel_rfl) (by kernel_rfl) (fun _ _ _ h => h) (by rfl) (by assumption) ?_ ?_
  rotate_left 1
  · intro X hSX
    (try dsimp only at hSX)
    first | (go_simp; done) | (go_simp; with_reducible rfl)
  try simp only [Act.put, List.setIfInBounds_toArray, List.set_cons_zero, List.set_cons_succ]
  have e0 := HC2.out.cell (i := 3) (v := .int .i64 0) rfl
  have f0 := HC2.out.fr (i := 3)
  refine only_one (i := 21) (by kernel_rfl) rfl (by rfl) ?_
  intro K hK
  go_simp
  have HKD := Lib.hid (HKC.out.far (i := 3) (u := .int .i64 fh) HNE.out HLE.out)
  have HC3 := Lib.hid (HC2.out.set 3 (by simp) (.int .i64 fh) rfl)
  clear hSS e0 f0 HKC HC2
  have hSS : World.cell? _ ⟨x3, 2, none⟩ = some (.int .u16 b2) ∧ World.cell? _ ⟨x3, 3, none⟩ = some (.int .u16 b3) ∧ World.cell? _ ⟨xc, 0, none⟩ = some (.int .i64 dl) ∧ World.cell? _ ⟨xc, 2, none⟩ = some (.int .i64 fl) :=
    ⟨HKD.out.tail.hd.cell (i := 2) rfl, HKD.out.tail.hd.cell (i := 3) rfl, HC3.out.cell (i := 0) rfl, HC3.out.cell (i := 2) rfl⟩
  refine hK.out _ _ hSS ?_
  clear hK K
  try simp only [Act.put, List.setIfInBounds_toArray, List.set_cons_zero, List.set_cons_succ]
  refine wpAnyH_done (by kernel_rfl) ?_ _
  clear hSS
  -- the box of what is wanted and the clay stand
  have HKE : Hid (KeepG [(xc, #[.int .i64 dl, .int .i64 dh, .int .i64 fl, .int .i64 fh], 25), (x5, #[.int .u16 wa, .int .u16 wb], 98)] w ((wz.setCell ⟨xc, 1, none⟩ (.int .i64 dh)).setCell ⟨xc, 3, none⟩ (.int .i64 fh))) :=
    Lib.hid ((KeepG.cons ⟨fun p hp => HKD.out.1 p (by simp at hp; simp [hp]), HKD.out.2⟩ HC3.out))
  obtain ⟨wy, hwy⟩ : ∃ x, (wz.setCell ⟨xc, 1, none⟩ (.int .i64 dh)).setCell ⟨xc, 3, none⟩ (.int .i64 fh) = x := ⟨_, rfl⟩
  rw [hwy] at HKE
  clear HKD HC3 q0 q1 q2 q3 q4 q5 r0 r1 r2 r3 c0 c1 c2 c3
  obtain ⟨s1, s2, u1, u2, v1, v2, ⟨E1, E2, E3⟩, g1, g2, g3, g4, g5, g6, g7⟩ := shrinks_maths hNr h1 h2
  have HE1 := Lib.hid E1
  have HE2 := Lib.hid E2
  have HE3 := Lib.hid E3
  have HH1 := Lib.hid h1
  have HH2 := Lib.hid h2
  have m1 : IntKind.i64.wrap n = n := wrap_id (by omega) (by omega)
  obtain ⟨nm, hnm⟩ : ∃ x, n.tmod 999999 = x := ⟨_, rfl⟩
  rw [hnm] at hN
  have m2 : IntKind.i64.wrap nm = nm := wrap_id (by omega) (by omega)
  have m3 : IntKind.i64.wrap (1 + nm) = N := by rw [wrap_id (by omega) (by omega)]; omega
  have m4 : IntKind.i64.wrap (N + 1) = N + 1 := wrap_id (by omega) (by omega)
  clear E1 E2 E3 h1 h2 hN
  have b0 := HKE.out.hd.cell (i := 0) (v := .int .i64 dl) rfl
  have b1 := HKE.out.hd.cell (i := 1) (v := .int .i64 dh) rfl
  have b2 := HKE.out.hd.cell (i := 2) (v := .int .i64 fl) rfl
  have b3 := HKE.out.hd.cell (i := 3) (v := .int .i64 fh) rfl
  go_wp2_with fail
  refine (shrunk_any N dl dh fl fh _).mono ?_
  rintro e u1' ⟨rfl, hb1⟩
  rw [HE1.out]
  have HKF := Lib.hid (HKE.out.past hb1)
  clear b0 b1 b2 b3 hb1
  obtain ⟨x9, hx9⟩ : ∃ x, u1'.heap.size = x := ⟨_, rfl⟩
  have HKG := Lib.hid (HKF.out.news hx9 #[.int .i64 s1, .int .i64 s2] 23)
  obtain ⟨u2', hu2⟩ : ∃ x, u1'.alloc (.cells #[.int .i64 s1, .int .i64 s2] 23) = x := ⟨_, rfl⟩
  rw [hu2] at HKG
  have b0 := HKG.out.tail.hd.cell (i := 0) (v := .int .i64 dl) rfl
  have b1 := HKG.out.tail.hd.cell (i := 1) (v := .int .i64 dh) rfl
  have b2 := HKG.out.tail.hd.cell (i := 2) (v := .int .i64 fl) rfl
  have b3 := HKG.out.tail.hd.cell (i := 3) (v := .int .i64 fh) rfl
  clear HKF HKE
  go_wp2_with fail
  refine (shrunk_any (N + 1) dl dh fl fh _).mono ?_
  rintro e u3' ⟨rfl, hb1⟩
  rw [HE2.out]
  have HKH := Lib.hid (HKG.out.past hb1)
  clear b0 b1 b2 b3 hb1 hu2 hx9
  obtain ⟨x11, hx11⟩ : ∃ x, u3'.heap.size = x := ⟨_, rfl⟩
  have HKI := Lib.hid (HKH.out.news hx11 #[.int .i64 u1, .int .i64 u2] 23)
  obtain ⟨u4', hu4⟩ : ∃ x, u3'.alloc (.cells #[.int .i64 u1, .int .i64 u2] 23) = x := ⟨_, rfl⟩
  rw [hu4] at HKI
  obtain ⟨x13, hx13⟩ : ∃ x, u4'.heap.size = x := ⟨_, rfl⟩
  obtain ⟨k1, k2, k3, k4⟩ := HKI.out.new hx13 #[.int .i64 dl, .int .i64 dh, .int .i64 fl, .int .i64 fh] 25
  obtain ⟨u5', hu5⟩ : ∃ x, u4'.alloc (.cells #[.int .i64 dl, .int .i64 dh, .int .i64 fl, .int .i64 fh] 25) = x := ⟨_, rfl⟩
  rw [hu5] at k1 k2
  have HA := Lib.hid (((k1.far (i := 0) (u := .int .i64 (dl + 1)) k3 k4).far (i := 1) (u := .int .i64 (dh + 1)) k3 k4).cons ((k2.set 0 (by simp) (.int .i64 (dl + 1)) rfl).set 1 (by simp) (.int .i64 (dh + 1)) rfl))
  have b0 := HKI.out.tail.tail.hd.cell (i := 0) (v := .int .i64 dl) rfl
  have b1 := HKI.out.tail.tail.hd.cell (i := 1) (v := .int .i64 dh) rfl
  have b2 := HKI.out.tail.tail.hd.cell (i := 2) (v := .int .i64 fl) rfl
  have b3 := HKI.out.tail.tail.hd.cell (i := 3) (v := .int .i64 fh) rfl
  have e0 := k2.cell (i := 0) (v := .int .i64 dl) rfl
  have e1 := k2.cell (i := 1) (v := .int .i64 dh) rfl
  have ff0 := k2.fr (i := 0)
  have ff1 := k2.fr (i := 1)
  have d0 := HA.out.hd.cell (i := 0) (v := .int .i64 (dl + 1)) rfl
  have d1 := HA.out.hd.cell (i := 1) (v := .int .i64 (dh + 1)) rfl
  have d2 := HA.out.hd.cell (i := 2) (v := .int .i64 fl) rfl
  have d3 := HA.out.hd.cell (i := 3) (v := .int .i64 fh) rfl
  have m5 : IntKind.i64.wrap (dl + 1) = dl + 1 := wrap_id (by have := HH1.out; omega) (by have := HH1.out; omega)
  have m6 : IntKind.i64.wrap (dh + 1) = dh + 1 := wrap_id (by have := HH1.out; omega) (by have := HH1.out; omega)
  clear HKH HKG k1 k2 k3 k4
  go_wp2_with fail
  clear e0 e1 ff0 ff1 d0 d1 d2 d3 b0 b1 b2 b3 hu4 hu5 hx11 hx13
  refine (shrunk_any N (dl + 1) (dh + 1) fl fh _).mono ?_
  rintro e u6' ⟨rfl, hb1⟩
  rw [HE3.out]
  have HB := Lib.hid (HA.out.past hb1)
  clear hb1 HA HKI
  obtain ⟨x14, hx14⟩ : ∃ x, u6'.heap.size = x := ⟨_, rfl⟩
  have HC := Lib.hid (HB.out.news hx14 #[.int .i64 v1, .int .i64 v2] 23)
  obtain ⟨u7', hu7⟩ : ∃ x, u6'.alloc (.cells #[.int .i64 v1, .int .i64 v2] 23) = x := ⟨_, rfl⟩
  rw [hu7] at HC
  obtain ⟨x16, hx16⟩ : ∃ x, u7'.heap.size = x := ⟨_, rfl⟩
  obtain ⟨wh, hwh⟩ : ∃ x, wa + wb = x := ⟨_, rfl⟩
  have HD := Lib.hid (HC.out.news hx16 #[.int .i64 wa, .int .i64 wh] 23)
  obtain ⟨u8', hu8⟩ : ∃ x, u7'.alloc (.cells #[.int .i64 wa, .int .i64 wh] 23) = x := ⟨_, rfl⟩
  rw [hu8] at HD
  have hwr : 0 ≤ wa ∧ wa ≤ wh ∧ wh ≤ 1000000 := by omega
  have m7 : IntKind.i64.wrap wa = wa := wrap_id (by omega) (by omega)
  have m8 : IntKind.i64.wrap wb = wb := wrap_id (by omega) (by omega)
  have m9 : IntKind.i64.wrap wh = wh := wrap_id (by omega) (by omega)
  have hdh : dh + 1 ≤ 9999 := by have := HH1.out; omega
  have b1 := HC.out.tail.hd.cell (i := 1) (v := .int .i64 (dh + 1)) rfl
  have a0 := HC.out.tail.tail.tail.hd.cell (i := 0) (v := .int .i64 s1) rfl
  have a1 := HC.out.tail.tail.tail.hd.cell (i := 1) (v := .int .i64 s2) rfl
  have e0 := HC.out.tail.tail.hd.cell (i := 0) (v := .int .i64 u1) rfl
  have e1 := HC.out.tail.tail.hd.cell (i := 1) (v := .int .i64 u2) rfl
  have d0 := HC.out.hd.cell (i := 0) (v := .int .i64 v1) rfl
  have d1 := HC.out.hd.cell (i := 1) (v := .int .i64 v2) rfl
  have y0 := HC.out.tail.tail.tail.tail.tail.hd.cell (i := 0) (v := .int .u16 wa) rfl
  have y1 := HC.out.tail.tail.tail.tail.tail.hd.cell (i := 1) (v := .int .u16 wb) rfl
  have z0 := HD.out.hd.cell (i := 0) (v := .int .i64 wa) rfl
  have z1 := HD.out.hd.cell (i := 1) (v := .int .i64 wh) rfl
  have c0 := HD.out.tail.tail.tail.tail.tail.hd.cell (i := 0) (v := .int .i64 dl) rfl
  have c1 := HD.out.tail.tail.tail.tail.tail.hd.cell (i := 1) (v := .int .i64 dh) rfl
  have c2 := HD.out.tail.tail.tail.tail.tail.hd.cell (i := 2) (v := .int .i64 fl) rfl
  have c3 := HD.out.tail.tail.tail.tail.tail.hd.cell (i := 3) (v := .int .i64 fh) rfl
  clear HB ha hb
  go_wp2_with fail
  clear hu7 hu8 hx14 hx16 b1 a0 a1 e0 e1 d0 d1 y0 y1 z0 z1 c0 c1 c2 c3
  have HKM : Hid (KeepG [(x16, #[.int .i64 wa, .int .i64 wh], 23), (xc, #[.int .i64 dl, .int .i64 dh, .int .i64 fl, .int .i64 fh], 25)] w u8') :=
    Lib.hid ((KeepG.cons ⟨fun p hp => by simp at hp, HD.out.2⟩ HD.out.tail.tail.tail.tail.tail.hd).cons HD.out.hd)
  refine (moulds_any wa wh dl dh fl fh _).mono ?_
  rintro e u9' ⟨rfl, hb1⟩
  have HKP := Lib.hid (HKM.out.past hb1)
  clear HD HC HKM hb1 m5 m6 m7 m8 m9 hdh
  rcases shrinks_moulds HH1.out HH2.out hwr with ⟨e, he⟩ | ⟨t1, t2, e, i1, i2, i3, he⟩
  · rw [e]
    have hor := he _ _ _ (by omega) (by omega) HE1.out
    have HOR : Hid (s1 < wa ∨ (wa ≤ s1 ∧ wh < s2)) := Lib.hid (by omega)
    clear hor he e
    obtain ⟨x17, hx17⟩ : ∃ x, u9'.heap.size = x := ⟨_, rfl⟩
    have HQ := Lib.hid (HKP.out.news hx17 #[.int .i64 0, .int .i64 0] 23)
    have c0 := HQ.out.tail.tail.hd.cell (i := 0) (v := .int .i64 dl) rfl
    have c1 := HQ.out.tail.tail.hd.cell (i := 1) (v := .int .i64 dh) rfl
    have c2 := HQ.out.tail.tail.hd.cell (i := 2) (v := .int .i64 fl) rfl
    have c3 := HQ.out.tail.tail.hd.cell (i := 3) (v := .int .i64 fh) rfl
    clear HKP
    go_wp2_with fail
    clear c0 c1 c2 c3 hx17
    refine (shrunk_any N dl dh fl fh _).mono ?_
    rintro e v1' ⟨rfl, hb1⟩
    rw [HE1.out]
    have HB := Lib.hid (HQ.out.past hb1)
    clear hb1 HQ
    obtain ⟨x18, hx18⟩ : ∃ x, v1'.heap.size = x := ⟨_, rfl⟩
    have HC := Lib.hid (HB.out.news hx18 #[.int .i64 s1, .int .i64 s2] 23)
    obtain ⟨v2', hv2⟩ : ∃ x, v1'.alloc (.cells #[.int .i64 s1, .int .i64 s2] 23) = x := ⟨_, rfl⟩
    rw [hv2] at HC
    have a0 := HC.out.hd.cell (i := 0) (v := .int .i64 s1) rfl
    have a1 := HC.out.hd.cell (i := 1) (v := .int .i64 s2) rfl
    have z0 := HC.out.tail.hd.cell (i := 0) (v := .int .i64 0) rfl
    have z1 := HC.out.tail.hd.cell (i := 1) (v := .int .i64 0) rfl
    have y0 := HC.out.tail.tail.hd.cell (i := 0) (v := .int .i64 wa) rfl
    have y1 := HC.out.tail.tail.hd.cell (i := 1) (v := .int .i64 wh) rfl
    clear HB
    rcases HOR.out with ho | ⟨ho, ho'⟩
    all_goals
      go_wp2_with fail
      refine (HK.out _).mono ?_
      rintro e v4' ⟨rfl, hb4⟩
      have HB4 := Lib.hid (HC.out.2.trans (hb4.mono HC.out.2.size))
      clear hb4
      go_wp2
      go_ret
      exact ⟨rfl, HB4.out⟩
  · rw [e]
    have HHE := Lib.hid he
    clear e he
    obtain ⟨x17, hx17⟩ : ∃ x, u9'.heap.size = x := ⟨_, rfl⟩
    have HQ := Lib.hid (HKP.out.news hx17 #[.int .i64 t1, .int .i64 t2] 23)
    obtain ⟨v1', hv1⟩ : ∃ x, u9'.alloc (.cells #[.int .i64 t1, .int .i64 t2] 23) = x := ⟨_, rfl⟩
    rw [hv1] at HQ
    have c0 := HQ.out.hd.cell (i := 0) (v := .int .i64 t1) rfl
    have c1 := HQ.out.hd.cell (i := 1) (v := .int .i64 t2) rfl
    clear HKP
    obtain ⟨dd, hdd⟩ : ∃ x, t2 - t1 = x := ⟨_, rfl⟩
    have j1 : IntKind.i64.wrap (t2 - t1) = dd := by rw [wrap_id (by omega) (by omega)]; exact hdd
    obtain ⟨sz, hsz⟩ : ∃ x, dd + 1 = x := ⟨_, rfl⟩
    have j2 : IntKind.i64.wrap (dd + 1) = sz := by rw [wrap_id (by omega) (by omega)]; exact hsz
    have hne : sz ≠ 0 := by omega
    have hne2 := (fun (x : Int) (h : x ≠ 0) => (by simpa using h : (x == 0) = false)) _ hne
    obtain ⟨tm, htm⟩ : ∃ x, n.tmod sz = x := ⟨_, rfl⟩
    have ht1 : 0 ≤ tm := by rw [← htm]; exact Int.tmod_nonneg _ hn.1
    have ht2 : tm < sz := by rw [← htm]; exact Int.tmod_lt_of_pos _ (by omega)
    have j3 : IntKind.i64.wrap tm = tm := wrap_id (by omega) (by omega)
    obtain ⟨mid, hmid⟩ : ∃ x, t1 + tm = x := ⟨_, rfl⟩
    have j4 : IntKind.i64.wrap (t1 + tm) = mid := by rw [wrap_id (by omega) (by omega)]; exact hmid
    have j5 : IntKind.i64.wrap (t1 - 1) = t1 - 1 := wrap_id (by omega) (by omega)
    have j6 : IntKind.i64.wrap (t2 + 1) = t2 + 1 := wrap_id (by omega) (by omega)
    have hmr : t1 ≤ mid ∧ mid ≤ t2 := by omega
    clear hdd hsz hmid
    go_upto_region 21 with fail
    clear hv1 hx17 c0 c1
    refine region_plain (fun W => W.cell? ⟨x17, 0, none⟩ = some (.int .i64 t1) ∧ W.cell? ⟨x17, 1, none⟩ = some (.int .i64 t2)) 13 #[false, false, false, false, false, false, false, false, false, false, false, false, false] rfl rfl (by kernel_rfl) ?_
    obtain ⟨wy, hwy⟩ : ∃ x, v1'.drew = x := ⟨_, rfl⟩
    have HKB := Lib.hid (HQ.out.past (Below.refl _ _).drew)
    rw [hwy] at HKB ⊢
    clear hwy HQ
    have hSS : wy.cell? ⟨x17, 0, none⟩ = some (.int .i64 t1) ∧ wy.cell? ⟨x17, 1, none⟩ = some (.int .i64 t2) := ⟨HKB.out.hd.cell (i := 0) rfl, HKB.out.hd.cell (i := 1) rfl⟩
    refine take_first (i := 0) (v := ?_) rfl (by kernel_rfl) (by kernel_rfl) (by kernel_rfl) (fun _ _ _ h => h) (by rfl) (by assumption) ?_ ?_
    rotate_left 1
    · intro X hSX
      (try dsimp only at hSX)
      first | (go_simp; done) | (go_simp; with_reducible rfl)
    try simp only [Act.put, List.setIfInBounds_toArray, List.set_cons_zero, List.set_cons_succ]
    refine take_first (i := 1) (v := ?_) rfl (by kernel_rfl) (by kernel_rfl) (by kernel_rfl) (fun _ _ _ h => h) (by rfl) (by assumption) ?_ ?_
    rotate_left 1
    · intro X hSX
      (try dsimp only at hSX)
      first | (go_simp; done) | (go_simp; with_reducible rfl)
    try simp only [Act.put, List.setIfInBounds_toArray, List.set_cons_zero, List.set_cons_succ]
    refine take_first (i := 2) (v := ?_) rfl (by kernel_rfl) (by kernel_rfl) (by kernel_rfl) (fun _ _ _ h => h) (by rfl) (by assumption) ?_ ?_
    rotate_left 1
    · intro X hSX
      (try dsimp only at hSX)
      first | (go_simp; done) | (go_simp; with_reducible rfl)
    try simp only [Act.put, List.setIfInBounds_toArray, List.set_cons_zero, List.set_cons_succ]
    refine take_first (i := 3) (v := ?_) rfl (by kernel_rfl) (by kernel_rfl) (by kernel_rfl) (fun _ _ _ h => h) (by rfl) (by assumption) ?_ ?_
    rotate_left 1
    · intro X hSX
      (try dsimp only at hSX)
      first | (go_simp; done) | (go_simp; with_reducible rfl)
    try simp only [Act.put, List.setIfInBounds_toArray, List.set_cons_zero, List.set_cons_succ]
    refine take_first (i := 4) (v := ?_) rfl (by kernel_rfl) (by kernel_rfl) (by kernel_rfl) (fun _ _ _ h => h) (by rfl) (by assumption) ?_ ?_
    rotate_left 1
    · intro X hSX
      (try dsimp only at hSX)
      first | (go_simp; done) | (go_simp; with_reducible rfl)
    try simp only [Act.put, List.setIfInBounds_toArray, List.set_cons_zero, List.set_cons_succ]
    refine take_first (i := 5) (v := ?_) rfl (by kernel_rfl) (by kernel_rfl) (by kernel_rfl) (fun _ _ _ h => h) (by rfl) (by assumption) ?_ ?_
    rotate_left 1
    · intro X hSX
      (try dsimp only at hSX)
      first | (go_simp; done) | (go_simp; with_reducible rfl)
    try simp only [Act.put, List.setIfInBounds_toArray, List.set_cons_zero, List.set_cons_succ]
    refine take_first (i := 6) (v := ?_) rfl (by kernel_rfl) (by kernel_rfl) (by kernel_rfl) (fun _ _ _ h => h) (by rfl) (by assumption) ?_ ?_
    rotate_left 1
    · intro X hSX
      (try dsimp only at hSX)
      first | (go_simp; done) | (go_simp; with_reducible rfl)
    try simp only [Act.put, List.setIfInBounds_toArray, List.set_cons_zero, List.set_cons_succ]
    refine take_first (i := 7) (v := ?_) rfl (by kernel_rfl) (by kernel_rfl) (by kernel_rfl) (fun _ _ _ h => h) (by rfl) (by assumption) ?_ ?_
    rotate_left 1
    · intro X hSX
      (try dsimp only at hSX)
      first | (go_simp; done) | (go_simp; with_reducible rfl)
    try simp only [Act.put, List.setIfInBounds_toArray, List.set_cons_zero, List.set_cons_succ]
    refine take_first (i := 8) (v := ?_) rfl (by kernel_rfl) (by kernel_rfl) (by kernel_rfl) (fun _ _ _ h => h) (by rfl) (by assumption) ?_ ?_
    rotate_left 1
    · intro X hSX
      (try dsimp only at hSX)
      first | (go_simp; done) | (go_simp; with_reducible rfl)
    try simp only [Act.put, List.setIfInBounds_toArray, List.set_cons_zero, List.set_cons_succ]
    refine take_first (i := 9) (v := ?_) rfl (by kernel_rfl) (by kernel_rfl) (by kernel_rfl) (fun _ _ _ h => h) (by rfl) (by assumption) ?_ ?_
    rotate_left 1
    · intro X hSX
      (try dsimp only at hSX)
      first | (go_simp; done) | (go_simp; with_reducible rfl)
    try simp only [Act.put, List.setIfInBounds_toArray, List.set_cons_zero, List.set_cons_succ]
    refine take_first (i := 10) (v := ?_) rfl (by kernel_rfl) (by kernel_rfl) (by kernel_rfl) (fun _ _ _ h => h) (by rfl) (by assumption) ?_ ?_
    rotate_left 1
    · intro X hSX
      (try dsimp only at hSX)
      first | (go_simp; done) | (go_simp; with_reducible rfl)
    try simp only [Act.put, List.setIfInBounds_toArray, List.set_cons_zero, List.set_cons_succ]
    refine take_first (i := 11) (v := ?_) rfl (by kernel_rfl) (by kernel_rfl) (by kernel_rfl) (fun _ _ _ h => h) (by rfl) (by assumption) ?_ ?_
    rotate_left 1
    · intro X hSX
      (try dsimp only at hSX)
      first | (go_simp; done) | (go_simp; with_reducible rfl)
    try simp only [Act.put, List.setIfInBounds_toArray, List.set_cons_zero, List.set_cons_succ]
    refine take_first (i := 12) (v := ?_) rfl (by kernel_rfl) (by kernel_rfl) (by kernel_rfl) (fun _ _ _ h => h) (by rfl) (by assumption) ?_ ?_
    rotate_left 1
    · intro X hSX
      (try dsimp only at hSX)
      first | (go_simp; done) | (go_simp; with_reducible rfl)
    try simp only [Act.put, List.setIfInBounds_toArray, List.set_cons_zero, List.set_cons_succ]
    refine wpAnyH_done (by kernel_rfl) ?_ _
    clear hSS
    have c0 := HKB.out.hd.cell (i := 0) (v := .int .i64 t1) rfl
    have c1 := HKB.out.hd.cell (i := 1) (v := .int .i64 t2) rfl
    obtain ⟨x21, hx21⟩ : ∃ x, wy.heap.size = x := ⟨_, rfl⟩
    have HKC := Lib.hid (HKB.out.tail.news hx21 #[.int .i64 t1, .int .i64 mid, .int .i64 t2, .int .i64 (t1 - 1), .int .i64 (t2 + 1)] 99)
    obtain ⟨v2', hv2⟩ : ∃ x, wy.alloc (.cells #[.int .i64 t1, .int .i64 mid, .int .i64 t2, .int .i64 (t1 - 1), .int .i64 (t2 + 1)] 99) = x := ⟨_, rfl⟩
    rw [hv2] at HKC
    have HSIDE : Hid (∀ k : Nat, k < 5 → ∃ x, (#[.int .i64 t1, .int .i64 mid, .int .i64 t2, .int .i64 (t1 - 1), .int .i64 (t2 + 1)] : Array Value)[k]? = some (.int .i64 x) ∧ (1 ≤ x → x ≤ 1000000 → ∃ q1 q2, shrunkF x dl dh fl fh = (q1, q2, 0) ∧ (((k : Int) < 3 ∧ wa ≤ q1 ∧ q2 ≤ wh) ∨ (3 ≤ (k : Int) ∧ q1 < wa) ∨ (3 ≤ (k : Int) ∧ wa ≤ q1 ∧ wh < q2)))) := Lib.hid (by
      intro k hk
      have hh := HHE.out
      rcases k with _ | _ | _ | _ | _ | k
      · refine ⟨t1, rfl, fun h1 h2 => ?_⟩
        obtain ⟨q1, q2, e, g1, g2, g3⟩ := hh t1 h1 h2
        exact ⟨q1, q2, e, .inl ⟨by omega, g1 (by omega) (by omega)⟩⟩
      · refine ⟨mid, rfl, fun h1 h2 => ?_⟩
        obtain ⟨q1, q2, e, g1, g2, g3⟩ := hh mid h1 h2
        exact ⟨q1, q2, e, .inl ⟨by omega, g1 (by omega) (by omega)⟩⟩
      · refine ⟨t2, rfl, fun h1 h2 => ?_⟩
        obtain ⟨q1, q2, e, g1, g2, g3⟩ := hh t2 h1 h2
        exact ⟨q1, q2, e, .inl ⟨by omega, g1 (by omega) (by omega)⟩⟩
      · refine ⟨t1 - 1, rfl, fun h1 h2 => ?_⟩
        obtain ⟨q1, q2, e, g1, g2, g3⟩ := hh (t1 - 1) h1 h2
        exact ⟨q1, q2, e, .inr (.inl ⟨by omega, g2 (by omega)⟩)⟩
      · refine ⟨t2 + 1, rfl, fun h1 h2 => ?_⟩
        obtain ⟨q1, q2, e, g1, g2, g3⟩ := hh (t2 + 1) h1 h2
        have := g3 (by omega)
        by_cases hc : wa ≤ q1
        · exact ⟨q1, q2, e, .inr (.inr ⟨by omega, hc, this⟩)⟩
        · exact ⟨q1, q2, e, .inr (.inl ⟨by omega, by omega⟩)⟩
      · omega)
    clear HKB
    go_wp2_with fail
    clear hv2 hx21 c0 c1
    go_loopw [22, 23, 24] (fun i _ _ wr => ∃ k : Nat, k ≤ 5 ∧ i = .int .i64 k ∧ Hid (KeepG [(x21, #[.int .i64 t1, .int .i64 mid, .int .i64 t2, .int .i64 (t1 - 1), .int .i64 (t2 + 1)], 99), (x16, #[.int .i64 wa, .int .i64 wh], 23), (xc, #[.int .i64 dl, .int .i64 dh, .int .i64 fl, .int .i64 fh], 25)] w wr)) (fun i _ _ _ => 5 - (intOf i).toNat)
    case atStart => exact ⟨0, by omega, rfl, HKC⟩
    case round =>
      obtain ⟨k, hk, rfl, HKR⟩ := hrel
      by_cases hlt : k < 5
      · obtain ⟨x, hx, hxx⟩ := HSIDE.out k hlt
        have kc := HKR.out.hd.cell (i := k) (v := .int .i64 x) hx
        have hk0 : (0 : Int) ≤ (k : Int) := by omega
        have hk1 : (k : Int) < 5 := by omega
        have w7 : IntKind.i64.wrap ((k : Int) + 1) = (k : Int) + 1 := wrap_id (by omega) (by omega)
        have HXX := Lib.hid hxx
        have HSS : Hid (∀ W, KeepG [(x21, #[.int .i64 t1, .int .i64 mid, .int .i64 t2, .int .i64 (t1 - 1), .int .i64 (t2 + 1)], 99), (x16, #[.int .i64 wa, .int .i64 wh], 23), (xc, #[.int .i64 dl, .int .i64 dh, .int .i64 fl, .int .i64 fh], 25)] w W → (W.cell? ⟨x21, k, none⟩ = some (.int .i64 x) ∧ W.cell? ⟨xc, 0, none⟩ = some (.int .i64 dl) ∧ W.cell? ⟨xc, 1, none⟩ = some (.int .i64 dh) ∧ W.cell? ⟨xc, 2, none⟩ = some (.int .i64 fl) ∧ W.cell? ⟨xc, 3, none⟩ = some (.int .i64 fh) ∧ KeepG [(x21, #[.int .i64 t1, .int .i64 mid, .int .i64 t2, .int .i64 (t1 - 1), .int .i64 (t2 + 1)], 99), (x16, #[.int .i64 wa, .int .i64 wh], 23), (xc, #[.int .i64 dl, .int .i64 dh, .int .i64 fl, .int .i64 fh], 25)] w W)) := Lib.hid fun W h => ⟨h.hd.cell (i := k) hx, h.tail.tail.hd.cell (i := 0) rfl, h.tail.tail.hd.cell (i := 1) rfl, h.tail.tail.hd.cell (i := 2) rfl, h.tail.tail.hd.cell (i := 3) rfl, h⟩
        clear hx hxx
        by_cases hx1 : x < 1
        · go_wp2
          go_roundw
          case rel => exact ⟨k + 1, by omega, by go_num, HKR⟩
          case measure => simp [intOf]; omega
        · have hx1' : 1 ≤ x := by omega
          by_cases hx2 : 1000000 < x
          · go_wp2
            go_roundw
            case rel => exact ⟨k + 1, by omega, by go_num, HKR⟩
            case measure => simp [intOf]; omega
          · have hx2' : x ≤ 1000000 := by omega
            obtain ⟨q1, q2, e, hq⟩ := HXX.out hx1' hx2'
            have HX := Lib.hid e
            have HQ := Lib.hid hq
            clear e hq HXX hx1 hx2
            go_upto_region 27 with fail
            clear kc
            refine region_plain (fun W => W.cell? ⟨x21, k, none⟩ = some (.int .i64 x) ∧ W.cell? ⟨xc, 0, none⟩ = some (.int .i64 dl) ∧ W.cell? ⟨xc, 1, none⟩ = some (.int .i64 dh) ∧ W.cell? ⟨xc, 2, none⟩ = some (.int .i64 fl) ∧ W.cell? ⟨xc, 3, none⟩ = some (.int .i64 fh) ∧ KeepG [(x21, #[.int .i64 t1, .int .i64 mid, .int .i64 t2, .int .i64 (t1 - 1), .int .i64 (t2 + 1)], 99), (x16, #[.int .i64 wa, .int .i64 wh], 23), (xc, #[.int .i64 dl, .int .i64 dh, .int .i64 fl, .int .i64 fh], 25)] w W) 11 #[false, false, false, false, false, false, false, false, false, false, false] rfl rfl (by kernel_rfl) ?_
            obtain ⟨wz, hwz⟩ : ∃ x, wr.drew = x := ⟨_, rfl⟩
            have HKB := Lib.hid (HKR.out.past (Below.refl _ _).drew)
            rw [hwz] at HKB ⊢
            clear hwz HKR
            have hSS := HSS.out _ HKB.out
            refine take_first (i := 0) (v := ?_) rfl (by kernel_rfl) (by kernel_rfl) (by kernel_rfl) (fun _ _ _ h => h) (by rfl) (by assumption) ?_ ?_
            rotate_left 1
            · intro X hSX
              (try dsimp only at hSX)
              first | (go_simp; done) | (go_simp; with_reducible rfl)
            try simp only [Act.put, List.setIfInBounds_toArray, List.set_cons_zero, List.set_cons_succ]
            refine take_first (i := 1) (v := ?_) rfl (by kernel_rfl) (by kernel_rfl) (by kernel_rfl) (fun _ _ _ h => h) (by rfl) (by assumption) ?_ ?_
            rotate_left 1
            · intro X hSX
              (try dsimp only at hSX)
              first | (go_simp; done) | (go_simp; with_reducible rfl)
            try simp only [Act.put, List.setIfInBounds_toArray, List.set_cons_zero, List.set_cons_succ]
            refine take_first (i := 2) (v := ?_) rfl (by kernel_rfl) (by kernel_rfl) (by kernel_rfl) (fun _ _ _ h => h) (by rfl) (by assumption) ?_ ?_
            rotate_left 1
            · intro X hSX
              (try dsimp only at hSX)
              first | (go_simp; done) | (go_simp; with_reducible rfl)
            try simp only [Act.put, List.setIfInBounds_toArray, List.set_cons_zero, List.set_cons_succ]
            refine take_first (i := 3) (v := ?_) rfl (by kernel_rfl) (by kernel_rfl) (by kernel_rfl) (fun _ _ _ h => h) (by rfl) (by assumption) ?_ ?_
            rotate_left 1
            · intro X hSX
              (try dsimp only at hSX)
              first | (go_simp; done) | (go_simp; with_reducible rfl)
            try simp only [Act.put, List.setIfInBounds_toArray, List.set_cons_zero, List.set_cons_succ]
            refine one_of_two (i := 4) (j := 8) (by kernel_rfl) rfl rfl (by rfl) (by rfl) ?_ ?_
            · intro K hK
              go_simp
              refine (shrunk_any x dl dh fl fh _).mono ?_
              rintro e v1' ⟨rfl, hb1⟩
              rw [HX.out]
              have HKB2 := Lib.hid (HKB.out.past hb1)
              clear HKB hSS hb1
              have HKB := HKB2
              clear HKB2
              have hSS := HSS.out _ HKB.out
              refine hK.out _ _ hSS ?_
              clear hK K
              try simp only [Act.put, List.setIfInBounds_toArray, List.set_cons_zero, List.set_cons_succ]
              refine take_first (i := 5) (v := ?_) rfl (by kernel_rfl) (by kernel_rfl) (by kernel_rfl) (fun _ _ _ h => h) (by rfl) (by assumption) ?_ ?_
              rotate_left 1
              · intro X hSX
                (try dsimp only at hSX)
                first | (go_simp; done) | (go_simp; with_reducible rfl)
              try simp only [Act.put, List.setIfInBounds_toArray, List.set_cons_zero, List.set_cons_succ]
              refine take_first (i := 6) (v := ?_) rfl (by kernel_rfl) (by kernel_rfl) (by kernel_rfl) (fun _ _ _ h => h) (by rfl) (by assumption) ?_ ?_
              rotate_left 1
              · intro X hSX
                (try dsimp only at hSX)
                first | (go_simp; done) | (go_simp; with_reducible rfl)
              try simp only [Act.put, List.setIfInBounds_toArray, List.set_cons_zero, List.set_cons_succ]
              refine take_first (i := 7) (v := ?_) rfl (by kernel_rfl) (by kernel_rfl) (by kernel_rfl) (fun _ _ _ h => h) (by rfl) (by assumption) ?_ ?_
              rotate_left 1
              · intro X hSX
                (try dsimp only at hSX)
                first | (go_simp; done) | (go_simp; with_reducible rfl)
              try simp only [Act.put, List.setIfInBounds_toArray, List.set_cons_zero, List.set_cons_succ]
              refine only_one (i := 8) (by kernel_rfl) rfl (by rfl) ?_
              intro K hK
              go_simp
              obtain ⟨x23, hx23⟩ : ∃ x, v1'.heap.size = x := ⟨_, rfl⟩
              obtain ⟨k1, k2, k3, k4⟩ := HKB.out.new hx23 #[.int .i64 0, .int .i64 0] 23
              rw [hx23]
              obtain ⟨v3, hv3⟩ : ∃ v3, v1'.alloc (.cells #[.int .i64 0, .int .i64 0] 23) = v3 := ⟨_, rfl⟩
              rw [hv3] at k1 k2 ⊢
              clear HKB hSS
              have HKB := Lib.hid k1
              have HD := Lib.hid k2
              have HNE := Lib.hid k3
              have HLE := Lib.hid k4
              clear hv3 k1 k2 k3 k4 hx23
              have hSS := HSS.out _ HKB.out
              refine hK.out _ _ hSS ?_
              clear hK K
              try simp only [Act.put, List.setIfInBounds_toArray, List.set_cons_zero, List.set_cons_succ]
              have q0' := HD.out.cell (i := 0) (v := .int .i64 0) rfl
              have q1' := HD.out.cell (i := 1) (v := .int .i64 0) rfl
              have df := HD.out.fr (i := 0)
              have dg := HD.out.fr (i := 1)
              refine only_one (i := 9) (by kernel_rfl) rfl (by rfl) ?_
              intro K hK
              go_simp
              have HKD := Lib.hid ((HKB.out.far (i := 0) (u := .int .i64 q1) HNE.out HLE.out).far (i := 1) (u := .int .i64 q2) HNE.out HLE.out)
              have HD2 := Lib.hid ((HD.out.set 0 (by simp) (.int .i64 q1) rfl).set 1 (by simp) (.int .i64 q2) rfl)
              clear hSS q0' q1' df dg
              have hSS := HSS.out _ HKD.out
              refine hK.out _ _ hSS ?_
              clear hK K
              try simp only [Act.put, List.setIfInBounds_toArray, List.set_cons_zero, List.set_cons_succ]
              refine take_first (i := 10) (v := ?_) rfl (by kernel_rfl) (by kernel_rfl) (by kernel_rfl) (fun _ _ _ h => h) (by rfl) (by assumption) ?_ ?_
              rotate_left 1
              · intro X hSX
                (try dsimp only at hSX)
                first | (go_simp; done) | (go_simp; with_reducible rfl)
              try simp only [Act.put, List.setIfInBounds_toArray, List.set_cons_zero, List.set_cons_succ]
              refine wpAnyH_done (by kernel_rfl) ?_ _
              have z0 := HKD.out.tail.hd.cell (i := 0) (v := .int .i64 wa) rfl
              have z1 := HKD.out.tail.hd.cell (i := 1) (v := .int .i64 wh) rfl
              have y0 := HD2.out.cell (i := 0) (v := .int .i64 q1) rfl
              have y1 := HD2.out.cell (i := 1) (v := .int .i64 q2) rfl
              clear hSS HKB HD HNE HLE
              rcases HQ.out with ⟨g1, g2, g3⟩ | ⟨g1, g2⟩ | ⟨g1, g2, g3⟩
              · have o1 : decide ((k : Int) < 3) = true := decide_eq_true g1
                have o2 : decide (wa ≤ q1) = true := decide_eq_true g2
                have o3 : decide (q2 ≤ wh) = true := decide_eq_true g3
                clear g1 g2 g3
                go_wp2
                go_roundw
                case rel => exact ⟨k + 1, by omega, by go_num, HKD⟩
                case measure => simp [intOf]; omega
              · have o1 : decide ((k : Int) < 3) = false := decide_eq_false (by omega)
                have o2 : decide (wa ≤ q1) = false := decide_eq_false (by omega)
                clear g1 g2
                go_wp2
                go_roundw
                case rel => exact ⟨k + 1, by omega, by go_num, HKD⟩
                case measure => simp [intOf]; omega
              · have o1 : decide ((k : Int) < 3) = false := decide_eq_false (by omega)
                have o2 : decide (wa ≤ q1) = true := decide_eq_true g2
                have o3 : decide (q2 ≤ wh) = false := decide_eq_false (by omega)
                clear g1 g2 g3
                go_wp2
                go_roundw
                case rel => exact ⟨k + 1, by omega, by go_num, HKD⟩
                case measure => simp [intOf]; omega
            · intro K hK
              go_simp
              obtain ⟨x23, hx23⟩ : ∃ x, wz.heap.size = x := ⟨_, rfl⟩
              obtain ⟨k1, k2, k3, k4⟩ := HKB.out.new hx23 #[.int .i64 0, .int .i64 0] 23
              rw [hx23]
              obtain ⟨v3, hv3⟩ : ∃ v3, wz.alloc (.cells #[.int .i64 0, .int .i64 0] 23) = v3 := ⟨_, rfl⟩
              rw [hv3] at k1 k2 ⊢
              clear HKB hSS
              have HKB := Lib.hid k1
              have HD := Lib.hid k2
              have HNE := Lib.hid k3
              have HLE := Lib.hid k4
              clear hv3 k1 k2 k3 k4 hx23
              have hSS := HSS.out _ HKB.out
              refine hK.out _ _ hSS ?_
              clear hK K
              try simp only [Act.put, List.setIfInBounds_toArray, List.set_cons_zero, List.set_cons_succ]
              refine only_one (i := 4) (by kernel_rfl) rfl (by rfl) ?_
              intro K hK
              go_simp
              refine (shrunk_any x dl dh fl fh _).mono ?_
              rintro e v1' ⟨rfl, hb1⟩
              rw [HX.out]
              have HKB2 := Lib.hid (HKB.out.past hb1)
              have HD3 := Lib.hid (HD.out.past hb1)
              clear HD
              have HD := HD3
              clear HD3
              clear HKB hSS hb1
              have HKB := HKB2
              clear HKB2
              have hSS := HSS.out _ HKB.out
              refine hK.out _ _ hSS ?_
              clear hK K
              try simp only [Act.put, List.setIfInBounds_toArray, List.set_cons_zero, List.set_cons_succ]
              refine take_first (i := 5) (v := ?_) rfl (by kernel_rfl) (by kernel_rfl) (by kernel_rfl) (fun _ _ _ h => h) (by rfl) (by assumption) ?_ ?_
              rotate_left 1
              · intro X hSX
                (try dsimp only at hSX)
                first | (go_simp; done) | (go_simp; with_reducible rfl)
              try simp only [Act.put, List.setIfInBounds_toArray, List.set_cons_zero, List.set_cons_succ]
              refine take_first (i := 6) (v := ?_) rfl (by kernel_rfl) (by kernel_rfl) (by kernel_rfl) (fun _ _ _ h => h) (by rfl) (by assumption) ?_ ?_
              rotate_left 1
              · intro X hSX
                (try dsimp only at hSX)
                first | (go_simp; done) | (go_simp; with_reducible rfl)
              try simp only [Act.put, List.setIfInBounds_toArray, List.set_cons_zero, List.set_cons_succ]
              refine take_first (i := 7) (v := ?_) rfl (by kernel_rfl) (by kernel_rfl) (by kernel_rfl) (fun _ _ _ h => h) (by rfl) (by assumption) ?_ ?_
              rotate_left 1
              · intro X hSX
                (try dsimp only at hSX)
                first | (go_simp; done) | (go_simp; with_reducible rfl)
              try simp only [Act.put, List.setIfInBounds_toArray, List.set_cons_zero, List.set_cons_succ]
              have q0' := HD.out.cell (i := 0) (v := .int .i64 0) rfl
              have q1' := HD.out.cell (i := 1) (v := .int .i64 0) rfl
              have df := HD.out.fr (i := 0)
              have dg := HD.out.fr (i := 1)
              refine only_one (i := 9) (by kernel_rfl) rfl (by rfl) ?_
              intro K hK
              go_simp
              have HKD := Lib.hid ((HKB.out.far (i := 0) (u := .int .i64 q1) HNE.out HLE.out).far (i := 1) (u := .int .i64 q2) HNE.out HLE.out)
              have HD2 := Lib.hid ((HD.out.set 0 (by simp) (.int .i64 q1) rfl).set 1 (by simp) (.int .i64 q2) rfl)
              clear hSS q0' q1' df dg
              have hSS := HSS.out _ HKD.out
              refine hK.out _ _ hSS ?_
              clear hK K
              try simp only [Act.put, List.setIfInBounds_toArray, List.set_cons_zero, List.set_cons_succ]
              refine take_first (i := 10) (v := ?_) rfl (by kernel_rfl) (by kernel_rfl) (by kernel_rfl) (fun _ _ _ h => h) (by rfl) (by assumption) ?_ ?_
              rotate_left 1
              · intro X hSX
                (try dsimp only at hSX)
                first | (go_simp; done) | (go_simp; with_reducible rfl)
              try simp only [Act.put, List.setIfInBounds_toArray, List.set_cons_zero, List.set_cons_succ]
              refine wpAnyH_done (by kernel_rfl) ?_ _
              have z0 := HKD.out.tail.hd.cell (i := 0) (v := .int .i64 wa) rfl
              have z1 := HKD.out.tail.hd.cell (i := 1) (v := .int .i64 wh) rfl
              have y0 := HD2.out.cell (i := 0) (v := .int .i64 q1) rfl
              have y1 := HD2.out.cell (i := 1) (v := .int .i64 q2) rfl
              clear hSS HKB HD HNE HLE
              rcases HQ.out with ⟨g1, g2, g3⟩ | ⟨g1, g2⟩ | ⟨g1, g2, g3⟩
              · have o1 : decide ((k : Int) < 3) = true := decide_eq_true g1
                have o2 : decide (wa ≤ q1) = true := decide_eq_true g2
                have o3 : decide (q2 ≤ wh) = true := decide_eq_true g3
                clear g1 g2 g3
                go_wp2
                go_roundw
                case rel => exact ⟨k + 1, by omega, by go_num, HKD⟩
                case measure => simp [intOf]; omega
              · have o1 : decide ((k : Int) < 3) = false := decide_eq_false (by omega)
                have o2 : decide (wa ≤ q1) = false := decide_eq_false (by omega)
                clear g1 g2
                go_wp2
                go_roundw
                case rel => exact ⟨k + 1, by omega, by go_num, HKD⟩
                case measure => simp [intOf]; omega
              · have o1 : decide ((k : Int) < 3) = false := decide_eq_false (by omega)
                have o2 : decide (wa ≤ q1) = true := decide_eq_true g2
                have o3 : decide (q2 ≤ wh) = false := decide_eq_false (by omega)
                clear g1 g2 g3
                go_wp2
                go_roundw
                case rel => exact ⟨k + 1, by omega, by go_num, HKD⟩
                case measure => simp [intOf]; omega
      · have hke : k = 5 := by omega
        subst hke
        have HB := HKR.out.2
        clear HKC
        go_wp2_with fail
        refine (HK.out _).mono ?_
        rintro e v4' ⟨rfl, hb4⟩
        have HB4 := Lib.hid (HKR.out.2.trans (hb4.mono HKR.out.2.size))
        clear hb4
        go_wp2
        go_ret
        exact ⟨rfl, HB4.out⟩
end Go.Proofs.Ytopnlcjbklmicaa
