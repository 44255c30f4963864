import Derived.Test.YtopnlcjbklmicaaK51
import Derived.Test.YtopnlcjbklmicaaL2
import Derived.Test.YtopnlcjbklmicaaK25
import Derived.WalkKit
import Derived.WalkSpells
import Derived.WalkLawsBesides
import Derived.Deep.QuietTactic
import Derived.BigQuiet
import Derived.Lib.Hide
import Derived.WalkSmall
import Derived.Maps.OwnSet
import Derived.Maps.RangeWalk
import Derived.Deep.RegionWith
import Derived.Deep.RegionHeld3
import Derived.Deep.DrawnRows
import Derived.Deep.DeepCutAuto
import Derived.OneCell
import Derived.KernelRfl
import Derived.Laws.StructEq
import Derived.StillTailTactics
import Derived.Laws.Externs
import Derived.RangeFuncBox
import Derived.Outline
import Derived.RangeFuncNested
import Derived.RangeFuncBound
import Derived.RangeFuncCalls
import Derived.RangeFuncLeaves
import Derived.Shelf.RegionOpen
import Derived.OwnWalkIn
import Derived.TacticsInMore
import Derived.LoopNIn
import Derived.LoopIn
import Derived.Test.YtopnlcjbklmicaaProg
namespace Go.Proofs.Ytopnlcjbklmicaa
open Go.RowKit Go.Maps Go.Shelf
set_option linter.unusedVariables false
set_option linter.unusedSimpArgs false
theorem load_d (l : List (Nat × Nat)) (b : Nat) (h : b < l.length) : l[b]?.getD (0, 0) = l[b]?.getD (0, 1) := by simp [h]
theorem RowsAt.at {W : World} {base gb : Nat} {rows : List (List (Nat × Nat))} (h : RowsAt W base gb rows) {t b : Nat} (ht : t < rows.length) (hb : b < (rows[t]?.getD []).length) :
    ∃ g cap, W.cell? ⟨gb, t, none⟩ = some (.slice (some ⟨g, 0, none⟩) (rows[t]?.getD []).length cap) ∧ W.cell? ⟨g, b * 2, none⟩ = some (.int .i64 (loadAt rows t b).1) ∧ W.cell? ⟨g, b * 2 + 1, none⟩ = some (.int .i64 (loadAt rows t b).2) ∧ g < W.heap.size ∧ gb < W.heap.size := by
  obtain ⟨vals, h1, h2, h3⟩ := h
  have h4 := h3 t ht
  obtain ⟨a1, a2⟩ := flatL_get (rows[t]?.getD []) b hb
  rw [load_d _ _ hb] at a1 a2
  have hc : W.cell? ⟨gb, t, none⟩ = some (vals[t]?.getD undef) := h2.cell (by simp [show t < vals.length by omega])
  rcases h4.2 with ⟨_, h0⟩ | ⟨g, cap, cur, h5, _, hg, _⟩
  · omega
  · rw [h5] at hc h4
    refine ⟨g, cap, hc, ?_, ?_, (Array.getElem?_eq_some_iff.1 hg).1, h2.lt⟩
    · rw [h4.cellAt (b * 2) (by omega)]; exact a1
    · rw [h4.cellAt (b * 2 + 1) (by omega)]; exact a2
/-- What is asked of the boxes that Crushed's condition reads. -/
structure CrushB (n₀ bl bb bv gb base : Nat) (W H : Int) (tv bearsv : Value) (ts : List (List Int × List Int)) (rows : List (List (Nat × Nat))) (bears : List Int) (w : World) : Prop where
  v : Blk w bv #[.int .i64 W, .int .i64 H, tv] 143
  l : Blk w bl #[.slice (some ⟨gb, 0, none⟩) ts.length ts.length] 77
  b : Blk w bb #[bearsv] 46
  i : IntsAt w bearsv bears
  r : RowsAt w base gb rows
  t : TiersAt n₀ w tv ts
theorem CrushB.past {n₀ bl bb bv gb base : Nat} {W H : Int} {tv bearsv : Value} {ts : List (List Int × List Int)} {rows : List (List (Nat × Nat))} {bears : List Int} {w w' : World} (h : CrushB n₀ bl bb bv gb base W H tv bearsv ts rows bears w) (hb : Below w.heap.size w w') : CrushB n₀ bl bb bv gb base W H tv bearsv ts rows bears w' :=
  ⟨h.v.past hb, h.l.past hb, h.b.past hb, h.i.below hb, h.r.past hb, h.t.past hb⟩
/-- What is known of the numbers that it reads. -/
structure CrushN (ts : List (List Int × List Int)) (rows : List (List (Nat × Nat))) (bears : List Int) (N : Nat) : Prop where
  n : N ≤ 144
  len : ∀ i, i < ts.length → (ts[i]?.getD ([], [])).1.length = N
  rl : rows.length = ts.length
  row : ∀ t, t < ts.length → (rows[t]?.getD []).length = nbAt ts t
  ok : ∀ t, t < ts.length → ∀ b, b < nbAt ts t → LoadOk (loadAt rows t b)
  bl : bears.length = ts.length
  br : ∀ t, t < ts.length → 0 ≤ bears[t]?.getD 0 ∧ bears[t]?.getD 0 ≤ 1000000
set_option maxRecDepth 100000 in
set_option maxHeartbeats 4000000 in
theorem crush1_any (n₀ bl bb bv gb base : Nat) (W H : Int) (tv bearsv : Value) (ts : List (List Int × List Int)) (rows : List (List (Nat × Nat))) (bears : List Int) (N ti br : Nat) (w : World) (hn : CrushN ts rows bears N) (hb : CrushB n₀ bl bb bv gb base W H tv bearsv ts rows bears w) (hti : ti < ts.length) (hbr : br < nbAt ts ti) :
    Calls Try.prog 79 #[.agg #[.int .i64 ti, .int .i64 br], .pointer (some ⟨bl, 0, none⟩), .pointer (some ⟨bb, 0, none⟩), .pointer (some ⟨bv, 0, none⟩)] w fun e w' => e = .returned (.bool (crushP ts rows bears ti br)) ∧ Below w.heap.size w w' := by
  obtain ⟨p, hp⟩ : ∃ p, crushP ts rows bears ti br = p := ⟨_, rfl⟩
  have HPP := Lib.hid hp
  unfold crushP at HPP
  rw [hp]
  clear hp
  obtain ⟨a, cap, rfl, hl, hn0, _⟩ := hb.t.placed
  obtain ⟨ab, cb, rfl, hlb, hib⟩ := hb.i.placed
  obtain ⟨bi, oi, rfl, hbi, c5⟩ := hib ti (by rw [hn.bl]; exact hti)
  obtain ⟨g, rc, c1, c2, c3, hg, hgb⟩ := hb.r.at (t := ti) (b := br) (by rw [hn.rl]; exact hti) (by rw [hn.row ti hti]; exact hbr)
  rw [hn.row ti hti] at c1
  rw [hn.bl] at *
  have hok := hn.ok ti hti br hbr
  obtain ⟨⟨q1, q2⟩, hq⟩ : ∃ q, loadAt rows ti br = q := ⟨_, rfl⟩
  obtain ⟨x, hx⟩ : ∃ x, bears[ti]?.getD 0 = x := ⟨_, rfl⟩
  have hbx := hn.br ti hti
  have hlen : (cellsL (ts[ti]?.getD ([], [])).1 br).length ≤ 144 := by
    unfold cellsL
    refine Nat.le_trans (List.length_filter_le _ _) ?_
    rw [List.length_range, hn.len ti hti]; exact hn.n
  obtain ⟨m, hm⟩ : ∃ m, (cellsL (ts[ti]?.getD ([], [])).1 br).length = m := ⟨_, rfl⟩
  rw [hq] at hok c2 c3 HPP
  rw [hx] at hbx c5 HPP
  rw [hm] at hlen HPP
  obtain ⟨o1, o2, o3⟩ := hok
  dsimp only at o1 o2 o3 c2 c3
  obtain ⟨nb, hnb⟩ : ∃ nb, nbAt ts ti = nb := ⟨_, rfl⟩
  rw [hnb] at c1 hbr
  have hm0 : 0 ≤ x * (m : Int) ∧ x * (m : Int) ≤ 144000000 := by
    have h1 : x * (m : Int) ≤ 1000000 * 144 := Int.mul_le_mul hbx.2 (by omega) (by omega) (by omega)
    exact ⟨Int.mul_nonneg hbx.1 (by omega), h1⟩
  obtain ⟨y, hy⟩ : ∃ y, x * (m : Int) = y := ⟨_, rfl⟩
  rw [hy] at hm0
  have hz0 : 0 ≤ y * (q2 : Int) ∧ y * (q2 : Int) ≤ 144000000000000000 := by
    have h1 : y * (q2 : Int) ≤ 144000000 * 1000000000 := Int.mul_le_mul hm0.2 (by omega) (by omega) (by omega)
    exact ⟨Int.mul_nonneg hm0.1 (by omega), h1⟩
  obtain ⟨z, hz⟩ : ∃ z, y * (q2 : Int) = z := ⟨_, rfl⟩
  rw [hz] at hz0
  have w1 : IntKind.i64.wrap y = y := wrap_id (by omega) (by omega)
  have w2 : IntKind.i64.wrap z = z := wrap_id (by omega) (by omega)
  have HPE : Hid (decide (z < (q1 : Int)) = p) := Lib.hid (by rw [← HPP.out, ← hz, ← hy])
  have HY := Lib.hid hy
  have HZ := Lib.hid hz
  have HM := Lib.hid hm
  clear HPP hq hx hnb hm hn0 hib
  have A := Blk.new w #[.int .i64 ti, .int .i64 br] 74
  have B0 := (Below.refl _ w).alloc (Nat.le_refl _) (.cells #[.int .i64 ti, .int .i64 br] 74)
  have HA := Lib.hid A
  have HC0 := Lib.hid (hb.past B0)
  have HB0 := Lib.hid B0
  have c1 := (B0.cell (p := ⟨gb, _, none⟩) hgb).trans c1
  have c2 := (B0.cell (p := ⟨g, _, none⟩) hg).trans c2
  have c3 := (B0.cell (p := ⟨g, _, none⟩) hg).trans c3
  have c5 := (B0.cell (p := ⟨bi, _, none⟩) hbi).trans c5
  have hs1 : (w.alloc (.cells #[.int .i64 ti, .int .i64 br] 74)).heap.size = w.heap.size + 1 := by simp
  obtain ⟨w1', hw1⟩ : ∃ w1, w.alloc (.cells #[.int .i64 ti, .int .i64 br] 74) = w1 := ⟨_, rfl⟩
  rw [hw1] at HA HC0 HB0 c1 c2 c3 c5 hs1
  have HS : Hid (∀ X, Below w1'.heap.size w1' X → (X.cell? ⟨bl, 0, none⟩ = some (.slice (some ⟨gb, 0, none⟩) ts.length ts.length) ∧ X.cell? ⟨w.heap.size, 0, none⟩ = some (.int .i64 ti) ∧ X.cell? ⟨w.heap.size, 1, none⟩ = some (.int .i64 br) ∧ X.cell? ⟨gb, ti, none⟩ = some (.slice (some ⟨g, 0, none⟩) nb rc) ∧ X.cell? ⟨g, br * 2, none⟩ = some (.int .i64 q1) ∧ X.cell? ⟨g, br * 2 + 1, none⟩ = some (.int .i64 q2) ∧ X.cell? ⟨bb, 0, none⟩ = some (.slice (some ⟨bi, oi, none⟩) ts.length cb) ∧ X.cell? ⟨bi, oi + ti, none⟩ = some (.int .i64 x) ∧ X.cell? ⟨bv, 0, none⟩ = some (.int .i64 W) ∧ X.cell? ⟨bv, 1, none⟩ = some (.int .i64 H) ∧ X.cell? ⟨bv, 2, none⟩ = some (.slice a ts.length cap))) := Lib.hid fun X hX => by
    have C := HC0.out.past hX
    have A2 := HA.out.past hX
    have hsz : w.heap.size ≤ w1'.heap.size := by omega
    exact ⟨C.l.cell (i := 0) rfl, A2.cell (i := 0) rfl, A2.cell (i := 1) rfl, (hX.cell (p := ⟨gb, _, none⟩) (show gb < w1'.heap.size by omega)).trans c1, (hX.cell (p := ⟨g, _, none⟩) (show g < w1'.heap.size by omega)).trans c2, (hX.cell (p := ⟨g, _, none⟩) (show g < w1'.heap.size by omega)).trans c3, C.b.cell (i := 0) rfl, (hX.cell (p := ⟨bi, _, none⟩) (show bi < w1'.heap.size by omega)).trans c5, C.v.cell (i := 0) rfl, C.v.cell (i := 1) rfl, C.v.cell (i := 2) rfl⟩
  have hx1 : (0 : Int) ≤ (ti : Int) := by omega
  have hx2 : (ti : Int) < (ts.length : Int) := by omega
  have hx3 : (0 : Int) ≤ (br : Int) := by omega
  have hx4 : (br : Int) < (nb : Int) := by omega
  clear c1 c2 c3 c5 A B0 hs1 hb
  have HW1 := Lib.hid hw1
  clear hw1
  go_enter Try.func79, Try.ntmps79
  go_wp2_with fail
  rw [HW1.out]
  refine region_plain (fun X => X.cell? ⟨bl, 0, none⟩ = some (.slice (some ⟨gb, 0, none⟩) ts.length ts.length) ∧ X.cell? ⟨w.heap.size, 0, none⟩ = some (.int .i64 ti) ∧ X.cell? ⟨w.heap.size, 1, none⟩ = some (.int .i64 br) ∧ X.cell? ⟨gb, ti, none⟩ = some (.slice (some ⟨g, 0, none⟩) nb rc) ∧ X.cell? ⟨g, br * 2, none⟩ = some (.int .i64 q1) ∧ X.cell? ⟨g, br * 2 + 1, none⟩ = some (.int .i64 q2) ∧ X.cell? ⟨bb, 0, none⟩ = some (.slice (some ⟨bi, oi, none⟩) ts.length cb) ∧ X.cell? ⟨bi, oi + ti, none⟩ = some (.int .i64 x) ∧ X.cell? ⟨bv, 0, none⟩ = some (.int .i64 W) ∧ X.cell? ⟨bv, 1, none⟩ = some (.int .i64 H) ∧ X.cell? ⟨bv, 2, none⟩ = some (.slice a ts.length cap)) 11 #[false, false, false, false, false, false, false, false, false, false, false] rfl rfl (by kernel_rfl) ?_
  obtain ⟨wx, hwx⟩ : ∃ x, w1'.drew = x := ⟨_, rfl⟩
  have hBx : Below w1'.heap.size w1' wx := by rw [← hwx]; exact (Below.refl _ _).drew
  rw [hwx]
  clear hwx HW1
  have HBX := Lib.hid hBx
  have hSS := HS.out wx hBx
  clear hBx
  refine take_first (i := 0) (v := ?_) rfl (by kernel_rfl) (by kernel_rfl) (by kernel_rfl) (fun _ _ _ h => h) (by rfl) (by assumption) ?_ ?_
  rotate_left 1
  · intro X hSX
    (try dsimp only at hSX)
    first | (go_simp; done) | (go_simp; with_reducible rfl)
  try simp only [Act.put, List.setIfInBounds_toArray, List.set_cons_zero, List.set_cons_succ]
  refine take_first (i := 1) (v := ?_) rfl (by kernel_rfl) (by kernel_rfl) (by kernel_rfl) (fun _ _ _ h => h) (by rfl) (by assumption) ?_ ?_
  rotate_left 1
  · intro X hSX
    (try dsimp only at hSX)
    first | (go_simp; done) | (go_simp; with_reducible rfl)
  try simp only [Act.put, List.setIfInBounds_toArray, List.set_cons_zero, List.set_cons_succ]
  refine take_first (i := 2) (v := ?_) rfl (by kernel_rfl) (by kernel_rfl) (by kernel_rfl) (fun _ _ _ h => h) (by rfl) (by assumption) ?_ ?_
  rotate_left 1
  · intro X hSX
    (try dsimp only at hSX)
    first | (go_simp; done) | (go_simp; with_reducible rfl)
  try simp only [Act.put, List.setIfInBounds_toArray, List.set_cons_zero, List.set_cons_succ]
  refine take_first (i := 3) (v := ?_) rfl (by kernel_rfl) (by kernel_rfl) (by kernel_rfl) (fun _ _ _ h => h) (by rfl) (by assumption) ?_ ?_
  rotate_left 1
  · intro X hSX
    (try dsimp only at hSX)
    first | (go_simp; done) | (go_simp; with_reducible rfl)
  try simp only [Act.put, List.setIfInBounds_toArray, List.set_cons_zero, List.set_cons_succ]
  refine take_first (i := 4) (v := ?_) rfl (by kernel_rfl) (by kernel_rfl) (by kernel_rfl) (fun _ _ _ h => h) (by rfl) (by assumption) ?_ ?_
  rotate_left 1
  · intro X hSX
    (try dsimp only at hSX)
    first | (go_simp; done) | (go_simp; with_reducible rfl)
  try simp only [Act.put, List.setIfInBounds_toArray, List.set_cons_zero, List.set_cons_succ]
  refine take_first (i := 5) (v := ?_) rfl (by kernel_rfl) (by kernel_rfl) (by kernel_rfl) (fun _ _ _ h => h) (by rfl) (by assumption) ?_ ?_
  rotate_left 1
  · intro X hSX
    (try dsimp only at hSX)
    first | (go_simp; done) | (go_simp; with_reducible rfl)
  try simp only [Act.put, List.setIfInBounds_toArray, List.set_cons_zero, List.set_cons_succ]
  refine take_first (i := 6) (v := ?_) rfl (by kernel_rfl) (by kernel_rfl) (by kernel_rfl) (fun _ _ _ h => h) (by rfl) (by assumption) ?_ ?_
  rotate_left 1
  · intro X hSX
    (try dsimp only at hSX)
    first | (go_simp; done) | (go_simp; with_reducible rfl)
  try simp only [Act.put, List.setIfInBounds_toArray, List.set_cons_zero, List.set_cons_succ]
  refine take_first (i := 7) (v := ?_) rfl (by kernel_rfl) (by kernel_rfl) (by kernel_rfl) (fun _ _ _ h => h) (by rfl) (by assumption) ?_ ?_
  rotate_left 1
  · intro X hSX
    (try dsimp only at hSX)
    first | (go_simp; done) | (go_simp; with_reducible rfl)
  try simp only [Act.put, List.setIfInBounds_toArray, List.set_cons_zero, List.set_cons_succ]
  refine take_first (i := 8) (v := ?_) rfl (by kernel_rfl) (by kernel_rfl) (by kernel_rfl) (fun _ _ _ h => h) (by rfl) (by assumption) ?_ ?_
  rotate_left 1
  · intro X hSX
    (try dsimp only at hSX)
    first | (go_simp; done) | (go_simp; with_reducible rfl)
  try simp only [Act.put, List.setIfInBounds_toArray, List.set_cons_zero, List.set_cons_succ]
  refine only_one (i := 9) (by kernel_rfl) rfl (by rfl) ?_
  intro K hK
  go_simp
  obtain ⟨b6, hb6⟩ : ∃ x, wx.heap.size = x := ⟨_, rfl⟩
  have N := Blk.newI wx b6 #[.int .i64 0, .int .i64 0] 116 hb6
  have hB2 := HBX.out.alloc HBX.out.size (.cells #[.int .i64 0, .int .i64 0] 116)
  have hlt6 : w1'.heap.size ≤ b6 := by have := HBX.out.size; omega
  rw [hb6]
  obtain ⟨w2, hw2⟩ : ∃ x, wx.alloc (.cells #[.int .i64 0, .int .i64 0] 116) = x := ⟨_, rfl⟩
  rw [hw2] at N hB2 ⊢
  clear hw2 hb6 hSS HBX
  have hSS := HS.out w2 hB2
  have HB2 := Lib.hid hB2
  have HN := Lib.hid N
  have HL6 := Lib.hid hlt6
  clear hB2 N hlt6
  refine hK.out _ _ hSS ?_
  clear hK K
  try simp only [Act.put, List.setIfInBounds_toArray, List.set_cons_zero, List.set_cons_succ]
  have n0 := HN.out.cell (i := 0) (v := .int .i64 0) rfl
  have n1 := HN.out.cell (i := 1) (v := .int .i64 0) rfl
  have f0 := HN.out.fr (i := 0)
  have f1 := HN.out.fr (i := 1)
  refine only_one (i := 10) (by kernel_rfl) rfl (by rfl) ?_
  intro K hK
  go_simp
  have N3 := (HN.out.set 0 (by simp) (.int .i64 q1) rfl).set 1 (by simp) (.int .i64 q2) rfl
  have hB3 := (HB2.out.setCell (p := ⟨b6, 0, none⟩) HL6.out (.int .i64 q1)).setCell (p := ⟨b6, 1, none⟩) HL6.out (.int .i64 q2)
  obtain ⟨w3, hw3⟩ : ∃ x, (w2.setCell ⟨b6, 0, none⟩ (.int .i64 q1)).setCell ⟨b6, 1, none⟩ (.int .i64 q2) = x := ⟨_, rfl⟩
  rw [hw3] at N3 hB3 ⊢
  clear hw3 n0 n1 f0 f1 hSS HN HB2
  have hSS := HS.out w3 hB3
  have HB3 := Lib.hid hB3
  have HN := Lib.hid N3
  clear N3 hB3
  refine hK.out _ _ hSS ?_
  clear hK K
  try simp only [Act.put, List.setIfInBounds_toArray, List.set_cons_zero, List.set_cons_succ]
  refine wpAnyH_done (by kernel_rfl) ?_ _
  clear hSS
  go_wp2_with fail
  refine region_plain (fun X => (X.cell? ⟨bl, 0, none⟩ = some (.slice (some ⟨gb, 0, none⟩) ts.length ts.length) ∧ X.cell? ⟨w.heap.size, 0, none⟩ = some (.int .i64 ti) ∧ X.cell? ⟨w.heap.size, 1, none⟩ = some (.int .i64 br) ∧ X.cell? ⟨gb, ti, none⟩ = some (.slice (some ⟨g, 0, none⟩) nb rc) ∧ X.cell? ⟨g, br * 2, none⟩ = some (.int .i64 q1) ∧ X.cell? ⟨g, br * 2 + 1, none⟩ = some (.int .i64 q2) ∧ X.cell? ⟨bb, 0, none⟩ = some (.slice (some ⟨bi, oi, none⟩) ts.length cb) ∧ X.cell? ⟨bi, oi + ti, none⟩ = some (.int .i64 x) ∧ X.cell? ⟨bv, 0, none⟩ = some (.int .i64 W) ∧ X.cell? ⟨bv, 1, none⟩ = some (.int .i64 H) ∧ X.cell? ⟨bv, 2, none⟩ = some (.slice a ts.length cap)) ∧ X.cell? ⟨b6, 0, none⟩ = some (.int .i64 q1) ∧ X.cell? ⟨b6, 1, none⟩ = some (.int .i64 q2)) 17 #[false, false, false, false, false, false, false, false, false, false, false, false, false, false, false, false, false] rfl rfl (by kernel_rfl) ?_
  obtain ⟨wy, hwy⟩ : ∃ x, w3.drew = x := ⟨_, rfl⟩
  have hBy : Below w3.heap.size w3 wy := by rw [← hwy]; exact (Below.refl _ _).drew
  rw [hwy]
  clear hwy
  have HSY : Hid (∀ X, Below w3.heap.size w3 X → (X.cell? ⟨bl, 0, none⟩ = some (.slice (some ⟨gb, 0, none⟩) ts.length ts.length) ∧ X.cell? ⟨w.heap.size, 0, none⟩ = some (.int .i64 ti) ∧ X.cell? ⟨w.heap.size, 1, none⟩ = some (.int .i64 br) ∧ X.cell? ⟨gb, ti, none⟩ = some (.slice (some ⟨g, 0, none⟩) nb rc) ∧ X.cell? ⟨g, br * 2, none⟩ = some (.int .i64 q1) ∧ X.cell? ⟨g, br * 2 + 1, none⟩ = some (.int .i64 q2) ∧ X.cell? ⟨bb, 0, none⟩ = some (.slice (some ⟨bi, oi, none⟩) ts.length cb) ∧ X.cell? ⟨bi, oi + ti, none⟩ = some (.int .i64 x) ∧ X.cell? ⟨bv, 0, none⟩ = some (.int .i64 W) ∧ X.cell? ⟨bv, 1, none⟩ = some (.int .i64 H) ∧ X.cell? ⟨bv, 2, none⟩ = some (.slice a ts.length cap)) ∧ X.cell? ⟨b6, 0, none⟩ = some (.int .i64 q1) ∧ X.cell? ⟨b6, 1, none⟩ = some (.int .i64 q2)) := Lib.hid fun X hX => ⟨HS.out X (HB3.out.trans (hX.mono HB3.out.size)), (HN.out.past hX).cell (i := 0) rfl, (HN.out.past hX).cell (i := 1) rfl⟩
  have HBY := Lib.hid hBy
  have hSS := HSY.out wy hBy
  clear hBy
  refine take_first (i := 0) (v := ?_) rfl (by kernel_rfl) (by kernel_rfl) (by kernel_rfl) (fun _ _ _ h => h) (by rfl) (by assumption) ?_ ?_
  rotate_left 1
  · intro X hSX
    (try dsimp only at hSX)
    first | (go_simp; done) | (go_simp; with_reducible rfl)
  try simp only [Act.put, List.setIfInBounds_toArray, List.set_cons_zero, List.set_cons_succ]
  refine take_first (i := 1) (v := ?_) rfl (by kernel_rfl) (by kernel_rfl) (by kernel_rfl) (fun _ _ _ h => h) (by rfl) (by assumption) ?_ ?_
  rotate_left 1
  · intro X hSX
    (try dsimp only at hSX)
    first | (go_simp; done) | (go_simp; with_reducible rfl)
  try simp only [Act.put, List.setIfInBounds_toArray, List.set_cons_zero, List.set_cons_succ]
  refine take_first (i := 2) (v := ?_) rfl (by kernel_rfl) (by kernel_rfl) (by kernel_rfl) (fun _ _ _ h => h) (by rfl) (by assumption) ?_ ?_
  rotate_left 1
  · intro X hSX
    (try dsimp only at hSX)
    first | (go_simp; done) | (go_simp; with_reducible rfl)
  try simp only [Act.put, List.setIfInBounds_toArray, List.set_cons_zero, List.set_cons_succ]
  refine take_first (i := 3) (v := ?_) rfl (by kernel_rfl) (by kernel_rfl) (by kernel_rfl) (fun _ _ _ h => h) (by rfl) (by assumption) ?_ ?_
  rotate_left 1
  · intro X hSX
    (try dsimp only at hSX)
    first | (go_simp; done) | (go_simp; with_reducible rfl)
  try simp only [Act.put, List.setIfInBounds_toArray, List.set_cons_zero, List.set_cons_succ]
  refine take_first (i := 4) (v := ?_) rfl (by kernel_rfl) (by kernel_rfl) (by kernel_rfl) (fun _ _ _ h => h) (by rfl) (by assumption) ?_ ?_
  rotate_left 1
  · intro X hSX
    (try dsimp only at hSX)
    first | (go_simp; done) | (go_simp; with_reducible rfl)
  try simp only [Act.put, List.setIfInBounds_toArray, List.set_cons_zero, List.set_cons_succ]
  refine take_first (i := 5) (v := ?_) rfl (by kernel_rfl) (by kernel_rfl) (by kernel_rfl) (fun _ _ _ h => h) (by rfl) (by assumption) ?_ ?_
  rotate_left 1
  · intro X hSX
    (try dsimp only at hSX)
    first | (go_simp; done) | (go_simp; with_reducible rfl)
  try simp only [Act.put, List.setIfInBounds_toArray, List.set_cons_zero, List.set_cons_succ]
  refine take_first (i := 6) (v := ?_) rfl (by kernel_rfl) (by kernel_rfl) (by kernel_rfl) (fun _ _ _ h => h) (by rfl) (by assumption) ?_ ?_
  rotate_left 1
  · intro X hSX
    (try dsimp only at hSX)
    first | (go_simp; done) | (go_simp; with_reducible rfl)
  try simp only [Act.put, List.setIfInBounds_toArray, List.set_cons_zero, List.set_cons_succ]
  refine take_first (i := 7) (v := ?_) rfl (by kernel_rfl) (by kernel_rfl) (by kernel_rfl) (fun _ _ _ h => h) (by rfl) (by assumption) ?_ ?_
  rotate_left 1
  · intro X hSX
    (try dsimp only at hSX)
    first | (go_simp; done) | (go_simp; with_reducible rfl)
  try simp only [Act.put, List.setIfInBounds_toArray, List.set_cons_zero, List.set_cons_succ]
  refine take_first (i := 8) (v := ?_) rfl (by kernel_rfl) (by kernel_rfl) (by kernel_rfl) (fun _ _ _ h => h) (by rfl) (by assumption) ?_ ?_
  rotate_left 1
  · intro X hSX
    (try dsimp only at hSX)
    first | (go_simp; done) | (go_simp; with_reducible rfl)
  try simp only [Act.put, List.setIfInBounds_toArray, List.set_cons_zero, List.set_cons_succ]
  refine take_first (i := 12) (v := ?_) rfl (by kernel_rfl) (by kernel_rfl) (by kernel_rfl) (fun _ _ _ h => h) (by rfl) (by assumption) ?_ ?_
  rotate_left 1
  · intro X hSX
    (try dsimp only at hSX)
    first | (go_simp; done) | (go_simp; with_reducible rfl)
  try simp only [Act.put, List.setIfInBounds_toArray, List.set_cons_zero, List.set_cons_succ]
  refine take_first (i := 13) (v := ?_) rfl (by kernel_rfl) (by kernel_rfl) (by kernel_rfl) (fun _ _ _ h => h) (by rfl) (by assumption) ?_ ?_
  rotate_left 1
  · intro X hSX
    (try dsimp only at hSX)
    first | (go_simp; done) | (go_simp; with_reducible rfl)
  try simp only [Act.put, List.setIfInBounds_toArray, List.set_cons_zero, List.set_cons_succ]
  refine only_one (i := 9) (by kernel_rfl) rfl (by rfl) ?_
  intro K hK
  go_simp
  have HTY := Lib.hid ((HC0.out.past (HB3.out.trans (HBY.out.mono HB3.out.size))).t)
  refine (cells_call n₀ W H _ ti br ts _ HTY.out hti).mono ?_
  rintro e w4 ⟨lb, rfl, hit, hb4⟩
  have hB4 := HBY.out.trans (hb4.mono HBY.out.size)
  have HIT := Lib.hid hit
  have HB4 := Lib.hid hB4
  have HN4 := Lib.hid (Nat.le_trans HTY.out.2.1 hb4.size)
  clear hb4 hit hSS HTY
  have hSS := HSY.out w4 hB4
  clear hB4
  refine hK.out _ _ hSS ?_
  clear hK K
  try simp only [Act.put, List.setIfInBounds_toArray, List.set_cons_zero, List.set_cons_succ]
  refine only_one (i := 10) (by kernel_rfl) rfl (by rfl) ?_
  intro K hK
  go_simp
  refine (count_any n₀ 100 lb (enters_of Try.func100 (by kernel_rfl) rfl) _ _ HN4.out (by rw [HM.out]; omega) HIT.out).mono ?_
  rintro e w5 ⟨rfl, hb5⟩
  rw [HM.out]
  have hB5 := HB4.out.trans (hb5.mono HB4.out.size)
  clear hSS
  have hSS := HSY.out w5 hB5
  have HB5 := Lib.hid hB5
  clear hB5 hb5
  refine hK.out _ _ hSS ?_
  clear hK K
  try simp only [Act.put, List.setIfInBounds_toArray, List.set_cons_zero, List.set_cons_succ]
  have hy := HY.out
  refine take_first (i := 11) (v := ?_) rfl (by kernel_rfl) (by kernel_rfl) (by kernel_rfl) (fun _ _ _ h => h) (by rfl) (by assumption) ?_ ?_
  rotate_left 1
  · intro X hSX
    (try dsimp only at hSX)
    first | (go_simp; done) | (go_simp; with_reducible rfl)
  try simp only [Act.put, List.setIfInBounds_toArray, List.set_cons_zero, List.set_cons_succ]
  clear hy
  have hz := HZ.out
  refine take_first (i := 14) (v := ?_) rfl (by kernel_rfl) (by kernel_rfl) (by kernel_rfl) (fun _ _ _ h => h) (by rfl) (by assumption) ?_ ?_
  rotate_left 1
  · intro X hSX
    (try dsimp only at hSX)
    first | (go_simp; done) | (go_simp; with_reducible rfl)
  try simp only [Act.put, List.setIfInBounds_toArray, List.set_cons_zero, List.set_cons_succ]
  clear hz
  have hpe := HPE.out
  refine take_first (i := 15) (v := ?_) rfl (by kernel_rfl) (by kernel_rfl) (by kernel_rfl) (fun _ _ _ h => h) (by rfl) (by assumption) ?_ ?_
  rotate_left 1
  · intro X hSX
    (try dsimp only at hSX)
    first | (go_simp; done) | (go_simp; with_reducible rfl)
  try simp only [Act.put, List.setIfInBounds_toArray, List.set_cons_zero, List.set_cons_succ]
  refine take_first (i := 16) (v := ?_) rfl (by kernel_rfl) (by kernel_rfl) (by kernel_rfl) (fun _ _ _ h => h) (by rfl) (by assumption) ?_ ?_
  rotate_left 1
  · intro X hSX
    (try dsimp only at hSX)
    first | (go_simp; done) | (go_simp; with_reducible rfl)
  try simp only [Act.put, List.setIfInBounds_toArray, List.set_cons_zero, List.set_cons_succ]
  refine wpAnyH_done (by kernel_rfl) ?_ _
  clear hSS hpe
  have HBF := Lib.hid (HB0.out.trans ((HB3.out.trans (HB5.out.mono HB3.out.size)).mono HB0.out.size))
  go_wp2_with fail
  go_ret
  exact ⟨rfl, HBF.out⟩
end Go.Proofs.Ytopnlcjbklmicaa
