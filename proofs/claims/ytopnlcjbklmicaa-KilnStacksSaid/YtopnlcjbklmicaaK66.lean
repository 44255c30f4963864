import Derived.Test.YtopnlcjbklmicaaK65
import Derived.Test.YtopnlcjbklmicaaL2
import Derived.WalkKit
import Derived.WalkSpells
import Derived.WalkLawsBesides
import Derived.Deep.QuietTactic
import Derived.BigQuiet
import Derived.Lib.Hide
import Derived.WalkSmall
import Derived.Maps.OwnSet
import Derived.Maps.RangeWalk
import Derived.Deep.RegionWith
import Derived.Deep.RegionHeld3
import Derived.Deep.DrawnRows
import Derived.Deep.DeepCutAuto
import Derived.OneCell
import Derived.KernelRfl
import Derived.Laws.StructEq
import Derived.StillTailTactics
import Derived.Laws.Externs
import Derived.RangeFuncBox
import Derived.Outline
import Derived.RangeFuncNested
import Derived.RangeFuncBound
import Derived.RangeFuncCalls
import Derived.RangeFuncLeaves
import Derived.Shelf.RegionOpen
import Derived.OwnWalkIn
import Derived.TacticsInMore
import Derived.LoopNIn
import Derived.LoopIn
import Derived.Test.YtopnlcjbklmicaaProg
namespace Go.Proofs.Ytopnlcjbklmicaa
open Go.RowKit Go.Maps Go.Shelf
set_option linter.unusedVariables false
set_option linter.unusedSimpArgs false
theorem via3 {C T : World → Nat → Nat → Prop} {G : Prop} (h : (∀ W a b, C W a b → T W a b) → G) (k : ∀ W a b, C W a b → T W a b) : G := h k
theorem via0 {T G : Prop} (h : (True → T) → G) (k : T) : G := h fun _ => k
/-- Three operations may come up. -/
theorem one_of_three {P : Program} {md : Region.Mode} {ops : Array Oper} {Q : Exit → Act → World → Prop} {S : World → Prop} {i j k : Nat} {o o' o'' : Oper} {fuel : Nat} {L : Array Bool} {a : Act} {w : World} (hr : Region.ready md ops L = [i, j, k]) (hi : ops.toList[i]? = some o) (hj : ops.toList[j]? = some o') (hk : ops.toList[k]? = some o'')
    (hw : Region.wanted o (yielded ops a.tmps) = true) (hw' : Region.wanted o' (yielded ops a.tmps) = true) (hw'' : Region.wanted o'' (yielded ops a.tmps) = true) (h : ∀ K : Act → World → Prop, Hid (∀ a' w', S w' → wpAnyH P md ops Q S fuel (L.setIfInBounds i true) a' w' → K a' w') → o.wp P a w K Q)
    (h' : ∀ K : Act → World → Prop, Hid (∀ a' w', S w' → wpAnyH P md ops Q S fuel (L.setIfInBounds j true) a' w' → K a' w') → o'.wp P a w K Q)
    (h'' : ∀ K : Act → World → Prop, Hid (∀ a' w', S w' → wpAnyH P md ops Q S fuel (L.setIfInBounds k true) a' w' → K a' w') → o''.wp P a w K Q) : wpAnyH P md ops Q S (fuel + 1) L a w :=
  wpAnyH_all hr (by simp) fun m hm => by
    rcases List.mem_cons.1 hm with rfl | hm
    · unfold wpOp
      rw [show ops[m]? = some o from by rw [← Array.getElem?_toList]; exact hi]
      simp only [hw, if_true]
      exact .inl (h _ (Lib.hid fun a' w' h1 h2 => ⟨h1, h2⟩))
    · rcases List.mem_cons.1 hm with rfl | hm
      · unfold wpOp
        rw [show ops[m]? = some o' from by rw [← Array.getElem?_toList]; exact hj]
        simp only [hw', if_true]
        exact .inl (h' _ (Lib.hid fun a' w' h1 h2 => ⟨h1, h2⟩))
      · rw [List.mem_singleton.1 hm]
        unfold wpOp
        rw [show ops[k]? = some o'' from by rw [← Array.getElem?_toList]; exact hk]
        simp only [hw'', if_true]
        exact .inl (h'' _ (Lib.hid fun a' w' h1 h2 => ⟨h1, h2⟩))
theorem bad_sum {ts : List (List Int × List Int)} {ti b : Nat} {pr : List (Nat × Nat)} {pre rest : List Nat} (h : cellsL (ts[ti]?.getD ([], [])).1 b = pre ++ rest) (he : (sumF pr pre (0, 1)).2 ≠ 0) : (brickF ts ti pr b).2.2 ≠ 0 := by
  have h1 := sumF_fail (pr := pr) (acc := (0, 1)) rest rfl he
  unfold brickF
  dsimp only
  rw [h, if_neg (by rw [h1]; exact he)]
  dsimp only
  rw [h1]; exact he
theorem bad_brick {ts : List (List Int × List Int)} {k N b nb : Nat} {pr ls bl : List (Nat × Nat)} (hp : passS ts k pr (List.range b) [] (List.replicate N (0, 1)) = (ls, bl, 0)) (hb : (brickF ts k pr b).2.2 ≠ 0) (hnb : (ts[k]?.getD ([], [])).2.length = nb) (hlt : b < nb) : (passF ts k N pr).2.2 ≠ 0 := by
  have h1 := passS_snoc b hp
  rw [if_neg hb, ← List.range_succ] at h1
  obtain ⟨rest, hr⟩ : ∃ rest, List.range nb = List.range (b + 1) ++ rest := by
    refine ⟨(List.range nb).drop (b + 1), ?_⟩
    have h2 := List.take_append_drop (b + 1) (List.range nb)
    rw [List.take_range, Nat.min_eq_left (by omega)] at h2
    exact h2.symm
  have h3 := passS_fail rest h1 hb
  unfold passF
  rw [hnb, hr, h3]
  exact hb
theorem bad_pass {ts : List (List Int × List Int)} {k N : Nat} {pre : List Nat} {rows : List (List (Nat × Nat))} {pr : List (Nat × Nat)} (hl : loadsS ts N pre (List.replicate ts.length []) (List.replicate N (0, 1)) = (rows, pr, 0)) (hb : (passF ts k N pr).2.2 ≠ 0) (hr : pre ++ (List.range (k + 1)).reverse = (List.range ts.length).reverse) : (loadsF ts N).2.2 ≠ 0 := by
  have h1 := loadsS_snoc k hl
  rw [if_neg hb] at h1
  have h3 := loadsS_fail (List.range k).reverse h1 hb
  rw [range_rev_succ, ← List.singleton_append, ← List.append_assoc] at hr
  unfold loadsF
  rw [← hr, h3]
  exact hb
/-- The numbers of the blocks. -/
structure LN (w : World) (gp gn bt gb Bo : Nat) : Prop where
  p : w.heap.size < gp
  g : w.heap.size < gb
  pb : gp < Bo
  gbb : gb < Bo
  n : Bo ≤ gn
  t : Bo ≤ bt
  nt : gn ≠ bt
  pg : gp ≠ gb
/-- What stands ahead of the bricks of a tier. -/
structure LZ (w : World) (Sv : Array Value) (gp gn bt gb k Bo : Nat) (tv : Array Value) (pr nl : List (Nat × Nat)) (rows : List (List (Nat × Nat))) (wr : World) : Prop where
  s : Blk wr w.heap.size Sv 69
  p : LoadsB wr gp pr
  t : Blk wr bt tv 85
  n : LoadsB wr gn nl
  y : RowsY wr w.heap.size gb k Bo rows
  b : Below w.heap.size w wr
theorem LZ.setN {w : World} {Sv : Array Value} {gp gn bt gb k Bo : Nat} {tv : Array Value} {pr nl : List (Nat × Nat)} {rows : List (List (Nat × Nat))} {wr : World} (h : LZ w Sv gp gn bt gb k Bo tv pr nl rows wr) (hn : LN w gp gn bt gb Bo) {i : Nat} (hi : i < nl.length) (p : Nat × Nat) :
    LZ w Sv gp gn bt gb k Bo tv pr (nl.set i p) rows ((wr.setCell ⟨gn, i * 2, none⟩ (.int .i64 p.1)).setCell ⟨gn, i * 2 + 1, none⟩ (.int .i64 p.2)) := by
  have a1 := hn.p
  have a2 := hn.pb
  have a3 := hn.n
  have a4 := hn.nt
  have a5 := hn.gbb
  exact ⟨(h.s.far (by omega)).far (by omega), (Blk.far h.p (by omega)).far (by omega), (h.t.far (Ne.symm a4)).far (Ne.symm a4), h.n.set hi p, (h.y.far (by omega) (by omega)).far (by omega) (by omega), (h.b.setCell (p := ⟨gn, _, none⟩) (show w.heap.size ≤ gn by omega) _).setCell (p := ⟨gn, _, none⟩) (show w.heap.size ≤ gn by omega) _⟩
/-- What stands behind some bricks of a tier. -/
structure LX (w : World) (Sv : Array Value) (gp gn bt gb k Bo e : Nat) (tv : Array Value) (pr nl : List (Nat × Nat)) (rows : List (List (Nat × Nat))) (ls : List (Nat × Nat)) (wr : World) : Prop where
  s : Blk wr w.heap.size Sv 69
  p : LoadsB wr gp pr
  t : Blk wr bt tv 85
  n : LoadsB wr gn nl
  x : RowsX wr w.heap.size gb k Bo e rows ls
  b : Below w.heap.size w wr
theorem LX.past {w : World} {Sv : Array Value} {gp gn bt gb k Bo e : Nat} {tv : Array Value} {pr nl : List (Nat × Nat)} {rows : List (List (Nat × Nat))} {ls : List (Nat × Nat)} {wr wr' : World} (h : LX w Sv gp gn bt gb k Bo e tv pr nl rows ls wr) (hb : Below wr.heap.size wr wr') : LX w Sv gp gn bt gb k Bo e tv pr nl rows ls wr' :=
  ⟨h.s.past hb, Blk.past h.p hb, h.t.past hb, Blk.past h.n hb, h.x.past hb, h.b.trans (hb.mono h.b.size)⟩
theorem LX.setN {w : World} {Sv : Array Value} {gp gn bt gb k Bo e : Nat} {tv : Array Value} {pr nl : List (Nat × Nat)} {rows : List (List (Nat × Nat))} {ls : List (Nat × Nat)} {wr : World} (h : LX w Sv gp gn bt gb k Bo e tv pr nl rows ls wr) (hn : LN w gp gn bt gb Bo) (he : gn < e) {i : Nat} (hi : i < nl.length) (p : Nat × Nat) :
    LX w Sv gp gn bt gb k Bo e tv pr (nl.set i p) rows ls ((wr.setCell ⟨gn, i * 2, none⟩ (.int .i64 p.1)).setCell ⟨gn, i * 2 + 1, none⟩ (.int .i64 p.2)) := by
  have a1 := hn.p
  have a2 := hn.pb
  have a3 := hn.n
  have a4 := hn.nt
  have a5 := hn.gbb
  exact ⟨(h.s.far (by omega)).far (by omega), (Blk.far h.p (by omega)).far (by omega), (h.t.far (Ne.symm a4)).far (Ne.symm a4), h.n.set hi p, (h.x.far (by omega) he (by omega)).far (by omega) he (by omega), (h.b.setCell (p := ⟨gn, _, none⟩) (show w.heap.size ≤ gn by omega) _).setCell (p := ⟨gn, _, none⟩) (show w.heap.size ≤ gn by omega) _⟩
theorem LZ.start {w : World} {Sv : Array Value} {gp gn bt gb k Bo e : Nat} {tv : Array Value} {pr nl : List (Nat × Nat)} {rows : List (List (Nat × Nat))} {wr : World} (h : LZ w Sv gp gn bt gb k Bo tv pr nl rows wr) (hn : LN w gp gn bt gb Bo) (hk : k < rows.length) (he : wr.heap.size = e) :
    LX w Sv gp gn bt gb k Bo e tv pr nl rows [] ((wr.alloc (.cells #[] 116)).setCell ⟨gb, k, none⟩ (.slice (some ⟨e, 0, none⟩) 0 0)) := by
  have a1 := hn.p
  have a0 := hn.g
  have a2 := hn.pb
  have a3 := hn.n
  have a4 := hn.nt
  have a5 := hn.gbb
  have a6 := hn.t
  have a7 := hn.pg
  have a8 := Blk.lt h.n
  have hB := (Below.refl _ wr).alloc (Nat.le_refl _) (.cells #[] 116)
  exact ⟨(h.s.past hB).far (by omega), Blk.far (Blk.past h.p hB) a7, (h.t.past hB).far (by omega), Blk.far (Blk.past h.n hB) (by omega), h.y.start hk he (by omega) (by omega), (h.b.trans (hB.mono h.b.size)).setCell (p := ⟨gb, k, none⟩) (show w.heap.size ≤ gb by omega) _⟩
theorem LX.grow {w : World} {Sv : Array Value} {gp gn bt gb k Bo e : Nat} {tv : Array Value} {pr nl : List (Nat × Nat)} {rows : List (List (Nat × Nat))} {ls ls' : List (Nat × Nat)} {W W' : World} {vk v' : Value} (h : LX w Sv gp gn bt gb k Bo e tv pr nl rows ls W) (hn : LN w gp gn bt gb Bo) (hne : gn < e) (hte : bt < e) (hk : k < rows.length) (hc : W.cell? ⟨gb, k, none⟩ = some vk) (hv : W.ownsRow e 116 2 vk ls.length (flatL ls)) (hown : W'.ownsRow e 116 2 v' ls'.length (flatL ls')) (hg : W.grownBy W' vk.ownBlock) :
    LX w Sv gp gn bt gb k Bo e tv pr nl rows ls' (W'.setCell ⟨gb, k, none⟩ v') := by
  have a1 := hn.p
  have a0 := hn.g
  have a2 := hn.pb
  have a3 := hn.n
  have a5 := hn.gbb
  have a6 := hn.t
  have a7 := hn.pg
  have hj : ∀ j, vk.ownBlock = some j → e ≤ j := fun j hj => (ownRow_lt hv j hj).1
  have hx : ∀ x, x < e → some x ≠ vk.ownBlock := fun x hx e' => by have := hj x e'.symm; omega
  exact ⟨(h.s.kept hg (hx _ (by omega))).far (by omega), Blk.far (Blk.kept h.p hg (hx _ (by omega))) a7, (h.t.kept hg (hx _ hte)).far (by omega), Blk.far (Blk.kept h.n hg (hx _ hne)) (by omega), h.x.grow hk hc (by omega) hown hg, (h.b.grown hg h.b.size (fun j hj' => by have := hj j hj'; omega)).setCell (p := ⟨gb, k, none⟩) (show w.heap.size ≤ gb by omega) _⟩
end Go.Proofs.Ytopnlcjbklmicaa
