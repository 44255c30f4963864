import Derived.Test.YtopnlcjbklmicaaK20
import Derived.WalkKit
import Derived.WalkSpells
import Derived.WalkLawsBesides
import Derived.Deep.QuietTactic
import Derived.BigQuiet
import Derived.Lib.Hide
import Derived.WalkSmall
import Derived.Maps.OwnSet
import Derived.Maps.RangeWalk
import Derived.Deep.RegionWith
import Derived.Deep.RegionHeld3
import Derived.Deep.DrawnRows
import Derived.Deep.DeepCutAuto
import Derived.OneCell
import Derived.KernelRfl
import Derived.Laws.StructEq
import Derived.StillTailTactics
import Derived.Laws.Externs
import Derived.RangeFuncBox
import Derived.Outline
import Derived.RangeFuncNested
import Derived.RangeFuncBound
import Derived.RangeFuncCalls
import Derived.RangeFuncLeaves
import Derived.Shelf.RegionOpen
import Derived.OwnWalkIn
import Derived.TacticsInMore
import Derived.LoopNIn
import Derived.LoopIn
import Derived.Test.YtopnlcjbklmicaaProg
namespace Go.Proofs.Ytopnlcjbklmicaa
open Go.RowKit Go.Maps Go.Shelf
set_option linter.unusedVariables false
set_option linter.unusedSimpArgs false
/-- Lowest terms, as naturals. -/
def low (n d : Nat) : (Nat × Nat) × Int := (((lowestF n d).1.toNat, (lowestF n d).2.1.toNat), (lowestF n d).2.2)
def addF (a b : Nat × Nat) : (Nat × Nat) × Int := low (a.1 * b.2 + b.1 * a.2) (a.2 * b.2)
def LoadOk (p : Nat × Nat) : Prop := p.1 ≤ 1000000000 ∧ 1 ≤ p.2 ∧ p.2 ≤ 1000000000
/-- What presses on some cells, added one after another, and the error. -/
def sumF (pr : List (Nat × Nat)) : List Nat → Nat × Nat → (Nat × Nat) × Int
  | [], acc => (acc, 0)
  | c :: cs, acc => if (addF acc (pr[c]?.getD (0, 1))).2 = 0 then sumF pr cs (addF acc (pr[c]?.getD (0, 1))).1 else addF acc (pr[c]?.getD (0, 1))
theorem sumF_snoc {pr : List (Nat × Nat)} {pre : List Nat} {acc acc' : Nat × Nat} (c : Nat) (h : sumF pr pre acc = (acc', 0)) :
    sumF pr (pre ++ [c]) acc = addF acc' (pr[c]?.getD (0, 1)) := by
  induction pre generalizing acc with
  | nil =>
    simp only [sumF] at h
    cases h
    simp only [List.nil_append, sumF]
    split
    · rename_i h2
      exact Prod.ext rfl h2.symm
    · rfl
  | cons x pre ih =>
    simp only [List.cons_append, sumF] at h ⊢
    split at h
    · rename_i h2
      rw [if_pos h2]
      exact ih h
    · rename_i h2
      rw [h] at h2
      exact absurd rfl h2
theorem sumF_fail {pr : List (Nat × Nat)} {pre : List Nat} (rest : List Nat) {acc : Nat × Nat} {e : Int} (h : (sumF pr pre acc).2 = e) (he : e ≠ 0) : (sumF pr (pre ++ rest) acc).2 = e := by
  induction pre generalizing acc with
  | nil => simp only [sumF] at h; exact absurd h.symm he
  | cons x pre ih =>
    simp only [List.cons_append, sumF] at h ⊢
    split at h
    · rename_i h2
      rw [if_pos h2]
      exact ih h
    · rename_i h2
      rw [if_neg h2]
      exact h
theorem addF_ok {a b : Nat × Nat} (ha : LoadOk a) (hb : LoadOk b) : ((addF a b).2 = 10 ∧ (addF a b).1 = (0, 0)) ∨ ((addF a b).2 = 0 ∧ LoadOk (addF a b).1) := by
  have hd : 1 ≤ a.2 * b.2 := Nat.mul_le_mul ha.2.1 hb.2.1
  rcases lowestF_ok (n := a.1 * b.2 + b.1 * a.2) hd with ⟨h1, h2, h3⟩ | ⟨h1, x, y, h2, h3, h4, h5⟩
  · exact .inl ⟨h1, by unfold addF low; rw [h2, h3]; rfl⟩
  · refine .inr ⟨h1, ?_⟩
    unfold addF low LoadOk
    rw [h2]
    exact ⟨h3, h4, h5⟩
/-- The load on a brick, what it presses on each cell, and the error. -/
def brickF (ts : List (List Int × List Int)) (ti : Nat) (pr : List (Nat × Nat)) (b : Nat) : (Nat × Nat) × (Nat × Nat) × Int :=
  let L := sumF pr (cellsL (ts[ti]?.getD ([], [])).1 b) (0, 1)
  if L.2 = 0 then
    let E := pressF L.1.1 L.1.2 ((ts[ti]?.getD ([], [])).2[b]?.getD 0).toNat (restsL ts ti b).length
    (L.1, (E.1.toNat, E.2.1.toNat), E.2.2)
  else (L.1, (0, 0), L.2)
def setAll (bl : List (Nat × Nat)) (cs : List Nat) (E : Nat × Nat) : List (Nat × Nat) := cs.foldl (fun bl c => bl.set c E) bl
/-- The loads of bricks, what presses below, and the error. -/
def passS (ts : List (List Int × List Int)) (ti : Nat) (pr : List (Nat × Nat)) : List Nat → List (Nat × Nat) → List (Nat × Nat) → List (Nat × Nat) × List (Nat × Nat) × Int
  | [], ls, bl => (ls, bl, 0)
  | b :: bs, ls, bl =>
    if (brickF ts ti pr b).2.2 = 0 then passS ts ti pr bs (ls ++ [(brickF ts ti pr b).1]) (setAll bl (restsL ts ti b) (brickF ts ti pr b).2.1) else ([], [], (brickF ts ti pr b).2.2)
def passF (ts : List (List Int × List Int)) (ti N : Nat) (pr : List (Nat × Nat)) : List (Nat × Nat) × List (Nat × Nat) × Int :=
  passS ts ti pr (List.range (ts[ti]?.getD ([], [])).2.length) [] (List.replicate N (0, 1))
theorem passS_snoc {ts : List (List Int × List Int)} {ti : Nat} {pr : List (Nat × Nat)} {pre : List Nat} {ls bl ls' bl' : List (Nat × Nat)} (b : Nat) (h : passS ts ti pr pre ls bl = (ls', bl', 0)) :
    passS ts ti pr (pre ++ [b]) ls bl = if (brickF ts ti pr b).2.2 = 0 then (ls' ++ [(brickF ts ti pr b).1], setAll bl' (restsL ts ti b) (brickF ts ti pr b).2.1, 0) else ([], [], (brickF ts ti pr b).2.2) := by
  induction pre generalizing ls bl with
  | nil =>
    simp only [passS] at h
    cases h
    simp only [List.nil_append, passS]
  | cons x pre ih =>
    simp only [List.cons_append, passS] at h ⊢
    split at h
    · rename_i h2
      rw [if_pos h2]
      exact ih h
    · rename_i h2
      exact absurd (congrArg (·.2.2) h) h2
theorem passS_fail {ts : List (List Int × List Int)} {ti : Nat} {pr : List (Nat × Nat)} {pre : List Nat} (rest : List Nat) {ls bl : List (Nat × Nat)} {e : Int} (h : passS ts ti pr pre ls bl = ([], [], e)) (he : e ≠ 0) : passS ts ti pr (pre ++ rest) ls bl = ([], [], e) := by
  induction pre generalizing ls bl with
  | nil => simp only [passS] at h; exact absurd (congrArg (·.2.2) h).symm he
  | cons x pre ih =>
    simp only [List.cons_append, passS] at h ⊢
    split at h
    · rename_i h2
      rw [if_pos h2]
      exact ih h
    · rename_i h2
      rw [if_neg h2]
      exact h
/-- All blocks but two lie as they lay. -/
structure But (x y : Nat) (A B : World) : Prop where
  os : B.os = A.os
  tape : B.tape = A.tape
  output : B.output = A.output
  size : A.heap.size ≤ B.heap.size
  block : ∀ k, k < A.heap.size → k ≠ x → k ≠ y → B.heap[k]? = A.heap[k]?
theorem But.refl (x y : Nat) (A : World) : But x y A A := ⟨rfl, rfl, rfl, Nat.le_refl _, fun _ _ _ _ => rfl⟩
theorem But.past {x y : Nat} {A B C : World} (h : But x y A B) (g : Below B.heap.size B C) : But x y A C :=
  ⟨g.os.trans h.os, g.tape.trans h.tape, g.output.trans h.output, Nat.le_trans h.size g.size, fun k hk h1 h2 => (g.block k (Nat.lt_of_lt_of_le hk h.size)).trans (h.block k hk h1 h2)⟩
theorem But.set {x y i : Nat} {A B : World} (h : But x y A B) (b : Nat) (hb : b = x ∨ b = y) (u : Value) : But x y A (B.setCell ⟨b, i, none⟩ u) :=
  ⟨h.os, h.tape, h.output, by rw [World.size_setCell]; exact h.size, fun k hk h1 h2 => (Below.heap_setCell B _ u k (by intro e; rcases hb with rfl | rfl <;> contradiction)).trans (h.block k hk h1 h2)⟩
theorem But.drew {x y : Nat} {A B : World} (h : But x y A B) : But x y A B.drew := ⟨h.os, h.tape, h.output, h.size, h.block⟩
theorem But.blk {x y b : Nat} {A B : World} {vs : Array Value} {T : TypeId} (h : But x y A B) (hb : Blk A b vs T) (h1 : b ≠ x) (h2 : b ≠ y) : Blk B b vs T := (h.block b hb.lt h1 h2).trans hb
theorem But.below {x y n : Nat} {A B : World} (h : But x y A B) (h0 : n ≤ A.heap.size) (h1 : n ≤ x) (h2 : n ≤ y) : Below n A B :=
  ⟨h.os, h.tape, h.output, h.size, fun k hk => h.block k (by omega) (by omega) (by omega)⟩
theorem But.own {β : Type} {x y B : Nat} {A : World} (hB : A.heap.size ≤ B) : OwnFrom B (fun (_ : β) W => But x y A W) := fun s X Y row hs hg hr =>
  ⟨hg.os.trans hs.os, hg.tape.trans hs.tape, hg.output.trans hs.output, Nat.le_trans hs.size hg.size, fun k hk h1 h2 => (hg.block k (Nat.lt_of_lt_of_le hk hs.size) (fun e => by have := (hr k e.symm).1; omega)).trans (hs.block k hk h1 h2)⟩
end Go.Proofs.Ytopnlcjbklmicaa
