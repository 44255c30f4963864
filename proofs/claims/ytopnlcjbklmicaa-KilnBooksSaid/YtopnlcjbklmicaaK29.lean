import Derived.Test.YtopnlcjbklmicaaK28
import Derived.WalkKit
import Derived.WalkSpells
import Derived.WalkLawsBesides
import Derived.Deep.QuietTactic
import Derived.BigQuiet
import Derived.Lib.Hide
import Derived.WalkSmall
import Derived.Maps.OwnSet
import Derived.Maps.RangeWalk
import Derived.Deep.RegionWith
import Derived.Deep.RegionHeld3
import Derived.Deep.DrawnRows
import Derived.Deep.DeepCutAuto
import Derived.OneCell
import Derived.KernelRfl
import Derived.Laws.StructEq
import Derived.StillTailTactics
import Derived.Laws.Externs
import Derived.RangeFuncBox
import Derived.Outline
import Derived.RangeFuncNested
import Derived.RangeFuncBound
import Derived.RangeFuncCalls
import Derived.RangeFuncLeaves
import Derived.Shelf.RegionOpen
import Derived.OwnWalkIn
import Derived.TacticsInMore
import Derived.LoopNIn
import Derived.LoopIn
import Derived.Test.YtopnlcjbklmicaaProg
namespace Go.Proofs.Ytopnlcjbklmicaa
open Go.RowKit Go.Maps Go.Shelf
set_option linter.unusedVariables false
set_option linter.unusedSimpArgs false
theorem vals_len (s : St) : s.vals.length = 8 := rfl
theorem flatS_cons (s : St) (l : List St) : flatS (s :: l) = s.vals ++ flatS l := by simp [flatS]
theorem flatS_len (l : List St) : (flatS l).length = l.length * 8 := by
  induction l with
  | nil => rfl
  | cons s l ih => rw [flatS_cons, List.length_append, ih, vals_len, List.length_cons]; omega
theorem flatS_get : ∀ (l : List St) (k i : Nat), k < l.length → i < 8 → (flatS l)[k * 8 + i]? = (l[k]?.getD St.zero).vals[i]?
  | [], k, i, h, _ => by simp at h
  | s :: l, 0, i, _, hi => by
    rw [flatS_cons, List.getElem?_append_left (by rw [vals_len]; omega)]
    simp
  | s :: l, k + 1, i, h, hi => by
    rw [flatS_cons, List.getElem?_append_right (by rw [vals_len]; omega), vals_len, show (k + 1) * 8 + i - 8 = k * 8 + i by omega, flatS_get l k i (by simpa using h) hi]
    simp
/-- The counts of a store put into a list of cells. -/
def put8 (xs : List Value) (j : Nat) (s : St) : List Value :=
  (((((((xs.set j (.int .i64 s.wet)).set (j + 1) (.int .i64 s.dry)).set (j + 2) (.int .i64 s.burn)).set (j + 3) (.int .i64 s.fired)).set (j + 4) (.int .i64 s.laid)).set (j + 5) (.int .i64 s.brk)).set (j + 6) (.int .i64 s.miss)).set (j + 7) (.int .i64 s.space)
theorem set_right (xs ys : List Value) (n j : Nat) (hn : xs.length = n) (u : Value) : (xs ++ ys).set (n + j) u = xs ++ ys.set j u := by
  subst hn
  rw [List.set_append_right _ _ (by omega), Nat.add_sub_cancel_left]
theorem put8_right (s' : St) (ys : List Value) (j : Nat) (s : St) : put8 (s'.vals ++ ys) (8 + j) s = s'.vals ++ put8 ys j s := by
  unfold put8
  simp only [Nat.add_assoc, set_right s'.vals _ 8 _ (vals_len s')]
theorem flatS_set : ∀ (l : List St) (k : Nat) (s : St), k < l.length → put8 (flatS l) (k * 8) s = flatS (l.set k s)
  | [], k, s, h => by simp at h
  | x :: l, 0, s, _ => by
    rw [List.set_cons_zero, flatS_cons, flatS_cons]
    simp [put8, St.vals]
  | x :: l, k + 1, s, h => by
    rw [List.set_cons_succ, flatS_cons, flatS_cons, show (k + 1) * 8 = 8 + k * 8 by omega, put8_right, flatS_set l k s (by simpa using h)]
/-- A book as it lies: its stores, its room, and what is inside. -/
def BookAt (w : World) (bb base : Nat) (l : List St) (room : Int) (iv : Value) : Prop :=
  ∃ sv, Blk w bb #[sv, .int .i64 room, iv] 131 ∧ w.ownsRow base 133 8 sv l.length (flatS l)
theorem BookAt.past {w w' : World} {bb base : Nat} {l : List St} {room : Int} {iv : Value} (h : BookAt w bb base l room iv) (hb : Below w.heap.size w w') : BookAt w' bb base l room iv := by
  obtain ⟨sv, h1, h2⟩ := h
  exact ⟨sv, h1.past hb, h2.kept (row := none) ⟨hb.os, hb.tape, hb.output, hb.size, fun j hj _ => hb.block j hj⟩ (by cases hv : sv.ownBlock <;> simp)⟩
theorem own_shape8 {W : World} {base k : Nat} {v : Value} {e : TypeId} {xs : List Value} (h : W.ownsRow base e 8 v k xs) : ∃ p c, v = .slice p k c := by
  rcases h.2 with ⟨rfl, rfl⟩ | ⟨g, cap, cur, rfl, _⟩
  · exact ⟨_, _, rfl⟩
  · exact ⟨_, _, rfl⟩
theorem ints_one1 (w : World) (x : Int) : IntsAt (w.alloc (.cells #[.int .i64 x] 3)) (.slice (some ⟨w.heap.size, 0, none⟩) 1 1) [x] := ints_blk [x] (Blk.new w _ _) (by simp)
theorem has_any (bb base : Nat) (l : List St) (room : Int) (iv : Value) (kind : Int) (w : World) (hb : BookAt w bb base l room iv) (hl : l.length ≤ 1000000) :
    Calls Try.prog 67 #[.pointer (some ⟨bb, 0, none⟩), .int .i64 kind] w fun e w' => e = .returned (.bool (inB kind 0 ((l.length : Int) - 1))) ∧ Below w.heap.size w w' := by
  obtain ⟨sv, h1, h2⟩ := hb
  obtain ⟨p, c, rfl⟩ := own_shape8 h2
  have c0 := h1.cell (i := 0) (v := .slice p l.length c) rfl
  have hw : IntKind.i64.wrap ((l.length : Int) - 1) = (l.length : Int) - 1 := wrap_id (by omega) (by omega)
  have HA := Lib.hid (areWithin_any 0 ((l.length : Int) - 1) _ [kind] _ (ints_one1 w kind))
  have HB := Lib.hid ((Below.refl _ w).alloc (Nat.le_refl _) (.cells #[.int .i64 kind] 3))
  clear h1 h2
  go_enter Try.func67, Try.ntmps67
  go_wp2_with fail
  refine HA.out.mono ?_
  rintro e w2 ⟨rfl, rfl⟩
  go_wp2
  go_ret
  exact ⟨ret_bool (by simp), HB.out⟩
/-- What a call does with the stores of a book: the error, and the stores. -/
def coF (l : List St) (kind n : Int) (g : St → Int × St) : Int × List St :=
  if inB kind 0 ((l.length : Int) - 1) = false then (7, l) else if inB n 0 1000000000 = false then (3, l)
  else if (chF (g (l[kind.toNat]?.getD St.zero))).2 ≠ 0 then ((chF (g (l[kind.toNat]?.getD St.zero))).2, l) else (0, l.set kind.toNat (chF (g (l[kind.toNat]?.getD St.zero))).1)
/-- What a book's call leaves: the error, the book, and what else lies, as it was. -/
def BookTo (w : World) (bb base : Nat) (r : Int × List St) (room : Int) (iv : Value) (e : Ending) (w' : World) : Prop :=
  e = .returned (.int .i64 r.1) ∧ BookAt w' bb base r.2 room iv ∧ ∃ q, base ≤ q ∧ (∀ o, w.heap[q]? = some o → ∃ vs f, o = .cells vs 133 f) ∧ But q q w w'
theorem BookTo.same {w w' : World} {bb base : Nat} {er : Int} {l : List St} {room : Int} {iv : Value} (h : BookAt w bb base l room iv) (hb : Below w.heap.size w w') (hbase : base ≤ w.heap.size) : BookTo w bb base (er, l) room iv (.returned (.int .i64 er)) w' :=
  ⟨rfl, h.past hb, w.heap.size, hbase, fun o ho => by simp at ho, But.of_below hb⟩
end Go.Proofs.Ytopnlcjbklmicaa
