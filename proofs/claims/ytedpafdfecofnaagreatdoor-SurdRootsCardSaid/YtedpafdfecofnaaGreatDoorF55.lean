/-
  Contracts of the program's own functions (and their plain mathematics), on the way to the law: each for all arguments that its hypotheses let.
-/
import Derived.Test.YtedpafdfecofnaaGreatDoorF11
import Derived.Test.YtedpafdfecofnaaGreatDoorF8
import Derived.WalkKit
import Derived.WalkSpells
import Derived.WalkLawsBesides
import Derived.Deep.QuietTactic
import Derived.BigQuiet
import Derived.Lib.Hide
import Derived.WalkSmall
import Derived.Maps.OwnSet
import Derived.Maps.RangeWalk
import Derived.Deep.RegionWith
import Derived.Deep.RegionHeld3
import Derived.Deep.DrawnRows
import Derived.Deep.DeepCutAuto
import Derived.OneCell
import Derived.KernelRfl
import Derived.Laws.StructEq
import Derived.StillTailTactics
import Derived.Laws.Externs
import Derived.RangeFuncBox
import Derived.Test.YtedpafdfecofnaaGreatDoorPlain
set_option linter.unusedSimpArgs false
set_option linter.unusedVariables false

/-! ## D1 -/
namespace Go.Proofs.YtedpafdfecofnaaGreatDoor
/-- The number of a list of digits, the first one first. -/
def dval (l : List Nat) : Nat := l.foldl (fun v x => 10 * v + x) 0
def Dg (l : List Nat) : Prop := ∀ x ∈ l, x < 10
theorem dval_nil : dval [] = 0 := rfl
theorem dval_snoc (l : List Nat) (x : Nat) : dval (l ++ [x]) = 10 * dval l + x := by unfold dval; rw [List.foldl_append]; rfl
theorem dval_from (l : List Nat) (v : Nat) : l.foldl (fun v x => 10 * v + x) v = v * 10 ^ l.length + dval l := by
  induction l generalizing v with
  | nil => simp [dval]
  | cons x l ih =>
    unfold dval
    rw [List.foldl_cons, List.foldl_cons, ih, ih (10 * 0 + x), List.length_cons, Nat.pow_succ, Nat.add_mul, Nat.mul_zero, Nat.zero_add, Nat.mul_comm 10 v, Nat.mul_assoc v 10, Nat.mul_comm 10 (10 ^ l.length)]
    omega
theorem dval_append (a b : List Nat) : dval (a ++ b) = dval a * 10 ^ b.length + dval b := by
  show (a ++ b).foldl _ 0 = _
  rw [List.foldl_append, dval_from]
  rfl
theorem dval_cons (x : Nat) (l : List Nat) : dval (x :: l) = x * 10 ^ l.length + dval l := by
  rw [← List.singleton_append, dval_append]
  congr 2
  show 10 * 0 + x = x
  omega
theorem dval_zeros (n : Nat) : dval (List.replicate n 0) = 0 := by
  induction n with
  | zero => rfl
  | succ n ih => rw [List.replicate_succ, dval_cons, ih]; simp
theorem dval_pad (n : Nat) (a : List Nat) : dval (List.replicate n 0 ++ a) = dval a := by rw [dval_append, dval_zeros]; simp
theorem dval_lt {l : List Nat} (h : Dg l) : dval l < 10 ^ l.length := by
  induction l with
  | nil => simp [dval]
  | cons x l ih =>
    have h1 := h x (List.mem_cons_self ..)
    have h2 := ih (fun y hy => h y (List.mem_cons_of_mem _ hy))
    rw [dval_cons, List.length_cons, Nat.pow_succ]
    have : x * 10 ^ l.length ≤ 9 * 10 ^ l.length := Nat.mul_le_mul_right _ (by omega)
    omega
theorem Dg.append {a b : List Nat} (ha : Dg a) (hb : Dg b) : Dg (a ++ b) := fun x hx => by
  rcases List.mem_append.1 hx with h | h
  · exact ha x h
  · exact hb x h
theorem Dg.nil : Dg [] := fun x hx => by cases hx
theorem Dg.cons {x : Nat} {l : List Nat} (hx : x < 10) (hl : Dg l) : Dg (x :: l) := fun y hy => by
  rcases List.mem_cons.1 hy with rfl | h
  · exact hx
  · exact hl y h
theorem Dg.one {x : Nat} (hx : x < 10) : Dg [x] := Dg.cons hx Dg.nil
theorem Dg.zeros (n : Nat) : Dg (List.replicate n 0) := fun x hx => by rw [List.eq_of_mem_replicate hx]; omega
theorem Dg.drop {l : List Nat} (h : Dg l) (k : Nat) : Dg (l.drop k) := fun x hx => h x (List.mem_of_mem_drop hx)
theorem Dg.take {l : List Nat} (h : Dg l) (k : Nat) : Dg (l.take k) := fun x hx => h x (List.mem_of_mem_take hx)
theorem Dg.set {l : List Nat} (h : Dg l) (k : Nat) {x : Nat} (hx : x < 10) : Dg (l.set k x) := fun y hy => by
  rcases List.mem_or_eq_of_mem_set hy with h1 | rfl
  · exact h y h1
  · exact hx
theorem Dg.getD {l : List Nat} (h : Dg l) (k : Nat) : l.getD k 0 < 10 := by
  rw [List.getD_eq_getElem?_getD]
  cases e : l[k]? with
  | none => simp
  | some x => exact h x (List.mem_of_getElem? e)
theorem drop_cons {l : List Nat} {k : Nat} (h : k < l.length) : l.drop k = l.getD k 0 :: l.drop (k + 1) := by
  rw [List.drop_eq_getElem_cons h, List.getD_eq_getElem?_getD, List.getElem?_eq_getElem h]; rfl
theorem take_snoc {l : List Nat} {k : Nat} (h : k < l.length) : l.take (k + 1) = l.take k ++ [l.getD k 0] := by
  rw [List.take_succ_eq_append_getElem h, List.getD_eq_getElem?_getD, List.getElem?_eq_getElem h]; rfl
/-- Where two lists of digits of one length part, there the numbers part. -/
theorem dval_part {a b : List Nat} (ha : Dg a) (hb : Dg b) (hl : a.length = b.length) (k : Nat) (hk : k < a.length) (he : a.take k = b.take k) (hlt : a.getD k 0 < b.getD k 0) : dval a < dval b := by
  have e1 : dval a = dval (a.take k) * 10 ^ (a.drop k).length + dval (a.drop k) := by rw [← dval_append, List.take_append_drop]
  have e2 : dval b = dval (b.take k) * 10 ^ (b.drop k).length + dval (b.drop k) := by rw [← dval_append, List.take_append_drop]
  rw [e1, e2, ← he, List.length_drop, List.length_drop, ← hl, drop_cons hk, drop_cons (show k < b.length by omega), dval_cons, dval_cons, List.length_drop, List.length_drop, ← hl]
  have h1 := dval_lt (ha.drop (k + 1))
  rw [List.length_drop] at h1
  have h2 : (a.getD k 0 + 1) * 10 ^ (a.length - (k + 1)) ≤ b.getD k 0 * 10 ^ (a.length - (k + 1)) := Nat.mul_le_mul_right _ hlt
  rw [Nat.add_mul, Nat.one_mul] at h2
  omega
/-- Leaving out zeros in front. -/
def trimD : List Nat → List Nat
  | [] => []
  | x :: l => if x = 0 then trimD l else x :: l
theorem dval_trim (l : List Nat) : dval (trimD l) = dval l := by
  induction l with
  | nil => rfl
  | cons x l ih =>
    unfold trimD
    split
    · rename_i h; rw [ih, h, dval_cons]; simp
    · rfl
theorem trim_len (l : List Nat) : (trimD l).length ≤ l.length := by
  induction l with
  | nil => exact Nat.le_refl _
  | cons x l ih =>
    unfold trimD
    split
    · simp; omega
    · exact Nat.le_refl _
theorem Dg.trim {l : List Nat} (h : Dg l) : Dg (trimD l) := by
  induction l with
  | nil => exact h
  | cons x l ih =>
    unfold trimD
    split
    · exact ih (fun y hy => h y (List.mem_cons_of_mem _ hy))
    · exact h
/-- A list without zeros in front is empty just if it is 0. -/
theorem trim_empty (l : List Nat) : (trimD l = []) ↔ dval l = 0 := by
  induction l with
  | nil => simp [trimD, dval]
  | cons x l ih =>
    unfold trimD
    rw [dval_cons]
    split
    · rename_i h; rw [h]; simpa using ih
    · rename_i h
      have : 0 < x * 10 ^ l.length := Nat.mul_pos (by omega) (Nat.pow_pos (by decide))
      constructor
      · intro e; cases e
      · intro e; omega
theorem trim_drop (l : List Nat) : ∃ k, k ≤ l.length ∧ trimD l = l.drop k := by
  induction l with
  | nil => exact ⟨0, Nat.le_refl _, rfl⟩
  | cons x l ih =>
    unfold trimD
    split
    · obtain ⟨k, hk, e⟩ := ih
      exact ⟨k + 1, by simpa using hk, by rw [e]; rfl⟩
    · exact ⟨0, Nat.zero_le _, rfl⟩
/-- One step of a root that is computed digit by digit. -/
theorem root_step {R rest NN d pair : Nat} (h1 : R * R + rest = NN) (h2 : NN < (R + 1) * (R + 1)) (hp : pair < 100) (hd : d ≤ 9) (hle : (20 * R + d) * d ≤ 100 * rest + pair)
    (hnext : d = 9 ∨ 100 * rest + pair < (20 * R + (d + 1)) * (d + 1)) :
    (10 * R + d) * (10 * R + d) + (100 * rest + pair - (20 * R + d) * d) = 100 * NN + pair ∧ 100 * NN + pair < (10 * R + d + 1) * (10 * R + d + 1) := by
  have e1 : (10 * R + d) * (10 * R + d) = 100 * (R * R) + (20 * R + d) * d := by
    simp only [Nat.mul_add, Nat.add_mul]
    have a1 : 10 * R * (10 * R) = 100 * (R * R) := by rw [Nat.mul_mul_mul_comm]
    have a2 : d * (10 * R) = 10 * (R * d) := by rw [Nat.mul_comm d, Nat.mul_assoc]
    have a3 : 10 * R * d = 10 * (R * d) := by rw [Nat.mul_assoc]
    have a4 : 20 * R * d = 20 * (R * d) := by rw [Nat.mul_assoc]
    omega
  have e2 : (10 * R + d + 1) * (10 * R + d + 1) = 100 * (R * R) + (20 * R + (d + 1)) * (d + 1) := by
    simp only [Nat.mul_add, Nat.add_mul, Nat.mul_one, Nat.one_mul]
    have a1 : 10 * R * (10 * R) = 100 * (R * R) := by rw [Nat.mul_mul_mul_comm]
    have a2 : d * (10 * R) = 10 * (R * d) := by rw [Nat.mul_comm d, Nat.mul_assoc]
    have a3 : 10 * R * d = 10 * (R * d) := by rw [Nat.mul_assoc]
    have a4 : 20 * R * d = 20 * (R * d) := by rw [Nat.mul_assoc]
    omega
  refine ⟨by omega, ?_⟩
  rcases hnext with rfl | h
  · have e3 : (10 * R + 9 + 1) * (10 * R + 9 + 1) = 100 * ((R + 1) * (R + 1)) := by
      rw [show 10 * R + 9 + 1 = 10 * (R + 1) by omega, Nat.mul_mul_mul_comm]
    omega
  · rw [e2]; omega
end Go.Proofs.YtedpafdfecofnaaGreatDoor

/-! ## D2 -/
namespace Go.Proofs.YtedpafdfecofnaaGreatDoor
open Go.RowKit Go.Maps Go.Shelf Go.Sort
/-! Slices of small whole numbers. -/
def iv (l : List Nat) : List Value := l.map fun n => Value.int .i64 (n : Nat)
theorem iv_len (l : List Nat) : (iv l).length = l.length := List.length_map ..
theorem iv_append (a b : List Nat) : iv (a ++ b) = iv a ++ iv b := List.map_append
theorem iv_get (l : List Nat) (i : Nat) (h : i < l.length) : (iv l)[i]? = some (.int .i64 (l.getD i 0 : Nat)) := by simp [iv, List.getD_eq_getElem?_getD, h]
theorem iv_one (l : List Nat) : ∀ u ∈ iv l, u.oneCell' = true := by
  intro u hu
  unfold iv at hu
  obtain ⟨n, _, rfl⟩ := List.mem_map.1 hu
  rfl
def OwnD (w : World) (base : Nat) (v : Value) (l : List Nat) : Prop := w.ownsRow base 3 1 v l.length (iv l)
def DigsAt (w : World) (v : Value) (l : List Nat) : Prop :=
  l.length ≤ 1000000 ∧ ((l = [] ∧ ∃ a cap, v = .slice a 0 cap) ∨ ∃ b off cap, v = .slice (some ⟨b, off, none⟩) l.length cap ∧ l.length ≤ cap ∧ b < w.heap.size ∧ ∀ i, i < l.length → w.cell? ⟨b, off + i, none⟩ = some (.int .i64 (l.getD i 0 : Nat)))
theorem DigsAt.below {w w' : World} {v : Value} {l : List Nat} (h : DigsAt w v l) (hw : Below w.heap.size w w') : DigsAt w' v l := by
  obtain ⟨hl, h | ⟨b, off, cap, hv, hcap, hb, hc⟩⟩ := h
  · exact ⟨hl, .inl h⟩
  · exact ⟨hl, .inr ⟨b, off, cap, hv, hcap, Nat.lt_of_lt_of_le hb hw.size, fun i hi => (hw.cell (p := ⟨b, _, none⟩) hb).trans (hc i hi)⟩⟩
theorem DigsAt.shape {w : World} {v : Value} {l : List Nat} (h : DigsAt w v l) : ∃ a cap, v = .slice a l.length cap := by
  obtain ⟨_, ⟨rfl, a, cap, rfl⟩ | ⟨b, off, cap, rfl, _⟩⟩ := h
  · exact ⟨a, cap, rfl⟩
  · exact ⟨_, cap, rfl⟩
theorem DigsAt.reads {w : World} {v : Value} {l : List Nat} (h : DigsAt w v l) : ∃ p cap, v = .slice p l.length cap ∧ ∀ i, i < l.length → ∃ bk off, p = some ⟨bk, off, none⟩ ∧ l.length ≤ cap ∧ bk < w.heap.size ∧ w.cell? ⟨bk, off + i, none⟩ = some (.int .i64 (l.getD i 0 : Nat)) := by
  rcases h.2 with ⟨rfl, a', cap', rfl⟩ | ⟨bk, off, cap, rfl, hcap, hbk, hcells⟩
  · exact ⟨a', cap', rfl, fun i hi => absurd hi (by simp)⟩
  · exact ⟨_, cap, rfl, fun i hi => ⟨bk, off, rfl, hcap, hbk, hcells i hi⟩⟩
theorem add_addr (b off j : Nat) : (⟨b, off, none⟩ : Addr).add j = ⟨b, off + j, none⟩ := by unfold Addr.add; split <;> simp_all
theorem OwnD.at {w : World} {base : Nat} {v : Value} {l : List Nat} (h : OwnD w base v l) (hl : l.length ≤ 1000000) : DigsAt w v l := by
  refine ⟨hl, ?_⟩
  have h' := h
  obtain ⟨_, ⟨hv, h0⟩ | ⟨g, cap, cur, rfl, hbase, hb, hcap, _⟩⟩ := h
  · exact .inl ⟨List.length_eq_zero_iff.1 h0, none, 0, hv⟩
  · refine .inr ⟨g, 0, cap, rfl, hcap, (Array.getElem?_eq_some_iff.1 hb).1, fun i hi => ?_⟩
    have := World.ownsRow.cells h' (g := g) rfl i _ (iv_get l i hi)
    rw [add_addr] at this
    exact this
theorem OwnD.cellAt {w : World} {base g cap : Nat} {l : List Nat} (h : OwnD w base (.slice (some ⟨g, 0, none⟩) l.length cap) l) (i : Nat) (hi : i < l.length) :
    w.cell? ⟨g, i, none⟩ = some (.int .i64 (l.getD i 0 : Nat)) := by
  rw [World.ownsRow.cellAt h i (by omega), iv_get l i hi]
theorem OwnD.kept {w w' : World} {base : Nat} {v : Value} {l : List Nat} {row : Option Nat} (h : OwnD w base v l) (hg : w.grownBy w' row) (hne : v.ownBlock = none ∨ v.ownBlock ≠ row) : OwnD w' base v l := World.ownsRow.kept h hg hne
theorem OwnD.below {w w' : World} {base : Nat} {v : Value} {l : List Nat} (h : OwnD w base v l) (hw : Below w.heap.size w w') : OwnD w' base v l := by
  obtain ⟨h1, h2 | ⟨g, cap, cur, h3, h4, h5, h6⟩⟩ := h
  · exact ⟨h1, .inl h2⟩
  · exact ⟨h1, .inr ⟨g, cap, cur, h3, h4, (hw.block g (Array.getElem?_eq_some_iff.1 h5).1).trans h5, h6⟩⟩
theorem OwnD.low {w : World} {base base' : Nat} {v : Value} {l : List Nat} (h : OwnD w base v l) (hb : base' ≤ base) : OwnD w base' v l := by
  obtain ⟨h1, h2 | ⟨g, cap, cur, h3, h4, h5⟩⟩ := h
  · exact ⟨h1, .inl h2⟩
  · exact ⟨h1, .inr ⟨g, cap, cur, h3, Nat.le_trans hb h4, h5⟩⟩
theorem iv_set (l : List Nat) (k x : Nat) : iv (l.set k x) = (iv l).set k (.int .i64 (x : Nat)) := by simp [iv, List.map_set]
theorem OwnD.store {w : World} {base g cap : Nat} {l : List Nat} (h : OwnD w base (.slice (some ⟨g, 0, none⟩) l.length cap) l) (k x : Nat) :
    OwnD (w.setCell ⟨g, k, none⟩ (.int .i64 (x : Nat))) base (.slice (some ⟨g, 0, none⟩) l.length cap) (l.set k x) := by
  have := World.ownsRow.stored h k (.int .i64 (x : Nat))
  unfold OwnD
  rw [iv_set, List.length_set]
  exact this.1
theorem emptyD (w : World) : OwnD (w.alloc (.cells #[] 3)) w.heap.size (.slice (some ⟨w.heap.size, 0, none⟩) 0 0) [] := by
  refine ⟨by simp [iv], .inr ⟨w.heap.size, 0, #[], rfl, Nat.le_refl _, ?_, Nat.le_refl _, by unfold maxLen; omega, by simp, by simp [iv]⟩⟩
  exact (Two_alloc_last w _)
theorem oneD (w : World) (x : Nat) : OwnD (w.alloc (.cells #[.int .i64 (x : Nat)] 3)) w.heap.size (.slice (some ⟨w.heap.size, 0, none⟩) 1 1) [x] := by
  refine ⟨by simp [iv], .inr ⟨w.heap.size, 1, #[.int .i64 (x : Nat)], rfl, Nat.le_refl _, ?_, Nat.le_refl _, by unfold maxLen; omega, by simp, by simp [iv]⟩⟩
  exact (Two_alloc_last w _)
theorem newsD {W W' : World} {b off : Nat} {l : List Nat} (hb : b < W.heap.size) (hc : ∀ i, i < l.length → W.cell? ⟨b, off + i, none⟩ = some (.int .i64 (l.getD i 0 : Nat))) (hw : Below W.heap.size W W') :
    ∀ j u, (iv l)[j]? = some u → W'.cell? ((⟨b, off, none⟩ : Addr).add j) = some u := by
  intro j u hj
  have hjl : j < (iv l).length := (List.getElem?_eq_some_iff.1 hj).1
  rw [iv_len] at hjl
  rw [iv_get l j hjl] at hj
  rw [add_addr, (hw.cell (p := ⟨b, _, none⟩) hb).trans (hc j hjl)]
  exact hj
/-- What 'append(first, list...)' leaves, where the first row is of a new block. -/
theorem app_own {w W w3 : World} {o : Obj} {xs l : List Nat} {n : Nat} {v' : Value} (hn : xs.length = n) (hb : Below w.heap.size w W) (hown : w3.ownsRow w.heap.size 3 1 v' (n + l.length) (iv xs ++ iv l)) (hg : (W.alloc o).grownBy w3 (some W.heap.size)) :
    OwnD w3 w.heap.size v' (xs ++ l) ∧ Below w.heap.size w w3 := by
  refine ⟨?_, (hb.alloc hb.size _).grown hg (by have := hb.size; simp; omega) (fun q hq => by have := hb.size; have := Option.some.inj hq; omega)⟩
  unfold OwnD
  rw [List.length_append, iv_append, hn]
  exact hown
theorem ownD_some {w : World} {base : Nat} {v : Value} {x : Nat} {l : List Nat} (h : OwnD w base v (x :: l)) : ∃ g cap, v = .slice (some ⟨g, 0, none⟩) (l.length + 1) cap := ownsRow_succ h
theorem und88 : Tryz.prog.underlying 88 = some (.slice 3) := by kernel_rfl
theorem info3 : (Tryz.prog.info? 3).map (fun i => (i.zero, i.size, i.bytes)) = some (some (.int .i64 0), 1, 8) := by kernel_rfl
/-- A call that gives a new list of digits. -/
def GivesD (P : List Nat → Prop) (w : World) (e : Ending) (w' : World) : Prop := ∃ l v, P l ∧ e = .returned v ∧ OwnD w' w.heap.size v l ∧ Below w.heap.size w w'
/-- A call that gives a new list of digits, not nil. -/
def GivesN (P : List Nat → Prop) (w : World) (e : Ending) (w' : World) : Prop := ∃ l v, P l ∧ e = .returned v ∧ v ≠ .slice none 0 0 ∧ OwnD w' w.heap.size v l ∧ Below w.heap.size w w'
/-- A list of digits that is there, not nil. -/
def DigsN (w : World) (v : Value) (l : List Nat) : Prop :=
  l.length ≤ 1000000 ∧ ∃ b off cap, v = .slice (some ⟨b, off, none⟩) l.length cap ∧ l.length ≤ cap ∧ b < w.heap.size ∧ ∀ i, i < l.length → w.cell? ⟨b, off + i, none⟩ = some (.int .i64 (l.getD i 0 : Nat))
theorem DigsN.at {w : World} {v : Value} {l : List Nat} (h : DigsN w v l) : DigsAt w v l := ⟨h.1, .inr h.2⟩
theorem DigsN.below {w w' : World} {v : Value} {l : List Nat} (h : DigsN w v l) (hw : Below w.heap.size w w') : DigsN w' v l := by
  obtain ⟨hl, b, off, cap, hv, hcap, hb, hc⟩ := h
  exact ⟨hl, b, off, cap, hv, hcap, Nat.lt_of_lt_of_le hb hw.size, fun i hi => (hw.cell (p := ⟨b, _, none⟩) hb).trans (hc i hi)⟩
theorem OwnD.atN {w : World} {base : Nat} {v : Value} {l : List Nat} (h : OwnD w base v l) (hv : v ≠ .slice none 0 0) (hl : l.length ≤ 1000000) : DigsN w v l := by
  refine ⟨hl, ?_⟩
  have h' := h
  obtain ⟨_, ⟨hv', h0⟩ | ⟨g, cap, cur, rfl, hbase, hb, hcap, _⟩⟩ := h
  · exact absurd hv' hv
  · refine ⟨g, 0, cap, rfl, hcap, (Array.getElem?_eq_some_iff.1 hb).1, fun i hi => ?_⟩
    have := World.ownsRow.cells h' (g := g) rfl i _ (iv_get l i hi)
    rw [add_addr] at this
    exact this
theorem app_more {W w3 w4 : World} {v : Value} {l : List Nat} (hb : Below W.heap.size W w3) (ho : OwnD w3 W.heap.size v l) (hg : w3.grownBy w4 v.ownBlock) : Below W.heap.size W w4 :=
  hb.grown hg hb.size (fun q hq => (World.ownsRow.lt ho q hq).1)
theorem pow_len {m k n : Nat} (h0 : 0 < m) (h1 : m * 10 ^ k ≤ n) (h2 : n ≤ 1000000000000000000) : k ≤ 18 := by
  rcases Nat.lt_or_ge 18 k with h | h
  · have h3 : 10 ^ 19 ≤ 10 ^ k := Nat.pow_le_pow_right (by decide) h
    have h4 : 1 * 10 ^ k ≤ m * 10 ^ k := Nat.mul_le_mul_right _ h0
    have h5 : (10 : Nat) ^ 19 = 10000000000000000000 := by decide
    omega
  · exact h
set_option maxRecDepth 100000 in
set_option maxHeartbeats 4000000 in
/-- digits: the decimal digits of a number, an even number of them. -/
theorem digits_any (n : Nat) (hn : n ≤ 1000000000000000000) (w : World) : Calls Tryz.prog 98 #[.int .i64 n] w (GivesN (fun l => Dg l ∧ dval l = n ∧ l.length % 2 = 0 ∧ l.length ≤ 20) w) := by
  obtain ⟨i0, hi, hz0, hz1, hz2⟩ := info_parts info3
  have H0 := Lib.hid (emptyD w)
  have B0 : Hid (Below w.heap.size w (w.alloc (.cells #[] 3))) := Lib.hid ((Below.refl _ w).alloc (Nat.le_refl _) _)
  go_enter Tryz.func98, Tryz.ntmps98
  go_wp2_with fail
  go_loopw [0, 3] (fun s0 s3 wr => ∃ (m : Nat) (l : List Nat) (g cap : Nat), s0 = .int .i64 (m : Nat) ∧ s3 = .slice (some ⟨g, 0, none⟩) l.length cap ∧ m ≤ 1000000000000000000 ∧ l.length ≤ 20 ∧ Hid (Dg l ∧ m * 10 ^ l.length + dval l = n) ∧ Hid (OwnD wr w.heap.size (.slice (some ⟨g, 0, none⟩) l.length cap) l ∧ Below w.heap.size w wr)) (fun s0 s3 _ => 2 * (intOf s0).toNat + sliceLen s3 % 2)
  case atStart => exact ⟨n, [], w.heap.size, 0, rfl, rfl, hn, by simp, Lib.hid ⟨Dg.nil, by simp [dval]⟩, Lib.hid ⟨H0.out, B0.out⟩⟩
  case round =>
    clear H0 B0
    obtain ⟨m, l, g, cap, rfl, rfl, hm, hl, HV, HO⟩ := hrel
    obtain ⟨ho, hb⟩ := HO.out
    have step : m = 0 → l.length % 2 = 0 → Hid (Dg l ∧ dval l = n) := fun h0 _ => Lib.hid ⟨HV.out.1, by have := HV.out.2; rw [h0] at this; omega⟩
    have hgo : (0 < m ∨ l.length % 2 = 1) → l.length + 1 ≤ 20 := by
      intro h
      rcases Nat.eq_zero_or_pos m with h0 | h0
      · omega
      · have := pow_len (k := l.length) h0 (by have := HV.out.2; omega) hn
        omega
    obtain ⟨q, hq⟩ : ∃ q, m / 10 = q := ⟨_, rfl⟩
    obtain ⟨x, hx⟩ : ∃ x, m % 10 = x := ⟨_, rfl⟩
    have hx10 : x < 10 := by omega
    have e3 : (m : Int).tdiv 10 = (q : Int) := by rw [← hq]; rfl
    have e4 : (m : Int).tmod 10 = (x : Int) := by rw [← hx]; rfl
    have e1 : (m : Int) / 10 = (q : Int) := by omega
    have e2 : (m : Int) % 10 = (x : Int) := by omega
    have e5 : IntKind.i64.wrap (q : Int) = (q : Int) := IntWalk.i64_in _ (by omega)
    have e6 : IntKind.i64.wrap (x : Int) = (x : Int) := IntWalk.i64_in _ (by omega)
    have HN : Hid (Dg (x :: l) ∧ q * 10 ^ (x :: l).length + dval (x :: l) = n) := Lib.hid ⟨Dg.cons hx10 HV.out.1, by
      rw [dval_cons, List.length_cons, Nat.pow_succ, ← HV.out.2]
      have : m = q * 10 + x := by omega
      rw [this, Nat.add_mul, Nat.mul_assoc, Nat.mul_comm 10 (10 ^ l.length)]
      omega⟩
    have HO1 := Lib.hid (oneD wr x)
    have hsz := hb.size
    have hgl : g < wr.heap.size := (World.ownsRow.lt ho g rfl).2
    have HNW := Lib.hid (newsD (W' := wr.alloc (.cells #[.int .i64 (x : Nat)] 3)) (b := g) (off := 0) hgl (fun i hi => by rw [Nat.zero_add]; exact ho.cellAt i hi) ((Below.refl _ wr).alloc (Nat.le_refl _) _))
    have HB := Lib.hid hb
    by_cases hgoes : 0 < m ∨ l.length % 2 = 1
    · have hl2 := hgo hgoes
      have HM : Hid (2 * q + (l.length + 1) % 2 < 2 * m + l.length % 2) := Lib.hid (by omega)
      have hm2 : q ≤ 1000000000000000000 := by omega
      clear step hgo HV ho hb
      rcases Nat.eq_zero_or_pos m with h0 | h0
      · subst h0
        have hodd : l.length % 2 = 1 := by omega
        have o1 : (l.length : Int).tmod 2 = 1 := by have : (l.length : Int).tmod 2 = ((l.length % 2 : Nat) : Int) := rfl; rw [this, hodd]; rfl
        have o2 : (l.length : Int) % 2 = 1 := by omega
        obtain rfl : x = 0 := by omega
        obtain rfl : q = 0 := by omega
        clear hq hx hgoes hodd e1 e2 e3 e4 e5 e6
        have HOZ : Hid (OwnD (wr.alloc (.cells #[.int .i64 0] 3)) wr.heap.size (.slice (some ⟨wr.heap.size, 0, none⟩) 1 1) [0]) := Lib.hid HO1.out
        have HNZ : Hid (∀ j u, (iv l)[j]? = some u → (wr.alloc (.cells #[.int .i64 0] 3)).cell? ((⟨g, 0, none⟩ : Addr).add j) = some u) := Lib.hid HNW.out
        clear HO1 HNW
        go_wp2_with (first
          | (at_builtin; refine wpList_append_own _ rfl _ _ 88 rfl w.heap.size 3 i0 (.int .i64 0) 1 8 und88 hi hz0 hz1 hz2 rfl (by decide) (.slice (some ⟨wr.heap.size, 0, none⟩) 1 1) 1 (iv [0]) rfl (HOZ.out.low hsz) ⟨g, 0, none⟩ l.length cap (iv l) rfl (by rw [iv_len]; omega) HNZ.out (iv_one l) (by unfold maxLen; omega) (by omega) (by simp; omega) ?_; intro v' w3 hown3 hgrow3 _; obtain ⟨hod, hbd⟩ := app_own rfl HB.out hown3 hgrow3; obtain ⟨g', cap', rfl⟩ := ownD_some hod; have HOD := Lib.hid hod; have HBD := Lib.hid hbd; clear hown3 hgrow3 hod hbd))
        go_roundw
        case rel => exact ⟨0, 0 :: l, g', cap', by go_num, rfl, hm2, hl2, HN, Lib.hid ⟨HOD.out, HBD.out⟩⟩
        case measure => have := HM.out; simp [intOf, sliceLen] at this ⊢; omega
      · have o1 : 0 < (m : Int) := by omega
        clear hgoes h0 hq hx
        go_wp2_with (first
          | (at_builtin; refine wpList_append_own _ rfl _ _ 88 rfl w.heap.size 3 i0 (.int .i64 0) 1 8 und88 hi hz0 hz1 hz2 rfl (by decide) (.slice (some ⟨wr.heap.size, 0, none⟩) 1 1) 1 (iv [x]) rfl (HO1.out.low hsz) ⟨g, 0, none⟩ l.length cap (iv l) rfl (by rw [iv_len]; omega) HNW.out (iv_one l) (by unfold maxLen; omega) (by omega) (by simp; omega) ?_; intro v' w3 hown3 hgrow3 _; obtain ⟨hod, hbd⟩ := app_own rfl HB.out hown3 hgrow3; obtain ⟨g', cap', rfl⟩ := ownD_some hod; have HOD := Lib.hid hod; have HBD := Lib.hid hbd; clear hown3 hgrow3 hod hbd))
        go_roundw
        case rel => exact ⟨q, x :: l, g', cap', by go_num, rfl, hm2, hl2, HN, Lib.hid ⟨HOD.out, HBD.out⟩⟩
        case measure => have := HM.out; simp [intOf, sliceLen] at this ⊢; omega
    · have HF := step (by omega) (by omega)
      obtain rfl : m = 0 := by omega
      have hev : l.length % 2 = 0 := by omega
      have o1 : (l.length : Int).tmod 2 = 0 := by have : (l.length : Int).tmod 2 = ((l.length % 2 : Nat) : Int) := rfl; rw [this, hev]; rfl
      have o2 : (l.length : Int) % 2 = 0 := by omega
      have HEV := Lib.hid hev
      clear step hgo hgoes HV hev hq hx e1 e2 e3 e4 e5 e6 HN HO1 HNW
      go_wp2
      go_ret
      exact ⟨l, _, ⟨HF.out.1, HF.out.2, HEV.out, hl⟩, rfl, (fun e => by cases e), ho, hb⟩
end Go.Proofs.YtedpafdfecofnaaGreatDoor

/-! ## D3 -/
namespace Go.Proofs.YtedpafdfecofnaaGreatDoor
open Go.RowKit Go.Maps Go.Shelf Go.Sort
theorem ownD_shape {w : World} {base : Nat} {v : Value} {l : List Nat} (h : OwnD w base v l) (hv : v ≠ .slice none 0 0) : ∃ g cap, v = .slice (some ⟨g, 0, none⟩) l.length cap := by
  obtain ⟨_, ⟨hv', _⟩ | ⟨g, cap, cur, rfl, _⟩⟩ := h
  · exact absurd hv' hv
  · exact ⟨g, cap, rfl⟩
set_option maxRecDepth 100000 in
set_option maxHeartbeats 4000000 in
/-- pad: zeros in front, in a new list. -/
theorem pad_some (v : Value) (l : List Nat) (n : Nat) (hn : n ≤ 100000) (hl : l.length ≤ 100000) (w : World) (h : DigsAt w v l) : Calls Tryz.prog 99 #[v, .int .i64 n] w (GivesN (fun r => r = List.replicate (n - l.length) 0 ++ l) w) := by
  obtain ⟨i0, hi, hz0, hz1, hz2⟩ := info_parts info3
  have HE := Lib.hid (emptyD w)
  have HB : Hid (Below w.heap.size w (w.alloc (.cells #[] 3))) := Lib.hid ((Below.refl _ w).alloc (Nat.le_refl _) _)
  obtain ⟨a, cap0, rfl⟩ := h.shape
  go_enter Tryz.func99, Tryz.ntmps99
  go_upto_region 1 with fail
  go_cut [5] (fun s wx => ∃ g cap, s = .slice (some ⟨g, 0, none⟩) l.length cap ∧ OwnD wx w.heap.size (.slice (some ⟨g, 0, none⟩) l.length cap) l ∧ Below w.heap.size w wx)
  case first =>
    obtain ⟨_, ⟨rfl, a', cap', hv⟩ | ⟨b, off, cap', hv, hcap, hb, hc⟩⟩ := h
    · cases a with
      | none =>
        have hst : ∀ w1 : World, (storeCells ⟨w.heap.size, 0, none⟩ []).run Tryz.prog w1 = .ok () w1 := fun w1 => rfl
        go_wp2_with fail
        go_meet
        exact ⟨w.heap.size, 0, rfl, HE.out, HB.out⟩
      | some ad =>
        have hnews : Hid (∀ j u, ([] : List Value)[j]? = some u → (w.alloc (.cells #[] 3)).cell? (ad.add j) = some u) := Lib.hid (by intro j u h; simp at h)
        have hone : Hid (∀ u ∈ ([] : List Value), u.oneCell' = true) := Lib.hid (by simp)
        clear hv
        go_wp2_with (first | (at_builtin; refine wpList_append_own _ rfl _ _ 88 rfl w.heap.size 3 i0 (.int .i64 0) 1 8 und88 hi hz0 hz1 hz2 rfl (by decide) (.slice (some ⟨w.heap.size, 0, none⟩) 0 0) 0 (iv []) rfl HE.out ad 0 cap0 [] rfl rfl hnews.out hone.out (by unfold maxLen; omega) (by omega) (by simp) ?_; intro v' w3 hown3 hgrow3 hiff; have hne : v' ≠ .slice none 0 0 := (fun e => by have := (hiff.1 e).1; cases this); have ho : OwnD w3 w.heap.size v' [] := hown3; obtain ⟨g, cap3, rfl⟩ := ownD_shape ho hne; have HO := Lib.hid ho; have HB3 := Lib.hid (HB.out.grown hgrow3 (by simp) (by intro q hq; cases hq; simp)); clear hown3 hgrow3 hiff hne ho))
        go_meet
        exact ⟨g, cap3, rfl, HO.out, HB3.out⟩
    · obtain ⟨rfl, rfl⟩ : a = some ⟨b, off, none⟩ ∧ cap0 = cap' := by cases hv; exact ⟨rfl, rfl⟩
      have hnews := Lib.hid (newsD (W' := w.alloc (.cells #[] 3)) hb hc ((Below.refl _ w).alloc (Nat.le_refl _) _))
      clear hv hc
      go_wp2_with (first | (at_builtin; refine wpList_append_own _ rfl _ _ 88 rfl w.heap.size 3 i0 (.int .i64 0) 1 8 und88 hi hz0 hz1 hz2 rfl (by decide) (.slice (some ⟨w.heap.size, 0, none⟩) 0 0) 0 (iv []) rfl HE.out ⟨b, off, none⟩ l.length cap0 (iv l) rfl (by rw [iv_len]; omega) hnews.out (iv_one l) (by unfold maxLen; omega) (by omega) (by simp) ?_; intro v' w3 hown3 hgrow3 hiff; have hne : v' ≠ .slice none 0 0 := (fun e => by have := (hiff.1 e).1; cases this); have ho : OwnD w3 w.heap.size v' l := (by unfold OwnD; have := hown3; rw [Nat.zero_add] at this; exact this); obtain ⟨g, cap3, rfl⟩ := ownD_shape ho hne; have HO := Lib.hid ho; have HB3 := Lib.hid (HB.out.grown hgrow3 (by simp) (by intro q hq; cases hq; simp)); clear hown3 hgrow3 hiff hne ho))
      go_meet
      exact ⟨g, cap3, rfl, HO.out, HB3.out⟩
  case rest =>
    obtain ⟨g, cap, rfl, ho, hb⟩ := hcut
    have HI0 := Lib.hid ho
    have HB0 := Lib.hid hb
    clear ho hb h HE HB
    go_wp2_with fail
    go_loopw [5] (fun s wr => ∃ (k m g cap : Nat), s = .slice (some ⟨g, 0, none⟩) m cap ∧ m = k + l.length ∧ k ≤ n - l.length ∧ Hid (OwnD wr w.heap.size (.slice (some ⟨g, 0, none⟩) m cap) (List.replicate k 0 ++ l)) ∧ Hid (Below w.heap.size w wr)) (fun s _ => n - sliceLen s)
    case atStart => exact ⟨0, l.length, g, cap, rfl, by omega, Nat.zero_le _, HI0, HB0⟩
    case round =>
      clear HI0 HB0
      obtain ⟨k, m, g, cap, rfl, hm, hk, HO, HB⟩ := hrel
      have hrl : (List.replicate k 0 ++ l).length = m := by simp; omega
      by_cases hlt : m < n
      · have hm2 : m ≤ 100000 := by omega
        have hk2 : k + 1 ≤ n - l.length := by omega
        have HOZ : Hid (OwnD (wr.alloc (.cells #[.int .i64 0] 3)) wr.heap.size (.slice (some ⟨wr.heap.size, 0, none⟩) 1 1) [0]) := Lib.hid (oneD wr 0)
        have hsz := HB.out.size
        have hgl : g < wr.heap.size := (World.ownsRow.lt HO.out g rfl).2
        have ho2 : OwnD wr w.heap.size (.slice (some ⟨g, 0, none⟩) (List.replicate k 0 ++ l).length cap) (List.replicate k 0 ++ l) := by rw [hrl]; exact HO.out
        have HNZ : Hid (∀ j u, (iv (List.replicate k 0 ++ l))[j]? = some u → (wr.alloc (.cells #[.int .i64 0] 3)).cell? ((⟨g, 0, none⟩ : Addr).add j) = some u) := Lib.hid (newsD (b := g) (off := 0) hgl (fun i hi => by rw [Nat.zero_add]; exact ho2.cellAt i hi) ((Below.refl _ wr).alloc (Nat.le_refl _) _))
        obtain ⟨r, hr⟩ : ∃ r, List.replicate k 0 ++ l = r := ⟨_, rfl⟩
        rw [hr] at HNZ hrl
        have HR : Hid (0 :: r = List.replicate (k + 1) 0 ++ l) := Lib.hid (by rw [← hr]; rfl)
        have HM : Hid (r.length = k + l.length) := Lib.hid (by omega)
        have hlr : r.length < n := by omega
        clear ho2 hr hk
        subst hrl
        clear hm
        go_wp2_with (first | (at_builtin; refine wpList_append_own _ rfl _ _ 88 rfl w.heap.size 3 i0 (.int .i64 0) 1 8 und88 hi hz0 hz1 hz2 rfl (by decide) (.slice (some ⟨wr.heap.size, 0, none⟩) 1 1) 1 (iv [0]) rfl (HOZ.out.low hsz) ⟨g, 0, none⟩ r.length cap (iv r) rfl (by rw [iv_len]; omega) HNZ.out (iv_one r) (by unfold maxLen; omega) (by omega) (by simp; omega) ?_; intro v' w3 hown3 hgrow3 _; obtain ⟨hod, hbd⟩ := app_own rfl HB.out hown3 hgrow3; obtain ⟨g', cap', rfl⟩ := ownD_some hod; have HOD := Lib.hid hod; have HBD := Lib.hid hbd; clear hown3 hgrow3 hod hbd))
        go_roundw
        case rel => exact ⟨k + 1, r.length + 1, g', cap', rfl, by have := HM.out; omega, hk2, Lib.hid (by have := HOD.out; rw [← HR.out]; exact this), HBD⟩
        case measure => simp [sliceLen]; omega
      · have hk2 : k = n - l.length := by omega
        have HF : Hid (List.replicate k 0 ++ l = List.replicate (n - l.length) 0 ++ l) := Lib.hid (by rw [hk2])
        clear hk2 hk
        have hg1 : decide ((m : Int) < (n : Int)) = false := decide_eq_false (by omega)
        go_wp2
        go_ret
        exact ⟨_, _, HF.out, rfl, (fun e => by cases e), HO.out, HB.out⟩
theorem pad_any (v : Value) (l : List Nat) (n : Nat) (hn : n ≤ 100000) (hl : l.length ≤ 100000) (w : World) (h : DigsAt w v l) : Calls Tryz.prog 99 #[v, .int .i64 n] w (GivesD (fun r => r = List.replicate (n - l.length) 0 ++ l) w) :=
  (pad_some v l n hn hl w h).mono fun _ _ ⟨r, v', h1, h2, _, h4, h5⟩ => ⟨r, v', h1, h2, h4, h5⟩
set_option maxRecDepth 100000 in
set_option maxHeartbeats 4000000 in
/-- less: which of two lists of one length is the smaller number. -/
theorem less_dig (va vb : Value) (a b : List Nat) (hda : Dg a) (hdb : Dg b) (hl : a.length = b.length) (w : World) (ha : DigsAt w va a) (hb : DigsAt w vb b) : Calls Tryz.prog 100 #[va, vb] w (AnsB (decide (dval a < dval b)) w) := by
  have hla := ha.1
  obtain ⟨p, cp, rfl, hp⟩ := ha.reads
  obtain ⟨q, cq, rfl, hq⟩ := hb.reads
  have HP := Lib.hid hp
  have HQ := Lib.hid hq
  have HDA := Lib.hid hda
  have HDB := Lib.hid hdb
  clear ha hb hp hq hda hdb
  go_enter Tryz.func100, Tryz.ntmps100
  go_wp2_with fail
  go_loopw [5] (fun s wr => ∃ k : Nat, s = .int .i64 (k : Nat) ∧ k ≤ a.length ∧ Hid (a.take k = b.take k) ∧ Hid (Below w.heap.size w wr)) (fun s _ => a.length - (intOf s).toNat)
  case atStart => exact ⟨0, rfl, Nat.zero_le _, Lib.hid rfl, Lib.hid (Below.refl _ _)⟩
  case round =>
    obtain ⟨k, rfl, hk, HT, HW⟩ := hrel
    by_cases hlt : k < a.length
    · obtain ⟨ba, oa, rfl, hca, hba, ca⟩ := HP.out k hlt
      obtain ⟨bb, ob, rfl, hcb, hbb, cb⟩ := HQ.out k (by omega)
      obtain ⟨x, hx⟩ : ∃ x, a.getD k 0 = x := ⟨_, rfl⟩
      obtain ⟨y, hy⟩ : ∃ y, b.getD k 0 = y := ⟨_, rfl⟩
      rw [hx] at ca
      rw [hy] at cb
      replace ca := (HW.out.cell (p := ⟨ba, _, none⟩) hba).trans ca
      replace cb := (HW.out.cell (p := ⟨bb, _, none⟩) hbb).trans cb
      have hlb : (k : Int) < (b.length : Int) := by omega
      have hlb1 : (k : Int) < (a.length : Int) := by omega
      have h0 : (0 : Int) ≤ (k : Int) := by omega
      by_cases hxy : x = y
      · subst hxy
        have HT2 : Hid (a.take (k + 1) = b.take (k + 1)) := Lib.hid (by rw [take_snoc hlt, take_snoc (show k < b.length by omega), HT.out, hx, hy])
        clear hx hy HT
        go_wp2
        go_quiet (fail)
        go_wp2
        go_roundw
        case rel => exact ⟨k + 1, by go_num, by omega, HT2, Lib.hid (below_drewN HW.out _)⟩
        case measure => simp [intOf]; omega
      · have g1 : ((x : Int) != (y : Int)) = true := by simp; omega
        by_cases hlt2 : x < y
        · have HF : Hid (decide (x < y) = decide (dval a < dval b)) := Lib.hid (by rw [decide_eq_true hlt2]; exact (decide_eq_true (dval_part HDA.out HDB.out hl k hlt HT.out (by rw [hx, hy]; exact hlt2))).symm)
          have g2 : decide ((x : Int) < (y : Int)) = true := decide_eq_true (by omega)
          clear hx hy HT hxy hlt2
          go_wp2
          go_quiet (fail)
          obtain ⟨w2, hw2⟩ : ∃ W, wr.drewN nq = W := ⟨_, rfl⟩
          rw [hw2]
          replace ca : w2.cell? ⟨ba, oa + k, none⟩ = some (.int .i64 x) := by rw [← hw2]; exact ca
          replace cb : w2.cell? ⟨bb, ob + k, none⟩ = some (.int .i64 y) := by rw [← hw2]; exact cb
          have HW2 : Hid (Below w.heap.size w w2) := Lib.hid (by rw [← hw2]; exact below_drewN HW.out _)
          clear hw2 HW
          go_wp2
          go_quiet (fail)
          go_wp2
          go_ret
          exact ⟨ret_bool HF.out, below_drewN HW2.out _⟩
        · have HF : Hid (decide (x < y) = decide (dval a < dval b)) := Lib.hid (by rw [decide_eq_false hlt2]; exact (decide_eq_false (by have := dval_part HDB.out HDA.out hl.symm k (by omega) HT.out.symm (by rw [hx, hy]; omega); omega)).symm)
          have g2 : decide ((x : Int) < (y : Int)) = false := decide_eq_false (by omega)
          clear hx hy HT hxy hlt2
          go_wp2
          go_quiet (fail)
          obtain ⟨w2, hw2⟩ : ∃ W, wr.drewN nq = W := ⟨_, rfl⟩
          rw [hw2]
          replace ca : w2.cell? ⟨ba, oa + k, none⟩ = some (.int .i64 x) := by rw [← hw2]; exact ca
          replace cb : w2.cell? ⟨bb, ob + k, none⟩ = some (.int .i64 y) := by rw [← hw2]; exact cb
          have HW2 : Hid (Below w.heap.size w w2) := Lib.hid (by rw [← hw2]; exact below_drewN HW.out _)
          clear hw2 HW
          go_wp2
          go_quiet (fail)
          go_wp2
          go_ret
          exact ⟨ret_bool HF.out, below_drewN HW2.out _⟩
    · have HF : Hid (decide (dval a < dval b) = false) := Lib.hid (decide_eq_false (by have := HT.out; rw [List.take_of_length_le (by omega), List.take_of_length_le (by omega)] at this; rw [this]; omega))
      have hkl : k = a.length := by omega
      clear HT
      go_wp2
      go_ret
      exact ⟨ret_bool HF.out.symm, HW.out⟩
end Go.Proofs.YtedpafdfecofnaaGreatDoor
