import Derived.Test.YtopnlcjbklmicaaK64
import Derived.WalkKit
import Derived.WalkSpells
import Derived.WalkLawsBesides
import Derived.Deep.QuietTactic
import Derived.BigQuiet
import Derived.Lib.Hide
import Derived.WalkSmall
import Derived.Maps.OwnSet
import Derived.Maps.RangeWalk
import Derived.Deep.RegionWith
import Derived.Deep.RegionHeld3
import Derived.Deep.DrawnRows
import Derived.Deep.DeepCutAuto
import Derived.OneCell
import Derived.KernelRfl
import Derived.Laws.StructEq
import Derived.StillTailTactics
import Derived.Laws.Externs
import Derived.RangeFuncBox
import Derived.Outline
import Derived.RangeFuncNested
import Derived.RangeFuncBound
import Derived.RangeFuncCalls
import Derived.RangeFuncLeaves
import Derived.Shelf.RegionOpen
import Derived.OwnWalkIn
import Derived.TacticsInMore
import Derived.LoopNIn
import Derived.LoopIn
import Derived.Test.YtopnlcjbklmicaaProg
namespace Go.Proofs.Ytopnlcjbklmicaa
open Go.RowKit Go.Maps Go.Shelf
set_option linter.unusedVariables false
set_option linter.unusedSimpArgs false
theorem infoLoad2 : (Try.prog.info? 116).map (fun i => (i.zero, i.size, i.bytes)) = some (some (.agg #[.int .i64 0, .int .i64 0]), 2, 16) := by kernel_rfl
theorem undLoads2 : Try.prog.underlying 78 = some (.slice 116) := by kernel_rfl
theorem made_loads (n : Nat) : madeCells #[Value.int .i64 0, .int .i64 0] (n * 2) = (flatL (List.replicate n (0, 0))).toArray := by
  apply Array.ext
  · simp [madeCells, flatL_len]
  · intro i h1 h2
    have hi : i < n * 2 := by simpa [flatL_len] using h2
    have h3 : i / 2 < (List.replicate n ((0, 0) : Nat × Nat)).length := by simp; omega
    obtain ⟨a1, a2⟩ := flatL_get (List.replicate n (0, 0)) (i / 2) h3
    have hd : (List.replicate n ((0, 0) : Nat × Nat))[i / 2]?.getD (0, 0) = (0, 0) := by simp [List.getElem?_replicate, show i / 2 < n by omega]
    rw [hd] at a1 a2
    have e : (flatL (List.replicate n (0, 0)))[i]? = some (.int .i64 0) := by
      rcases Nat.mod_two_eq_zero_or_one i with e | e
      · rw [show i = i / 2 * 2 by omega]; exact a1
      · rw [show i = i / 2 * 2 + 1 by omega]; exact a2
    have e2 : (flatL (List.replicate n (0, 0))).toArray[i] = .int .i64 0 := by
      rw [List.getElem_toArray]
      have := List.getElem?_eq_some_iff.1 e
      exact this.2
    rw [e2]
    simp [madeCells]
    rcases Nat.mod_two_eq_zero_or_one i with e | e
    · simp [e]
    · simp [e]
theorem make_loads (n : Nat) (w : World) (hn : n ≤ 1000000) : (Instr.makeSlice 78 (.int .i64 n) (.int .i64 n)).run Try.prog w = .ok (.slice (some ⟨w.heap.size, 0, none⟩) n n) (w.alloc (.cells (flatL (List.replicate n (0, 0))).toArray 116)) := by
  obtain ⟨i0, hi, hz0, hz1, hz2⟩ := info_parts infoLoad2
  have h := run_makeSlice (P := Try.prog) (w := w) 78 116 i0 _ undLoads2 hi hz0 .i64 .i64 (n : Int) (n : Int) (by omega) (Int.le_refl _) (by rw [hz1]; simp; omega) (by rw [hz2]; omega) (by omega)
  rw [hz1] at h
  rw [show (Value.agg #[.int .i64 0, .int .i64 0]).cells = #[Value.int .i64 0, .int .i64 0] from rfl] at h
  simpa [made_loads] using h
/-- Loads of which the first ones are 0 / 1 already. -/
def zl (j N : Nat) : List (Nat × Nat) := List.replicate j (0, 1) ++ List.replicate (N - j) (0, 0)
theorem zl_len {j N : Nat} (h : j ≤ N) : (zl j N).length = N := by simp [zl]; omega
theorem zl_zero (N : Nat) : zl 0 N = List.replicate N (0, 0) := by simp [zl]
theorem zl_all (N : Nat) : zl N N = List.replicate N (0, 1) := by simp [zl]
theorem zl_set {j N : Nat} (h : j < N) : (zl j N).set j (0, 1) = zl (j + 1) N := by
  unfold zl
  rw [List.set_append_right _ _ (by simp), List.replicate_succ', List.append_assoc]
  congr 1
  rw [show N - j = (N - (j + 1)) + 1 by omega, List.replicate_succ]
  simp
/-- The rows of the other tiers: each in a block below Bo. -/
def RowsY (W : World) (base gb k Bo : Nat) (rows : List (List (Nat × Nat))) : Prop :=
  ∃ vals : List Value, vals.length = rows.length ∧ Blk W gb vals.toArray 78 ∧ ∀ i, i < rows.length → i ≠ k → W.ownsRow base 116 2 (vals[i]?.getD undef) (rows[i]?.getD []).length (flatL (rows[i]?.getD [])) ∧ ∀ j, (vals[i]?.getD undef).ownBlock = some j → j < Bo
/-- The rows, with the one of the tier k under way in a block from e on. -/
def RowsX (W : World) (base gb k Bo e : Nat) (rows : List (List (Nat × Nat))) (ls : List (Nat × Nat)) : Prop :=
  ∃ vals : List Value, vals.length = rows.length ∧ Blk W gb vals.toArray 78 ∧ (∀ i, i < rows.length → i ≠ k → W.ownsRow base 116 2 (vals[i]?.getD undef) (rows[i]?.getD []).length (flatL (rows[i]?.getD [])) ∧ ∀ j, (vals[i]?.getD undef).ownBlock = some j → j < Bo) ∧
    W.ownsRow e 116 2 (vals[k]?.getD undef) ls.length (flatL ls)
theorem ownRow_lt {W : World} {base k : Nat} {v : Value} {xs : List Value} {T : TypeId} {s : Nat} (h : W.ownsRow base T s v k xs) (j : Nat) (hj : v.ownBlock = some j) : base ≤ j ∧ j < W.heap.size ∧ ∃ vs f, W.heap[j]? = some (.cells vs T f) := by
  rcases h.2 with ⟨rfl, _⟩ | ⟨g, cap, cur, rfl, hb, hg, _⟩
  · simp [Value.ownBlock] at hj
  · obtain rfl : g = j := by simpa [Value.ownBlock] using hj
    exact ⟨hb, (Array.getElem?_eq_some_iff.1 hg).1, _, _, hg⟩
theorem grown_of_below {w w' : World} (hb : Below w.heap.size w w') : w.grownBy w' none := ⟨hb.os, hb.tape, hb.output, hb.size, fun j hj _ => hb.block j hj⟩
theorem own_past {W W' : World} {base k : Nat} {v : Value} {xs : List Value} {T : TypeId} {s : Nat} (h : W.ownsRow base T s v k xs) (hb : Below W.heap.size W W') : W'.ownsRow base T s v k xs :=
  h.kept (grown_of_below hb) (by cases hv : v.ownBlock <;> simp)
theorem own_kept {W W' : World} {base k : Nat} {v : Value} {xs : List Value} {T : TypeId} {s : Nat} {row : Option Nat} (h : W.ownsRow base T s v k xs) (hg : W.grownBy W' row) (hr : ∀ j, v.ownBlock = some j → row ≠ some j) : W'.ownsRow base T s v k xs :=
  h.kept hg (by
    cases hv : v.ownBlock with
    | none => exact .inl rfl
    | some j => exact .inr fun e => hr j hv e.symm)
theorem RowsAt.toY {W : World} {base gb : Nat} {rows : List (List (Nat × Nat))} (h : RowsAt W base gb rows) (k : Nat) : RowsY W base gb k W.heap.size rows := by
  obtain ⟨vals, h1, h2, h3⟩ := h
  exact ⟨vals, h1, h2, fun i hi _ => ⟨h3 i hi, fun j hj => (ownRow_lt (h3 i hi) j hj).2.1⟩⟩
theorem RowsY.past {W W' : World} {base gb k Bo : Nat} {rows : List (List (Nat × Nat))} (h : RowsY W base gb k Bo rows) (hb : Below W.heap.size W W') : RowsY W' base gb k Bo rows := by
  obtain ⟨vals, h1, h2, h3⟩ := h
  exact ⟨vals, h1, h2.past hb, fun i hi hk => ⟨own_past (h3 i hi hk).1 hb, (h3 i hi hk).2⟩⟩
theorem RowsY.far {W : World} {base gb k Bo x i : Nat} {u : Value} {rows : List (List (Nat × Nat))} (h : RowsY W base gb k Bo rows) (hx : Bo ≤ x) (hg : gb ≠ x) : RowsY (W.setCell ⟨x, i, none⟩ u) base gb k Bo rows := by
  obtain ⟨vals, h1, h2, h3⟩ := h
  exact ⟨vals, h1, h2.far hg, fun j hj hk => ⟨own_kept (h3 j hj hk).1 (grownBy_setCell W ⟨x, i, none⟩ u) (fun y hy e => by have := (h3 j hj hk).2 y hy; have := Option.some.inj e; dsimp only at this; omega), (h3 j hj hk).2⟩⟩
theorem RowsX.past {W W' : World} {base gb k Bo e : Nat} {rows : List (List (Nat × Nat))} {ls : List (Nat × Nat)} (h : RowsX W base gb k Bo e rows ls) (hb : Below W.heap.size W W') : RowsX W' base gb k Bo e rows ls := by
  obtain ⟨vals, h1, h2, h3, h4⟩ := h
  exact ⟨vals, h1, h2.past hb, fun i hi hk => ⟨own_past (h3 i hi hk).1 hb, (h3 i hi hk).2⟩, own_past h4 hb⟩
theorem RowsX.far {W : World} {base gb k Bo e x i : Nat} {u : Value} {rows : List (List (Nat × Nat))} {ls : List (Nat × Nat)} (h : RowsX W base gb k Bo e rows ls) (hx : Bo ≤ x) (hxe : x < e) (hg : gb ≠ x) : RowsX (W.setCell ⟨x, i, none⟩ u) base gb k Bo e rows ls := by
  obtain ⟨vals, h1, h2, h3, h4⟩ := h
  exact ⟨vals, h1, h2.far hg, fun j hj hk => ⟨own_kept (h3 j hj hk).1 (grownBy_setCell W ⟨x, i, none⟩ u) (fun y hy e => by have := (h3 j hj hk).2 y hy; have := Option.some.inj e; dsimp only at this; omega), (h3 j hj hk).2⟩,
    own_kept h4 (grownBy_setCell W ⟨x, i, none⟩ u) (fun y hy e => by have := (ownRow_lt h4 y hy).1; have := Option.some.inj e; dsimp only at this; omega)⟩
/-- A row is begun. -/
theorem RowsY.start {W : World} {base gb k Bo e : Nat} {rows : List (List (Nat × Nat))} (h : RowsY W base gb k Bo rows) (hk : k < rows.length) (he : W.heap.size = e) (hb : Bo ≤ gb → False) (hbe : Bo ≤ e) :
    RowsX ((W.alloc (.cells #[] 116)).setCell ⟨gb, k, none⟩ (.slice (some ⟨e, 0, none⟩) 0 0)) base gb k Bo e rows [] := by
  obtain ⟨vals, h1, h2, h3⟩ := h
  have hlt := h2.lt
  have hB := (Below.refl _ W).alloc (Nat.le_refl _) (.cells #[] 116)
  have h5 := (h2.past hB).set k (by simp; omega) (.slice (some ⟨e, 0, none⟩) 0 0) rfl
  have hgs := grownBy_setCell (W.alloc (.cells #[] 116)) ⟨gb, k, none⟩ (.slice (some ⟨e, 0, none⟩) 0 0)
  refine ⟨vals.set k (.slice (some ⟨e, 0, none⟩) 0 0), by simp [h1], by simpa using h5, fun i hi hik => ?_, ?_⟩
  · rw [List.getElem?_set_ne (Ne.symm hik)]
    refine ⟨own_kept (own_past (h3 i hi hik).1 hB) hgs (fun y hy e' => ?_), (h3 i hi hik).2⟩
    obtain ⟨_, _, vs, f, hy2⟩ := ownRow_lt (h3 i hi hik).1 y hy
    have e2 := Option.some.inj e'
    dsimp only at e2
    subst e2
    rw [show W.heap[gb]? = _ from h2] at hy2
    injection hy2 with hy2
    injection hy2 with _ hy2
    exact absurd hy2 (by decide)
  · rw [List.getElem?_set_self (by omega)]
    have h6 : (W.alloc (.cells #[] 116)).ownsRow e 116 2 (.slice (some ⟨e, 0, none⟩) 0 0) 0 [] := by
      subst he
      exact World.ownsRow_lit (base := W.heap.size) (e := 116) (size := 2) W #[] 0 (Nat.le_refl _) (by simp) (by simp)
    refine own_kept h6 hgs (fun y hy e' => ?_)
    have e2 := Option.some.inj e'
    simp [Value.ownBlock] at hy
    dsimp only at e2
    omega
/-- A row is done. -/
theorem RowsX.done {W : World} {base gb k Bo e : Nat} {rows : List (List (Nat × Nat))} {ls : List (Nat × Nat)} (h : RowsX W base gb k Bo e rows ls) (hk : k < rows.length) (he : base ≤ e) : RowsAt W base gb (rows.set k ls) := by
  obtain ⟨vals, h1, h2, h3, h4⟩ := h
  refine ⟨vals, by simp [h1], h2, fun i hi => ?_⟩
  by_cases hik : i = k
  · subst hik
    rw [List.getElem?_set_self hk]
    exact ownsRow_base he h4
  · rw [List.getElem?_set_ne (Ne.symm hik)]
    exact (h3 i (by simpa using hi) hik).1
theorem RowsX.slot {W : World} {base gb k Bo e : Nat} {rows : List (List (Nat × Nat))} {ls : List (Nat × Nat)} (h : RowsX W base gb k Bo e rows ls) (hk : k < rows.length) : ∃ vk, W.cell? ⟨gb, k, none⟩ = some vk ∧ W.ownsRow e 116 2 vk ls.length (flatL ls) ∧ W.frozen? ⟨gb, k, none⟩ = false := by
  obtain ⟨vals, h1, h2, h3, h4⟩ := h
  exact ⟨_, h2.cell (by simp [show k < vals.length by omega]), h4, h2.fr⟩
/-- The row grows: what the append leaves, and the store behind it. -/
theorem RowsX.grow {W W' : World} {base gb k Bo e : Nat} {rows : List (List (Nat × Nat))} {ls ls' : List (Nat × Nat)} {vk v' : Value} (h : RowsX W base gb k Bo e rows ls) (hk : k < rows.length) (hc : W.cell? ⟨gb, k, none⟩ = some vk) (hbe : Bo ≤ e) (hown : W'.ownsRow e 116 2 v' ls'.length (flatL ls')) (hg : W.grownBy W' vk.ownBlock) :
    RowsX (W'.setCell ⟨gb, k, none⟩ v') base gb k Bo e rows ls' := by
  obtain ⟨vals, h1, h2, h3, h4⟩ := h
  have hvk : vals[k]?.getD undef = vk := by
    have h5 := h2.cell (i := k) (v := vals[k]?.getD undef) (by simp [show k < vals.length by omega])
    rw [h5] at hc; exact Option.some.inj hc
  rw [hvk] at h4
  have hgb : some gb ≠ vk.ownBlock := fun e' => by
    obtain ⟨_, _, vs, f, hy2⟩ := ownRow_lt h4 gb e'.symm
    rw [show W.heap[gb]? = _ from h2] at hy2
    injection hy2 with hy2
    injection hy2 with _ hy2
    exact absurd hy2 (by decide)
  have h2' := h2.kept hg hgb
  have hc1 : v'.cells = #[v'] := by obtain ⟨p, c, rfl⟩ := own_shape2 hown; rfl
  have h5 := h2'.set k (by simp; omega) v' hc1
  have hgs := grownBy_setCell W' ⟨gb, k, none⟩ v'
  have hne : ∀ {b0 n : Nat} {u : Value} {xs : List Value}, W'.ownsRow b0 116 2 u n xs → (W'.setCell ⟨gb, k, none⟩ v').ownsRow b0 116 2 u n xs := fun {b0 n u xs} hu => own_kept hu hgs (fun y hy e' => by
    obtain ⟨_, _, vs, f, hy2⟩ := ownRow_lt hu y hy
    have e2 := Option.some.inj e'
    dsimp only at e2
    subst e2
    rw [show W'.heap[gb]? = _ from h2'] at hy2
    injection hy2 with hy2
    injection hy2 with _ hy2
    exact absurd hy2 (by decide))
  refine ⟨vals.set k v', by simp [h1], by simpa using h5, fun i hi hik => ?_, ?_⟩
  · rw [List.getElem?_set_ne (Ne.symm hik)]
    refine ⟨hne (own_kept (h3 i hi hik).1 hg (fun y hy e' => ?_)), (h3 i hi hik).2⟩
    have := (h3 i hi hik).2 y hy
    have := (ownRow_lt h4 y e').1
    omega
  · rw [List.getElem?_set_self (by omega)]
    exact hne hown
/-- One load more in a row, in a region. -/
theorem wp_appL {o : Oper} {a : Act} {W : World} {K : Act → World → Prop} {Q : Exit → Act → World → Prop} (s x : Operand)
    (ho : o.op = .call { callee := .builtin .append, args := #[s, x], argTypes := #[78, 78] }) (base : Nat) (v : Value) (ls : List (Nat × Nat)) (hs : a.eval s = v) (hown : W.ownsRow base 116 2 v ls.length (flatL ls))
    (bx n d : Nat) (hx : a.eval x = .slice (some ⟨bx, 0, none⟩) 1 1) (hbx : Blk W bx #[.int .i64 n, .int .i64 d] 116) (hl : ls.length ≤ 1000) (hbase : base ≤ W.heap.size)
    (h : ∀ v' W', W'.ownsRow base 116 2 v' (ls ++ [(n, d)]).length (flatL (ls ++ [(n, d)])) → W.grownBy W' v.ownBlock → K (a.put o.dst v') W') : o.wp Try.prog a W K Q := by
  obtain ⟨i0, hi, hz0, hz1, hz2⟩ := info_parts infoLoad2
  obtain ⟨v', w', hr, g2, g3, g4, g5⟩ := run_append_own_at (P := Try.prog) W base 78 o.type 116 i0 (.agg #[.int .i64 0, .int .i64 0]) 2 16 undLoads2 hi hz0 hz1 hz2 rfl (by decide) v ls.length (flatL ls) hown ⟨bx, 0, none⟩ 1 1 [.int .i64 n, .int .i64 d] rfl
    (fun j u hj => by
      rw [addr_addT]
      match j, hj with
      | 0, hj => exact hbx.cell (i := 0) (by simpa using hj)
      | 1, hj => exact hbx.cell (i := 1) (by simpa using hj)
      | j + 2, hj => simp at hj)
    (fun u hu => by
      simp at hu
      rcases hu with rfl | rfl <;> rfl) (by unfold maxLen; omega) (by omega) hbase
  unfold Oper.wp execOp
  simp only [ho, resolve, invoke, builtin, Sem.run_bind, Sem.run_pure, Result.andThen_ok, List.map_toArray, List.map_cons, List.map_nil, hs, hx, hr]
  refine h v' w' ?_ g3
  rw [flatL_snoc, List.length_append]
  exact g2
end Go.Proofs.Ytopnlcjbklmicaa
