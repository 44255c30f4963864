/-
  Contracts of the program's own functions (and their plain mathematics), on the way to the law: each for all arguments that its hypotheses let.
-/
import Derived.Test.YtkjclafbpocabaaGreatDoorH6
import Derived.WalkKit
import Derived.WalkSpells
import Derived.WalkLawsBesides
import Derived.Deep.QuietTactic
import Derived.BigQuiet
import Derived.Lib.Hide
import Derived.WalkSmall
import Derived.Maps.OwnSet
import Derived.Maps.RangeWalk
import Derived.Deep.RegionWith
import Derived.Deep.RegionHeld3
import Derived.Deep.DrawnRows
import Derived.Deep.DeepCutAuto
import Derived.OneCell
import Derived.KernelRfl
import Derived.Laws.StructEq
import Derived.StillTailTactics
import Derived.Laws.Externs
import Derived.RangeFuncBox
import Derived.Test.YtkjclafbpocabaaGreatDoorPlain
import Derived.Test.YtkjclafbpocabaaGreatDoorH4
import Derived.Deep.RegionLaw
set_option linter.unusedSimpArgs false
set_option linter.unusedVariables false

/-! ## ZC9 -/
namespace Go.Proofs.YtkjclafbpocabaaGreatDoor
open Go.RowKit Go.Maps Go.Shelf Go.Sort
/-- A row of pieces that a call made: the cells of its pieces, the slices of marks told. -/
def flatP (l : PiecesL) (ms : List Value) : List Value := (l.zip ms).flatMap fun x => [.bool x.1.1, x.2]
theorem flatP_nil (ms : List Value) : flatP [] ms = [] := rfl
theorem flatP_snoc (l : PiecesL) (ms : List Value) (p : Bool × List Int) (m : Value) (h : ms.length = l.length) : flatP (l ++ [p]) (ms ++ [m]) = flatP l ms ++ [.bool p.1, m] := by
  unfold flatP
  rw [List.zip_append h.symm, List.flatMap_append]; simp
theorem flatP_len : ∀ (l : PiecesL) (ms : List Value), ms.length = l.length → (flatP l ms).length = l.length * 2
  | [], ms, _ => by simp [flatP]
  | p :: l, [], h => by simp at h
  | p :: l, m :: ms, h => by
    have := flatP_len l ms (by simpa using h)
    have e : flatP (p :: l) (m :: ms) = .bool p.1 :: m :: flatP l ms := rfl
    rw [e]; simp only [List.length_cons, this]; omega
theorem flatP_get : ∀ (l : PiecesL) (ms : List Value) (i : Nat), ms.length = l.length → i < l.length → (flatP l ms)[i * 2]? = some (.bool (l[i]?.getD (false, [])).1) ∧ (flatP l ms)[i * 2 + 1]? = some (ms[i]?.getD undef)
  | [], ms, i, _, h => by simp at h
  | p :: l, [], i, h, _ => by simp at h
  | p :: l, m :: ms, 0, h, _ => by simp [flatP]
  | p :: l, m :: ms, i + 1, h, hi => by
    have := flatP_get l ms i (by simpa using h) (by simpa using hi)
    have e : flatP (p :: l) (m :: ms) = .bool p.1 :: m :: flatP l ms := rfl
    rw [e, show (i + 1) * 2 = i * 2 + 1 + 1 by omega]
    simpa using this
def RowP (w : World) (base : Nat) (v : Value) (l : PiecesL) (ms : List Value) : Prop := ms.length = l.length ∧ w.ownsRow base 87 2 v l.length (flatP l ms)
def MarksIn (w : World) (l : PiecesL) (ms : List Value) (P : Nat → Prop) : Prop := ∀ i, i < l.length → MarksAtz w (ms[i]?.getD undef) (l[i]?.getD (false, [])).2 ∧ ∀ k, (ms[i]?.getD undef).ownBlock = some k → P k
theorem MarksAtz.kept {w w' : World} {v : Value} {l : List Int} {row : Option Nat} (h : MarksAtz w v l) (hg : w.grownBy w' row) (hne : v.ownBlock = none ∨ v.ownBlock ≠ row) : MarksAtz w' v l := by
  obtain ⟨hl, h | ⟨b, off, cap, rfl, hcap, hb, hc⟩⟩ := h
  · exact ⟨hl, .inl h⟩
  · have hbr : some b ≠ row := by
      rcases hne with h | h
      · cases h
      · exact h
    exact ⟨hl, .inr ⟨b, off, cap, rfl, hcap, Nat.lt_of_lt_of_le hb hg.size, fun i hi => hg.cell (hc i hi) hbr⟩⟩
theorem MarksIn.kept {w w' : World} {l : PiecesL} {ms : List Value} {P : Nat → Prop} {row : Option Nat} (h : MarksIn w l ms P) (hg : w.grownBy w' row) (hne : ∀ k, P k → some k ≠ row) : MarksIn w' l ms P := fun i hi =>
  ⟨(h i hi).1.kept hg (by
    cases hv : (ms[i]?.getD undef).ownBlock with
    | none => exact .inl rfl
    | some k => exact .inr (hne k ((h i hi).2 k hv))), (h i hi).2⟩
theorem MarksIn.mono {w : World} {l : PiecesL} {ms : List Value} {P Q : Nat → Prop} (h : MarksIn w l ms P) (hpq : ∀ k, P k → Q k) : MarksIn w l ms Q := fun i hi => ⟨(h i hi).1, fun k hk => hpq k ((h i hi).2 k hk)⟩
theorem MarksIn.snoc {w : World} {l : PiecesL} {ms : List Value} {P : Nat → Prop} (h : MarksIn w l ms P) (hl : ms.length = l.length) {p : Bool × List Int} {m : Value} (hm : MarksAtz w m p.2) (hk : ∀ k, m.ownBlock = some k → P k) : MarksIn w (l ++ [p]) (ms ++ [m]) P := fun i hi => by
  by_cases h1 : i < l.length
  · have e1 : (ms ++ [m])[i]? = ms[i]? := List.getElem?_append_left (by omega)
    have e2 : (l ++ [p])[i]? = l[i]? := List.getElem?_append_left h1
    rw [e1, e2]; exact h i h1
  · have h2 : i = l.length := by simp at hi; omega
    subst h2
    have e1 : (ms ++ [m])[l.length]? = some m := by rw [← hl]; simp
    rw [e1]
    simp only [List.getElem?_concat_length, Option.getD_some]
    exact ⟨hm, hk⟩
theorem RowP.kept {w w' : World} {base : Nat} {v : Value} {l : PiecesL} {ms : List Value} {row : Option Nat} (h : RowP w base v l ms) (hg : w.grownBy w' row) (hne : v.ownBlock = none ∨ v.ownBlock ≠ row) : RowP w' base v l ms := ⟨h.1, World.ownsRow.kept h.2 hg hne⟩
theorem RowP.lt {w : World} {base : Nat} {v : Value} {l : PiecesL} {ms : List Value} (h : RowP w base v l ms) : ∀ k, v.ownBlock = some k → base ≤ k ∧ k < w.heap.size := by
  intro k hk
  obtain ⟨_, _, ⟨hv, h0⟩ | ⟨g, cap, cur, rfl, hbase, hb, hcap, _⟩⟩ := h
  · rw [hv] at hk; cases hk
  · cases hk; exact ⟨hbase, (Array.getElem?_eq_some_iff.1 hb).1⟩
theorem RowP.low {w : World} {base base' : Nat} {v : Value} {l : PiecesL} {ms : List Value} (h : RowP w base v l ms) (hb : base' ≤ base) : RowP w base' v l ms := by
  obtain ⟨h0, h1, h2 | ⟨g, cap, cur, h3, h4, h5⟩⟩ := h
  · exact ⟨h0, h1, .inl h2⟩
  · exact ⟨h0, h1, .inr ⟨g, cap, cur, h3, Nat.le_trans hb h4, h5⟩⟩
theorem rowP_nil (w : World) (base : Nat) : RowP w base (.slice none 0 0) [] [] := ⟨rfl, by simp [flatP], .inl ⟨rfl, rfl⟩⟩
theorem RowP.at {w : World} {base : Nat} {v : Value} {l : PiecesL} {ms : List Value} {P : Nat → Prop} (h : RowP w base v l ms) (hm : MarksIn w l ms P) (hl : l.length ≤ 8796093022208) : PiecesAtz w v l := by
  refine ⟨hl, ?_⟩
  have h' := h
  obtain ⟨hms, _, ⟨hv, h0⟩ | ⟨g, cap, cur, rfl, hbase, hb, hcap, _⟩⟩ := h
  · exact .inl ⟨List.length_eq_zero_iff.1 h0, none, 0, hv⟩
  · refine .inr ⟨g, 0, cap, rfl, hcap, (Array.getElem?_eq_some_iff.1 hb).1, fun i hi => ?_⟩
    obtain ⟨f1, f2⟩ := flatP_get l ms i hms hi
    have c1 := World.ownsRow.cells h'.2 (g := g) rfl _ _ f1
    have c2 := World.ownsRow.cells h'.2 (g := g) rfl _ _ f2
    rw [addr_at] at c1 c2
    exact ⟨c1, _, c2, (hm i hi).1⟩
theorem undPieces : Tryz.prog.underlying 22 = some (.slice 87) := by kernel_rfl
theorem infoPiece : (Tryz.prog.info? 87).map (fun i => (i.zero, i.size, i.bytes)) = some (some (.agg #[.bool false, .slice none 0 0]), 2, 32) := by kernel_rfl
theorem wpList_appP {ops : Array Oper} {rest : List Oper} {o : Oper} {a : Act} {w : World} {Q : Exit → Act → World → Prop} (hgd : o.guard = none) (s x : Operand)
    (ho : o.op = .call { callee := .builtin .append, args := #[s, x], argTypes := #[22, 22] }) (base : Nat) (v : Value) (l : PiecesL) (ms : List Value) (hs : a.eval s = v) (hown : RowP w base v l ms)
    (bk : Nat) (c : Nat) (b : Bool) (m : Value) (hx : a.eval x = .slice (some ⟨bk, 0, none⟩) 1 c) (hn0 : w.cell? ⟨bk, 0, none⟩ = some (.bool b)) (hn1 : w.cell? ⟨bk, 1, none⟩ = some m) (hm1 : m.oneCell' = true) (hl : l.length ≤ 1000000) (hbase : base ≤ w.heap.size)
    (h : ∀ v' w', (∀ q, RowP w' base v' (l ++ [(b, q)]) (ms ++ [m])) → w.grownBy w' v.ownBlock → (v'.ownBlock = v.ownBlock ∨ v'.ownBlock = some w.heap.size) → (∃ a cap, v' = .slice a (l.length + 1) cap) → wpList Tryz.prog ops Q rest (a.put o.dst v') w') : wpList Tryz.prog ops Q (o :: rest) a w := by
  obtain ⟨i0, hi, hz0, hz1, hz2⟩ := info_parts infoPiece
  refine wpList_append_own_at w hgd s x 22 ho base 87 i0 (.agg #[.bool false, .slice none 0 0]) 2 32 undPieces hi hz0 hz1 hz2 rfl (by decide) v l.length (flatP l ms) hs hown.2 ⟨bk, 0, none⟩ 1 c [.bool b, m] hx rfl ?_ ?_ (by unfold maxLen; omega) (by omega) hbase ?_
  · intro j u hj
    rw [addr_at]
    match j, hj with
    | 0, hj => simp at hj; subst hj; exact hn0
    | 1, hj => simp at hj; subst hj; exact hn1
    | j + 2, hj => simp at hj
  · intro u hu
    simp at hu
    rcases hu with rfl | rfl
    · rfl
    · exact hm1
  · intro v' w' ho hg _ hb
    have hrow : ∀ q, RowP w' base v' (l ++ [(b, q)]) (ms ++ [m]) := fun q => ⟨by simp [hown.1], by rw [flatP_snoc l ms (b, q) m hown.1]; simpa using ho⟩
    refine h v' w' hrow hg hb ?_
    obtain ⟨_, _, ⟨hv, h0⟩ | ⟨g, cap, cur, hv, _⟩⟩ := hrow []
    · simp at h0
    · exact ⟨_, cap, by simpa using hv⟩
/-- Pieces are read from some bytes on. -/
theorem MarksRd.len {L R : List UInt8} {ns : List Int} (h : MarksRd L ns R) : R.length ≤ L.length := by
  induction h with
  | stop _ => exact Nat.le_refl _
  | more h _ ih => have := nextF_len h; omega
theorem PieceRd.len {L R : List UInt8} {p : Bool × List Int} (h : PieceRd L p R) : R.length < L.length := by
  cases h with
  | plus h t => have h1 := nextF_len h; have h2 := t.len; simp [frontB] at h1; omega
  | minus _ h t => have h1 := nextF_len h; have h2 := t.len; simp [frontB] at h1; omega
end Go.Proofs.YtkjclafbpocabaaGreatDoor

/-! ## ZC12 -/
namespace Go.Proofs.YtkjclafbpocabaaGreatDoor
open Go.RowKit Go.Maps Go.Shelf Go.Sort
theorem flatP_set : ∀ (l : PiecesL) (ms : List Value) (k : Nat) (u : Value), ms.length = l.length → flatP l (ms.set k u) = (flatP l ms).set (k * 2 + 1) u
  | [], ms, k, u, _ => by simp [flatP]
  | p :: l, [], k, u, h => by simp at h
  | p :: l, m :: ms, 0, u, h => by simp [flatP]
  | p :: l, m :: ms, k + 1, u, h => by
    have := flatP_set l ms k u (by simpa using h)
    have e : ∀ (m : Value) ms, flatP (p :: l) (m :: ms) = .bool p.1 :: m :: flatP l ms := fun _ _ => rfl
    rw [List.set_cons_succ, e, e, this, show (k + 1) * 2 + 1 = (k * 2 + 1) + 1 + 1 by omega]
    simp
theorem flatP_at (l : PiecesL) (ms : List Value) (j : Nat) (u : Value) (h : ms.length = l.length) (hj : (flatP l ms)[j]? = some u) : j / 2 < l.length ∧ ((j = j / 2 * 2 ∧ u = .bool (l[j / 2]?.getD (false, [])).1) ∨ (j = j / 2 * 2 + 1 ∧ u = ms[j / 2]?.getD undef)) := by
  have hjl : j < (flatP l ms).length := (List.getElem?_eq_some_iff.1 hj).1
  rw [flatP_len l ms h] at hjl
  have hi : j / 2 < l.length := by omega
  obtain ⟨g1, g2⟩ := flatP_get l ms (j / 2) h hi
  refine ⟨hi, ?_⟩
  rcases Nat.mod_two_eq_zero_or_one j with h2 | h2
  · have e : j = j / 2 * 2 := by omega
    rw [← e, hj] at g1
    exact .inl ⟨e, Option.some.inj g1⟩
  · have e : j = j / 2 * 2 + 1 := by omega
    rw [← e, hj] at g2
    exact .inr ⟨e, Option.some.inj g2⟩
/-- The slices of marks that lie in a row of pieces. -/
theorem PiecesAtz.raw {w : World} {v : Value} {l : PiecesL} (h : PiecesAtz w v l) : ∃ ms : List Value, ms.length = l.length ∧ MarksIn w l ms (fun _ => True) ∧ ((l = [] ∧ ∃ a cap, v = .slice a 0 cap) ∨ ∃ b off cap, v = .slice (some ⟨b, off, none⟩) l.length cap ∧ b < w.heap.size ∧ ∀ j u, (flatP l ms)[j]? = some u → w.cell? ⟨b, off + j, none⟩ = some u) := by
  obtain ⟨hl, ⟨rfl, h⟩ | ⟨b, off, cap, hv, hcap, hb, hc⟩⟩ := h
  · exact ⟨[], rfl, fun i hi => by simp at hi, .inl ⟨rfl, h⟩⟩
  · have hlen : ((List.range l.length).map (fun i => (w.cell? ⟨b, off + i * 2 + 1, none⟩).getD undef)).length = l.length := by simp
    have hget : ∀ i, i < l.length → ((List.range l.length).map (fun i => (w.cell? ⟨b, off + i * 2 + 1, none⟩).getD undef))[i]?.getD undef = (w.cell? ⟨b, off + i * 2 + 1, none⟩).getD undef := fun i hi => by simp [hi]
    refine ⟨(List.range l.length).map (fun i => (w.cell? ⟨b, off + i * 2 + 1, none⟩).getD undef), hlen, fun i hi => ?_, .inr ⟨b, off, cap, hv, hb, fun j u hj => ?_⟩⟩
    · rw [hget i hi]
      obtain ⟨vm, h1, h2⟩ := (hc i hi).2
      rw [h1]
      exact ⟨h2, fun _ _ => trivial⟩
    · obtain ⟨hi, ⟨e, rfl⟩ | ⟨e, rfl⟩⟩ := flatP_at l _ j u hlen hj
      · rw [show off + j = off + j / 2 * 2 by omega]; exact (hc _ hi).1
      · rw [hget _ hi]
        obtain ⟨vm, h1, _⟩ := (hc _ hi).2
        rw [show off + j = off + j / 2 * 2 + 1 by omega, h1]; rfl
theorem marks_one {w : World} {v : Value} {l : List Int} (h : MarksAtz w v l) : v.oneCell' = true := by
  obtain ⟨a, cap, rfl, _⟩ := h.placed; rfl
theorem marks_lt {w : World} {v : Value} {l : List Int} (h : MarksAtz w v l) (hl : l ≠ []) : ∀ q, v.ownBlock = some q → q < w.heap.size := by
  obtain ⟨_, ⟨h, _⟩ | ⟨b, off, cap, rfl, hcap, hb, hc⟩⟩ := h
  · exact absurd h hl
  · intro q hq; cases hq; exact hb
/-- A call that gives a copy of a row of pieces, the marks where they were. -/
def NewP (B : Nat) (l : PiecesL) (w : World) (e : Ending) (w' : World) : Prop := ∃ v ms, e = .returned v ∧ RowP w' w.heap.size v l ms ∧ MarksIn w' l ms (fun k => k < B) ∧ Below w.heap.size w w'
set_option maxHeartbeats 2000000 in
theorem cloneP_some (B : Nat) (ad : Addr) (cap : Nat) (l : PiecesL) (ms : List Value) (w : World) (hB : B ≤ w.heap.size) (hl : l.length ≤ 100000) (hms : ms.length = l.length) (hm : MarksIn w l ms (fun k => k < B)) (hn : Hid (∀ j u, (flatP l ms)[j]? = some u → (w.alloc (.cells #[] 87)).cell? (ad.add j) = some u)) :
    Calls Tryz.prog 138 #[.slice (some ad) l.length cap] w (NewP B l w) := by
  obtain ⟨i0, hi, hz0, hz1, hz2⟩ := info_parts infoPiece
  have q22 : ∀ (w : World) (a : Option Addr) (n c n' c' : Nat), (binOp .eql 22 (.slice a n c) (.slice none n' c')).run Tryz.prog w = .ok (.bool a.isNone) w := fun w a n c n' c' => Lib.run_eql_slice_nil w _ _ a n c n' c' undPieces
  have u22 : ∀ w, Sem.run Tryz.prog (underlying 22) w = .ok (TypeDesc.slice 87) w := run_underlying undPieces
  have HM := Lib.hid hm
  have HL := Lib.hid hms
  clear hm hms
  go_enter Tryz.func138, Tryz.ntmps138
  go_wp2_with (at_builtin; refine wpList_append_own _ rfl _ _ 22 rfl w.heap.size 87 i0 (.agg #[.bool false, .slice none 0 0]) 2 32 undPieces hi hz0 hz1 hz2 rfl (by decide) _ _ _ rfl (World.ownsRow_made w #[] 0 (Nat.le_refl _) (Nat.zero_le _) rfl) ad l.length cap (flatP l ms) rfl ?qc1 ?qc2 ?qc3 ?qc4 ?qc5 ?qc6 ?_)
  case qc1 => exact flatP_len l ms HL.out
  case qc2 => exact hn.out
  case qc3 =>
    intro u hu
    obtain ⟨j, hj⟩ := List.mem_iff_getElem?.1 hu
    obtain ⟨hi2, ⟨_, rfl⟩ | ⟨_, rfl⟩⟩ := flatP_at l ms j u HL.out hj
    · rfl
    · exact marks_one (HM.out _ hi2).1
  case qc4 => unfold maxLen; omega
  case qc5 => omega
  case qc6 => simp
  intro v' w1 hown hgrow hnil
  have hm1 := (MarksIn.kept HM.out (World.grownBy_alloc w (.cells #[] 87) none) (fun k _ e => by cases e)).kept hgrow (fun k hk e => by simp [Value.ownBlock] at e; omega)
  have HM1 := Lib.hid hm1
  clear hm1
  go_wp2
  go_ret
  refine ⟨v', ms, rfl, ⟨HL.out, by simpa using hown⟩, HM1.out, ?_⟩
  exact ((Below.refl _ w).alloc (Nat.le_refl _) _).grown hgrow (by simp) (by intro k hk; simp [Value.ownBlock] at hk; omega)
theorem cloneP_nil (B cap : Nat) (w : World) : Calls Tryz.prog 138 #[.slice none 0 cap] w (NewP B [] w) := by
  have q22 : ∀ (w : World) (a : Option Addr) (n c n' c' : Nat), (binOp .eql 22 (.slice a n c) (.slice none n' c')).run Tryz.prog w = .ok (.bool a.isNone) w := fun w a n c n' c' => Lib.run_eql_slice_nil w _ _ a n c n' c' undPieces
  go_enter Tryz.func138, Tryz.ntmps138
  go_wp2
  go_ret
  exact ⟨_, [], rfl, rowP_nil _ _, fun i hi => by simp at hi, Below.refl _ _⟩
theorem clone_pieces (v : Value) (l : PiecesL) (w0 w : World) (h : PiecesAtz w0 v l) (hw : Below w0.heap.size w0 w) (hl : l.length ≤ 100000) (ho : PiecesOk l) : Calls Tryz.prog 138 #[v] w (NewP w0.heap.size l w) := by
  obtain ⟨ms, hms, hm, ⟨rfl, a, cap, rfl⟩ | ⟨b, off, cap, rfl, hb, hc⟩⟩ := h.raw
  · cases a with
    | none => exact cloneP_nil _ cap w
    | some ad => exact cloneP_some _ ad cap [] [] w hw.size (by simp) rfl (fun i hi => by simp at hi) (Lib.hid (by intro j u h; simp [flatP] at h))
  · refine cloneP_some _ ⟨b, off, none⟩ cap l ms w hw.size hl hms (fun i hi => ⟨(hm i hi).1.below hw, marks_lt (hm i hi).1 ?_⟩) (Lib.hid (fun j u hj => ?_))
    · exact (ho _ (by simp [hi])).2
    · rw [addr_at]
      have hb2 : b < w.heap.size := Nat.lt_of_lt_of_le hb hw.size
      exact (((Below.refl _ w).alloc (Nat.le_refl _) _).cell (p := ⟨b, _, none⟩) hb2).trans ((hw.cell (p := ⟨b, _, none⟩) hb).trans (hc j u hj))
theorem RowP.store {w : World} {base g cap : Nat} {l : PiecesL} {ms : List Value} (h : RowP w base (.slice (some ⟨g, 0, none⟩) l.length cap) l ms) (k : Nat) (u : Value) :
    RowP (w.setCell ⟨g, k * 2 + 1, none⟩ u) base (.slice (some ⟨g, 0, none⟩) l.length cap) l (ms.set k u) := by
  refine ⟨by simp [h.1], ?_⟩
  have := World.ownsRow.stored h.2 (k * 2 + 1) u
  rw [flatP_set l ms k u h.1]
  exact this.1
theorem RowP.shape {w : World} {base : Nat} {v : Value} {l : PiecesL} {ms : List Value} (h : RowP w base v l ms) : ∃ a cap, v = .slice a l.length cap ∧ (0 < l.length → ∃ g, a = some ⟨g, 0, none⟩ ∧ base ≤ g ∧ g < w.heap.size) := by
  obtain ⟨_, _, ⟨hv, h0⟩ | ⟨g, cap, cur, rfl, hbase, hb, _⟩⟩ := h
  · exact ⟨none, 0, by rw [hv, h0], fun hi => by omega⟩
  · exact ⟨_, cap, rfl, fun _ => ⟨g, rfl, hbase, (Array.getElem?_eq_some_iff.1 hb).1⟩⟩
theorem RowP.cell {w : World} {base g cap : Nat} {l : PiecesL} {ms : List Value} (h : RowP w base (.slice (some ⟨g, 0, none⟩) l.length cap) l ms) (i : Nat) (hi : i < l.length) : w.cell? ⟨g, i * 2 + 1, none⟩ = some (ms[i]?.getD undef) ∧ w.frozen? ⟨g, i * 2 + 1, none⟩ = false := by
  obtain ⟨f1, f2⟩ := flatP_get l ms i h.1 hi
  have c2 := World.ownsRow.cells h.2 (g := g) rfl _ _ f2
  rw [addr_at] at c2
  exact ⟨by simpa using c2, World.ownsRow.frozenAt h.2 _⟩
theorem below_grown2 {w w' : World} (h : Below w.heap.size w w') (row : Option Nat) : w.grownBy w' row := ⟨h.os, h.tape, h.output, h.size, fun k hk _ => h.block k hk⟩
/-- What 'copied' gives. -/
def CopyTo (n : Int) (l : PiecesL) (w : World) (e : Ending) (w' : World) : Prop :=
  ∃ (ms : List Value) (v : Value), e = .returned (.agg #[.int .i64 n, v]) ∧ RowP w' w.heap.size v l ms ∧ MarksIn w' l ms (fun k => w.heap.size ≤ k ∧ some k ≠ v.ownBlock ∧ k < w'.heap.size) ∧ Below w.heap.size w w'
set_option maxRecDepth 100000 in
set_option maxHeartbeats 8000000 in
theorem copied_old (n : Int) (v : Value) (ps : PiecesL) (w : World) (h : PiecesAtz w v ps) (hl : ps.length ≤ 100) (ho : PiecesOk ps) : Calls Tryz.prog 86 #[.agg #[.int .i64 n, v]] w (CopyTo n ps w) := by
  obtain ⟨a, cap, rfl, _, _⟩ := h.placed
  have W2 : Below w.heap.size w ((w.alloc (.cells #[.int .i64 n, .slice a ps.length cap] 24)).alloc (.cells #[.int .i64 0, .slice none 0 0] 24)) := ((Below.refl _ w).alloc (Nat.le_refl _) _).alloc (by simp) _
  have X := (Two.new w (.int .i64 n) (.slice a ps.length cap) 24).alloc (.cells #[.int .i64 0, .slice none 0 0] 24)
  have R : Two ((w.alloc (.cells #[.int .i64 n, .slice a ps.length cap] 24)).alloc (.cells #[.int .i64 0, .slice none 0 0] 24)) (w.heap.size + 1) (.int .i64 0) (.slice none 0 0) 24 := by
    have := Two.new (w.alloc (.cells #[.int .i64 n, .slice a ps.length cap] 24)) (.int .i64 0) (.slice none 0 0) 24
    simpa using this
  have HCL := Lib.hid (clone_pieces _ ps w _ h W2 (by omega) ho)
  have hs2 : ((w.alloc (.cells #[.int .i64 n, .slice a ps.length cap] 24)).alloc (.cells #[.int .i64 0, .slice none 0 0] 24)).heap.size = w.heap.size + 2 := by simp
  obtain ⟨W1, hW1⟩ : ∃ W1, (w.alloc (.cells #[.int .i64 n, .slice a ps.length cap] 24)).alloc (.cells #[.int .i64 0, .slice none 0 0] 24) = W1 := ⟨_, rfl⟩
  rw [hW1] at W2 X R HCL hs2
  have x0 := X.c0
  have x1 := X.c1
  have HX := Lib.hid X
  have HR := Lib.hid R
  have HB := Lib.hid W2
  have HS := Lib.hid hs2
  have HOK := Lib.hid ho
  clear h X R W2 hs2 ho
  go_enter Tryz.func86, Tryz.ntmps86
  go_wp2_with fail
  clear hW1
  refine HCL.out.mono ?_
  rintro e w3 ⟨v3, ms, rfl, hrow, hmi, hb3⟩
  have hs2 := HS.out
  have hs3 := hb3.size
  obtain ⟨a3, c3, rfl, hg3⟩ := hrow.shape
  have X3 := HX.out.below hb3 HX.out.lt
  have R3 := HR.out.below hb3 HR.out.lt
  have B3 := HB.out.trans (hb3.mono (by omega))
  have hgs := grownBy_setCell w3 ⟨w.heap.size, 1, none⟩ (.slice a3 ps.length c3)
  have X4 := X3.set1 (.slice a3 ps.length c3) rfl
  have R4 := R3.kept hgs (fun e => by have h : w.heap.size + 1 = w.heap.size := Option.some.inj e; omega)
  have W4 : RowP (w3.setCell ⟨w.heap.size, 1, none⟩ (.slice a3 ps.length c3)) (w.heap.size + 2) (.slice a3 ps.length c3) ps ms := (hrow.kept hgs (by
    cases hv : (Value.slice a3 ps.length c3).ownBlock with
    | none => exact .inl rfl
    | some q => right; have := (hrow.lt q hv).1; intro e; have h : q = w.heap.size := Option.some.inj e; omega)).low (by omega)
  have M4 := hmi.kept hgs (fun k hk e => by have h : k = w.heap.size := Option.some.inj e; omega)
  have B4 := B3.setCell (p := ⟨w.heap.size, 1, none⟩) (Nat.le_refl _) (.slice a3 ps.length c3)
  have hs4 : (w3.setCell ⟨w.heap.size, 1, none⟩ (.slice a3 ps.length c3)).heap.size = w3.heap.size := by simp
  have hm4 : MarksIn (w3.setCell ⟨w.heap.size, 1, none⟩ (.slice a3 ps.length c3)) ps ms (fun k => k < w.heap.size ∨ (w.heap.size + 2 ≤ k ∧ some k ≠ (Value.slice a3 ps.length c3).ownBlock ∧ k < (w3.setCell ⟨w.heap.size, 1, none⟩ (.slice a3 ps.length c3)).heap.size)) := M4.mono (fun k hk => .inl hk)
  have HI4 : Hid (∀ i k : Nat, i < 0 → (ms[i]?.getD undef).ownBlock = some k → w.heap.size + 2 ≤ k) := Lib.hid (fun i k h => by omega)
  have y0 := X3.c0
  have y1 := X3.c1
  have yf1 := X3.fr (i := 1)
  have HX4 := Lib.hid X4
  have HR4 := Lib.hid R4
  have HW4 := Lib.hid W4
  have HM4 := Lib.hid hm4
  have HB4 := Lib.hid B4
  have HS4 : Hid (w.heap.size + 2 ≤ (w3.setCell ⟨w.heap.size, 1, none⟩ (.slice a3 ps.length c3)).heap.size) := Lib.hid (by rw [hs4]; omega)
  have HG3 := Lib.hid hg3
  have z1 := X4.c1
  clear X3 R3 B3 X4 R4 W4 M4 hm4 B4 hrow hmi hb3 hgs hs4 hg3 HX HR HB HCL HS x0 x1
  go_wp2
  go_loopw [3, 11] (fun _ i wr => ∃ (k : Nat) (ms : List Value), k ≤ ps.length ∧ i = .int .i64 k ∧ Hid (Two wr w.heap.size (.int .i64 n) (.slice a3 ps.length c3) 24) ∧ Hid (Two wr (w.heap.size + 1) (.int .i64 0) (.slice none 0 0) 24) ∧ Hid (RowP wr (w.heap.size + 2) (.slice a3 ps.length c3) ps ms) ∧ Hid (MarksIn wr ps ms (fun k => k < w.heap.size ∨ (w.heap.size + 2 ≤ k ∧ some k ≠ (Value.slice a3 ps.length c3).ownBlock ∧ k < wr.heap.size))) ∧ Hid (∀ i q : Nat, i < k → (ms[i]?.getD undef).ownBlock = some q → w.heap.size + 2 ≤ q) ∧ Hid (Below w.heap.size w wr) ∧ Hid (w.heap.size + 2 ≤ wr.heap.size)) (fun _ i _ => ps.length - (intOf i).toNat)
  case atStart => exact ⟨0, ms, Nat.zero_le _, rfl, HX4, HR4, HW4, HM4, HI4, HB4, HS4⟩
  case round =>
    obtain ⟨k, ms, hk, rfl, HX, HR, HW, HM, HI, HB, HS⟩ := hrel
    clear HX4 HR4 HW4 HM4 HI4 HB4 HS4 y0 y1 yf1 z1
    have x1 := HX.out.c1
    by_cases hlt : k < ps.length
    · obtain ⟨g, rfl, hgb, _⟩ := HG3.out (by omega)
      obtain ⟨rc, rf⟩ := HW.out.cell k hlt
      have hmk := (HM.out k hlt).1
      have hmlen := (HOK.out (ps[k]?.getD (false, [])) (by simp [hlt])).1.1
      obtain ⟨vm, hvm⟩ : ∃ vm, ms[k]?.getD undef = vm := ⟨_, rfl⟩
      obtain ⟨⟨pm, pl⟩, hel⟩ : ∃ t, ps[k]?.getD (false, []) = t := ⟨_, rfl⟩
      rw [hvm] at rc hmk
      rw [hel] at hmk hmlen
      simp only at hmk hmlen
      obtain ⟨am, cm, rfl, hml, _⟩ := hmk.placed
      have hgl := (HW.out.lt g rfl).2
      have HCK := Lib.hid (fun (W : World) (hW : Below wr.heap.size wr W) => clone_ints _ _ W (hmk.below hW) (by omega))
      have Hml := Lib.hid hmlen
      have HVM := Lib.hid hvm
      have HEL := Lib.hid hel
      clear hmk hvm hmlen hel
      go_wp2_with fail
      go_region_law (first
        | (go_simp; go_at_call 136; refine (HCK.out _ (by first | exact Below.refl _ _ | exact (Below.refl _ _).drew)).mono ?_; rintro e w5 ⟨v5, rfl, ho5, hb5⟩; have hk5 := ho5.at (by have := Hml.out; omega); obtain ⟨a5, c5, rfl, _⟩ := hk5.placed; have hb6 : Below wr.heap.size wr w5 := (by first | exact hb5 | exact (Below.refl _ _).drew.trans hb5); have rc5 := (hb6.cell (p := ⟨g, _, none⟩) hgl).trans rc; have rf5 := (World.frozen?_of_block (a := ⟨g, k * 2 + 1, none⟩) (hb6.block g hgl)).trans rf; have X5 := HX.out.below hb6 HX.out.lt; have x15 := X5.c1)
        | skip)
      all_goals
        have hsz5 := hb6.size
        have hs := HS.out
        have hlt5 := ho5.lt
        have hg6 := grownBy_setCell w5 ⟨g, k * 2 + 1, none⟩ (.slice a5 pl.length c5)
        have X6 := X5.kept hg6 (fun e => by have h : w.heap.size = g := Option.some.inj e; omega)
        have R6 := (HR.out.below hb6 HR.out.lt).kept hg6 (fun e => by have h : w.heap.size + 1 = g := Option.some.inj e; omega)
        have W5 := HW.out.kept (below_grown2 hb6 none) (by right; intro e; cases e)
        have W6 := W5.store k (.slice a5 pl.length c5)
        have hs6 : (w5.setCell ⟨g, k * 2 + 1, none⟩ (.slice a5 pl.length c5)).heap.size = w5.heap.size := by simp
        have M5 := HM.out.kept (below_grown2 hb6 none) (fun q _ e => by cases e)
        have K6 := hk5.kept hg6 (by
          cases hv : (Value.slice a5 pl.length c5).ownBlock with
          | none => exact .inl rfl
          | some q => right; have h1 := (hlt5 q hv).1; (try simp at h1); intro e; have h : q = g := Option.some.inj e; omega)
        have hmsl := HW.out.1
        have M6 : MarksIn (w5.setCell ⟨g, k * 2 + 1, none⟩ (.slice a5 pl.length c5)) ps (ms.set k (.slice a5 pl.length c5)) (fun q => q < w.heap.size ∨ (w.heap.size + 2 ≤ q ∧ some q ≠ (Value.slice (some ⟨g, 0, none⟩) ps.length c3).ownBlock ∧ q < (w5.setCell ⟨g, k * 2 + 1, none⟩ (.slice a5 pl.length c5)).heap.size)) := fun i hi => by
          by_cases hik : i = k
          · subst hik
            have e1 : (ms.set i (.slice a5 pl.length c5))[i]?.getD undef = .slice a5 pl.length c5 := by simp [hmsl, hi]
            rw [e1, HEL.out]
            refine ⟨K6, fun q hq => .inr ?_⟩
            have h1 := hlt5 q hq
            (try simp at h1)
            refine ⟨by omega, fun e => by have h : q = g := Option.some.inj e; omega, by rw [hs6]; omega⟩
          · have e1 : (ms.set k (.slice a5 pl.length c5))[i]?.getD undef = ms[i]?.getD undef := by rw [List.getElem?_set_ne (by omega)]
            rw [e1]
            have hP := (M5 i hi).2
            refine ⟨(M5 i hi).1.kept hg6 ?_, fun q hq => ?_⟩
            · cases hv : (ms[i]?.getD undef).ownBlock with
              | none => exact .inl rfl
              | some q =>
                right; intro e
                have h : q = g := Option.some.inj e
                rcases hP q hv with h1 | h1
                · omega
                · exact h1.2.1 (by rw [h]; rfl)
            · rcases hP q hq with h1 | h1
              · exact .inl h1
              · exact .inr ⟨h1.1, h1.2.1, by rw [hs6]; have := h1.2.2; omega⟩
        have I6 : ∀ i q : Nat, i < k + 1 → ((ms.set k (.slice a5 pl.length c5))[i]?.getD undef).ownBlock = some q → w.heap.size + 2 ≤ q := fun i q hi hq => by
          by_cases hik : i = k
          · subst hik
            have e1 : (ms.set i (.slice a5 pl.length c5))[i]?.getD undef = .slice a5 pl.length c5 := by simp [hmsl, hlt]
            rw [e1] at hq
            have h1 := (hlt5 q hq).1
            (try simp at h1)
            omega
          · have e1 : (ms.set k (.slice a5 pl.length c5))[i]?.getD undef = ms[i]?.getD undef := by rw [List.getElem?_set_ne (by omega)]
            rw [e1] at hq
            exact HI.out i q (by omega) hq
        have B6 := (HB.out.trans (hb6.mono HB.out.size)).setCell (p := ⟨g, k * 2 + 1, none⟩) (show w.heap.size ≤ g by omega) (.slice a5 pl.length c5)
        have HX6 := Lib.hid X6
        have HR6 := Lib.hid R6
        have HW6 := Lib.hid W6
        have HM6 := Lib.hid M6
        have HI6 := Lib.hid I6
        have HB6 := Lib.hid B6
        have HS6 : Hid (w.heap.size + 2 ≤ (w5.setCell ⟨g, k * 2 + 1, none⟩ (.slice a5 pl.length c5)).heap.size) := Lib.hid (by rw [hs6]; omega)
        clear X5 X6 R6 W5 W6 M5 M6 I6 B6 K6 hk5 ho5 hb5 hb6 hg6 x15 rc5 rf5 rc rf hlt5 hmsl hs6
        go_wp2
        go_roundw
        case rel => exact ⟨k + 1, _, by omega, by go_num, HX6, HR6, HW6, HM6, HI6, HB6, HS6⟩
        case measure => simp [intOf]; omega
    · have hke : k = ps.length := by omega
      have hs := HS.out
      have x0 := HX.out.c0
      have x1' := HX.out.c1
      have r0 := HR.out.c0
      have r1 := HR.out.c1
      have f0 := HR.out.fr (i := 0)
      have f1 := HR.out.fr (i := 1)
      go_wp2
      have hg9 := (two_after HR.out (.int .i64 n) (.slice a3 ps.length c3) rfl).2.2.2
      have X4 := (HR.out.set0 (.int .i64 n)).set1 (.slice a3 ps.length c3) rfl
      have d0 := X4.c0
      have d1 := X4.c1
      have hrl := HW.out.lt
      refine bodyPost_ret (v := .agg #[.int .i64 n, .slice a3 ps.length c3]) ?_ rfl ?_
      · simp [results, Tryz.results86, go_sem, d0, d1]
      · refine ⟨ms, _, rfl, (HW.out.kept hg9 ?_).low (by omega), ?_, HB.out.grown hg9 HB.out.size (fun q hq => by have h : w.heap.size + 1 = q := Option.some.inj hq; omega)⟩
        · cases hv : (Value.slice a3 ps.length c3).ownBlock with
          | none => exact .inl rfl
          | some q => right; have := (hrl q hv).1; intro e; have h : q = w.heap.size + 1 := Option.some.inj e; omega
        · have hM : MarksIn wr ps ms (fun q => w.heap.size + 2 ≤ q ∧ some q ≠ (Value.slice a3 ps.length c3).ownBlock ∧ q < wr.heap.size) := fun i hi => ⟨(HM.out i hi).1, fun q hq => by
            have h1 := HI.out i q (by omega) hq
            rcases (HM.out i hi).2 q hq with h2 | h2
            · omega
            · exact h2⟩
          exact (hM.kept hg9 (fun q hq e => by have h : q = w.heap.size + 1 := Option.some.inj e; omega)).mono (fun q hq => ⟨by omega, hq.2.1, by simp; exact hq.2.2⟩)
end Go.Proofs.YtkjclafbpocabaaGreatDoor
