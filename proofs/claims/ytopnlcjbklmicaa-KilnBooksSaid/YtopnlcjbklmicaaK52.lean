import Derived.Test.YtopnlcjbklmicaaK20
import Derived.Maps.AppendAt
import Derived.WalkKit
import Derived.WalkSpells
import Derived.WalkLawsBesides
import Derived.Deep.QuietTactic
import Derived.BigQuiet
import Derived.Lib.Hide
import Derived.WalkSmall
import Derived.Maps.OwnSet
import Derived.Maps.RangeWalk
import Derived.Deep.RegionWith
import Derived.Deep.RegionHeld3
import Derived.Deep.DrawnRows
import Derived.Deep.DeepCutAuto
import Derived.OneCell
import Derived.KernelRfl
import Derived.Laws.StructEq
import Derived.StillTailTactics
import Derived.Laws.Externs
import Derived.RangeFuncBox
import Derived.Outline
import Derived.RangeFuncNested
import Derived.RangeFuncBound
import Derived.RangeFuncCalls
import Derived.RangeFuncLeaves
import Derived.Shelf.RegionOpen
import Derived.OwnWalkIn
import Derived.TacticsInMore
import Derived.LoopNIn
import Derived.LoopIn
import Derived.Test.YtopnlcjbklmicaaProg
namespace Go.Proofs.Ytopnlcjbklmicaa
open Go.RowKit Go.Maps Go.Shelf
set_option linter.unusedVariables false
set_option linter.unusedSimpArgs false
theorem addr_addT (b off j : Nat) : (⟨b, off, none⟩ : Addr).add j = ⟨b, off + j, none⟩ := by
  unfold Addr.add
  by_cases h : j = 0
  · subst h; simp
  · simp [h]
/-- A slice of ints that came in. -/
def SrcI (w : World) (v : Value) (l : List Int) : Prop :=
  l.length ≤ 17592186043904 ∧ ((v = .slice none 0 0 ∧ l = []) ∨ (∃ ad c, v = .slice (some ad) 0 c ∧ l = []) ∨ ∃ b off c, v = .slice (some ⟨b, off, none⟩) l.length c ∧ l.length ≤ c ∧ b < w.heap.size ∧ IntsC w b off l)
theorem SrcI.past {w w' : World} {v : Value} {l : List Int} (h : SrcI w v l) (hb : Below w.heap.size w w') : SrcI w' v l := by
  obtain ⟨h0, h | h | ⟨b, off, c, h1, h2, h3, h4⟩⟩ := h
  · exact ⟨h0, .inl h⟩
  · exact ⟨h0, .inr (.inl h)⟩
  · exact ⟨h0, .inr (.inr ⟨b, off, c, h1, h2, Nat.lt_of_lt_of_le h3 hb.size, h4.below h3 hb⟩)⟩
theorem SrcI.shape {w : World} {v : Value} {l : List Int} (h : SrcI w v l) : ∃ a c, v = .slice a l.length c := by
  obtain ⟨_, ⟨rfl, rfl⟩ | ⟨ad, c, rfl, rfl⟩ | ⟨b, off, c, rfl, _⟩⟩ := h
  · exact ⟨_, _, rfl⟩
  · exact ⟨_, _, rfl⟩
  · exact ⟨_, _, rfl⟩
theorem SrcI.ints {w : World} {v : Value} {l : List Int} (h : SrcI w v l) : IntsAt w v l := by
  obtain ⟨h0, ⟨rfl, rfl⟩ | ⟨ad, c, rfl, rfl⟩ | ⟨b, off, c, h1, h2, h3, h4⟩⟩ := h
  · exact intsAt_nil _ _ _
  · exact intsAt_nil _ _ _
  · exact ⟨h0, .inr ⟨b, off, c, h1, h2, h3, h4⟩⟩
def iM (l : List Int) : List Value := l.map fun x => .int .i64 x
/-- A row of ints of one's own. -/
def IntsR (w : World) (base : Nat) (v : Value) (l : List Int) : Prop := w.ownsRow base 3 1 v l.length (iM l)
theorem IntsR.lt {w : World} {base : Nat} {v : Value} {l : List Int} (h : IntsR w base v l) (k : Nat) (hk : v.ownBlock = some k) : base ≤ k ∧ k < w.heap.size ∧ ∃ vs f, w.heap[k]? = some (.cells vs 3 f) := by
  rcases h.2 with ⟨rfl, _⟩ | ⟨g, cap, cur, rfl, hb, hg, _⟩
  · simp [Value.ownBlock] at hk
  · obtain rfl : g = k := by simpa [Value.ownBlock] using hk
    exact ⟨hb, (Array.getElem?_eq_some_iff.1 hg).1, _, _, hg⟩
theorem IntsR.kept {w w' : World} {base : Nat} {v : Value} {l : List Int} {row : Option Nat} (h : IntsR w base v l) (hg : w.grownBy w' row) (hrow : ∀ k, v.ownBlock = some k → row ≠ some k) : IntsR w' base v l := by
  refine World.ownsRow.kept h hg ?_
  cases hv : v.ownBlock with
  | none => exact .inl rfl
  | some k => exact .inr fun e => hrow k hv e.symm
theorem IntsR.ints {w : World} {base : Nat} {v : Value} {l : List Int} (h : IntsR w base v l) (hl : l.length ≤ 1000000) : IntsAt w v l := by
  refine ⟨by omega, ?_⟩
  rcases h.2 with ⟨rfl, h0⟩ | ⟨g, cap, cur, rfl, hb, hg, hcap, _, hcs, _⟩
  · exact .inl ⟨List.length_eq_zero_iff.1 h0, none, 0, rfl⟩
  · right
    refine ⟨g, 0, cap, rfl, hcap, (Array.getElem?_eq_some_iff.1 hg).1, fun i hi => ?_⟩
    have h1 : (iM l)[i]? = some (.int .i64 (l[i]?.getD 0)) := by simp [iM, hi]
    rw [Nat.zero_add, World.ownsRow.cellAt h i (by omega), h1]
theorem IntsR.shape {w : World} {base : Nat} {v : Value} {l : List Int} (h : IntsR w base v l) : ∃ a c, v = .slice a l.length c := by
  rcases h.2 with ⟨rfl, h0⟩ | ⟨g, cap, cur, rfl, _⟩
  · exact ⟨_, _, by rw [h0]⟩
  · exact ⟨_, _, rfl⟩
theorem IntsR.one {w : World} {base : Nat} {v : Value} {l : List Int} (h : IntsR w base v l) : v.oneCell' = true := by
  obtain ⟨a, c, rfl⟩ := h.shape; rfl
theorem IntsR.empty (w : World) (base b : Nat) (hb : w.heap.size = b) (h : base ≤ b) : IntsR (w.alloc (.cells #[] 3)) base (.slice (some ⟨b, 0, none⟩) 0 0) [] := by
  subst hb
  exact World.ownsRow_lit (base := base) (e := 3) (size := 1) w #[] 0 h (by simp) (by simp)
theorem undInts : Try.prog.underlying 46 = some (.slice 3) := by kernel_rfl
theorem infoInt : (Try.prog.info? 3).map (fun i => (i.zero, i.size, i.bytes)) = some (some (.int .i64 0), 1, 8) := by kernel_rfl
/-- A copy of ints, in a region. -/
theorem wp_copyI {o : Oper} {a : Act} {W : World} {K : Act → World → Prop} {Q : Exit → Act → World → Prop} (s x : Operand)
    (ho : o.op = .call { callee := .builtin .append, args := #[s, x], argTypes := #[46, 46] }) (base b : Nat) (hs : a.eval s = .slice (some ⟨b, 0, none⟩) 0 0) (hown : IntsR W base (.slice (some ⟨b, 0, none⟩) 0 0) [])
    (l : List Int) (v : Value) (hx : a.eval x = v) (hsrc : SrcI W v l) (hl : l.length ≤ 1000) (hbase : base ≤ W.heap.size) (kb : Nat) (hkb : W.heap.size = kb)
    (h : ∀ v' W', IntsR W' base v' l → (∀ k, v'.ownBlock = some k → k = b ∨ k = kb) → W.grownBy W' (some b) → K (a.put o.dst v') W') : o.wp Try.prog a W K Q := by
  obtain ⟨i0, hi, hz0, hz1, hz2⟩ := info_parts infoInt
  have hgen : ∀ ad c, v = .slice (some ad) l.length c → (∀ j u, (iM l)[j]? = some u → W.cell? (ad.add j) = some u) → o.wp Try.prog a W K Q := fun ad c hv hn => by
    obtain ⟨v', w', hr, h2, h3, h4, h5⟩ := run_append_own_at (P := Try.prog) W base 46 o.type 3 i0 (.int .i64 0) 1 8 undInts hi hz0 hz1 hz2 rfl (by decide) (.slice (some ⟨b, 0, none⟩) 0 0) 0 [] hown ad l.length c (iM l) (by simp [iM]) hn (fun u hu => by obtain ⟨x, _, rfl⟩ := List.mem_map.1 hu; rfl) (by unfold maxLen; omega) (by omega) hbase
    rw [hv] at hx
    unfold Oper.wp execOp
    simp only [ho, resolve, invoke, builtin, Sem.run_bind, Sem.run_pure, Result.andThen_ok, List.map_toArray, List.map_cons, List.map_nil, hs, hx, hr]
    rw [Nat.zero_add, List.nil_append] at h2
    refine h v' w' h2 (fun k hk => ?_) h3
    rcases h5 with h5 | h5
    · left; rw [h5] at hk; simpa [Value.ownBlock] using hk.symm
    · right; rw [h5] at hk; rw [← hkb]; exact (Option.some.inj hk).symm
  obtain ⟨h0, ⟨rfl, rfl⟩ | ⟨ad, c, rfl, rfl⟩ | ⟨b', off, c, rfl, hc, hb, hC⟩⟩ := hsrc
  · have hrun := run_append_owned_none (P := Try.prog) (w := W) base 46 o.type 3 i0 1 undInts hi (.slice (some ⟨b, 0, none⟩) 0 0) 0 [] hown
    unfold Oper.wp execOp
    simp only [ho, resolve, invoke, builtin, Sem.run_bind, Sem.run_pure, Result.andThen_ok, List.map_toArray, List.map_cons, List.map_nil, hs, hx, hrun]
    exact h _ _ hown (fun k hk => .inl (by simpa [Value.ownBlock] using hk.symm)) ⟨rfl, rfl, rfl, Nat.le_refl _, fun _ _ _ => rfl⟩
  · exact hgen ad c rfl (fun j u hj => by simp [iM] at hj)
  · refine hgen _ c rfl fun j u hj => ?_
    have hlt : j < l.length := by simpa [iM] using (List.getElem?_eq_some_iff.1 hj).1
    rw [addr_addT, hC j hlt, ← hj]
    simp [iM, hlt]
/-- A slice of tiers that came in. -/
def SrcT (w : World) (v : Value) (ts : List (List Int × List Int)) : Prop :=
  ∃ a cap, v = .slice a ts.length cap ∧ ts.length ≤ 4398046511104 ∧ ∀ i, i < ts.length → ∃ b off, a = some ⟨b, off, none⟩ ∧ b < w.heap.size ∧ ∃ vc vw, w.cell? ⟨b, off + i * 2, none⟩ = some vc ∧ w.cell? ⟨b, off + i * 2 + 1, none⟩ = some vw ∧ SrcI w vc (ts[i]?.getD ([], [])).1 ∧ SrcI w vw (ts[i]?.getD ([], [])).2
theorem SrcT.past {w w' : World} {v : Value} {ts : List (List Int × List Int)} (h : SrcT w v ts) (hb : Below w.heap.size w w') : SrcT w' v ts := by
  obtain ⟨a, cap, hv, hl, h⟩ := h
  refine ⟨a, cap, hv, hl, fun i hi => ?_⟩
  obtain ⟨b, off, ha, hlt, vc, vw, c1, c2, s1, s2⟩ := h i hi
  exact ⟨b, off, ha, Nat.lt_of_lt_of_le hlt hb.size, vc, vw, (hb.cell (p := ⟨b, _, none⟩) hlt).trans c1, (hb.cell (p := ⟨b, _, none⟩) hlt).trans c2, s1.past hb, s2.past hb⟩
/-- The copies of tiers: a row of pairs of slices. -/
def flatV (l : List (Value × Value)) : List Value := l.flatMap fun p => [p.1, p.2]
theorem flatV_snoc (l : List (Value × Value)) (x y : Value) : flatV (l ++ [(x, y)]) = flatV l ++ [x, y] := by simp [flatV]
theorem flatV_len (l : List (Value × Value)) : (flatV l).length = l.length * 2 := by
  induction l with
  | nil => rfl
  | cons p l ih => rw [show flatV (p :: l) = p.1 :: p.2 :: flatV l from rfl, List.length_cons, List.length_cons, ih, List.length_cons]; omega
theorem flatV_at : ∀ (l : List (Value × Value)) (i : Nat), i < l.length → (flatV l)[i * 2]? = some (l[i]?.getD (undef, undef)).1 ∧ (flatV l)[i * 2 + 1]? = some (l[i]?.getD (undef, undef)).2
  | [], i, h => by simp at h
  | p :: l, 0, _ => ⟨rfl, rfl⟩
  | p :: l, i + 1, h => by
    have h2 := flatV_at l i (by simpa using h)
    rw [show flatV (p :: l) = p.1 :: p.2 :: flatV l from rfl, show (i + 1) * 2 = i * 2 + 1 + 1 by omega, show i * 2 + 1 + 1 + 1 = i * 2 + 1 + 1 + 1 by rfl]
    simpa using h2
structure OwnT (w : World) (base : Nat) (v : Value) (ts : List (List Int × List Int)) (vals : List (Value × Value)) : Prop where
  len : vals.length = ts.length
  row : w.ownsRow base 85 2 v ts.length (flatV vals)
  ins : ∀ i, i < ts.length → IntsR w base (vals[i]?.getD (undef, undef)).1 (ts[i]?.getD ([], [])).1 ∧ IntsR w base (vals[i]?.getD (undef, undef)).2 (ts[i]?.getD ([], [])).2
theorem OwnT.lt {w : World} {base : Nat} {v : Value} {ts : List (List Int × List Int)} {vals : List (Value × Value)} (h : OwnT w base v ts vals) (k : Nat) (hk : v.ownBlock = some k) : base ≤ k ∧ k < w.heap.size ∧ ∃ vs f, w.heap[k]? = some (.cells vs 85 f) := by
  rcases h.row.2 with ⟨rfl, _⟩ | ⟨g, cap, cur, rfl, hb, hg, _⟩
  · simp [Value.ownBlock] at hk
  · obtain rfl : g = k := by simpa [Value.ownBlock] using hk
    exact ⟨hb, (Array.getElem?_eq_some_iff.1 hg).1, _, _, hg⟩
theorem OwnT.past {w w' : World} {base : Nat} {v : Value} {ts : List (List Int × List Int)} {vals : List (Value × Value)} (h : OwnT w base v ts vals) (hb : Below w.heap.size w w') : OwnT w' base v ts vals := by
  have hg : w.grownBy w' none := ⟨hb.os, hb.tape, hb.output, hb.size, fun j hj _ => hb.block j hj⟩
  exact ⟨h.len, h.row.kept hg (by cases hv : v.ownBlock <;> simp), fun i hi => ⟨(h.ins i hi).1.kept hg (fun _ _ e => by cases e), (h.ins i hi).2.kept hg (fun _ _ e => by cases e)⟩⟩
theorem OwnT.tiers {w : World} {base : Nat} {v : Value} {ts : List (List Int × List Int)} {vals : List (Value × Value)} (h : OwnT w base v ts vals) (hl : ts.length ≤ 1000) (hs : ∀ i, i < ts.length → (ts[i]?.getD ([], [])).1.length ≤ 1000 ∧ (ts[i]?.getD ([], [])).2.length ≤ 1000) : TiersAt w.heap.size w v ts := by
  refine ⟨by omega, Nat.le_refl _, ?_⟩
  rcases h.row.2 with ⟨rfl, h0⟩ | ⟨g, cap, cur, rfl, hb, hg, hcap, _, hcs, _⟩
  · exact .inl ⟨List.length_eq_zero_iff.1 h0, none, 0, rfl⟩
  · right
    refine ⟨g, 0, cap, rfl, hcap, (Array.getElem?_eq_some_iff.1 hg).1, fun i hi => ?_⟩
    obtain ⟨a1, a2⟩ := flatV_at vals i (by rw [h.len]; exact hi)
    obtain ⟨i1, i2⟩ := h.ins i hi
    obtain ⟨s1, s2⟩ := hs i hi
    exact ⟨_, _, by rw [Nat.zero_add, h.row.cellAt (i * 2) (by omega), a1], by rw [Nat.zero_add, h.row.cellAt (i * 2 + 1) (by omega), a2], ⟨i1.ints (by omega), fun k hk => (i1.lt k hk).2.1⟩, ⟨i2.ints (by omega), fun k hk => (i2.lt k hk).2.1⟩⟩
theorem undTiers : Try.prog.underlying 67 = some (.slice 85) := by kernel_rfl
theorem infoTier : (Try.prog.info? 85).map (fun i => (i.zero, i.size, i.bytes)) = some (some (.agg #[.slice none 0 0, .slice none 0 0]), 2, 48) := by kernel_rfl
theorem OwnT.empty (w : World) (base b : Nat) (hb : w.heap.size = b) (h : base ≤ b) : OwnT (w.alloc (.cells #[] 85)) base (.slice (some ⟨b, 0, none⟩) 0 0) [] [] := by
  subst hb
  exact ⟨rfl, World.ownsRow_lit (base := base) (e := 85) (size := 2) w #[] 0 h (by simp) (by simp), fun i hi => by simp at hi⟩
/-- A tier more. -/
theorem wp_appT {o : Oper} {a : Act} {W : World} {K : Act → World → Prop} {Q : Exit → Act → World → Prop} (s x : Operand)
    (ho : o.op = .call { callee := .builtin .append, args := #[s, x], argTypes := #[67, 67] }) (base : Nat) (v : Value) (ts : List (List Int × List Int)) (vals : List (Value × Value)) (hs : a.eval s = v) (hown : OwnT W base v ts vals)
    (bx : Nat) (v1 v2 : Value) (l1 l2 : List Int) (hx : a.eval x = .slice (some ⟨bx, 0, none⟩) 1 1) (hbx : Blk W bx #[v1, v2] 85) (hne : v.ownBlock ≠ some bx) (h1 : IntsR W base v1 l1) (h2 : IntsR W base v2 l2) (hl : ts.length ≤ 1000) (hbase : base ≤ W.heap.size)
    (h : ∀ v' W', OwnT W' base v' (ts ++ [(l1, l2)]) (vals ++ [(v1, v2)]) → W.grownBy W' v.ownBlock → K (a.put o.dst v') W') : o.wp Try.prog a W K Q := by
  obtain ⟨i0, hi, hz0, hz1, hz2⟩ := info_parts infoTier
  obtain ⟨v', w', hr, g2, g3, g4, g5⟩ := run_append_own_at (P := Try.prog) W base 67 o.type 85 i0 (.agg #[.slice none 0 0, .slice none 0 0]) 2 48 undTiers hi hz0 hz1 hz2 rfl (by decide) v ts.length (flatV vals) hown.row ⟨bx, 0, none⟩ 1 1 [v1, v2] rfl
    (fun j u hj => by
      rw [addr_addT]
      match j, hj with
      | 0, hj => exact hbx.cell (i := 0) (by simpa using hj)
      | 1, hj => exact hbx.cell (i := 1) (by simpa using hj)
      | j + 2, hj => simp at hj)
    (fun u hu => by
      simp at hu
      rcases hu with rfl | rfl
      · exact h1.one
      · exact h2.one) (by unfold maxLen; omega) (by omega) hbase
  unfold Oper.wp execOp
  simp only [ho, resolve, invoke, builtin, Sem.run_bind, Sem.run_pure, Result.andThen_ok, List.map_toArray, List.map_cons, List.map_nil, hs, hx, hr]
  have hrow : ∀ (u : Value) (l : List Int), IntsR W base u l → IntsR w' base u l := fun u l hu => hu.kept g3 (fun k hk e => by
    obtain ⟨_, _, vs, f, hb⟩ := hu.lt k hk
    obtain ⟨_, _, vs', f', hb'⟩ := hown.lt k e
    rw [hb] at hb'
    cases hb')
  refine h v' w' ⟨by simp [hown.len], ?_, fun i hi => ?_⟩ g3
  · rw [flatV_snoc, List.length_append]; exact g2
  · rcases Nat.lt_or_ge i ts.length with hlt | hge
    · rw [List.getElem?_append_left (by rw [hown.len]; exact hlt), List.getElem?_append_left hlt]
      exact ⟨hrow _ _ (hown.ins i hlt).1, hrow _ _ (hown.ins i hlt).2⟩
    · obtain rfl : i = ts.length := by simp at hi; omega
      rw [List.getElem?_append_right (by rw [hown.len]; exact Nat.le_refl _), List.getElem?_append_right (Nat.le_refl _), hown.len]
      simp only [Nat.sub_self, List.getElem?_cons_zero, Option.getD_some]
      exact ⟨hrow _ _ h1, hrow _ _ h2⟩
end Go.Proofs.Ytopnlcjbklmicaa
