/-
  Contracts of the program's own functions (and their plain mathematics), on the way to the law: each for all arguments that its hypotheses let.
-/
import Derived.Test.YtkjclafbpocabaaGreatDoorH7
import Derived.Deep.RegionLaw
import Derived.WalkKit
import Derived.WalkSpells
import Derived.WalkLawsBesides
import Derived.Deep.QuietTactic
import Derived.BigQuiet
import Derived.Lib.Hide
import Derived.WalkSmall
import Derived.Maps.OwnSet
import Derived.Maps.RangeWalk
import Derived.Deep.RegionWith
import Derived.Deep.RegionHeld3
import Derived.Deep.DrawnRows
import Derived.Deep.DeepCutAuto
import Derived.OneCell
import Derived.KernelRfl
import Derived.Laws.StructEq
import Derived.StillTailTactics
import Derived.Laws.Externs
import Derived.RangeFuncBox
set_option linter.unusedSimpArgs false
set_option linter.unusedVariables false

/-! ## ZC16 -/
namespace Go.Proofs.YtkjclafbpocabaaGreatDoor
open Go.RowKit Go.Maps
theorem step_copyM {ops : Array Oper} {o : Oper} {a : Act} {w : World} {K : Act → World → Prop} {Q : Exit → Act → World → Prop} {E : Prop} (hgd : o.guard = none) (s x : Operand)
    (ho : o.op = .call { callee := .builtin .append, args := #[s, x], argTypes := #[59, 59] }) (base : Nat) (v : Value) (hs : a.eval s = v) (hown : OwnM w base v [])
    (ad : Addr) (l : List Int) (c : Nat) (hx : a.eval x = .slice (some ad) l.length c) (hnews : ∀ j u, (iM l)[j]? = some u → w.cell? (ad.add j) = some u) (hl : l.length ≤ 1000000) (hbase : base ≤ w.heap.size)
    (h : ∀ v' w', OwnM w' base v' l → w.grownBy w' v.ownBlock → K (a.put o.dst v') w') :
    if Region.wanted o (yielded ops a.tmps) = true then Oper.wp Tryz.prog o a w K Q else E := by
  obtain ⟨i0, hi, hz0, hz1, hz2⟩ := info_parts infoInt
  have hw : Region.wanted o (yielded ops a.tmps) = true := by simp [Region.wanted, hgd]
  rw [if_pos hw]
  refine wp_append_own w s x 59 ho base 3 i0 (.int .i64 0) 1 8 undInts hi hz0 hz1 hz2 rfl (by decide) v 0 [] hs hown ad l.length c (iM l) hx (by simp [iM]) hnews ?_ (by unfold maxLen; omega) (by omega) hbase ?_
  · intro u hu; obtain ⟨x, _, rfl⟩ := List.mem_map.1 hu; rfl
  · intro v' w' ho hg _
    exact h v' w' (by unfold OwnM; simpa using ho) hg
theorem wp_append_at {o : Oper} {a : Act} (w : World) {K : Act → World → Prop} {Q : Exit → Act → World → Prop} (s x : Operand) (t : TypeId)
    (ho : o.op = .call { callee := .builtin .append, args := #[s, x], argTypes := #[t, t] })
    (base : Nat) (e : TypeId) (i : TypeInfo) (z : Value) (size bytes : Nat) (ht : Tryz.prog.underlying t = some (.slice e)) (hi : Tryz.prog.info? e = some i) (hz : i.zero = some z)
    (hsize : i.size = size) (hby : i.bytes = bytes) (hzs : z.cells.size = size) (hsz : 0 < size)
    (v : Value) (n : Nat) (xs : List Value) (hs : a.eval s = v) (hown : w.ownsRow base e size v n xs)
    (ad : Addr) (m c : Nat) (news : List Value) (hx : a.eval x = .slice (some ad) m c) (hl : news.length = m * size) (hnews : ∀ j u, news[j]? = some u → w.cell? (ad.add j) = some u) (h1 : ∀ u ∈ news, u.oneCell' = true)
    (h63 : n + m ≤ maxLen) (hbytes : (n + m) * bytes ≤ 140737488355328) (hbase : base ≤ w.heap.size)
    (h : ∀ v' w', w'.ownsRow base e size v' (n + m) (xs ++ news) → w.grownBy w' v.ownBlock → (v' = .slice none 0 0 ↔ v = .slice none 0 0 ∧ m = 0) → (v'.ownBlock = v.ownBlock ∨ v'.ownBlock = some w.heap.size) → K (a.put o.dst v') w') :
    Oper.wp Tryz.prog o a w K Q := by
  obtain ⟨v', w', hr, h2, h3, h4, h5⟩ := run_append_own_at (P := Tryz.prog) w base t o.type e i z size bytes ht hi hz hsize hby hzs hsz v n xs hown ad m c news hl hnews h1 h63 hbytes hbase
  unfold Oper.wp execOp
  simp only [ho, resolve, invoke, builtin, Sem.run_bind, Sem.run_pure, Result.andThen_ok, List.map_toArray, List.map_cons, List.map_nil, hs, hx, hr]
  exact h v' w' h2 h3 h4 h5
theorem step_appP {ops : Array Oper} {o : Oper} {a : Act} {w : World} {K : Act → World → Prop} {Q : Exit → Act → World → Prop} {E : Prop} (hgd : o.guard = none) (s x : Operand)
    (ho : o.op = .call { callee := .builtin .append, args := #[s, x], argTypes := #[22, 22] }) (base : Nat) (v : Value) (l : PiecesL) (ms : List Value) (hs : a.eval s = v) (hown : RowP w base v l ms)
    (bk : Nat) (c : Nat) (b : Bool) (m : Value) (hx : a.eval x = .slice (some ⟨bk, 0, none⟩) 1 c) (hn0 : w.cell? ⟨bk, 0, none⟩ = some (.bool b)) (hn1 : w.cell? ⟨bk, 1, none⟩ = some m) (hm1 : m.oneCell' = true) (hl : (l.length + 1) * 32 ≤ 140737488355328) (hbase : base ≤ w.heap.size)
    (h : ∀ v' w', (∀ q, RowP w' base v' (l ++ [(b, q)]) (ms ++ [m])) → w.grownBy w' v.ownBlock → (v'.ownBlock = v.ownBlock ∨ v'.ownBlock = some w.heap.size) → K (a.put o.dst v') w') :
    if Region.wanted o (yielded ops a.tmps) = true then Oper.wp Tryz.prog o a w K Q else E := by
  obtain ⟨i0, hi, hz0, hz1, hz2⟩ := info_parts infoPiece
  have hw : Region.wanted o (yielded ops a.tmps) = true := by simp [Region.wanted, hgd]
  rw [if_pos hw]
  refine wp_append_at w s x 22 ho base 87 i0 (.agg #[.bool false, .slice none 0 0]) 2 32 undPieces hi hz0 hz1 hz2 rfl (by decide) v l.length (flatP l ms) hs hown.2 ⟨bk, 0, none⟩ 1 c [.bool b, m] hx rfl ?_ ?_ (by unfold maxLen; omega) (by omega) hbase ?_
  · intro j u hj
    rw [addr_at]
    match j, hj with
    | 0, hj => simp at hj; subst hj; exact hn0
    | 1, hj => simp at hj; subst hj; exact hn1
    | j + 2, hj => simp at hj
  · intro u hu
    simp at hu
    rcases hu with rfl | rfl
    · rfl
    · exact hm1
  · intro v' w' ho hg _ hb
    exact h v' w' (fun q => ⟨by simp [hown.1], by rw [flatP_snoc l ms (b, q) m hown.1]; simpa using ho⟩) hg hb
def shortF (ps : PiecesL) : Bool := ps.all fun p => decide (p.2.length ≤ 10)
/-- What oldOf returns. -/
def OldOfTo (n : Int) (ps : PiecesL) (w : World) (e : Ending) (w' : World) : Prop := Below w.heap.size w w' ∧
  ((shortF ps = false ∧ ∃ a k c, e = .returned (.tuple #[.agg #[.int .i64 n, .slice a k c], .bool false])) ∨
   (shortF ps = true ∧ ∃ ms v, e = .returned (.tuple #[.agg #[.int .i64 n, v], .bool (decide (ps.length ≤ 12))]) ∧ RowP w' w.heap.size v ps ms ∧ MarksIn w' ps ms (fun k => w.heap.size ≤ k)))
theorem short_take_succ (ps : PiecesL) (k : Nat) (h : k < ps.length) : shortF (ps.take (k + 1)) = (shortF (ps.take k) && decide ((ps[k]?.getD (false, [])).2.length ≤ 10)) := allN_take_succ (false, []) _ ps k h
theorem short_not (ps : PiecesL) (k : Nat) (h : k < ps.length) (hp : decide ((ps[k]?.getD (false, [])).2.length ≤ 10) = false) : shortF ps = false := allN_not (false, []) _ ps k h hp
theorem emptyM (w : World) : OwnM (w.alloc (.cells #[] 3)) w.heap.size (.slice (some ⟨w.heap.size, 0, none⟩) 0 0) [] := by
  refine ⟨by simp [iM], .inr ⟨w.heap.size, 0, #[], rfl, Nat.le_refl _, ?_, Nat.le_refl _, by unfold maxLen; omega, by simp, by simp [iM]⟩⟩
  exact World.alloc_heap_new w _
theorem emptyP (w : World) : RowP (w.alloc (.cells #[] 87)) w.heap.size (.slice (some ⟨w.heap.size, 0, none⟩) 0 0) [] [] := by
  refine ⟨rfl, by simp [flatP], .inr ⟨w.heap.size, 0, #[], rfl, Nat.le_refl _, ?_, Nat.le_refl _, by unfold maxLen; omega, by simp, by simp [flatP]⟩⟩
  exact World.alloc_heap_new w _
theorem grown_under (W w' : World) (o : Obj) {row : Option Nat} (h1 : w'.os = W.os) (h2 : w'.tape = W.tape) (h3 : w'.output = W.output) (h4 : (W.alloc o).heap.size ≤ w'.heap.size) (h5 : ∀ i, i < (W.alloc o).heap.size → some i ≠ row → w'.heap[i]? = (W.alloc o).heap[i]?) : W.grownBy w' row := by
  have hB := (Below.refl W.heap.size W).alloc (Nat.le_refl _) o
  exact ⟨h1, h2, h3, Nat.le_trans hB.size h4, fun i hi hne => (h5 i (Nat.lt_of_lt_of_le hi hB.size) hne).trans (hB.block i hi)⟩
theorem MarksAtz.split {w : World} {v : Value} {l : List Int} (h : MarksAtz w v l) : (l = [] ∧ ∃ cap, v = .slice none 0 cap) ∨ ∃ ad cap, v = .slice (some ad) l.length cap ∧ ∀ W, Below w.heap.size w W → ∀ j u, (iM l)[j]? = some u → W.cell? (ad.add j) = some u := by
  obtain ⟨_, ⟨rfl, a, cap, rfl⟩ | ⟨b, off, cap, rfl, hcap, hb, hc⟩⟩ := h
  · cases a with
    | none => exact .inl ⟨rfl, cap, rfl⟩
    | some ad => exact .inr ⟨ad, cap, rfl, fun W _ j u h => by simp [iM] at h⟩
  · exact .inr ⟨_, cap, rfl, fun W hW => newsM hb hc hW⟩
theorem OwnM.row {w : World} {base : Nat} {v : Value} {l : List Int} (h : OwnM w base v l) : ∃ a cap, v = .slice a l.length cap := by
  obtain ⟨_, ⟨hv, h0⟩ | ⟨g, cap, cur, rfl, _⟩⟩ := h
  · exact ⟨none, 0, by rw [hv, h0]⟩
  · exact ⟨_, cap, rfl⟩
set_option maxRecDepth 100000 in
set_option maxHeartbeats 4000000 in
theorem oldOf_any (n : Int) (v : Value) (ps : PiecesL) (w : World) (h : PiecesAtz w v ps) (hbig : ps.length * 32 ≤ 140737488351232) : Calls Tryz.prog 63 #[.agg #[.int .i64 n, v]] w (OldOfTo n ps w) := by
  obtain ⟨a, cap, rfl, hl, hp⟩ := h.placed
  have W2 : Below w.heap.size w (((w.alloc (.cells #[.int .i64 n, .slice a ps.length cap] 24)).alloc (.cells #[.int .i64 0, .slice none 0 0] 24)).alloc (.cells #[] 87)) := (((Below.refl _ w).alloc (Nat.le_refl _) _).alloc (by simp) _).alloc (by simp; omega) _
  have X := ((Two.new w (.int .i64 n) (.slice a ps.length cap) 24).alloc (.cells #[.int .i64 0, .slice none 0 0] 24)).alloc (.cells #[] 87)
  have R : Two (((w.alloc (.cells #[.int .i64 n, .slice a ps.length cap] 24)).alloc (.cells #[.int .i64 0, .slice none 0 0] 24)).alloc (.cells #[] 87)) (w.heap.size + 1) (.int .i64 0) (.slice none 0 0) 24 := by
    have := (Two.new (w.alloc (.cells #[.int .i64 n, .slice a ps.length cap] 24)) (.int .i64 0) (.slice none 0 0) 24).alloc (.cells #[] 87)
    simpa using this
  have E := emptyP ((w.alloc (.cells #[.int .i64 n, .slice a ps.length cap] 24)).alloc (.cells #[.int .i64 0, .slice none 0 0] 24))
  have hse : ((w.alloc (.cells #[.int .i64 n, .slice a ps.length cap] 24)).alloc (.cells #[.int .i64 0, .slice none 0 0] 24)).heap.size = w.heap.size + 1 + 1 := by simp
  rw [hse] at E
  have HX0 := Lib.hid X
  have HR0 := Lib.hid R
  have HB0 := Lib.hid W2
  have HE0 := Lib.hid E
  have HP := Lib.hid hp
  have HBIG := Lib.hid hbig
  clear h W2 X R E hse hp hbig
  go_enter Tryz.func63, Tryz.ntmps63
  go_wp2
  go_loopw [4, 5] (fun lv i wr => ∃ (k : Nat) (ms : List Value), k ≤ ps.length ∧ i = .int .i64 k ∧ Hid (shortF (ps.take k) = true) ∧ Hid (Two wr w.heap.size (.int .i64 n) (.slice a ps.length cap) 24) ∧ Hid (Two wr (w.heap.size + 1) (.int .i64 0) (.slice none 0 0) 24) ∧ Hid (RowP wr (w.heap.size + 2) lv (ps.take k) ms) ∧ Hid (MarksIn wr (ps.take k) ms (fun q => w.heap.size + 2 ≤ q ∧ some q ≠ lv.ownBlock ∧ q < wr.heap.size)) ∧ Hid (Below w.heap.size w wr) ∧ Hid (w.heap.size + 2 ≤ wr.heap.size)) (fun _ i _ => ps.length - (intOf i).toNat)
  case atStart => exact ⟨0, [], Nat.zero_le _, rfl, Lib.hid rfl, HX0, HR0, HE0, Lib.hid (fun i hi => by simp at hi), HB0, Lib.hid (by simp)⟩
  case round =>
    obtain ⟨k, ms, hk, rfl, HSH, HX, HR, HW, HM, HB, HS⟩ := hrel
    clear HX0 HR0 HB0 HE0
    have x0 := HX.out.c0
    have x1 := HX.out.c1
    by_cases hlt : k < ps.length
    · obtain ⟨b, off, rfl, hbb, c1, vm, c2, hm⟩ := HP.out k hlt
      have c1 := (HB.out.cell (p := ⟨b, _, none⟩) hbb).trans c1
      have c2 := (HB.out.cell (p := ⟨b, _, none⟩) hbb).trans c2
      have hsu := short_take_succ ps k hlt
      have hsn := short_not ps k hlt
      have htk : ps.take (k + 1) = ps.take k ++ [ps[k]?.getD (false, [])] := by rw [List.take_succ_eq_append_getElem hlt]; simp [hlt]
      obtain ⟨⟨pm, pl⟩, hel⟩ : ∃ t, ps[k]?.getD (false, []) = t := ⟨_, rfl⟩
      rw [hel] at c1 hm hsu hsn htk
      simp only at c1 hm hsu hsn
      have hmk := hm.below HB.out
      have HMK := Lib.hid hmk
      obtain ⟨am, cm, rfl, hpl, _⟩ := hm.placed
      have HSU := Lib.hid hsu
      have HSN := Lib.hid hsn
      have HTK := Lib.hid htk
      clear hm hsu hsn htk hel
      by_cases h10 : pl.length ≤ 10
      · have h10' : ¬ 10 < (pl.length : Int) := by omega
        have HUB : Hid (∀ q, u4.ownBlock = some q → w.heap.size + 2 ≤ q ∧ q < wr.heap.size) := Lib.hid HW.out.lt
        have HNR : Hid (u4.ownBlock = none ∨ u4.ownBlock ≠ some wr.heap.size) := Lib.hid (by cases hv : u4.ownBlock with | none => exact .inl rfl | some q => right; have := HUB.out q hv; intro e; have := Option.some.inj e; omega)
        have HNN : Hid (u4.ownBlock = none ∨ u4.ownBlock ≠ none) := Lib.hid (by cases hv : u4.ownBlock with | none => exact .inl rfl | some q => right; intro e; cases e)
        have HLP : Hid ((ps.take k).length = k) := Lib.hid (by rw [List.length_take]; omega)
        have EM := emptyM wr
        have EM' := emptyM wr.drew
        rcases hmk.split with ⟨rfl, cm', he⟩ | ⟨ad, cm', he, hnw⟩
        · obtain ⟨rfl, rfl⟩ : am = none ∧ cm = cm' := by injection he with e1 _ e2; exact ⟨e1, e2⟩
          have hbr : b < wr.heap.size := Nat.lt_of_lt_of_le hbb HB.out.size
          have hwr := HX.out.lt
          have x1a := (HX.out.alloc (.cells #[] 3)).c1
          have c1a := ((Below.refl _ wr).alloc (Nat.le_refl _) (.cells #[] 3)).cell (p := ⟨b, _, none⟩) hbr |>.trans c1
          have c2a := ((Below.refl _ wr).alloc (Nat.le_refl _) (.cells #[] 3)).cell (p := ⟨b, _, none⟩) hbr |>.trans c2
          clear he hmk
          have hst : ∀ w1 : World, (storeCells ⟨wr.heap.size, 0, none⟩ []).run Tryz.prog w1 = .ok () w1 := fun w1 => rfl
          have ho5 : OwnM (wr.alloc (.cells #[] 3)) wr.heap.size (.slice (some ⟨wr.heap.size, 0, none⟩) 0 0) [] := EM
          have hszw : (wr.alloc (.cells #[] 3)).heap.size = wr.heap.size + 1 := by simp
          have HSZW := Lib.hid hszw
          have n0w := (Two.new (wr.alloc (.cells #[] 3)) (.bool pm) (.slice (some ⟨wr.heap.size, 0, none⟩) 0 0) 87).c0
          have n1w := (Two.new (wr.alloc (.cells #[] 3)) (.bool pm) (.slice (some ⟨wr.heap.size, 0, none⟩) 0 0) 87).c1
          rw [hszw] at n0w n1w
          have N0W := Lib.hid n0w
          have N1W := Lib.hid n1w
          clear n0w n1w hszw
          have hg5' : wr.grownBy (wr.alloc (.cells #[] 3)) (some wr.heap.size) := World.grownBy_alloc wr _ _
          go_wp2_with fail
          go_region_held3 (fun W => W.cell? ⟨w.heap.size, 1, none⟩ = some (.slice (some ⟨b, off, none⟩) ps.length cap) ∧ W.cell? ⟨b, off + k * 2, none⟩ = some (.bool pm) ∧ W.cell? ⟨b, off + k * 2 + 1, none⟩ = some (.slice none 0 cm))
            (first | exact ⟨x1, c1, c2⟩ | exact ⟨x1a, c1a, c2a⟩ | exact ⟨x17, c17, c27⟩ | exact ⟨Lib.cell?_alloc_some _ x1a, Lib.cell?_alloc_some _ c1a, Lib.cell?_alloc_some _ c2a⟩ | (go_keep; done))
            (first
            | (refine step_appP (by rfl) _ _ (by rfl) (w.heap.size + 2) u4 (ps.take k) ms (by rfl) (by have h := (HW.out.kept hg5' (HNR.out)).kept (World.grownBy_alloc (wr.alloc (.cells #[] 3)) (.cells #[.bool pm, .slice (some ⟨wr.heap.size, 0, none⟩) 0 0] 87) none) (HNN.out); exact h) (wr.heap.size + 1) 1 pm (.slice (some ⟨wr.heap.size, 0, none⟩) 0 0) (by rfl) N0W.out N1W.out rfl (by have h1 := HLP.out; have h2 := HBIG.out; rw [h1]; omega) (by have h1 := hg5'.size; have h2 := HS.out; simp; omega) ?_; intro v7 w7 hrow7 hg7 hb7; have hg7' := grown_under (wr.alloc (.cells #[] 3)) w7 (.cells #[.bool pm, .slice (some ⟨wr.heap.size, 0, none⟩) 0 0] 87) hg7.os hg7.tape hg7.output hg7.size (fun i hi hne => hg7.block i hi hne); have x17 := hg7'.cell (a := ⟨w.heap.size, 1, none⟩) x1a (by intro e; have h := HUB.out w.heap.size e.symm; omega); have c17 := hg7'.cell (a := ⟨b, _, none⟩) c1a (by intro e; have h := HUB.out b e.symm; omega); have c27 := hg7'.cell (a := ⟨b, _, none⟩) c2a (by intro e; have h := HUB.out b e.symm; omega)))
          all_goals
            have hs := HS.out
            have hs5 := hg5'.size
            have hszw := HSZW.out
            have hub := HUB.out
            have hlt5 := ho5.lt
            have hs7 := hg7'.size
            have X7 := (HX.out.kept hg5' (fun e => by have h : w.heap.size = wr.heap.size := Option.some.inj e; omega)).kept hg7' (fun e => by have := hub _ e.symm; omega)
            have R7 := (HR.out.kept hg5' (fun e => by have h : w.heap.size + 1 = wr.heap.size := Option.some.inj e; omega)).kept hg7' (fun e => by have := hub _ e.symm; omega)
            have M7 := (HM.out.kept hg5' (fun q hq e => by have h : q = wr.heap.size := Option.some.inj e; omega)).kept hg7' (fun q hq => hq.2.1)
            have B5 := HB.out.grown hg5' HB.out.size (fun q hq => by have h : wr.heap.size = q := Option.some.inj hq; omega)
            have B7 := B5.grown hg7' B5.size (fun q hq => by have := hub q hq; omega)
            have hk5 := ho5.at (l := []) (by simp)
            have K7 := hk5.kept hg7' (by
              cases hv : (Value.slice (some ⟨wr.heap.size, 0, none⟩) 0 0).ownBlock with
              | none => exact .inl rfl
              | some q => right; have h1 := (hlt5 q hv).1; (try simp at h1); intro e; have := hub q e.symm; omega)
            have hrl7 := (hrow7 []).lt
            have hbl7 : ∀ q, v7.ownBlock = some q → q ≠ w.heap.size ∧ (some q = u4.ownBlock ∨ (wr.alloc (.cells #[] 3)).heap.size ≤ q) := fun q hq => ⟨by have := hrl7 q hq; omega, by
              rcases hb7 with h | h
              · left; rw [← h, hq]
              · right; rw [h] at hq; have := Option.some.inj hq; (try simp at this); omega⟩
            have M8 : MarksIn w7 (ps.take k ++ [(pm, [])]) (ms ++ [.slice (some ⟨wr.heap.size, 0, none⟩) 0 0]) (fun q => w.heap.size + 2 ≤ q ∧ some q ≠ v7.ownBlock ∧ q < w7.heap.size) :=
              (M7.mono (fun q hq => ⟨hq.1, fun e => by
                rcases (hbl7 q e.symm).2 with h | h
                · exact hq.2.1 h
                · have := hq.2.2; omega, by have := hq.2.2; omega⟩)).snoc HW.out.1 K7 (fun q hq => by
                  have h1 := hlt5 q hq
                  (try simp at h1)
                  refine ⟨by omega, fun e => ?_, by omega⟩
                  rcases (hbl7 q e.symm).2 with h | h
                  · have := hub q h.symm; omega
                  · omega)
            have HX7 := Lib.hid X7
            have HR7 := Lib.hid R7
            have HM8 := Lib.hid M8
            have HW8 := Lib.hid ((hrow7 []).low (Nat.le_refl _))
            have HB7 := Lib.hid B7
            rw [← HTK.out] at HM8 HW8
            have HSH2 : Hid (shortF (ps.take (k + 1)) = true) := Lib.hid (by rw [HSU.out, HSH.out]; simp)
            have HS7 : Hid (w.heap.size + 2 ≤ w7.heap.size) := Lib.hid (by omega)
            clear X7 R7 M7 M8 B5 B7 hk5 K7 hrl7 hbl7 hrow7 hg7 hg7' hg5' ho5 hlt5 hub EM EM' x1a c1a c2a x17 c17 c27
            go_wp2
            go_roundw
            case rel => exact ⟨k + 1, _, by omega, by go_num, HSH2, HX7, HR7, HW8, HM8, HB7, HS7⟩
            case measure => simp [intOf]; omega
        · obtain ⟨rfl, rfl⟩ : am = some ad ∧ cm = cm' := by injection he with e1 _ e2; exact ⟨e1, e2⟩
          have HNW := Lib.hid hnw
          have hbr : b < wr.heap.size := Nat.lt_of_lt_of_le hbb HB.out.size
          have hwr := HX.out.lt
          have x1a := (HX.out.alloc (.cells #[] 3)).c1
          have c1a := ((Below.refl _ wr).alloc (Nat.le_refl _) (.cells #[] 3)).cell (p := ⟨b, _, none⟩) hbr |>.trans c1
          have c2a := ((Below.refl _ wr).alloc (Nat.le_refl _) (.cells #[] 3)).cell (p := ⟨b, _, none⟩) hbr |>.trans c2
          clear he hnw hmk
          go_wp2_with fail
          go_region_held3 (fun W => W.cell? ⟨w.heap.size, 1, none⟩ = some (.slice (some ⟨b, off, none⟩) ps.length cap) ∧ W.cell? ⟨b, off + k * 2, none⟩ = some (.bool pm) ∧ W.cell? ⟨b, off + k * 2 + 1, none⟩ = some (.slice (some ad) pl.length cm))
            (first | exact ⟨x1, c1, c2⟩ | exact ⟨x1a, c1a, c2a⟩ | exact ⟨x17, c17, c27⟩ | exact ⟨Lib.cell?_alloc_some _ x15, Lib.cell?_alloc_some _ c15, Lib.cell?_alloc_some _ c25⟩ | exact ⟨x15, c15, c25⟩ | (go_keep; done))
            (first
            | (refine step_copyM (by rfl) _ _ (by rfl) wr.heap.size (.slice (some ⟨wr.heap.size, 0, none⟩) 0 0) (by rfl) (by first | exact EM | exact EM') ad pl cm (by rfl) (HNW.out _ (by first | exact (Below.refl _ _).alloc (Nat.le_refl _) _ | exact (Below.refl _ _).drew.alloc (Nat.le_refl _) _)) (by omega) (by simp) ?_; intro v5 w5 ho5 hg5; obtain ⟨a5, c5, rfl⟩ := ho5.row; have hg5' := grown_under wr w5 (.cells #[] 3) hg5.os hg5.tape hg5.output hg5.size (fun i hi hne => hg5.block i hi hne); have x15 := hg5.cell (a := ⟨w.heap.size, 1, none⟩) x1a (by intro e; have h : w.heap.size = wr.heap.size := Option.some.inj e; omega); have c15 := hg5.cell (a := ⟨b, _, none⟩) c1a (by intro e; have h : b = wr.heap.size := Option.some.inj e; omega); have c25 := hg5.cell (a := ⟨b, _, none⟩) c2a (by intro e; have h : b = wr.heap.size := Option.some.inj e; omega))
            | (refine step_appP (by rfl) _ _ (by rfl) (w.heap.size + 2) u4 (ps.take k) ms (by rfl) ((HW.out.kept hg5' (HNR.out)).kept (World.grownBy_alloc w5 (.cells #[.bool pm, .slice a5 pl.length c5] 87) none) (HNN.out)) w5.heap.size 1 pm (.slice a5 pl.length c5) (by rfl) (Two.new w5 (.bool pm) (.slice a5 pl.length c5) 87).c0 (Two.new w5 (.bool pm) (.slice a5 pl.length c5) 87).c1 rfl (by have h1 := HLP.out; have h2 := HBIG.out; rw [h1]; omega) (by have h1 := hg5'.size; have h2 := HS.out; simp; omega) ?_; intro v7 w7 hrow7 hg7 hb7; have hg7' := grown_under w5 w7 (.cells #[.bool pm, .slice a5 pl.length c5] 87) hg7.os hg7.tape hg7.output hg7.size (fun i hi hne => hg7.block i hi hne); have x17 := hg7'.cell (a := ⟨w.heap.size, 1, none⟩) x15 (by intro e; have h := HUB.out w.heap.size e.symm; omega); have c17 := hg7'.cell (a := ⟨b, _, none⟩) c15 (by intro e; have h := HUB.out b e.symm; omega); have c27 := hg7'.cell (a := ⟨b, _, none⟩) c25 (by intro e; have h := HUB.out b e.symm; omega)))
          all_goals
            have hs := HS.out
            have hs5 := hg5'.size
            have hub := HUB.out
            have hlt5 := ho5.lt
            have hs7 := hg7'.size
            have X7 := (HX.out.kept hg5' (fun e => by have h : w.heap.size = wr.heap.size := Option.some.inj e; omega)).kept hg7' (fun e => by have := hub _ e.symm; omega)
            have R7 := (HR.out.kept hg5' (fun e => by have h : w.heap.size + 1 = wr.heap.size := Option.some.inj e; omega)).kept hg7' (fun e => by have := hub _ e.symm; omega)
            have M7 := (HM.out.kept hg5' (fun q hq e => by have h : q = wr.heap.size := Option.some.inj e; omega)).kept hg7' (fun q hq => hq.2.1)
            have B5 := HB.out.grown hg5' HB.out.size (fun q hq => by have h : wr.heap.size = q := Option.some.inj hq; omega)
            have B7 := B5.grown hg7' B5.size (fun q hq => by have := hub q hq; omega)
            have hk5 := ho5.at (l := pl) (by omega)
            have K7 := hk5.kept hg7' (by
              cases hv : (Value.slice a5 pl.length c5).ownBlock with
              | none => exact .inl rfl
              | some q => right; have h1 := (hlt5 q hv).1; (try simp at h1); intro e; have := hub q e.symm; omega)
            have hrl7 := (hrow7 pl).lt
            have hbl7 : ∀ q, v7.ownBlock = some q → q ≠ w.heap.size ∧ (some q = u4.ownBlock ∨ w5.heap.size ≤ q) := fun q hq => ⟨by have := hrl7 q hq; omega, by
              rcases hb7 with h | h
              · left; rw [← h, hq]
              · right; rw [h] at hq; have := Option.some.inj hq; (try simp at this); omega⟩
            have M8 : MarksIn w7 (ps.take k ++ [(pm, pl)]) (ms ++ [.slice a5 pl.length c5]) (fun q => w.heap.size + 2 ≤ q ∧ some q ≠ v7.ownBlock ∧ q < w7.heap.size) :=
              (M7.mono (fun q hq => ⟨hq.1, fun e => by
                rcases (hbl7 q e.symm).2 with h | h
                · exact hq.2.1 h
                · have := hq.2.2; omega, by have := hq.2.2; omega⟩)).snoc HW.out.1 K7 (fun q hq => by
                  have h1 := hlt5 q hq
                  (try simp at h1)
                  refine ⟨by omega, fun e => ?_, by omega⟩
                  rcases (hbl7 q e.symm).2 with h | h
                  · have := hub q h.symm; omega
                  · omega)
            have HX7 := Lib.hid X7
            have HR7 := Lib.hid R7
            have HM8 := Lib.hid M8
            have HW8 := Lib.hid ((hrow7 pl).low (Nat.le_refl _))
            have HB7 := Lib.hid B7
            rw [← HTK.out] at HM8 HW8
            have HSH2 : Hid (shortF (ps.take (k + 1)) = true) := Lib.hid (by rw [HSU.out, HSH.out]; simp; omega)
            have HS7 : Hid (w.heap.size + 2 ≤ w7.heap.size) := Lib.hid (by omega)
            clear X7 R7 M7 M8 B5 B7 hk5 K7 hrl7 hbl7 hrow7 hg7 hg7' hg5 hg5' ho5 hlt5 hub EM EM' x1a c1a c2a x15 c15 c25 x17 c17 c27
            go_wp2
            go_roundw
            case rel => exact ⟨k + 1, _, by omega, by go_num, HSH2, HX7, HR7, HW8, HM8, HB7, HS7⟩
            case measure => simp [intOf]; omega
      · have h10' : 10 < (pl.length : Int) := by omega
        have HF : Hid (shortF ps = false) := Lib.hid (HSN.out (decide_eq_false h10))
        have r0 := HR.out.c0
        have r1 := HR.out.c1
        have f0 := HR.out.fr (i := 0)
        have f1 := HR.out.fr (i := 1)
        obtain ⟨e0, e1, e2, hg⟩ := two_after HR.out (.int .i64 n) (.slice (some ⟨b, off, none⟩) ps.length cap) rfl
        have X4 := (HR.out.set0 (.int .i64 n)).set1 (.slice (some ⟨b, off, none⟩) ps.length cap) rfl
        have d0 := X4.c0
        have d1 := X4.c1
        have HD0 := Lib.hid d0
        have HD1 := Lib.hid d1
        have HG := Lib.hid hg
        clear X4 hg e0 e1 e2 d0 d1
        go_wp2
        refine bodyPost_ret (v := .tuple #[.agg #[.int .i64 n, .slice (some ⟨b, off, none⟩) ps.length cap], .bool false]) ?_ rfl ?_
        · simp [results, Tryz.results63, go_sem, HD0.out, HD1.out]
        · exact ⟨HB.out.grown HG.out HB.out.size (fun q hq => by have h : w.heap.size + 1 = q := Option.some.inj hq; omega), .inl ⟨HF.out, _, _, _, rfl⟩⟩
    · have hke : k = ps.length := by omega
      subst hke
      have hw4 := HW.out
      have hm4 := HM.out
      have hsh := HSH.out
      rw [List.take_length] at hw4 hm4 hsh
      have HSHF := Lib.hid hsh
      obtain ⟨a4, c4, rfl, _⟩ := hw4.shape
      have hlt4 := hw4.lt
      have hs := HS.out
      have hg5 := grownBy_setCell wr ⟨w.heap.size, 1, none⟩ (.slice a4 ps.length c4)
      have X5 := HX.out.set1 (.slice a4 ps.length c4) rfl
      have R5 := HR.out.kept hg5 (fun e => by have h : w.heap.size + 1 = w.heap.size := Option.some.inj e; omega)
      have W5 := hw4.kept hg5 (by
        cases hv : (Value.slice a4 ps.length c4).ownBlock with
        | none => exact .inl rfl
        | some q => right; have := hlt4 q hv; intro e; have h : q = w.heap.size := Option.some.inj e; omega)
      have M5 := hm4.kept hg5 (fun q hq e => by have h : q = w.heap.size := Option.some.inj e; omega)
      have B5 := HB.out.setCell (p := ⟨w.heap.size, 1, none⟩) (Nat.le_refl _) (.slice a4 ps.length c4)
      have hg6 := (two_after R5 (.int .i64 n) (.slice a4 ps.length c4) rfl).2.2.2
      have X6 := (R5.set0 (.int .i64 n)).set1 (.slice a4 ps.length c4) rfl
      have W6 := W5.kept hg6 (by
        cases hv : (Value.slice a4 ps.length c4).ownBlock with
        | none => exact .inl rfl
        | some q => right; have := hlt4 q hv; intro e; have h : q = w.heap.size + 1 := Option.some.inj e; omega)
      have M6 := M5.kept hg6 (fun q hq e => by have h : q = w.heap.size + 1 := Option.some.inj e; omega)
      have B6 := B5.grown hg6 B5.size (fun q hq => by have h : w.heap.size + 1 = q := Option.some.inj hq; omega)
      have HX6 := Lib.hid X6
      have HW6 := Lib.hid W6
      have HM6 := Lib.hid M6
      have HB6 := Lib.hid B6
      have xf1 := HX.out.fr (i := 1)
      have y0 := X5.c0
      have y1 := X5.c1
      have r0 := R5.c0
      have r1 := R5.c1
      have f0 := R5.fr (i := 0)
      have f1 := R5.fr (i := 1)
      have hdec : ((ps.length : Int) ≤ 12) = (ps.length ≤ 12) := by apply propext; constructor <;> intro h <;> omega
      have HDEC := Lib.hid hdec
      clear hw4 hm4 hsh hlt4 hg5 X5 R5 W5 M5 B5 hg6 X6 W6 M6 B6 hdec
      go_wp2
      have d0 := HX6.out.c0
      have d1 := HX6.out.c1
      refine bodyPost_ret (v := .tuple #[.agg #[.int .i64 n, .slice a4 ps.length c4], .bool (decide ((ps.length : Int) ≤ 12))]) ?_ rfl ?_
      · simp [results, Tryz.results63, go_sem, d0, d1]
      · refine ⟨HB6.out, .inr ⟨HSHF.out, ms, _, ?_, HW6.out.low (by omega), HM6.out.mono (fun q hq => by omega)⟩⟩
        have : decide ((ps.length : Int) ≤ 12) = decide (ps.length ≤ 12) := by simp only [HDEC.out]
        rw [this]
end Go.Proofs.YtkjclafbpocabaaGreatDoor
