import Derived.Test.YtopnlcjbklmicaaK97
import Derived.Test.YtopnlcjbklmicaaL2
import Derived.Laws.AppendOwnNone
import Derived.BigRegion
import Derived.WalkKit
import Derived.WalkSpells
import Derived.WalkLawsBesides
import Derived.Deep.QuietTactic
import Derived.BigQuiet
import Derived.Lib.Hide
import Derived.WalkSmall
import Derived.Maps.OwnSet
import Derived.Maps.RangeWalk
import Derived.Deep.RegionWith
import Derived.Deep.RegionHeld3
import Derived.Deep.DrawnRows
import Derived.Deep.DeepCutAuto
import Derived.OneCell
import Derived.KernelRfl
import Derived.Laws.StructEq
import Derived.StillTailTactics
import Derived.Laws.Externs
import Derived.RangeFuncBox
import Derived.Outline
import Derived.RangeFuncNested
import Derived.RangeFuncBound
import Derived.RangeFuncCalls
import Derived.RangeFuncLeaves
import Derived.Shelf.RegionOpen
import Derived.OwnWalkIn
import Derived.TacticsInMore
import Derived.LoopNIn
import Derived.LoopIn
import Derived.Test.YtopnlcjbklmicaaProg
namespace Go.Proofs.Ytopnlcjbklmicaa
open Go.RowKit Go.Maps Go.Shelf
set_option linter.unusedVariables false
set_option linter.unusedSimpArgs false
/-- A nil book refuses. -/
def NilTo (w : World) (e : Ending) (w' : World) : Prop := e = .returned (.int .i64 1) ∧ Below w.heap.size w w'
theorem nil_carry (kind n : Int) (f : Value) (w : World) : Calls Try.prog 82 #[.pointer none, .int .i64 kind, .int .i64 n, f] w fun e w' => e = .returned (.int .i64 1) ∧ w' = w := by
  go_enter Try.func82, Try.ntmps82
  go_wp2
  go_ret
  exact ⟨rfl, rfl⟩
theorem nil_mould (kind n : Int) (w : World) : Calls Try.prog 44 #[.pointer none, .int .i64 kind, .int .i64 n] w (NilTo w) := by
  have HB := Lib.hid ((Below.refl _ w).alloc (Nat.le_refl _) (.cells #[.int .i64 n] 3))
  go_enter Try.func44, Try.ntmps44
  go_wp2_with fail
  refine (nil_carry _ _ _ _).mono ?_
  rintro e w2 ⟨rfl, rfl⟩
  go_wp2
  go_ret
  exact ⟨rfl, HB.out⟩
theorem nil_lay (kind n : Int) (w : World) : Calls Try.prog 48 #[.pointer none, .int .i64 kind, .int .i64 n] w (NilTo w) := by
  have HB := Lib.hid ((Below.refl _ w).alloc (Nat.le_refl _) (.cells #[.int .i64 n] 3))
  go_enter Try.func48, Try.ntmps48
  go_wp2_with fail
  refine (nil_carry _ _ _ _).mono ?_
  rintro e w2 ⟨rfl, rfl⟩
  go_wp2
  go_ret
  exact ⟨rfl, HB.out⟩
theorem nil_break (kind n : Int) (w : World) : Calls Try.prog 49 #[.pointer none, .int .i64 kind, .int .i64 n] w (NilTo w) := by
  have HB := Lib.hid ((Below.refl _ w).alloc (Nat.le_refl _) (.cells #[.int .i64 n] 3))
  go_enter Try.func49, Try.ntmps49
  go_wp2_with fail
  refine (nil_carry _ _ _ _).mono ?_
  rintro e w2 ⟨rfl, rfl⟩
  go_wp2
  go_ret
  exact ⟨rfl, HB.out⟩
theorem nil_replace (kind n : Int) (w : World) : Calls Try.prog 50 #[.pointer none, .int .i64 kind, .int .i64 n] w (NilTo w) := by
  have HB := Lib.hid ((Below.refl _ w).alloc (Nat.le_refl _) (.cells #[.int .i64 n] 3))
  go_enter Try.func50, Try.ntmps50
  go_wp2_with fail
  refine (nil_carry _ _ _ _).mono ?_
  rintro e w2 ⟨rfl, rfl⟩
  go_wp2
  go_ret
  exact ⟨rfl, HB.out⟩
theorem nil_count (kind : Int) (w : World) : Calls Try.prog 29 #[.pointer none, .int .i64 kind] w fun e w' => e = .returned (.tuple #[.agg St.zero.wares.toArray, .int .i64 1]) ∧ Below w.heap.size w w' := by
  have HB := Lib.hid ((Below.refl _ w).alloc (Nat.le_refl _) (.cells #[.int .i64 0, .int .i64 0, .int .i64 0, .int .i64 0, .int .i64 0, .int .i64 0, .int .i64 0] 63))
  have Z1 := Blk.new w #[.int .i64 0, .int .i64 0, .int .i64 0, .int .i64 0, .int .i64 0, .int .i64 0, .int .i64 0] 63
  have g0 := Z1.cell (i := 0) (v := .int .i64 0) rfl
  have g1 := Z1.cell (i := 1) (v := .int .i64 0) rfl
  have g2 := Z1.cell (i := 2) (v := .int .i64 0) rfl
  have g3 := Z1.cell (i := 3) (v := .int .i64 0) rfl
  have g4 := Z1.cell (i := 4) (v := .int .i64 0) rfl
  have g5 := Z1.cell (i := 5) (v := .int .i64 0) rfl
  have g6 := Z1.cell (i := 6) (v := .int .i64 0) rfl
  clear Z1
  go_enter Try.func29, Try.ntmps29
  go_wp2
  exact bodyPost_ret (v := .tuple #[.agg #[.int .i64 0, .int .i64 0, .int .i64 0, .int .i64 0, .int .i64 0, .int .i64 0, .int .i64 0], .int .i64 1]) (by simp [results, Try.results29, go_sem, g0, g1, g2, g3, g4, g5, g6]) rfl ⟨rfl, HB.out⟩
theorem nil_fire (v : Value) (w : World) : Calls Try.prog 46 #[.pointer none, v] w (NilTo w) := by
  go_enter Try.func46, Try.ntmps46
  go_wp2
  go_ret
  exact ⟨rfl, Below.refl _ _⟩
theorem nil_draw (v : Value) (w : World) : Calls Try.prog 47 #[.pointer none, v] w (NilTo w) := by
  go_enter Try.func47, Try.ntmps47
  go_wp2
  go_ret
  exact ⟨rfl, Below.refl _ _⟩
theorem nil_dry (kind n k : Int) (w : World) : Calls Try.prog 45 #[.pointer none, .int .i64 kind, .int .i64 n, .int .i64 k] w (NilTo w) := by
  have HB := Lib.hid (((Below.refl _ w).alloc (Nat.le_refl _) (.cells #[.int .i64 n] 3)).alloc (by simp) (.cells #[.int .i64 k] 3))
  go_enter Try.func45, Try.ntmps45
  go_wp2_with fail
  refine (nil_carry _ _ _ _).mono ?_
  rintro e w2 ⟨rfl, rfl⟩
  go_wp2
  go_ret
  exact ⟨rfl, HB.out⟩
/-- A copy of ints. -/
theorem wpList_copyInt {ops : Array Oper} {rest : List Oper} {o : Oper} {a : Act} {W : World} {Q : Exit → Act → World → Prop} (hgd : o.guard = none) (s x : Operand)
    (ho : o.op = .call { callee := .builtin .append, args := #[s, x], argTypes := #[46, 46] }) (base b : Nat) (hs : a.eval s = .slice (some ⟨b, 0, none⟩) 0 0) (hown : IntsR W base (.slice (some ⟨b, 0, none⟩) 0 0) [])
    (l : List Int) (v : Value) (hx : a.eval x = v) (hsrc : SrcI W v l) (hl : l.length ≤ 1000) (hbase : base ≤ W.heap.size)
    (h : ∀ v' W', IntsR W' base v' l → W.grownBy W' (some b) → wpList Try.prog ops Q rest (a.put o.dst v') W') : wpList Try.prog ops Q (o :: rest) a W := by
  obtain ⟨i0, hi, hz0, hz1, hz2⟩ := info_parts infoInt
  have hgen : ∀ ad c, v = .slice (some ad) l.length c → (∀ j u, (iM l)[j]? = some u → W.cell? (ad.add j) = some u) → wpList Try.prog ops Q (o :: rest) a W := fun ad c hv hn =>
    wpList_append_own_at W hgd s x 46 ho base 3 i0 (.int .i64 0) 1 8 undInts hi hz0 hz1 hz2 rfl (by decide) (.slice (some ⟨b, 0, none⟩) 0 0) 0 [] hs hown ad l.length c (iM l) (by rw [hx, hv]) (by simp [iM]) hn (fun u hu => by obtain ⟨x, _, rfl⟩ := List.mem_map.1 hu; rfl) (by unfold maxLen; omega) (by omega) hbase
      (fun v' W' h1 h2 _ h4 => by rw [Nat.zero_add, List.nil_append] at h1; exact h v' W' h1 h2)
  obtain ⟨h0, ⟨rfl, rfl⟩ | ⟨ad, c, rfl, rfl⟩ | ⟨b', off, c, rfl, hc, hb, hC⟩⟩ := hsrc
  · exact wpList_append_own_none hgd s x 46 ho base 3 i0 1 undInts hi (.slice (some ⟨b, 0, none⟩) 0 0) 0 [] hs hown hx (h _ _ hown ⟨rfl, rfl, rfl, Nat.le_refl _, fun _ _ _ => rfl⟩)
  · exact hgen ad c rfl (fun j u hj => by simp [iM] at hj)
  · refine hgen _ c rfl fun j u hj => ?_
    have hlt : j < l.length := by simpa [iM] using (List.getElem?_eq_some_iff.1 hj).1
    rw [addr_addT, hC j hlt, ← hj]
    simp [iM, hlt]
/-- A copy of batches. -/
theorem wpList_copyB {ops : Array Oper} {rest : List Oper} {o : Oper} {a : Act} {W : World} {Q : Exit → Act → World → Prop} (hgd : o.guard = none) (s x : Operand)
    (ho : o.op = .call { callee := .builtin .append, args := #[s, x], argTypes := #[48, 48] }) (base b : Nat) (hs : a.eval s = .slice (some ⟨b, 0, none⟩) 0 0) (hown : InsAt W base (.slice (some ⟨b, 0, none⟩) 0 0) [])
    (l : BatL) (v : Value) (hx : a.eval x = v) (hsrc : SrcAt W v l) (hl : l.length ≤ 1000) (hbase : base ≤ W.heap.size)
    (h : ∀ v' W', InsAt W' base v' l → W.grownBy W' (some b) → wpList Try.prog ops Q rest (a.put o.dst v') W') : wpList Try.prog ops Q (o :: rest) a W := by
  obtain ⟨i0, hi, hz0, hz1, hz2⟩ := info_parts infoBatch
  rcases hsrc with ⟨rfl, rfl⟩ | ⟨ad, c, rfl, hn⟩
  · exact wpList_append_own_none hgd s x 48 ho base 111 i0 2 undBatches hi (.slice (some ⟨b, 0, none⟩) 0 0) 0 [] hs hown hx (h _ _ hown ⟨rfl, rfl, rfl, Nat.le_refl _, fun _ _ _ => rfl⟩)
  · exact wpList_append_own_at W hgd s x 48 ho base 111 i0 (.agg #[.int .i64 0, .int .i64 0]) 2 16 undBatches hi hz0 hz1 hz2 rfl (by decide) (.slice (some ⟨b, 0, none⟩) 0 0) 0 [] hs hown ad l.length c (flatQ l) hx (flatQ_len l) (fun j u hj => (hn j u hj).2) (flatQ_one l) (by unfold maxLen; omega) (by omega) hbase
      (fun v' W' h1 h2 _ h4 => by rw [Nat.zero_add, List.nil_append] at h1; exact h v' W' h1 h2)
theorem BookTo2.of_below {w W w' : World} {bb base : Nat} {r : Int × List St × BatL} {room : Int} {e : Ending} (hb : Below w.heap.size w W) (h : BookTo2 W bb base r room e w') : BookTo2 w bb base r room e w' := by
  obtain ⟨h1, h2, q, h3, h4, h5⟩ := h
  exact ⟨h1, h2, q, h3, fun o ho => h4 o ((hb.block q (Array.getElem?_eq_some_iff.1 ho).1).trans ho), ⟨h5.os.trans hb.os, h5.tape.trans hb.tape, h5.output.trans hb.output, Nat.le_trans hb.size h5.size, fun j hj e1 e2 => (h5.block j (Nat.lt_of_lt_of_le hj hb.size) e1 e2).trans (hb.block j hj)⟩⟩
theorem BookTo.two {w w' : World} {bb base : Nat} {er : Int} {l : List St} {L : BatL} {room : Int} {iv : Value} {e : Ending} (h : BookTo w bb base (er, l) room iv e w') (hi : InsAt w base iv L) : BookTo2 w bb base (er, l, L) room e w' := by
  have hr := h.row hi (by decide)
  obtain ⟨h1, h2, q, h3, h4, h5⟩ := h
  exact ⟨h1, ⟨iv, h2, hr⟩, q, h3, h4, ⟨h5.os, h5.tape, h5.output, h5.size, fun j hj e1 e2 => h5.block j hj e2 e2⟩⟩
/-- What a call does. -/
def stepF (room : Int) (l : List St) (L : BatL) (m k n b : Int) (bs : BatL) (br : List Int) : Int × List St × BatL :=
  if m = 1 then ((coF l k n (mouldF n)).1, (coF l k n (mouldF n)).2, L) else if m = 2 then ((coF l k n (dryF n b)).1, (coF l k n (dryF n b)).2, L) else if m = 3 then fireF room l L bs else if m = 4 then drawF l L br
  else if m = 5 then ((coF l k n (layF n)).1, (coF l k n (layF n)).2, L) else if m = 6 then ((coF l k n (breakF n)).1, (coF l k n (breakF n)).2, L) else ((coF l k n (replaceF n)).1, (coF l k n (replaceF n)).2, L)
set_option maxRecDepth 100000 in
set_option maxHeartbeats 4000000 in
theorem do_nil (m k n b : Int) (vb vl : Value) (bs : BatL) (br : List Int) (w : World) (hsb : SrcAt w vb bs) (hsl : SrcI w vl br) (hbs : bs.length ≤ 1000) (hbr : br.length ≤ 1000) :
    Calls Try.prog 28 #[.pointer none, .agg #[.int .i64 m, .int .i64 k, .int .i64 n, .int .i64 b, vb, vl]] w (NilTo w) := by
  obtain ⟨xb, hxb⟩ : ∃ x, w.heap.size = x := ⟨_, rfl⟩
  obtain ⟨pb, cb, rfl⟩ : ∃ a c, vb = .slice a bs.length c := by
    rcases hsb with ⟨rfl, rfl⟩ | ⟨ad, c, rfl, _⟩
    · exact ⟨_, _, rfl⟩
    · exact ⟨_, _, rfl⟩
  obtain ⟨pl, cl, rfl⟩ := hsl.shape
  have hb1 : Below w.heap.size w (w.alloc (.cells #[.int .i64 m, .int .i64 k, .int .i64 n, .int .i64 b, .slice pb bs.length cb, .slice pl br.length cl] 50)) := (Below.refl _ _).alloc (Nat.le_refl _) _
  have X := Blk.newI w xb #[.int .i64 m, .int .i64 k, .int .i64 n, .int .i64 b, .slice pb bs.length cb, .slice pl br.length cl] 50 hxb
  have HSB := Lib.hid (hsb.past hb1)
  have HSI := Lib.hid (hsl.past hb1)
  have HB1 := Lib.hid hb1
  have HXX := Lib.hid X
  obtain ⟨w1, hw1⟩ : ∃ Z, w.alloc (.cells #[.int .i64 m, .int .i64 k, .int .i64 n, .int .i64 b, .slice pb bs.length cb, .slice pl br.length cl] 50) = Z := ⟨_, rfl⟩
  rw [hw1] at X HXX HSB HSI HB1
  have x0 := X.cell (i := 0) (v := .int .i64 m) rfl
  have x1 := X.cell (i := 1) (v := .int .i64 k) rfl
  have x2 := X.cell (i := 2) (v := .int .i64 n) rfl
  have x3 := X.cell (i := 3) (v := .int .i64 b) rfl
  have x4 := X.cell (i := 4) (v := .slice pb bs.length cb) rfl
  have x5 := X.cell (i := 5) (v := .slice pl br.length cl) rfl
  clear X hb1 hsb hsl
  go_enter Try.func28, Try.ntmps28
  by_cases h1 : m = 1
  · subst h1
    have HM := Lib.hid (nil_mould k n w1)
    go_wp2_with fail
    refine HM.out.mono ?_
    rintro e W2 ⟨rfl, hb2⟩
    have HF := Lib.hid (HB1.out.trans (hb2.mono HB1.out.size))
    clear hb2 HM
    go_wp2
    go_ret
    exact ⟨rfl, HF.out⟩
  by_cases h2 : m = 2
  · subst h2
    have HM := Lib.hid (nil_dry k n b w1)
    go_wp2_with fail
    refine HM.out.mono ?_
    rintro e W2 ⟨rfl, hb2⟩
    have HF := Lib.hid (HB1.out.trans (hb2.mono HB1.out.size))
    clear hb2 HM
    go_wp2
    go_ret
    exact ⟨rfl, HF.out⟩
  by_cases h3 : m = 3
  · subst h3
    obtain ⟨eb, heb⟩ : ∃ x, w1.heap.size = x := ⟨_, rfl⟩
    have hb2 : Below w1.heap.size w1 (w1.alloc (.cells #[] 111)) := (Below.refl _ _).alloc (Nat.le_refl _) _
    have HE : Hid (InsAt (w1.alloc (.cells #[] 111)) eb (.slice (some ⟨eb, 0, none⟩) 0 0) []) := Lib.hid (by subst heb; exact World.ownsRow_lit (base := w1.heap.size) (e := 111) (size := 2) w1 #[] 0 (Nat.le_refl _) (by simp) (by simp))
    have HS2 := Lib.hid (HSB.out.past hb2)
    have HB12 := Lib.hid hb2
    have hx9 := HXX.out.past hb2
    obtain ⟨w2, hw2⟩ : ∃ Z, w1.alloc (.cells #[] 111) = Z := ⟨_, rfl⟩
    have hsz2 : w2.heap.size = eb + 1 := by rw [← hw2]; simp [heb]
    have HSZ2 := Lib.hid hsz2
    have HEB := Lib.hid heb
    rw [hw2] at HE HS2 HB12 hx9
    have x9 := hx9.cell (i := 4) (v := .slice pb bs.length cb) rfl
    clear hx9
    clear hb2 hsz2
    go_wp2_with (first | (at_builtin; refine stopHere ?_))
    intro _
    try rw [hw2]
    clear hw2 heb
    refine wpList_copyB rfl _ _ rfl eb eb rfl HE.out bs _ rfl HS2.out hbs (by have := HSZ2.out; omega) ?_
    intro v3 w3 hown hgrow
    have hb13 : Below w1.heap.size w1 w3 := HB12.out.grown hgrow HB12.out.size (by intro j hj; cases hj; exact Nat.le_of_eq HEB.out)
    have HB3 := Lib.hid (HB1.out.trans (hb13.mono HB1.out.size))
    obtain ⟨p3, c3, rfl⟩ := own_shape2 hown
    have HM := Lib.hid (nil_fire (.slice p3 bs.length c3) w3)
    clear hown hgrow hb13
    go_wp2_with fail
    refine HM.out.mono ?_
    rintro e W2 ⟨rfl, hb4⟩
    have HF := Lib.hid (HB3.out.trans (hb4.mono HB3.out.size))
    clear hb4 HM
    go_wp2
    go_ret
    exact ⟨rfl, HF.out⟩
  by_cases h4 : m = 4
  · subst h4
    obtain ⟨eb, heb⟩ : ∃ x, w1.heap.size = x := ⟨_, rfl⟩
    have hb2 : Below w1.heap.size w1 (w1.alloc (.cells #[] 3)) := (Below.refl _ _).alloc (Nat.le_refl _) _
    have HE : Hid (IntsR (w1.alloc (.cells #[] 3)) eb (.slice (some ⟨eb, 0, none⟩) 0 0) []) := Lib.hid (by subst heb; exact World.ownsRow_lit (base := w1.heap.size) (e := 3) (size := 1) w1 #[] 0 (Nat.le_refl _) (by simp) (by simp))
    have HS2 := Lib.hid (HSI.out.past hb2)
    have HB12 := Lib.hid hb2
    have hx9 := HXX.out.past hb2
    obtain ⟨w2, hw2⟩ : ∃ Z, w1.alloc (.cells #[] 3) = Z := ⟨_, rfl⟩
    have hsz2 : w2.heap.size = eb + 1 := by rw [← hw2]; simp [heb]
    have HSZ2 := Lib.hid hsz2
    have HEB := Lib.hid heb
    rw [hw2] at HE HS2 HB12 hx9
    have x9 := hx9.cell (i := 5) (v := .slice pl br.length cl) rfl
    clear hx9
    clear hb2 hsz2
    go_wp2_with (first | (at_builtin; refine stopHere ?_))
    intro _
    try rw [hw2]
    clear hw2 heb
    refine wpList_copyInt rfl _ _ rfl eb eb rfl HE.out br _ rfl HS2.out hbr (by have := HSZ2.out; omega) ?_
    intro v3 w3 hown hgrow
    have hb13 : Below w1.heap.size w1 w3 := HB12.out.grown hgrow HB12.out.size (by intro j hj; cases hj; exact Nat.le_of_eq HEB.out)
    have HB3 := Lib.hid (HB1.out.trans (hb13.mono HB1.out.size))
    obtain ⟨p3, c3, rfl⟩ := hown.shape
    have HM := Lib.hid (nil_draw (.slice p3 br.length c3) w3)
    clear hown hgrow hb13
    go_wp2_with fail
    refine HM.out.mono ?_
    rintro e W2 ⟨rfl, hb4⟩
    have HF := Lib.hid (HB3.out.trans (hb4.mono HB3.out.size))
    clear hb4 HM
    go_wp2
    go_ret
    exact ⟨rfl, HF.out⟩
  by_cases h5 : m = 5
  · subst h5
    have HM := Lib.hid (nil_lay k n w1)
    go_wp2_with fail
    refine HM.out.mono ?_
    rintro e W2 ⟨rfl, hb2⟩
    have HF := Lib.hid (HB1.out.trans (hb2.mono HB1.out.size))
    clear hb2 HM
    go_wp2
    go_ret
    exact ⟨rfl, HF.out⟩
  by_cases h6 : m = 6
  · subst h6
    have HM := Lib.hid (nil_break k n w1)
    go_wp2_with fail
    refine HM.out.mono ?_
    rintro e W2 ⟨rfl, hb2⟩
    have HF := Lib.hid (HB1.out.trans (hb2.mono HB1.out.size))
    clear hb2 HM
    go_wp2
    go_ret
    exact ⟨rfl, HF.out⟩
  · have e1 : (m == 1) = false := by simpa using h1
    have e2 : (m == 2) = false := by simpa using h2
    have e3 : (m == 3) = false := by simpa using h3
    have e4 : (m == 4) = false := by simpa using h4
    have e5 : (m == 5) = false := by simpa using h5
    have e6 : (m == 6) = false := by simpa using h6
    have HM := Lib.hid (nil_replace k n w1)
    go_wp2_with fail
    refine HM.out.mono ?_
    rintro e W2 ⟨rfl, hb2⟩
    have HF := Lib.hid (HB1.out.trans (hb2.mono HB1.out.size))
    clear hb2 HM
    go_wp2
    go_ret
    exact ⟨rfl, HF.out⟩
set_option maxRecDepth 100000 in
set_option maxHeartbeats 4000000 in
theorem do_any (bb base : Nat) (l : List St) (room : Int) (iv : Value) (L : BatL) (m k n b : Int) (vb vl : Value) (bs : BatL) (br : List Int) (w : World) (hsb : SrcAt w vb bs) (hsl : SrcI w vl br) (hbs : bs.length ≤ 1000) (hbr : br.length ≤ 1000)
    (hbk : BookAt w bb base l room iv) (hin : InsAt w base iv L) (hbase : base ≤ w.heap.size) (hLl : L.length ≤ 1000000) (hl : l.length ≤ 1000000) (hl0 : 0 < l.length) (hinv : BInv l L) :
    Calls Try.prog 28 #[.pointer (some ⟨bb, 0, none⟩), .agg #[.int .i64 m, .int .i64 k, .int .i64 n, .int .i64 b, vb, vl]] w (BookTo2 w bb base (stepF room l L m k n b bs br) room) := by
  obtain ⟨xb, hxb⟩ : ∃ x, w.heap.size = x := ⟨_, rfl⟩
  obtain ⟨pb, cb, rfl⟩ : ∃ a c, vb = .slice a bs.length c := by
    rcases hsb with ⟨rfl, rfl⟩ | ⟨ad, c, rfl, _⟩
    · exact ⟨_, _, rfl⟩
    · exact ⟨_, _, rfl⟩
  obtain ⟨pl, cl, rfl⟩ := hsl.shape
  have hb1 : Below w.heap.size w (w.alloc (.cells #[.int .i64 m, .int .i64 k, .int .i64 n, .int .i64 b, .slice pb bs.length cb, .slice pl br.length cl] 50)) := (Below.refl _ _).alloc (Nat.le_refl _) _
  have X := Blk.newI w xb #[.int .i64 m, .int .i64 k, .int .i64 n, .int .i64 b, .slice pb bs.length cb, .slice pl br.length cl] 50 hxb
  have HSB := Lib.hid (hsb.past hb1)
  have HSI := Lib.hid (hsl.past hb1)
  have HB1 := Lib.hid hb1
  have HXX := Lib.hid X
  have HBK := Lib.hid (hbk.past hb1)
  have HIN := Lib.hid (hin.past hb1)
  have HBS := Lib.hid (Nat.le_trans hbase hb1.size)
  have HINV := Lib.hid hinv
  obtain ⟨w1, hw1⟩ : ∃ Z, w.alloc (.cells #[.int .i64 m, .int .i64 k, .int .i64 n, .int .i64 b, .slice pb bs.length cb, .slice pl br.length cl] 50) = Z := ⟨_, rfl⟩
  rw [hw1] at X HXX HSB HSI HB1 HBK HIN HBS
  have x0 := X.cell (i := 0) (v := .int .i64 m) rfl
  have x1 := X.cell (i := 1) (v := .int .i64 k) rfl
  have x2 := X.cell (i := 2) (v := .int .i64 n) rfl
  have x3 := X.cell (i := 3) (v := .int .i64 b) rfl
  have x4 := X.cell (i := 4) (v := .slice pb bs.length cb) rfl
  have x5 := X.cell (i := 5) (v := .slice pl br.length cl) rfl
  clear X hb1 hsb hsl hbk hin hinv
  go_enter Try.func28, Try.ntmps28
  by_cases h1 : m = 1
  · subst h1
    have HM := Lib.hid (mould_any bb base l room iv k n w1 HBK.out HBS.out hl HINV.out.ok)
    go_wp2_with fail
    refine HM.out.mono ?_
    intro e W2 hT
    obtain ⟨er, l2, hco⟩ : ∃ er l2, coF l k n (mouldF n) = (er, l2) := ⟨_, _, rfl⟩
    rw [hco] at hT
    obtain rfl : e = .returned (.int .i64 er) := hT.1
    have HF := Lib.hid (BookTo2.of_below HB1.out (hT.two HIN.out))
    have HV : Hid (stepF room l L 1 k n b bs br = (er, l2, L)) := Lib.hid (by unfold stepF; rw [if_pos rfl, hco])
    clear hT hco HM
    go_wp2
    go_ret
    rw [HV.out]
    exact HF.out
  by_cases h2 : m = 2
  · subst h2
    have HM := Lib.hid (dry_any bb base l room iv k n b w1 HBK.out HBS.out hl HINV.out.ok)
    go_wp2_with fail
    refine HM.out.mono ?_
    intro e W2 hT
    obtain ⟨er, l2, hco⟩ : ∃ er l2, coF l k n (dryF n b) = (er, l2) := ⟨_, _, rfl⟩
    rw [hco] at hT
    obtain rfl : e = .returned (.int .i64 er) := hT.1
    have HF := Lib.hid (BookTo2.of_below HB1.out (hT.two HIN.out))
    have HV : Hid (stepF room l L 2 k n b bs br = (er, l2, L)) := Lib.hid (by unfold stepF; rw [if_neg (by decide), if_pos rfl, hco])
    clear hT hco HM
    go_wp2
    go_ret
    rw [HV.out]
    exact HF.out
  by_cases h3 : m = 3
  · subst h3
    obtain ⟨eb, heb⟩ : ∃ x, w1.heap.size = x := ⟨_, rfl⟩
    have hb2 : Below w1.heap.size w1 (w1.alloc (.cells #[] 111)) := (Below.refl _ _).alloc (Nat.le_refl _) _
    have HE : Hid (InsAt (w1.alloc (.cells #[] 111)) eb (.slice (some ⟨eb, 0, none⟩) 0 0) []) := Lib.hid (by subst heb; exact World.ownsRow_lit (base := w1.heap.size) (e := 111) (size := 2) w1 #[] 0 (Nat.le_refl _) (by simp) (by simp))
    have HS2 := Lib.hid (HSB.out.past hb2)
    have HB12 := Lib.hid hb2
    have hx9 := HXX.out.past hb2
    obtain ⟨w2, hw2⟩ : ∃ Z, w1.alloc (.cells #[] 111) = Z := ⟨_, rfl⟩
    have hsz2 : w2.heap.size = eb + 1 := by rw [← hw2]; simp [heb]
    have HSZ2 := Lib.hid hsz2
    have HEB := Lib.hid heb
    rw [hw2] at HE HS2 HB12 hx9
    have x9 := hx9.cell (i := 4) (v := .slice pb bs.length cb) rfl
    clear hx9
    clear hb2 hsz2
    go_wp2_with (first | (at_builtin; refine stopHere ?_))
    intro _
    try rw [hw2]
    clear hw2 heb
    refine wpList_copyB rfl _ _ rfl eb eb rfl HE.out bs _ rfl HS2.out hbs (by have := HSZ2.out; omega) ?_
    intro v3 w3 hown hgrow
    have hb13 : Below w1.heap.size w1 w3 := HB12.out.grown hgrow HB12.out.size (by intro j hj; cases hj; exact Nat.le_of_eq HEB.out)
    have HB3 := Lib.hid (HB1.out.trans (hb13.mono HB1.out.size))
    obtain ⟨p3, c3, rfl⟩ := own_shape2 hown
    have HM := Lib.hid (fire_any bb base l room iv L _ bs w3 (HBK.out.past hb13) (HIN.out.past hb13) (Nat.le_trans HBS.out hb13.size) (own_pairs hown (by omega)) hl hl0 HINV.out)
    clear hown hgrow hb13
    go_wp2_with fail
    refine HM.out.mono ?_
    intro e W2 hT
    obtain ⟨er, l2, L2, hco⟩ : ∃ er l2 L2, fireF room l L bs = (er, l2, L2) := ⟨_, _, _, rfl⟩
    rw [hco] at hT
    obtain rfl : e = .returned (.int .i64 er) := hT.1
    have HF := Lib.hid (BookTo2.of_below HB3.out hT)
    have HV : Hid (stepF room l L 3 k n b bs br = (er, l2, L2)) := Lib.hid (by unfold stepF; rw [if_neg (by decide), if_neg (by decide), if_pos rfl, hco])
    clear hT hco HM
    go_wp2
    go_ret
    rw [HV.out]
    exact HF.out
  by_cases h4 : m = 4
  · subst h4
    obtain ⟨eb, heb⟩ : ∃ x, w1.heap.size = x := ⟨_, rfl⟩
    have hb2 : Below w1.heap.size w1 (w1.alloc (.cells #[] 3)) := (Below.refl _ _).alloc (Nat.le_refl _) _
    have HE : Hid (IntsR (w1.alloc (.cells #[] 3)) eb (.slice (some ⟨eb, 0, none⟩) 0 0) []) := Lib.hid (by subst heb; exact World.ownsRow_lit (base := w1.heap.size) (e := 3) (size := 1) w1 #[] 0 (Nat.le_refl _) (by simp) (by simp))
    have HS2 := Lib.hid (HSI.out.past hb2)
    have HB12 := Lib.hid hb2
    have hx9 := HXX.out.past hb2
    obtain ⟨w2, hw2⟩ : ∃ Z, w1.alloc (.cells #[] 3) = Z := ⟨_, rfl⟩
    have hsz2 : w2.heap.size = eb + 1 := by rw [← hw2]; simp [heb]
    have HSZ2 := Lib.hid hsz2
    have HEB := Lib.hid heb
    rw [hw2] at HE HS2 HB12 hx9
    have x9 := hx9.cell (i := 5) (v := .slice pl br.length cl) rfl
    clear hx9
    clear hb2 hsz2
    go_wp2_with (first | (at_builtin; refine stopHere ?_))
    intro _
    try rw [hw2]
    clear hw2 heb
    refine wpList_copyInt rfl _ _ rfl eb eb rfl HE.out br _ rfl HS2.out hbr (by have := HSZ2.out; omega) ?_
    intro v3 w3 hown hgrow
    have hb13 : Below w1.heap.size w1 w3 := HB12.out.grown hgrow HB12.out.size (by intro j hj; cases hj; exact Nat.le_of_eq HEB.out)
    have HB3 := Lib.hid (HB1.out.trans (hb13.mono HB1.out.size))
    obtain ⟨p3, c3, rfl⟩ := hown.shape
    have HM := Lib.hid (draw_any bb base eb l room iv L _ br w3 (HBK.out.past hb13) (HIN.out.past hb13) (Nat.le_trans HBS.out hb13.size) hown (by omega) hLl hl hl0 HINV.out)
    clear hown hgrow hb13
    go_wp2_with fail
    refine HM.out.mono ?_
    intro e W2 hT
    obtain ⟨er, l2, L2, hco⟩ : ∃ er l2 L2, drawF l L br = (er, l2, L2) := ⟨_, _, _, rfl⟩
    rw [hco] at hT
    obtain rfl : e = .returned (.int .i64 er) := hT.1
    have HF := Lib.hid (BookTo2.of_below HB3.out hT)
    have HV : Hid (stepF room l L 4 k n b bs br = (er, l2, L2)) := Lib.hid (by unfold stepF; rw [if_neg (by decide), if_neg (by decide), if_neg (by decide), if_pos rfl, hco])
    clear hT hco HM
    go_wp2
    go_ret
    rw [HV.out]
    exact HF.out
  by_cases h5 : m = 5
  · subst h5
    have HM := Lib.hid (lay_any bb base l room iv k n w1 HBK.out HBS.out hl HINV.out.ok)
    go_wp2_with fail
    refine HM.out.mono ?_
    intro e W2 hT
    obtain ⟨er, l2, hco⟩ : ∃ er l2, coF l k n (layF n) = (er, l2) := ⟨_, _, rfl⟩
    rw [hco] at hT
    obtain rfl : e = .returned (.int .i64 er) := hT.1
    have HF := Lib.hid (BookTo2.of_below HB1.out (hT.two HIN.out))
    have HV : Hid (stepF room l L 5 k n b bs br = (er, l2, L)) := Lib.hid (by unfold stepF; rw [if_neg (by decide), if_neg (by decide), if_neg (by decide), if_neg (by decide), if_pos rfl, hco])
    clear hT hco HM
    go_wp2
    go_ret
    rw [HV.out]
    exact HF.out
  by_cases h6 : m = 6
  · subst h6
    have HM := Lib.hid (break_any bb base l room iv k n w1 HBK.out HBS.out hl HINV.out.ok)
    go_wp2_with fail
    refine HM.out.mono ?_
    intro e W2 hT
    obtain ⟨er, l2, hco⟩ : ∃ er l2, coF l k n (breakF n) = (er, l2) := ⟨_, _, rfl⟩
    rw [hco] at hT
    obtain rfl : e = .returned (.int .i64 er) := hT.1
    have HF := Lib.hid (BookTo2.of_below HB1.out (hT.two HIN.out))
    have HV : Hid (stepF room l L 6 k n b bs br = (er, l2, L)) := Lib.hid (by unfold stepF; rw [if_neg (by decide), if_neg (by decide), if_neg (by decide), if_neg (by decide), if_neg (by decide), if_pos rfl, hco])
    clear hT hco HM
    go_wp2
    go_ret
    rw [HV.out]
    exact HF.out
  · have e1 : (m == 1) = false := by simpa using h1
    have e2 : (m == 2) = false := by simpa using h2
    have e3 : (m == 3) = false := by simpa using h3
    have e4 : (m == 4) = false := by simpa using h4
    have e5 : (m == 5) = false := by simpa using h5
    have e6 : (m == 6) = false := by simpa using h6
    have HM := Lib.hid (replace_any bb base l room iv k n w1 HBK.out HBS.out hl HINV.out.ok)
    go_wp2_with fail
    refine HM.out.mono ?_
    intro e W2 hT
    obtain ⟨er, l2, hco⟩ : ∃ er l2, coF l k n (replaceF n) = (er, l2) := ⟨_, _, rfl⟩
    rw [hco] at hT
    obtain rfl : e = .returned (.int .i64 er) := hT.1
    have HF := Lib.hid (BookTo2.of_below HB1.out (hT.two HIN.out))
    have HV : Hid (stepF room l L m k n b bs br = (er, l2, L)) := Lib.hid (by unfold stepF; rw [if_neg h1, if_neg h2, if_neg h3, if_neg h4, if_neg h5, if_neg h6, hco])
    clear hT hco HM
    go_wp2
    go_ret
    rw [HV.out]
    exact HF.out
set_option maxHeartbeats 1000000 in
theorem refAll_any (s : St) (hs : s.Ok) (w : World) : Calls Try.prog 65 #[.agg s.wares.toArray] w fun e w' => e = .returned (.int .i64 s.all) ∧ w' = w.alloc (.cells s.wares.toArray 63) := by
  obtain ⟨a, b, c, d, e, f, g, h⟩ := s
  obtain ⟨h1, h2, h3, h4, h5, h6, h7⟩ := hs
  dsimp only [St.wares, St.all] at *
  have w1 : IntKind.i64.wrap (a + b) = a + b := wrap_id (by omega) (by omega)
  have w2 : IntKind.i64.wrap (a + b + c) = a + b + c := wrap_id (by omega) (by omega)
  have w3 : IntKind.i64.wrap (a + b + c + d) = a + b + c + d := wrap_id (by omega) (by omega)
  have w4 : IntKind.i64.wrap (a + b + c + d + e) = a + b + c + d + e := wrap_id (by omega) (by omega)
  have w5 : IntKind.i64.wrap (a + b + c + d + e + f) = a + b + c + d + e + f := wrap_id (by omega) (by omega)
  clear h1 h2 h3 h4 h5 h6 h7
  have B := Blk.new w #[.int .i64 a, .int .i64 b, .int .i64 c, .int .i64 d, .int .i64 e, .int .i64 f, .int .i64 g] 63
  have b0 := B.cell (i := 0) (v := .int .i64 a) rfl
  have b1 := B.cell (i := 1) (v := .int .i64 b) rfl
  have b2 := B.cell (i := 2) (v := .int .i64 c) rfl
  have b3 := B.cell (i := 3) (v := .int .i64 d) rfl
  have b4 := B.cell (i := 4) (v := .int .i64 e) rfl
  have b5 := B.cell (i := 5) (v := .int .i64 f) rfl
  clear B
  go_enter Try.func65, Try.ntmps65
  go_wp2
  go_ret
  exact ⟨rfl, rfl⟩
theorem undWares : Try.prog.underlying 54 = some (.slice 63) := by kernel_rfl
theorem infoWares : (Try.prog.info? 63).map (fun i => (i.zero, i.size, i.bytes)) = some (some (.agg #[.int .i64 0, .int .i64 0, .int .i64 0, .int .i64 0, .int .i64 0, .int .i64 0, .int .i64 0]), 7, 56) := by kernel_rfl
theorem wares_len (s : St) : s.wares.length = 7 := rfl
theorem wl_cons (s : St) (l : List St) : wl (s :: l) = s.wares ++ wl l := by simp [wl]
theorem wl_len (l : List St) : (wl l).length = l.length * 7 := by
  induction l with
  | nil => rfl
  | cons s l ih => rw [wl_cons, List.length_append, ih, wares_len, List.length_cons]; omega
theorem wl_get : ∀ (l : List St) (k i : Nat), k < l.length → i < 7 → (wl l)[k * 7 + i]? = (l[k]?.getD St.zero).wares[i]?
  | [], k, i, h, _ => by simp at h
  | s :: l, 0, i, _, hi => by
    rw [wl_cons, List.getElem?_append_left (by rw [wares_len]; omega)]
    simp
  | s :: l, k + 1, i, h, hi => by
    rw [wl_cons, List.getElem?_append_right (by rw [wares_len]; omega), wares_len, show (k + 1) * 7 + i - 7 = k * 7 + i by omega, wl_get l k i (by simpa using h) hi]
    simp
theorem wl_one (l : List St) : ∀ u ∈ wl l, u.oneCell' = true := by
  intro u hu
  unfold wl at hu
  obtain ⟨vs, hvs, hu⟩ := List.mem_flatten.1 hu
  obtain ⟨s, _, rfl⟩ := List.mem_map.1 hvs
  simp [St.wares] at hu
  rcases hu with rfl | rfl | rfl | rfl | rfl | rfl | rfl <;> rfl
theorem wl_set1 : ∀ (l : List St) (k i : Nat) (u : Value) (s' : St), k < l.length → i < 7 → s'.wares = (l[k]?.getD St.zero).wares.set i u → (wl l).set (k * 7 + i) u = wl (l.set k s')
  | [], k, i, u, s', h, _, _ => by simp at h
  | x :: l, 0, i, u, s', _, hi, hs => by
    rw [List.set_cons_zero, wl_cons, wl_cons, hs, List.set_append_left _ _ (by rw [wares_len]; omega)]
    simp
  | x :: l, k + 1, i, u, s', h, hi, hs => by
    rw [List.set_cons_succ, wl_cons, wl_cons, show (k + 1) * 7 + i = 7 + (k * 7 + i) by omega, set_right x.wares _ 7 _ (wares_len x), wl_set1 l k i u s' (by simpa using h) hi (by simpa using hs)]
/-- A row of wares of one's own. -/
def WarR (w : World) (base : Nat) (v : Value) (l : List St) : Prop := w.ownsRow base 63 7 v l.length (wl l)
theorem war_store {W : World} {base gq cap n : Nat} {l : List St} {k i : Nat} {u : Int} {s s' : St} (h : W.ownsRow base 63 7 (.slice (some ⟨gq, 0, none⟩) n cap) n (wl l)) (hk : k < l.length) (hi : i < 7) (hs : l[k]?.getD St.zero = s) (hv : s'.wares = s.wares.set i (.int .i64 u)) :
    (W.setCell ⟨gq, k * 7 + i, none⟩ (.int .i64 u)).ownsRow base 63 7 (.slice (some ⟨gq, 0, none⟩) n cap) n (wl (l.set k s')) := by
  have := (h.stored (k * 7 + i) (.int .i64 u)).1
  rwa [wl_set1 l k i _ s' hk hi (by rw [hs]; exact hv)] at this
theorem war_store7 {W : World} {base gq cap n : Nat} {l : List St} {k : Nat} (h : W.ownsRow base 63 7 (.slice (some ⟨gq, 0, none⟩) n cap) n (wl l)) (hk : k < l.length) (x0 x1 x2 x3 x4 x5 x6 x7 : Int) :
    (((((((W.setCell ⟨gq, k * 7, none⟩ (.int .i64 x0)).setCell ⟨gq, k * 7 + 1, none⟩ (.int .i64 x1)).setCell ⟨gq, k * 7 + 2, none⟩ (.int .i64 x2)).setCell ⟨gq, k * 7 + 3, none⟩ (.int .i64 x3)).setCell ⟨gq, k * 7 + 4, none⟩ (.int .i64 x4)).setCell ⟨gq, k * 7 + 5, none⟩ (.int .i64 x5)).setCell ⟨gq, k * 7 + 6, none⟩ (.int .i64 x6)).ownsRow base 63 7 (.slice (some ⟨gq, 0, none⟩) n cap) n (wl (l.set k ⟨x0, x1, x2, x3, x4, x5, x6, x7⟩)) := by
  obtain ⟨s, hs⟩ : ∃ s, l[k]?.getD St.zero = s := ⟨_, rfl⟩
  obtain ⟨a0, a1, a2, a3, a4, a5, a6, a7⟩ := s
  have hz : ∀ t : St, k < (l.set k t).length := fun t => by rw [List.length_set]; exact hk
  have hg : ∀ t : St, (l.set k t)[k]?.getD St.zero = t := fun t => by rw [set_at _ _ _ _ hk, if_pos rfl]
  have h0 := war_store (i := 0) (u := x0) (s := ⟨a0, a1, a2, a3, a4, a5, a6, a7⟩) (s' := ⟨x0, a1, a2, a3, a4, a5, a6, a7⟩) h hk (by omega) hs rfl
  have h1 := war_store (i := 1) (u := x1) (s := ⟨x0, a1, a2, a3, a4, a5, a6, a7⟩) (s' := ⟨x0, x1, a2, a3, a4, a5, a6, a7⟩) h0 (hz _) (by omega) (hg _) rfl
  rw [List.set_set] at h1
  have h2 := war_store (i := 2) (u := x2) (s := ⟨x0, x1, a2, a3, a4, a5, a6, a7⟩) (s' := ⟨x0, x1, x2, a3, a4, a5, a6, a7⟩) h1 (hz _) (by omega) (hg _) rfl
  rw [List.set_set] at h2
  have h3 := war_store (i := 3) (u := x3) (s := ⟨x0, x1, x2, a3, a4, a5, a6, a7⟩) (s' := ⟨x0, x1, x2, x3, a4, a5, a6, a7⟩) h2 (hz _) (by omega) (hg _) rfl
  rw [List.set_set] at h3
  have h4 := war_store (i := 4) (u := x4) (s := ⟨x0, x1, x2, x3, a4, a5, a6, a7⟩) (s' := ⟨x0, x1, x2, x3, x4, a5, a6, a7⟩) h3 (hz _) (by omega) (hg _) rfl
  rw [List.set_set] at h4
  have h5 := war_store (i := 5) (u := x5) (s := ⟨x0, x1, x2, x3, x4, a5, a6, a7⟩) (s' := ⟨x0, x1, x2, x3, x4, x5, a6, a7⟩) h4 (hz _) (by omega) (hg _) rfl
  rw [List.set_set] at h5
  have h6 := war_store (i := 6) (u := x6) (s := ⟨x0, x1, x2, x3, x4, x5, a6, a7⟩) (s' := ⟨x0, x1, x2, x3, x4, x5, x6, x7⟩) h5 (hz _) (by omega) (hg _) (by simp [St.wares])
  rw [List.set_set] at h6
  exact h6
set_option maxHeartbeats 1000000 in
theorem refInB_any (n l h : Int) (w : World) : Calls Try.prog 62 #[.int .i64 n, .int .i64 l, .int .i64 h] w fun e w' => e = .returned (.bool (inB n l h)) ∧ w' = w := by
  obtain ⟨p, hp⟩ : ∃ p, inB n l h = p := ⟨_, rfl⟩
  have HP := Lib.hid hp
  unfold inB at HP
  rw [hp]
  clear hp
  go_enter Try.func62, Try.ntmps62
  by_cases h1 : l ≤ n
  · by_cases h2 : n ≤ h
    · have HP2 : Hid (p = true) := Lib.hid (by rw [← HP.out]; simp [h1, h2])
      clear HP
      go_wp2
      go_ret
      exact ⟨by rw [HP2.out]; rfl, rfl⟩
    · have HP2 : Hid (p = false) := Lib.hid (by rw [← HP.out]; simp [h2])
      clear HP
      go_wp2
      go_ret
      exact ⟨by rw [HP2.out]; rfl, rfl⟩
  · have HP2 : Hid (p = false) := Lib.hid (by rw [← HP.out]; simp [h1])
    clear HP
    go_wp2
    go_ret
    exact ⟨by rw [HP2.out]; rfl, rfl⟩
theorem blk_set5 {W : World} {b : Nat} {T : TypeId} {v0 v1 v2 v3 v4 : Value} (h : Blk W b #[v0, v1, v2, v3, v4] T) (y0 y1 y2 y3 y4 : Value) (h0 : y0.cells = #[y0]) (h1 : y1.cells = #[y1]) (h2 : y2.cells = #[y2]) (h3 : y3.cells = #[y3]) (h4 : y4.cells = #[y4]) :
    Blk (((((W.setCell ⟨b, 0, none⟩ y0).setCell ⟨b, 1, none⟩ y1).setCell ⟨b, 2, none⟩ y2).setCell ⟨b, 3, none⟩ y3).setCell ⟨b, 4, none⟩ y4) b #[y0, y1, y2, y3, y4] T := by
  have h5 := ((((h.set 0 (by simp) y0 h0).set 1 (by simp) y1 h1).set 2 (by simp) y2 h2).set 3 (by simp) y3 h3).set 4 (by simp) y4 h4
  simpa using h5
theorem below_set5 {B b : Nat} {A W : World} (h : Below B A W) (hb : B ≤ b) (y0 y1 y2 y3 y4 : Value) : Below B A (((((W.setCell ⟨b, 0, none⟩ y0).setCell ⟨b, 1, none⟩ y1).setCell ⟨b, 2, none⟩ y2).setCell ⟨b, 3, none⟩ y3).setCell ⟨b, 4, none⟩ y4) :=
  ((((h.setCell (p := ⟨b, 0, none⟩) hb _).setCell (p := ⟨b, 1, none⟩) hb _).setCell (p := ⟨b, 2, none⟩) hb _).setCell (p := ⟨b, 3, none⟩) hb _).setCell (p := ⟨b, 4, none⟩) hb _
theorem own_set5 {gq base z n : Nat} {W : World} {T : TypeId} {v : Value} {xs : List Value} (h : W.ownsRow base T z v n xs) (hne : v.ownBlock ≠ some gq) (y0 y1 y2 y3 y4 : Value) : (((((W.setCell ⟨gq, 0, none⟩ y0).setCell ⟨gq, 1, none⟩ y1).setCell ⟨gq, 2, none⟩ y2).setCell ⟨gq, 3, none⟩ y3).setCell ⟨gq, 4, none⟩ y4).ownsRow base T z v n xs :=
  own_far (own_far (own_far (own_far (own_far h hne) hne) hne) hne) hne
theorem blk_f7 {gq j b : Nat} {W : World} {vs : Array Value} {T : TypeId} (h : Blk W b vs T) (hne : b ≠ gq) (x0 x1 x2 x3 x4 x5 x6 : Int) : Blk (((((((W.setCell ⟨gq, j, none⟩ (.int .i64 x0)).setCell ⟨gq, j + 1, none⟩ (.int .i64 x1)).setCell ⟨gq, j + 2, none⟩ (.int .i64 x2)).setCell ⟨gq, j + 3, none⟩ (.int .i64 x3)).setCell ⟨gq, j + 4, none⟩ (.int .i64 x4)).setCell ⟨gq, j + 5, none⟩ (.int .i64 x5)).setCell ⟨gq, j + 6, none⟩ (.int .i64 x6)) b vs T :=
  ((((((h.far hne).far hne).far hne).far hne).far hne).far hne).far hne
theorem below_f7 {B gq j : Nat} {A W : World} (h : Below B A W) (hb : B ≤ gq) (x0 x1 x2 x3 x4 x5 x6 : Int) : Below B A (((((((W.setCell ⟨gq, j, none⟩ (.int .i64 x0)).setCell ⟨gq, j + 1, none⟩ (.int .i64 x1)).setCell ⟨gq, j + 2, none⟩ (.int .i64 x2)).setCell ⟨gq, j + 3, none⟩ (.int .i64 x3)).setCell ⟨gq, j + 4, none⟩ (.int .i64 x4)).setCell ⟨gq, j + 5, none⟩ (.int .i64 x5)).setCell ⟨gq, j + 6, none⟩ (.int .i64 x6)) :=
  ((((((h.setCell (p := ⟨gq, j, none⟩) hb _).setCell (p := ⟨gq, j + 1, none⟩) hb _).setCell (p := ⟨gq, j + 2, none⟩) hb _).setCell (p := ⟨gq, j + 3, none⟩) hb _).setCell (p := ⟨gq, j + 4, none⟩) hb _).setCell (p := ⟨gq, j + 5, none⟩) hb _).setCell (p := ⟨gq, j + 6, none⟩) hb _
/-- What 'with' hands back: a book with other wares of a kind. -/
def WithTo (w : World) (f : Bool) (vs vb : Value) (room : Int) (l : List St) (e : Ending) (w' : World) : Prop :=
  Below w.heap.size w w' ∧ ∃ vw, e = .returned (.agg #[.bool f, vs, .int .i64 room, vw, vb]) ∧ WarR w' w.heap.size vw l
set_option maxRecDepth 100000 in
set_option maxHeartbeats 4000000 in
theorem with_any (f : Bool) (ps pb : Option Addr) (ns cs nb cb : Nat) (room : Int) (base : Nat) (gw cw : Nat) (l : List St) (k : Nat) (x0 x1 x2 x3 x4 x5 x6 x7 : Int) (w : World) (hw : WarR w base (.slice (some ⟨gw, 0, none⟩) l.length cw) l) (hk : k < l.length) (hl : l.length ≤ 1000) :
    Calls Try.prog 66 #[.agg #[.bool f, .slice ps ns cs, .int .i64 room, .slice (some ⟨gw, 0, none⟩) l.length cw, .slice pb nb cb], .int .i64 (k : Int), .agg #[.int .i64 x0, .int .i64 x1, .int .i64 x2, .int .i64 x3, .int .i64 x4, .int .i64 x5, .int .i64 x6]] w (WithTo w f (.slice ps ns cs) (.slice pb nb cb) room (l.set k ⟨x0, x1, x2, x3, x4, x5, x6, x7⟩)) := by
  obtain ⟨i0, hi, hz0, hz1, hz2⟩ := info_parts infoWares
  obtain ⟨xb, hxb⟩ : ∃ x, w.heap.size = x := ⟨_, rfl⟩
  have B1 := (Below.refl w.heap.size w).alloc (Nat.le_refl _) (.cells #[.bool f, .slice ps ns cs, .int .i64 room, .slice (some ⟨gw, 0, none⟩) l.length cw, .slice pb nb cb] 56)
  have X1 := Blk.newI w xb #[.bool f, .slice ps ns cs, .int .i64 room, .slice (some ⟨gw, 0, none⟩) l.length cw, .slice pb nb cb] 56 hxb
  have B2 := B1.alloc B1.size (.cells #[.int .i64 x0, .int .i64 x1, .int .i64 x2, .int .i64 x3, .int .i64 x4, .int .i64 x5, .int .i64 x6] 63)
  have Y1 := Blk.newI (w.alloc (.cells #[.bool f, .slice ps ns cs, .int .i64 room, .slice (some ⟨gw, 0, none⟩) l.length cw, .slice pb nb cb] 56)) (xb + 1) #[.int .i64 x0, .int .i64 x1, .int .i64 x2, .int .i64 x3, .int .i64 x4, .int .i64 x5, .int .i64 x6] 63 (by simp [hxb])
  have B3 := B2.alloc B2.size (.cells #[.bool false, .slice none 0 0, .int .i64 0, .slice none 0 0, .slice none 0 0] 56)
  have Z1 := Blk.newI ((w.alloc (.cells #[.bool f, .slice ps ns cs, .int .i64 room, .slice (some ⟨gw, 0, none⟩) l.length cw, .slice pb nb cb] 56)).alloc (.cells #[.int .i64 x0, .int .i64 x1, .int .i64 x2, .int .i64 x3, .int .i64 x4, .int .i64 x5, .int .i64 x6] 63)) (xb + 2) #[.bool false, .slice none 0 0, .int .i64 0, .slice none 0 0, .slice none 0 0] 56 (by simp [hxb])
  have X2 := (X1.alloc (.cells #[.int .i64 x0, .int .i64 x1, .int .i64 x2, .int .i64 x3, .int .i64 x4, .int .i64 x5, .int .i64 x6] 63)).alloc (.cells #[.bool false, .slice none 0 0, .int .i64 0, .slice none 0 0, .slice none 0 0] 56)
  have Y2 := Y1.alloc (.cells #[.bool false, .slice none 0 0, .int .i64 0, .slice none 0 0, .slice none 0 0] 56)
  have HW3 := Lib.hid (own_past hw B3)
  have HB3 := Lib.hid B3
  obtain ⟨w3, hw3⟩ : ∃ Z, ((w.alloc (.cells #[.bool f, .slice ps ns cs, .int .i64 room, .slice (some ⟨gw, 0, none⟩) l.length cw, .slice pb nb cb] 56)).alloc (.cells #[.int .i64 x0, .int .i64 x1, .int .i64 x2, .int .i64 x3, .int .i64 x4, .int .i64 x5, .int .i64 x6] 63)).alloc (.cells #[.bool false, .slice none 0 0, .int .i64 0, .slice none 0 0, .slice none 0 0] 56) = Z := ⟨_, rfl⟩
  have hsz3 : w3.heap.size = xb + 3 := by rw [← hw3]; simp [hxb]
  rw [hw3] at HW3 HB3 X2 Y2 Z1
  have hb4 : Below w3.heap.size w3 (w3.alloc (.cells #[] 63)) := (Below.refl _ _).alloc (Nat.le_refl _) _
  have HE : Hid ((w3.alloc (.cells #[] 63)).ownsRow (xb + 3) 63 7 (.slice (some ⟨xb + 3, 0, none⟩) 0 0) 0 []) := Lib.hid (by rw [← hsz3]; exact World.ownsRow_lit (base := w3.heap.size) (e := 63) (size := 7) w3 #[] 0 (Nat.le_refl _) (by simp) (by simp))
  have HN4 := Lib.hid (World.ownsRow.cells (own_past HW3.out hb4) rfl)
  have HB4 := Lib.hid (HB3.out.trans (hb4.mono HB3.out.size))
  have HX4 := Lib.hid (X2.past hb4)
  have HY4 := Lib.hid (Y2.past hb4)
  have HZ4 := Lib.hid (Z1.past hb4)
  have x3 := X2.cell (i := 3) (v := .slice (some ⟨gw, 0, none⟩) l.length cw) rfl
  obtain ⟨w4, hw4⟩ : ∃ Z, w3.alloc (.cells #[] 63) = Z := ⟨_, rfl⟩
  have HSZ4 : Hid (w4.heap.size = xb + 4) := Lib.hid (by rw [← hw4]; simp [hsz3])
  rw [hw4] at HE HN4 HB4 HX4 HY4 HZ4
  have x4' := HX4.out.cell (i := 3) (v := .slice (some ⟨gw, 0, none⟩) l.length cw) rfl
  have hxw : w.heap.size ≤ xb := Nat.le_of_eq hxb
  clear X1 Y1 Z1 X2 Y2 B1 B2 B3 hb4 hw
  go_enter Try.func66, Try.ntmps66
  go_wp2_with (first | (at_builtin; refine stopHere ?_))
  intro _
  try rw [hw4]
  clear hw3 hw4 hsz3
  refine wpList_append_own _ rfl _ _ 54 rfl (xb + 3) 63 i0 (.agg #[.int .i64 0, .int .i64 0, .int .i64 0, .int .i64 0, .int .i64 0, .int .i64 0, .int .i64 0]) 7 56 undWares hi hz0 hz1 hz2 rfl (by decide) (.slice (some ⟨xb + 3, 0, none⟩) 0 0) 0 [] rfl HE.out ⟨gw, 0, none⟩ l.length cw (wl l) rfl (wl_len l) HN4.out (wl_one l) (by unfold maxLen; omega) (by omega) (by have := HSZ4.out; omega) ?_
  intro v' w5 hown hgrow _
  rw [Nat.zero_add, List.nil_append] at hown
  obtain ⟨gn, cn, rfl⟩ : ∃ gn cn, v' = .slice (some ⟨gn, 0, none⟩) l.length cn := by
    rcases hown.2 with ⟨_, h⟩ | ⟨gn, cn, cur, rfl, _⟩
    · omega
    · exact ⟨gn, cn, rfl⟩
  have hgn := (hown.lt gn rfl)
  have HX5 := Lib.hid (HX4.out.kept hgrow (by intro e; simp [Value.ownBlock] at e))
  have HY5 := Lib.hid (HY4.out.kept hgrow (by intro e; simp [Value.ownBlock] at e))
  have HZ5 := Lib.hid (HZ4.out.kept hgrow (by intro e; simp [Value.ownBlock] at e))
  have HB5 := Lib.hid (HB4.out.grown hgrow HB4.out.size (by intro j hj; simp [Value.ownBlock] at hj; omega))
  have c3 := HX5.out.cell (i := 3) (v := .slice (some ⟨gw, 0, none⟩) l.length cw) rfl
  have f3 := HX5.out.fr (i := 3)
  have HX6 : Hid (Blk (w5.setCell ⟨xb, 3, none⟩ (.slice (some ⟨gn, 0, none⟩) l.length cn)) xb #[.bool f, .slice ps ns cs, .int .i64 room, .slice (some ⟨gn, 0, none⟩) l.length cn, .slice pb nb cb] 56) := Lib.hid (by simpa using HX5.out.set 3 (by simp) (.slice (some ⟨gn, 0, none⟩) l.length cn) rfl)
  have HY6 := Lib.hid (HY5.out.far (b' := xb) (i := 3) (u := .slice (some ⟨gn, 0, none⟩) l.length cn) (by omega))
  have HZ6 := Lib.hid (HZ5.out.far (b' := xb) (i := 3) (u := .slice (some ⟨gn, 0, none⟩) l.length cn) (by omega))
  have HO6 := Lib.hid (own_far (bb := xb) (i := 3) (u := .slice (some ⟨gn, 0, none⟩) l.length cn) hown (by intro e; simp [Value.ownBlock] at e; omega))
  have HB6 := Lib.hid (HB5.out.setCell (p := ⟨xb, 3, none⟩) hxw (.slice (some ⟨gn, 0, none⟩) l.length cn))
  clear x3 x4' hown hgrow HE HN4 HX4 HY4 HZ4 HB4 HX5 HY5 HZ5 HB5 HW3 HB3 HSZ4
  go_upto_region 2 with fail
  obtain ⟨w6, hw6⟩ : ∃ Z, w5.setCell ⟨xb, 3, none⟩ (.slice (some ⟨gn, 0, none⟩) l.length cn) = Z := ⟨_, rfl⟩
  rw [hw6] at HX6 HY6 HZ6 HO6 HB6 ⊢
  clear hw6 c3 f3
  have c3 := HX6.out.cell (i := 3) (v := .slice (some ⟨gn, 0, none⟩) l.length cn) rfl
  have q0 := HY6.out.cell (i := 0) (v := .int .i64 x0) rfl
  have q1 := HY6.out.cell (i := 1) (v := .int .i64 x1) rfl
  have q2 := HY6.out.cell (i := 2) (v := .int .i64 x2) rfl
  have q3 := HY6.out.cell (i := 3) (v := .int .i64 x3) rfl
  have q4 := HY6.out.cell (i := 4) (v := .int .i64 x4) rfl
  have q5 := HY6.out.cell (i := 5) (v := .int .i64 x5) rfl
  have q6 := HY6.out.cell (i := 6) (v := .int .i64 x6) rfl
  have hk0 : (0 : Int) ≤ (k : Int) := by omega
  have hk1 : (k : Int) < (l.length : Int) := by omega
  have hwlen := wl_len l
  obtain ⟨t0, o0⟩ : ∃ y, w6.cell? ⟨gn, k * 7, none⟩ = some y := ⟨_, (World.ownsRow.cellAt HO6.out (k * 7 + 0) (by omega)).trans (List.getElem?_eq_getElem (by omega))⟩
  have r0 : w6.frozen? ⟨gn, k * 7, none⟩ = false := World.ownsRow.frozenAt HO6.out (k * 7 + 0)
  obtain ⟨t1, o1⟩ : ∃ y, w6.cell? ⟨gn, k * 7 + 1, none⟩ = some y := ⟨_, (World.ownsRow.cellAt HO6.out (k * 7 + 1) (by omega)).trans (List.getElem?_eq_getElem (by omega))⟩
  have r1 : w6.frozen? ⟨gn, k * 7 + 1, none⟩ = false := World.ownsRow.frozenAt HO6.out (k * 7 + 1)
  obtain ⟨t2, o2⟩ : ∃ y, w6.cell? ⟨gn, k * 7 + 2, none⟩ = some y := ⟨_, (World.ownsRow.cellAt HO6.out (k * 7 + 2) (by omega)).trans (List.getElem?_eq_getElem (by omega))⟩
  have r2 : w6.frozen? ⟨gn, k * 7 + 2, none⟩ = false := World.ownsRow.frozenAt HO6.out (k * 7 + 2)
  obtain ⟨t3, o3⟩ : ∃ y, w6.cell? ⟨gn, k * 7 + 3, none⟩ = some y := ⟨_, (World.ownsRow.cellAt HO6.out (k * 7 + 3) (by omega)).trans (List.getElem?_eq_getElem (by omega))⟩
  have r3 : w6.frozen? ⟨gn, k * 7 + 3, none⟩ = false := World.ownsRow.frozenAt HO6.out (k * 7 + 3)
  obtain ⟨t4, o4⟩ : ∃ y, w6.cell? ⟨gn, k * 7 + 4, none⟩ = some y := ⟨_, (World.ownsRow.cellAt HO6.out (k * 7 + 4) (by omega)).trans (List.getElem?_eq_getElem (by omega))⟩
  have r4 : w6.frozen? ⟨gn, k * 7 + 4, none⟩ = false := World.ownsRow.frozenAt HO6.out (k * 7 + 4)
  obtain ⟨t5, o5⟩ : ∃ y, w6.cell? ⟨gn, k * 7 + 5, none⟩ = some y := ⟨_, (World.ownsRow.cellAt HO6.out (k * 7 + 5) (by omega)).trans (List.getElem?_eq_getElem (by omega))⟩
  have r5 : w6.frozen? ⟨gn, k * 7 + 5, none⟩ = false := World.ownsRow.frozenAt HO6.out (k * 7 + 5)
  obtain ⟨t6, o6⟩ : ∃ y, w6.cell? ⟨gn, k * 7 + 6, none⟩ = some y := ⟨_, (World.ownsRow.cellAt HO6.out (k * 7 + 6) (by omega)).trans (List.getElem?_eq_getElem (by omega))⟩
  have r6 : w6.frozen? ⟨gn, k * 7 + 6, none⟩ = false := World.ownsRow.frozenAt HO6.out (k * 7 + 6)
  have HO7 := Lib.hid (war_store7 HO6.out hk x0 x1 x2 x3 x4 x5 x6 x7)
  have HX7 := Lib.hid (blk_f7 (gq := gn) (j := k * 7) HX6.out (by omega) x0 x1 x2 x3 x4 x5 x6)
  have HZ7 := Lib.hid (blk_f7 (gq := gn) (j := k * 7) HZ6.out (by omega) x0 x1 x2 x3 x4 x5 x6)
  have HB7 := Lib.hid (below_f7 (gq := gn) (j := k * 7) HB6.out (by omega) x0 x1 x2 x3 x4 x5 x6)
  clear hwlen
  go_upto_region 3 with fail
  obtain ⟨w7, hw7⟩ : ∃ Z, ((((((w6.setCell ⟨gn, k * 7, none⟩ (.int .i64 x0)).setCell ⟨gn, k * 7 + 1, none⟩ (.int .i64 x1)).setCell ⟨gn, k * 7 + 2, none⟩ (.int .i64 x2)).setCell ⟨gn, k * 7 + 3, none⟩ (.int .i64 x3)).setCell ⟨gn, k * 7 + 4, none⟩ (.int .i64 x4)).setCell ⟨gn, k * 7 + 5, none⟩ (.int .i64 x5)).setCell ⟨gn, k * 7 + 6, none⟩ (.int .i64 x6) = Z := ⟨_, rfl⟩
  rw [hw7] at HO7 HX7 HZ7 HB7 ⊢
  clear hw7 c3 hk0 hk1 q0 o0 r0 q1 o1 r1 q2 o2 r2 q3 o3 r3 q4 o4 r4 q5 o5 r5 q6 o6 r6 HX6 HY6 HZ6 HO6 HB6
  have e0 := HX7.out.cell (i := 0) (v := .bool f) rfl
  have e1 := HX7.out.cell (i := 1) (v := .slice ps ns cs) rfl
  have e2 := HX7.out.cell (i := 2) (v := .int .i64 room) rfl
  have e3 := HX7.out.cell (i := 3) (v := .slice (some ⟨gn, 0, none⟩) l.length cn) rfl
  have e4 := HX7.out.cell (i := 4) (v := .slice pb nb cb) rfl
  have z0 := HZ7.out.cell (i := 0) (v := .bool false) rfl
  have y0 := HZ7.out.fr (i := 0)
  have z1 := HZ7.out.cell (i := 1) (v := .slice none 0 0) rfl
  have y1 := HZ7.out.fr (i := 1)
  have z2 := HZ7.out.cell (i := 2) (v := .int .i64 0) rfl
  have y2 := HZ7.out.fr (i := 2)
  have z3 := HZ7.out.cell (i := 3) (v := .slice none 0 0) rfl
  have y3 := HZ7.out.fr (i := 3)
  have z4 := HZ7.out.cell (i := 4) (v := .slice none 0 0) rfl
  have y4 := HZ7.out.fr (i := 4)
  have HZ8 := Lib.hid (blk_set5 HZ7.out (.bool f) (.slice ps ns cs) (.int .i64 room) (.slice (some ⟨gn, 0, none⟩) l.length cn) (.slice pb nb cb) rfl rfl rfl rfl rfl)
  have HB8 := Lib.hid (below_set5 (b := xb + 2) HB7.out (by omega) (.bool f) (.slice ps ns cs) (.int .i64 room) (.slice (some ⟨gn, 0, none⟩) l.length cn) (.slice pb nb cb))
  have HO8 := Lib.hid (own_set5 (gq := xb + 2) HO7.out (by intro e; simp [Value.ownBlock] at e; omega) (.bool f) (.slice ps ns cs) (.int .i64 room) (.slice (some ⟨gn, 0, none⟩) l.length cn) (.slice pb nb cb))
  go_wp2
  obtain ⟨w8, hw8⟩ : ∃ Z, ((((w7.setCell ⟨xb + 2, 0, none⟩ (.bool f)).setCell ⟨xb + 2, 1, none⟩ (.slice ps ns cs)).setCell ⟨xb + 2, 2, none⟩ (.int .i64 room)).setCell ⟨xb + 2, 3, none⟩ (.slice (some ⟨gn, 0, none⟩) l.length cn)).setCell ⟨xb + 2, 4, none⟩ (.slice pb nb cb) = Z := ⟨_, rfl⟩
  rw [hw8] at HZ8 HB8 HO8
  try rw [hw8]
  have g0 := HZ8.out.cell (i := 0) (v := .bool f) rfl
  have g1 := HZ8.out.cell (i := 1) (v := .slice ps ns cs) rfl
  have g2 := HZ8.out.cell (i := 2) (v := .int .i64 room) rfl
  have g3 := HZ8.out.cell (i := 3) (v := .slice (some ⟨gn, 0, none⟩) l.length cn) rfl
  have g4 := HZ8.out.cell (i := 4) (v := .slice pb nb cb) rfl
  refine bodyPost_ret (v := .agg #[.bool f, .slice ps ns cs, .int .i64 room, .slice (some ⟨gn, 0, none⟩) l.length cn, .slice pb nb cb]) (by simp [results, Try.results66, go_sem, g0, g1, g2, g3, g4]) rfl ⟨HB8.out, _, rfl, ?_⟩
  have h9 := own_low (base' := w.heap.size) HO8.out (by omega)
  unfold WarR
  rwa [List.length_set]
theorem oneB_of_two {P : Program} {md : Region.Mode} {ops : Array Oper} {Q : Exit → Act → World → Prop} {S : World → Prop} {i j : Nat} {o o' : Oper} {fuel : Nat} {L : Array Bool} {a : Act} {w : World} (hr : Region.ready md ops L = [i, j]) (hi : ops.toList[i]? = some o) (hj : ops.toList[j]? = some o')
    (hw : Region.wanted o (yielded ops a.tmps) = true) (hw' : Region.wanted o' (yielded ops a.tmps) = true) (h : ∀ K : Act → World → Prop, Hid (∀ a' w', S w' → wpAnyH P md ops Q S fuel (L.setIfInBounds i true) a' w' → K a' w') → o.wp P a w K Q)
    (h' : ∀ K : Act → World → Prop, Hid (∀ a' w', S w' → wpAnyH P md ops Q S fuel (L.setIfInBounds j true) a' w' → K a' w') → o'.wp P a w K Q) : wpAnyH P md ops Q S (fuel + 1) L a w :=
  wpAnyH_all hr (by simp) fun k hk => by
    rcases List.mem_cons.1 hk with rfl | hk
    · unfold wpOp
      rw [show ops[k]? = some o from by rw [← Array.getElem?_toList]; exact hi]
      simp only [hw, if_true]
      exact .inl (h _ (Lib.hid fun a' w' h1 h2 => ⟨h1, h2⟩))
    · rw [List.mem_singleton.1 hk]
      unfold wpOp
      rw [show ops[j]? = some o' from by rw [← Array.getElem?_toList]; exact hj]
      simp only [hw', if_true]
      exact .inl (h' _ (Lib.hid fun a' w' h1 h2 => ⟨h1, h2⟩))
/-- Three operations may come up. -/
theorem oneB_of_three {P : Program} {md : Region.Mode} {ops : Array Oper} {Q : Exit → Act → World → Prop} {S : World → Prop} {i j k : Nat} {o o' o'' : Oper} {fuel : Nat} {L : Array Bool} {a : Act} {w : World} (hr : Region.ready md ops L = [i, j, k]) (hi : ops.toList[i]? = some o) (hj : ops.toList[j]? = some o') (hk : ops.toList[k]? = some o'')
    (hw : Region.wanted o (yielded ops a.tmps) = true) (hw' : Region.wanted o' (yielded ops a.tmps) = true) (hw'' : Region.wanted o'' (yielded ops a.tmps) = true) (h : ∀ K : Act → World → Prop, Hid (∀ a' w', S w' → wpAnyH P md ops Q S fuel (L.setIfInBounds i true) a' w' → K a' w') → o.wp P a w K Q)
    (h' : ∀ K : Act → World → Prop, Hid (∀ a' w', S w' → wpAnyH P md ops Q S fuel (L.setIfInBounds j true) a' w' → K a' w') → o'.wp P a w K Q)
    (h'' : ∀ K : Act → World → Prop, Hid (∀ a' w', S w' → wpAnyH P md ops Q S fuel (L.setIfInBounds k true) a' w' → K a' w') → o''.wp P a w K Q) : wpAnyH P md ops Q S (fuel + 1) L a w :=
  wpAnyH_all hr (by simp) fun m hm => by
    rcases List.mem_cons.1 hm with rfl | hm
    · unfold wpOp
      rw [show ops[m]? = some o from by rw [← Array.getElem?_toList]; exact hi]
      simp only [hw, if_true]
      exact .inl (h _ (Lib.hid fun a' w' h1 h2 => ⟨h1, h2⟩))
    · rcases List.mem_cons.1 hm with rfl | hm
      · unfold wpOp
        rw [show ops[m]? = some o' from by rw [← Array.getElem?_toList]; exact hj]
        simp only [hw', if_true]
        exact .inl (h' _ (Lib.hid fun a' w' h1 h2 => ⟨h1, h2⟩))
      · rw [List.mem_singleton.1 hm]
        unfold wpOp
        rw [show ops[k]? = some o'' from by rw [← Array.getElem?_toList]; exact hk]
        simp only [hw'', if_true]
        exact .inl (h'' _ (Lib.hid fun a' w' h1 h2 => ⟨h1, h2⟩))
/-- A book of the reference, as a value: its rows are its own. -/
structure RefAt (w : World) (base : Nat) (sp : List Int) (l : List St) (L : BatL) (ps : Option Addr) (cs gw cw : Nat) (pb : Option Addr) (cb : Nat) : Prop where
  sp : IntsR w base (.slice ps sp.length cs) sp
  war : WarR w base (.slice (some ⟨gw, 0, none⟩) l.length cw) l
  bat : InsAt w base (.slice pb L.length cb) L
section
variable {w w' : World} {base : Nat} {sp : List Int} {l : List St} {L : BatL} {ps : Option Addr} {cs gw cw : Nat} {pb : Option Addr} {cb : Nat}
theorem RefAt.past (h : RefAt w base sp l L ps cs gw cw pb cb) (hb : Below w.heap.size w w') : RefAt w' base sp l L ps cs gw cw pb cb :=
  ⟨own_past h.sp hb, own_past h.war hb, h.bat.past hb⟩
theorem RefAt.set5 {b : Nat} {vs : Array Value} (h : RefAt w base sp l L ps cs gw cw pb cb) (hb : Blk w b vs 56) (y0 y1 y2 y3 y4 : Value) : RefAt (((((w.setCell ⟨b, 0, none⟩ y0).setCell ⟨b, 1, none⟩ y1).setCell ⟨b, 2, none⟩ y2).setCell ⟨b, 3, none⟩ y3).setCell ⟨b, 4, none⟩ y4) base sp l L ps cs gw cw pb cb :=
  ⟨own_set5 h.sp (own_ne h.sp ⟨_, hb⟩ (by decide)) y0 y1 y2 y3 y4, own_set5 h.war (own_ne h.war ⟨_, hb⟩ (by decide)) y0 y1 y2 y3 y4, own_set5 h.bat (own_ne h.bat ⟨_, hb⟩ (by decide)) y0 y1 y2 y3 y4⟩
end
theorem BInvPart {l : List St} {L : BatL} {br : List Int} (hl : br.length = L.length) : ∀ {k : Nat}, ((L.zip br).take k).all (fun x => inB x.2 0 x.1.2) = true → BInv l L → k ≤ L.length → BInv (drawn ((L.zip br).take k) l) (L.drop k)
  | 0, _, h, _ => by simpa [drawn] using h
  | k + 1, ha, h, hk => by
    have hz : k < (L.zip br).length := by rw [zip_len L br hl]; omega
    have hs := allN_take_succ ((0, 0), 0) (fun x : (Int × Int) × Int => inB x.2 0 x.1.2) (L.zip br) k hz
    rw [ha] at hs
    obtain ⟨h1, h2⟩ := Bool.and_eq_true _ _ ▸ hs.symm
    have ih := BInvPart hl h1 h (by omega)
    have hg := zip_get L br k (by omega) hl
    rw [hg] at h2
    have e1 : (L.zip br)[k] = (L[k]?.getD (0, 0), br[k]?.getD 0) := by rw [← hg, List.getElem?_eq_getElem hz]; rfl
    have e2 : L[k] = L[k]?.getD (0, 0) := by simp [show k < L.length by omega]
    rw [List.drop_eq_getElem_cons (by omega), e2] at ih
    rw [List.take_succ_eq_append_getElem hz, drawn_snoc, e1]
    exact ih.draw h2
theorem blk_f5 {b b' : Nat} {W : World} {vs : Array Value} {T : TypeId} (h : Blk W b vs T) (hne : b ≠ b') (y0 y1 y2 y3 y4 : Value) : Blk (((((W.setCell ⟨b', 0, none⟩ y0).setCell ⟨b', 1, none⟩ y1).setCell ⟨b', 2, none⟩ y2).setCell ⟨b', 3, none⟩ y3).setCell ⟨b', 4, none⟩ y4) b vs T :=
  ((((h.far hne).far hne).far hne).far hne).far hne
/-- What a call of the reference hands back: the book and the error. -/
def RefTo (w : World) (base : Nat) (sp : List Int) (room : Int) (ps : Option Addr) (cs : Nat) (r : Int × List St × BatL) (e : Ending) (w' : World) : Prop :=
  Below w.heap.size w w' ∧ ∃ gw cw pb cb, e = .returned (.tuple #[.agg #[.bool false, .slice ps sp.length cs, .int .i64 room, .slice (some ⟨gw, 0, none⟩) r.2.1.length cw, .slice pb r.2.2.length cb], .int .i64 r.1]) ∧ RefAt w' base sp r.2.1 r.2.2 ps cs gw cw pb cb
set_option maxRecDepth 100000 in
set_option maxHeartbeats 8000000 in
theorem refDraw_any (ps : Option Addr) (cs gw cw : Nat) (pb : Option Addr) (cb base : Nat) (sp : List Int) (room : Int) (l : List St) (L : BatL) (v : Value) (br : List Int) (w : World) (hb : RefAt w base sp l L ps cs gw cw pb cb) (hbase : base ≤ w.heap.size)
    (hq : SrcI w v br) (hbl : br.length ≤ 1000) (hLl : L.length ≤ 1000) (hl : l.length ≤ 1000) (hl0 : 0 < l.length) (hinv : BInv l L) :
    Calls Try.prog 64 #[.agg #[.bool false, .slice ps sp.length cs, .int .i64 room, .slice (some ⟨gw, 0, none⟩) l.length cw, .slice pb L.length cb], v] w (RefTo w base sp room ps cs (drawF l L br)) := by
  obtain ⟨av, capb, rfl⟩ := hq.shape
  obtain ⟨xb, hxb⟩ : ∃ x, w.heap.size = x := ⟨_, rfl⟩
  have B1 := (Below.refl w.heap.size w).alloc (Nat.le_refl _) (.cells #[.bool false, .slice ps sp.length cs, .int .i64 room, .slice (some ⟨gw, 0, none⟩) l.length cw, .slice pb L.length cb] 56)
  have X1 := Blk.newI w xb #[.bool false, .slice ps sp.length cs, .int .i64 room, .slice (some ⟨gw, 0, none⟩) l.length cw, .slice pb L.length cb] 56 hxb
  have B2 := B1.alloc B1.size (.cells #[.bool false, .slice none 0 0, .int .i64 0, .slice none 0 0, .slice none 0 0] 56)
  have Z1 := Blk.newI (w.alloc (.cells #[.bool false, .slice ps sp.length cs, .int .i64 room, .slice (some ⟨gw, 0, none⟩) l.length cw, .slice pb L.length cb] 56)) (xb + 1) #[.bool false, .slice none 0 0, .int .i64 0, .slice none 0 0, .slice none 0 0] 56 (by simp [hxb])
  have X2 := X1.alloc (.cells #[.bool false, .slice none 0 0, .int .i64 0, .slice none 0 0, .slice none 0 0] 56)
  have HR2 := Lib.hid (hb.past B2)
  have HB2 := Lib.hid B2
  have HQ2 := Lib.hid (hq.past B2)
  have HINV := Lib.hid hinv
  have HRW := Lib.hid hb
  have HQW := Lib.hid hq
  obtain ⟨w2, hw2⟩ : ∃ Z, (w.alloc (.cells #[.bool false, .slice ps sp.length cs, .int .i64 room, .slice (some ⟨gw, 0, none⟩) l.length cw, .slice pb L.length cb] 56)).alloc (.cells #[.bool false, .slice none 0 0, .int .i64 0, .slice none 0 0, .slice none 0 0] 56) = Z := ⟨_, rfl⟩
  have hsz2 : w2.heap.size = xb + 2 := by rw [← hw2]; simp [hxb]
  have HSZ2 := Lib.hid hsz2
  rw [hw2] at HR2 HB2 HQ2 X2 Z1
  have HX2 := Lib.hid X2
  have HZ2 := Lib.hid Z1
  have x4 := X2.cell (i := 4) (v := .slice pb L.length cb) rfl
  obtain ⟨R, hR⟩ : ∃ R, drawF l L br = R := ⟨_, rfl⟩
  have HR := Lib.hid hR
  rw [hR]
  have hxw : w.heap.size ≤ xb := Nat.le_of_eq hxb
  clear X1 X2 Z1 B1 B2 hsz2 hb hq hinv hR
  go_enter Try.func64, Try.ntmps64
  go_upto_region 1 with fail
  try rw [hw2]
  clear hw2
  obtain ⟨q1, hq1⟩ : ∃ q, ((L.length : Int) == 0) = q := ⟨_, rfl⟩
  have HQ1 := Lib.hid hq1
  cases q1
  rotate_left 1
  · have h0 : L = [] := by
      have := HQ1.out
      simp at this
      exact this
    have HV : Hid (R = (9, l, L)) := Lib.hid (by rw [← HR.out]; unfold drawF; rw [if_pos h0])
    clear h0
    have e0z := HX2.out.cell (i := 0) (v := (.bool false)) rfl
    have e1z := HX2.out.cell (i := 1) (v := (.slice ps sp.length cs)) rfl
    have e2z := HX2.out.cell (i := 2) (v := (.int .i64 room)) rfl
    have e3z := HX2.out.cell (i := 3) (v := (.slice (some ⟨gw, 0, none⟩) l.length cw)) rfl
    have e4z := HX2.out.cell (i := 4) (v := (.slice pb L.length cb)) rfl
    have z0z := HZ2.out.cell (i := 0) (v := (.bool false)) rfl
    have y0z := HZ2.out.fr (i := 0)
    have z1z := HZ2.out.cell (i := 1) (v := (.slice none 0 0)) rfl
    have y1z := HZ2.out.fr (i := 1)
    have z2z := HZ2.out.cell (i := 2) (v := (.int .i64 0)) rfl
    have y2z := HZ2.out.fr (i := 2)
    have z3z := HZ2.out.cell (i := 3) (v := (.slice none 0 0)) rfl
    have y3z := HZ2.out.fr (i := 3)
    have z4z := HZ2.out.cell (i := 4) (v := (.slice none 0 0)) rfl
    have y4z := HZ2.out.fr (i := 4)
    have HZ8 := Lib.hid (blk_set5 HZ2.out (.bool false) (.slice ps sp.length cs) (.int .i64 room) (.slice (some ⟨gw, 0, none⟩) l.length cw) (.slice pb L.length cb) rfl rfl rfl rfl rfl)
    have HB8 := Lib.hid (below_set5 (b := xb + 1) HB2.out (by omega) (.bool false) (.slice ps sp.length cs) (.int .i64 room) (.slice (some ⟨gw, 0, none⟩) l.length cw) (.slice pb L.length cb))
    have HR8 := Lib.hid (HR2.out.set5 HZ2.out (.bool false) (.slice ps sp.length cs) (.int .i64 room) (.slice (some ⟨gw, 0, none⟩) l.length cw) (.slice pb L.length cb))
    go_wp2
    obtain ⟨w8, hw8⟩ : ∃ Z, ((((w2.setCell ⟨xb + 1, 0, none⟩ (.bool false)).setCell ⟨xb + 1, 1, none⟩ (.slice ps sp.length cs)).setCell ⟨xb + 1, 2, none⟩ (.int .i64 room)).setCell ⟨xb + 1, 3, none⟩ (.slice (some ⟨gw, 0, none⟩) l.length cw)).setCell ⟨xb + 1, 4, none⟩ (.slice pb L.length cb) = Z := ⟨_, rfl⟩
    rw [hw8] at HZ8 HB8 HR8
    try rw [hw8]
    have g0 := HZ8.out.cell (i := 0) (v := (.bool false)) rfl
    have g1 := HZ8.out.cell (i := 1) (v := (.slice ps sp.length cs)) rfl
    have g2 := HZ8.out.cell (i := 2) (v := (.int .i64 room)) rfl
    have g3 := HZ8.out.cell (i := 3) (v := (.slice (some ⟨gw, 0, none⟩) l.length cw)) rfl
    have g4 := HZ8.out.cell (i := 4) (v := (.slice pb L.length cb)) rfl
    refine bodyPost_ret (v := .tuple #[.agg #[.bool false, .slice ps sp.length cs, .int .i64 room, .slice (some ⟨gw, 0, none⟩) l.length cw, .slice pb L.length cb], .int .i64 9]) (by simp [results, Try.results64, go_sem, g0, g1, g2, g3, g4]) rfl ⟨HB8.out, _, _, _, _, by rw [HV.out], by rw [HV.out]; exact HR8.out⟩
  have hne : L ≠ [] := by rintro rfl; have := HQ1.out; simp at this
  have hpos : 0 < L.length := List.length_pos_iff.2 hne
  have HPOS := Lib.hid hpos
  obtain ⟨q2, hq2⟩ : ∃ q, ((br.length : Int) != (L.length : Int)) = q := ⟨_, rfl⟩
  have HQ2' := Lib.hid hq2
  clear hne
  cases q2
  rotate_left 1
  · have h0 : br.length ≠ L.length := by
      have := HQ2'.out
      simp at this
      omega
    have HV : Hid (R = (4, l, L)) := Lib.hid (by rw [← HR.out]; unfold drawF; rw [if_neg (List.length_pos_iff.1 HPOS.out), if_pos h0])
    clear h0
    have e0z := HX2.out.cell (i := 0) (v := (.bool false)) rfl
    have e1z := HX2.out.cell (i := 1) (v := (.slice ps sp.length cs)) rfl
    have e2z := HX2.out.cell (i := 2) (v := (.int .i64 room)) rfl
    have e3z := HX2.out.cell (i := 3) (v := (.slice (some ⟨gw, 0, none⟩) l.length cw)) rfl
    have e4z := HX2.out.cell (i := 4) (v := (.slice pb L.length cb)) rfl
    have z0z := HZ2.out.cell (i := 0) (v := (.bool false)) rfl
    have y0z := HZ2.out.fr (i := 0)
    have z1z := HZ2.out.cell (i := 1) (v := (.slice none 0 0)) rfl
    have y1z := HZ2.out.fr (i := 1)
    have z2z := HZ2.out.cell (i := 2) (v := (.int .i64 0)) rfl
    have y2z := HZ2.out.fr (i := 2)
    have z3z := HZ2.out.cell (i := 3) (v := (.slice none 0 0)) rfl
    have y3z := HZ2.out.fr (i := 3)
    have z4z := HZ2.out.cell (i := 4) (v := (.slice none 0 0)) rfl
    have y4z := HZ2.out.fr (i := 4)
    have HZ8 := Lib.hid (blk_set5 HZ2.out (.bool false) (.slice ps sp.length cs) (.int .i64 room) (.slice (some ⟨gw, 0, none⟩) l.length cw) (.slice pb L.length cb) rfl rfl rfl rfl rfl)
    have HB8 := Lib.hid (below_set5 (b := xb + 1) HB2.out (by omega) (.bool false) (.slice ps sp.length cs) (.int .i64 room) (.slice (some ⟨gw, 0, none⟩) l.length cw) (.slice pb L.length cb))
    have HR8 := Lib.hid (HR2.out.set5 HZ2.out (.bool false) (.slice ps sp.length cs) (.int .i64 room) (.slice (some ⟨gw, 0, none⟩) l.length cw) (.slice pb L.length cb))
    go_wp2
    obtain ⟨w8, hw8⟩ : ∃ Z, ((((w2.setCell ⟨xb + 1, 0, none⟩ (.bool false)).setCell ⟨xb + 1, 1, none⟩ (.slice ps sp.length cs)).setCell ⟨xb + 1, 2, none⟩ (.int .i64 room)).setCell ⟨xb + 1, 3, none⟩ (.slice (some ⟨gw, 0, none⟩) l.length cw)).setCell ⟨xb + 1, 4, none⟩ (.slice pb L.length cb) = Z := ⟨_, rfl⟩
    rw [hw8] at HZ8 HB8 HR8
    try rw [hw8]
    have g0 := HZ8.out.cell (i := 0) (v := (.bool false)) rfl
    have g1 := HZ8.out.cell (i := 1) (v := (.slice ps sp.length cs)) rfl
    have g2 := HZ8.out.cell (i := 2) (v := (.int .i64 room)) rfl
    have g3 := HZ8.out.cell (i := 3) (v := (.slice (some ⟨gw, 0, none⟩) l.length cw)) rfl
    have g4 := HZ8.out.cell (i := 4) (v := (.slice pb L.length cb)) rfl
    refine bodyPost_ret (v := .tuple #[.agg #[.bool false, .slice ps sp.length cs, .int .i64 room, .slice (some ⟨gw, 0, none⟩) l.length cw, .slice pb L.length cb], .int .i64 4]) (by simp [results, Try.results64, go_sem, g0, g1, g2, g3, g4]) rfl ⟨HB8.out, _, _, _, _, by rw [HV.out], by rw [HV.out]; exact HR8.out⟩
  have hbl2 : br.length = L.length := by
    have := HQ2'.out
    simp at this
    omega
  have HBL := Lib.hid hbl2
  clear hbl2
  obtain ⟨gi, rfl⟩ : ∃ gi, pb = some ⟨gi, 0, none⟩ := by
    rcases HR2.out.bat.2 with ⟨h, h'⟩ | ⟨gi, ci, cur, h, _⟩
    · omega
    · simp only [Value.slice.injEq] at h; exact ⟨gi, h.1⟩
  have x0c := HX2.out.cell (i := 0) (v := .bool false) rfl
  have x1c := HX2.out.cell (i := 1) (v := .slice ps sp.length cs) rfl
  have x2c := HX2.out.cell (i := 2) (v := .int .i64 room) rfl
  have x3c := HX2.out.cell (i := 3) (v := .slice (some ⟨gw, 0, none⟩) l.length cw) rfl
  have B3 := (Below.refl w2.heap.size w2).alloc (Nat.le_refl _) (.cells #[.bool false, .slice ps sp.length cs, .int .i64 room, .slice (some ⟨gw, 0, none⟩) l.length cw, .slice (some ⟨gi, 0, none⟩) L.length cb] 56)
  have HN3 := Lib.hid (Blk.newI w2 (xb + 2) #[.bool false, .slice ps sp.length cs, .int .i64 room, .slice (some ⟨gw, 0, none⟩) l.length cw, .slice (some ⟨gi, 0, none⟩) L.length cb] 56 HSZ2.out)
  have HX3 := Lib.hid (HX2.out.past B3)
  have HZ3 := Lib.hid (HZ2.out.past B3)
  have HR3 := Lib.hid (HR2.out.past B3)
  have HQ3 := Lib.hid (HQ2.out.past B3)
  have HB3 := Lib.hid (HB2.out.trans (B3.mono HB2.out.size))
  clear B3
  have hsz2v := HSZ2.out
  go_upto_region 6 with fail
  clear hsz2v
  obtain ⟨w3, hw3⟩ : ∃ Z, w2.alloc (.cells #[.bool false, .slice ps sp.length cs, .int .i64 room, .slice (some ⟨gw, 0, none⟩) l.length cw, .slice (some ⟨gi, 0, none⟩) L.length cb] 56) = Z := ⟨_, rfl⟩
  rw [hw3] at HN3 HX3 HZ3 HR3 HQ3 HB3
  try rw [hw3]
  clear hw3 x0c x1c x2c x3c x4 hq1 hq2
  go_wp2
  go_loopw [7] (fun i wr => ∃ (k gk ck : Nat), k ≤ L.length ∧ i = .int .i64 k ∧ Hid (((L.zip br).take k).all (fun x => inB x.2 0 x.1.2) = true) ∧ Hid (Blk wr (xb + 2) #[.bool false, .slice ps sp.length cs, .int .i64 room, .slice (some ⟨gk, 0, none⟩) l.length ck, .slice (some ⟨gi, 0, none⟩) L.length cb] 56) ∧ Hid (WarR wr base (.slice (some ⟨gk, 0, none⟩) l.length ck) (drawn ((L.zip br).take k) l)) ∧ Hid (Blk wr xb #[.bool false, .slice ps sp.length cs, .int .i64 room, .slice (some ⟨gw, 0, none⟩) l.length cw, .slice (some ⟨gi, 0, none⟩) L.length cb] 56) ∧ Hid (Blk wr (xb + 1) #[.bool false, .slice none 0 0, .int .i64 0, .slice none 0 0, .slice none 0 0] 56) ∧ Hid (Below w.heap.size w wr)) (fun i _ => L.length - (intOf i).toNat)
  case atStart => exact ⟨0, gw, cw, Nat.zero_le _, rfl, Lib.hid (by simp), HN3, Lib.hid (by simpa [drawn] using HR3.out.war), HX3, HZ3, HB3⟩
  case round =>
    obtain ⟨k, gk, ck, hk, rfl, HA, HN, HWK, HX, HZ, HW⟩ := hrel
    have HRF := Lib.hid (HRW.out.past HW.out)
    have HS := Lib.hid (HQW.out.past HW.out)
    by_cases hlt : k < L.length
    · have hlt2 : k < br.length := by rw [HBL.out]; exact hlt
      obtain ⟨a9, c9', he9, _, hp9⟩ := HS.out.ints.placed
      obtain ⟨b9, off9, e9, hb9, c9⟩ := hp9 k hlt2
      obtain rfl : av = some ⟨b9, off9, none⟩ := by simp only [Value.slice.injEq] at he9; exact he9.1.trans e9
      have hz := zip_get L br k hlt HBL.out
      have has := allN_take_succ ((0, 0), 0) (fun x : (Int × Int) × Int => inB x.2 0 x.1.2) (L.zip br) k (by rw [zip_len L br HBL.out]; exact hlt)
      have hno := allN_not ((0, 0), 0) (fun x : (Int × Int) × Int => inB x.2 0 x.1.2) (L.zip br) k (by rw [zip_len L br HBL.out]; exact hlt)
      rw [hz] at has hno
      obtain ⟨a1, a2⟩ := flatQ_at L k hlt
      have c1 := (World.ownsRow.cellAt HRF.out.bat (k * 2) (by omega)).trans a1
      have c2 := (World.ownsRow.cellAt HRF.out.bat (k * 2 + 1) (by omega)).trans a2
      obtain ⟨kd, n, hel⟩ : ∃ x y, L[k]?.getD (0, 0) = (x, y) := ⟨_, _, rfl⟩
      obtain ⟨x, hx⟩ : ∃ x, br[k]?.getD 0 = x := ⟨_, rfl⟩
      rw [hel] at c1 c2
      rw [hx] at c9
      rw [hel, hx] at has hno hz
      dsimp only at c1 c2 has hno
      obtain ⟨q, hq⟩ : ∃ q, inB x 0 n = q := ⟨_, rfl⟩
      rw [hq] at has hno
      have HQQ := Lib.hid hq
      have HAS := Lib.hid has
      have HNO := Lib.hid hno
      have HZZ := Lib.hid hz
      have HEL := Lib.hid hel
      have HC9 := Lib.hid c9
      obtain ⟨tb, htb⟩ : ∃ tb, wr.heap.size = tb := ⟨_, rfl⟩
      have hbA : Below wr.heap.size wr (wr.alloc (.cells #[.int .i64 kd, .int .i64 n] 111)) := (Below.refl _ _).alloc (Nat.le_refl _) _
      have HBA := Lib.hid hbA
      have HT := Lib.hid (Blk.newI wr tb #[.int .i64 kd, .int .i64 n] 111 htb)
      have x4 := HX.out.cell (i := 4) (v := .slice (some ⟨gi, 0, none⟩) L.length cb) rfl
      have hxt : xb + 2 < tb := by have := HN.out.lt; omega
      have hb9t : b9 < tb := by omega
      clear a1 a2 has hno hel hx hz c9 hbA he9 hp9
      go_upto_region 10 with fail
      obtain ⟨wA, hwA⟩ : ∃ wA, wr.alloc (.cells #[.int .i64 kd, .int .i64 n] 111) = wA := ⟨_, rfl⟩
      rw [hwA] at HT HBA
      try rw [hwA]
      clear hwA c1 c2 x4
      refine region_plain (fun W => W.cell? ⟨tb, 1, none⟩ = some (.int .i64 n) ∧ W.cell? ⟨b9, off9 + k, none⟩ = some (.int .i64 x)) 8 #[false, false, false, false, false, false, false, false] rfl rfl (by kernel_rfl) ?_
      obtain ⟨wx, hwx⟩ : ∃ Z, wA.drew = Z := ⟨_, rfl⟩
      have HBX : Hid (Below wr.heap.size wr wx) := Lib.hid (by rw [← hwx]; exact HBA.out.drew)
      have HTX : Hid (Blk wx tb #[.int .i64 kd, .int .i64 n] 111) := Lib.hid (by rw [← hwx]; exact HT.out.drew)
      rw [hwx]
      clear hwx HBA HT
      have hSS : (wx.cell? ⟨tb, 1, none⟩ = some (.int .i64 n) ∧ wx.cell? ⟨b9, off9 + k, none⟩ = some (.int .i64 x)) := ⟨HTX.out.cell (i := 1) rfl, (HBX.out.cell (p := ⟨b9, _, none⟩) hb9).trans HC9.out⟩
      have HIN := Lib.hid (refInB_any x 0 n wx)
      rw [hq] at HIN
      clear hq
      refine take_first (i := 0) (v := ?_) rfl (by kernel_rfl) (by kernel_rfl) (by kernel_rfl) (fun _ _ _ h => h) (by rfl) (by assumption) ?_ ?_
      rotate_left 1
      · intro X hSX
        (try dsimp only at hSX)
        first | (go_simp; done) | (go_simp; with_reducible rfl)
      try simp only [Act.put, List.setIfInBounds_toArray, List.set_cons_zero, List.set_cons_succ]
      refine take_first (i := 1) (v := ?_) rfl (by kernel_rfl) (by kernel_rfl) (by kernel_rfl) (fun _ _ _ h => h) (by rfl) (by assumption) ?_ ?_
      rotate_left 1
      · intro X hSX
        (try dsimp only at hSX)
        first | (go_simp; done) | (go_simp; with_reducible rfl)
      try simp only [Act.put, List.setIfInBounds_toArray, List.set_cons_zero, List.set_cons_succ]
      refine take_first (i := 2) (v := ?_) rfl (by kernel_rfl) (by kernel_rfl) (by kernel_rfl) (fun _ _ _ h => h) (by rfl) (by assumption) ?_ ?_
      rotate_left 1
      · intro X hSX
        (try dsimp only at hSX)
        first | (go_simp; done) | (go_simp; with_reducible rfl)
      try simp only [Act.put, List.setIfInBounds_toArray, List.set_cons_zero, List.set_cons_succ]
      refine take_first (i := 3) (v := ?_) rfl (by kernel_rfl) (by kernel_rfl) (by kernel_rfl) (fun _ _ _ h => h) (by rfl) (by assumption) ?_ ?_
      rotate_left 1
      · intro X hSX
        (try dsimp only at hSX)
        first | (go_simp; done) | (go_simp; with_reducible rfl)
      try simp only [Act.put, List.setIfInBounds_toArray, List.set_cons_zero, List.set_cons_succ]
      refine take_first (i := 4) (v := ?_) rfl (by kernel_rfl) (by kernel_rfl) (by kernel_rfl) (fun _ _ _ h => h) (by rfl) (by assumption) ?_ ?_
      rotate_left 1
      · intro X hSX
        (try dsimp only at hSX)
        first | (go_simp; done) | (go_simp; with_reducible rfl)
      try simp only [Act.put, List.setIfInBounds_toArray, List.set_cons_zero, List.set_cons_succ]
      refine take_first (i := 5) (v := ?_) rfl (by kernel_rfl) (by kernel_rfl) (by kernel_rfl) (fun _ _ _ h => h) (by rfl) (by assumption) ?_ ?_
      rotate_left 1
      · intro X hSX
        (try dsimp only at hSX)
        first | (go_simp; done) | (go_simp; with_reducible rfl)
      try simp only [Act.put, List.setIfInBounds_toArray, List.set_cons_zero, List.set_cons_succ]
      refine only_one (i := 6) (by kernel_rfl) rfl (by rfl) ?_
      intro K hK
      go_simp
      refine HIN.out.mono ?_
      rintro e w5 ⟨rfl, hw5⟩
      subst w5
      refine hK.out _ _ hSS ?_
      clear hK K
      try simp only [Act.put, List.setIfInBounds_toArray, List.set_cons_zero, List.set_cons_succ]
      refine take_first (i := 7) (v := ?_) rfl (by kernel_rfl) (by kernel_rfl) (by kernel_rfl) (fun _ _ _ h => h) (by rfl) (by assumption) ?_ ?_
      rotate_left 1
      · intro X hSX
        (try dsimp only at hSX)
        first | (go_simp; done) | (go_simp; with_reducible rfl)
      try simp only [Act.put, List.setIfInBounds_toArray, List.set_cons_zero, List.set_cons_succ]
      refine wpAnyH_done (by kernel_rfl) ?_ _
      clear hSS HIN
      have HXX := Lib.hid (HX.out.past HBX.out)
      have HZX := Lib.hid (HZ.out.past HBX.out)
      have HNX := Lib.hid (HN.out.past HBX.out)
      have HRX := Lib.hid (HRF.out.past HBX.out)
      have HWX := Lib.hid (HW.out.trans (HBX.out.mono HW.out.size))
      cases q
      · have HV : Hid (R = (2, l, L)) := Lib.hid (by
          rw [← HR.out]; unfold drawF
          rw [if_neg (List.length_pos_iff.1 HPOS.out), if_neg (by rw [HBL.out]; simp), if_pos (HNO.out rfl)])
        have e0z := HXX.out.cell (i := 0) (v := (.bool false)) rfl
        have e1z := HXX.out.cell (i := 1) (v := (.slice ps sp.length cs)) rfl
        have e2z := HXX.out.cell (i := 2) (v := (.int .i64 room)) rfl
        have e3z := HXX.out.cell (i := 3) (v := (.slice (some ⟨gw, 0, none⟩) l.length cw)) rfl
        have e4z := HXX.out.cell (i := 4) (v := (.slice (some ⟨gi, 0, none⟩) L.length cb)) rfl
        have z0z := HZX.out.cell (i := 0) (v := (.bool false)) rfl
        have y0z := HZX.out.fr (i := 0)
        have z1z := HZX.out.cell (i := 1) (v := (.slice none 0 0)) rfl
        have y1z := HZX.out.fr (i := 1)
        have z2z := HZX.out.cell (i := 2) (v := (.int .i64 0)) rfl
        have y2z := HZX.out.fr (i := 2)
        have z3z := HZX.out.cell (i := 3) (v := (.slice none 0 0)) rfl
        have y3z := HZX.out.fr (i := 3)
        have z4z := HZX.out.cell (i := 4) (v := (.slice none 0 0)) rfl
        have y4z := HZX.out.fr (i := 4)
        have HZ8 := Lib.hid (blk_set5 HZX.out (.bool false) (.slice ps sp.length cs) (.int .i64 room) (.slice (some ⟨gw, 0, none⟩) l.length cw) (.slice (some ⟨gi, 0, none⟩) L.length cb) rfl rfl rfl rfl rfl)
        have HB8 := Lib.hid (below_set5 (b := xb + 1) HWX.out (by omega) (.bool false) (.slice ps sp.length cs) (.int .i64 room) (.slice (some ⟨gw, 0, none⟩) l.length cw) (.slice (some ⟨gi, 0, none⟩) L.length cb))
        have HR8 := Lib.hid (HRX.out.set5 HZX.out (.bool false) (.slice ps sp.length cs) (.int .i64 room) (.slice (some ⟨gw, 0, none⟩) l.length cw) (.slice (some ⟨gi, 0, none⟩) L.length cb))
        go_wp2
        obtain ⟨w8, hw8⟩ : ∃ Z, ((((wx.setCell ⟨xb + 1, 0, none⟩ (.bool false)).setCell ⟨xb + 1, 1, none⟩ (.slice ps sp.length cs)).setCell ⟨xb + 1, 2, none⟩ (.int .i64 room)).setCell ⟨xb + 1, 3, none⟩ (.slice (some ⟨gw, 0, none⟩) l.length cw)).setCell ⟨xb + 1, 4, none⟩ (.slice (some ⟨gi, 0, none⟩) L.length cb) = Z := ⟨_, rfl⟩
        rw [hw8] at HZ8 HB8 HR8
        try rw [hw8]
        have g0 := HZ8.out.cell (i := 0) (v := (.bool false)) rfl
        have g1 := HZ8.out.cell (i := 1) (v := (.slice ps sp.length cs)) rfl
        have g2 := HZ8.out.cell (i := 2) (v := (.int .i64 room)) rfl
        have g3 := HZ8.out.cell (i := 3) (v := (.slice (some ⟨gw, 0, none⟩) l.length cw)) rfl
        have g4 := HZ8.out.cell (i := 4) (v := (.slice (some ⟨gi, 0, none⟩) L.length cb)) rfl
        refine bodyPost_ret (v := .tuple #[.agg #[.bool false, .slice ps sp.length cs, .int .i64 room, .slice (some ⟨gw, 0, none⟩) l.length cw, .slice (some ⟨gi, 0, none⟩) L.length cb], .int .i64 2]) (by simp [results, Try.results64, go_sem, g0, g1, g2, g3, g4]) rfl ⟨HB8.out, _, _, _, _, by rw [HV.out], by rw [HV.out]; exact HR8.out⟩
      · have HA2 : Hid (((L.zip br).take (k + 1)).all (fun x => inB x.2 0 x.1.2) = true) := Lib.hid (by rw [HAS.out, HA.out]; rfl)
        have HWKX := Lib.hid (own_past HWK.out HBX.out)
        have HSX := Lib.hid (HS.out.past HBX.out)
        have hpr := BInvPart HBL.out HA.out HINV.out hk
        obtain ⟨li, hli⟩ : ∃ li, drawn ((L.zip br).take k) l = li := ⟨_, rfl⟩
        have hLk : L[k] = (kd, n) := by rw [← HEL.out]; simp [hlt]
        rw [List.drop_eq_getElem_cons hlt, hLk] at hpr
        have hlen : li.length = l.length := by rw [← hli, drawn_len]
        have hnext : drawn ((L.zip br).take (k + 1)) l = li.set kd.toNat (drawS n x (li[kd.toNat]?.getD St.zero)) := by
          have hzl : k < (L.zip br).length := by rw [zip_len L br HBL.out]; exact hlt
          rw [List.take_succ_eq_append_getElem hzl, drawn_snoc, show (L.zip br)[k] = ((kd, n), x) by rw [← HZZ.out, List.getElem?_eq_getElem hzl]; rfl, hli]
        rw [hli] at hpr HWKX
        have hkd := kind_nat (hpr.kind (kd, n) (by simp))
        rw [hlen] at hkd
        obtain ⟨kk, rfl⟩ : ∃ kk : Nat, kd = kk := ⟨kd.toNat, by omega⟩
        have hkl : kk < l.length := by simpa using hkd.1
        have hk0 : (0 : Int) ≤ (kk : Int) := by omega
        have hk1 : (kk : Int) < (l.length : Int) := by omega
        have hi0 : (0 : Int) ≤ (k : Int) := by omega
        have hi1 : (k : Int) < (br.length : Int) := by omega
        simp only [Int.toNat_natCast] at hnext
        obtain ⟨s0, hs0⟩ : ∃ s0, li[kk]?.getD St.zero = s0 := ⟨_, rfl⟩
        have hkli : kk < li.length := by rw [hlen]; exact hkl
        have hOk := (hpr.good kk hkli).1
        have hmy := (hpr.many ((kk : Int), n) (by simp)).1
        have hxr := inB_parts HQQ.out
        rw [hs0] at hnext hOk
        have hburn := (hpr.many ((kk : Int), n) (by simp)).2
        simp only [Int.toNat_natCast] at hburn
        rw [hs0] at hburn
        have HNEXT := Lib.hid hnext
        have HS0 := Lib.hid hs0
        have HLEN := Lib.hid hlen
        obtain ⟨y0, y1, y2, y3, y4, y5, y6, y7⟩ := s0
        obtain ⟨r1, r2, r3, r4, r5, r6, r7⟩ := hOk
        dsimp only at r1 r2 r3 r4 r5 r6 r7 hmy hburn
        have w1 : IntKind.i64.wrap (y2 - n) = y2 - n := wrap_id (by omega) (by omega)
        have w2' : IntKind.i64.wrap (y3 + n) = y3 + n := wrap_id (by omega) (by omega)
        have w3 : IntKind.i64.wrap (y3 + n - x) = y3 + n - x := wrap_id (by omega) (by omega)
        have w4 : IntKind.i64.wrap (y5 + x) = y5 + x := wrap_id (by omega) (by omega)
        have HWR := HWKX.out
        unfold WarR at HWR
        rw [hlen] at HWR
        have q0 : wx.cell? ⟨gk, kk * 7, none⟩ = some (.int .i64 y0) := (World.ownsRow.cellAt HWR (kk * 7 + 0) (by omega)).trans ((wl_get li kk 0 hkli (by omega)).trans (by rw [HS0.out]; rfl))
        have q1 : wx.cell? ⟨gk, kk * 7 + 1, none⟩ = some (.int .i64 y1) := (World.ownsRow.cellAt HWR (kk * 7 + 1) (by omega)).trans ((wl_get li kk 1 hkli (by omega)).trans (by rw [HS0.out]; rfl))
        have q2 : wx.cell? ⟨gk, kk * 7 + 2, none⟩ = some (.int .i64 y2) := (World.ownsRow.cellAt HWR (kk * 7 + 2) (by omega)).trans ((wl_get li kk 2 hkli (by omega)).trans (by rw [HS0.out]; rfl))
        have q3 : wx.cell? ⟨gk, kk * 7 + 3, none⟩ = some (.int .i64 y3) := (World.ownsRow.cellAt HWR (kk * 7 + 3) (by omega)).trans ((wl_get li kk 3 hkli (by omega)).trans (by rw [HS0.out]; rfl))
        have q4 : wx.cell? ⟨gk, kk * 7 + 4, none⟩ = some (.int .i64 y4) := (World.ownsRow.cellAt HWR (kk * 7 + 4) (by omega)).trans ((wl_get li kk 4 hkli (by omega)).trans (by rw [HS0.out]; rfl))
        have q5 : wx.cell? ⟨gk, kk * 7 + 5, none⟩ = some (.int .i64 y5) := (World.ownsRow.cellAt HWR (kk * 7 + 5) (by omega)).trans ((wl_get li kk 5 hkli (by omega)).trans (by rw [HS0.out]; rfl))
        have q6 : wx.cell? ⟨gk, kk * 7 + 6, none⟩ = some (.int .i64 y6) := (World.ownsRow.cellAt HWR (kk * 7 + 6) (by omega)).trans ((wl_get li kk 6 hkli (by omega)).trans (by rw [HS0.out]; rfl))
        have n3 := HNX.out.cell (i := 3) (v := .slice (some ⟨gk, 0, none⟩) l.length ck) rfl
        have t0 := HTX.out.cell (i := 0) (v := .int .i64 (kk : Int)) rfl
        obtain ⟨ub, hub⟩ : ∃ ub, wx.heap.size = ub := ⟨_, rfl⟩
        have hbU : Below wx.heap.size wx (wx.alloc (.cells #[.int .i64 y0, .int .i64 y1, .int .i64 y2, .int .i64 y3, .int .i64 y4, .int .i64 y5, .int .i64 y6] 63)) := (Below.refl _ _).alloc (Nat.le_refl _) _
        have HU := Lib.hid (Blk.newI wx ub #[.int .i64 y0, .int .i64 y1, .int .i64 y2, .int .i64 y3, .int .i64 y4, .int .i64 y5, .int .i64 y6] 63 hub)
        have HBU := Lib.hid hbU
        have hut : tb < ub := by have := HTX.out.lt; omega
        clear r1 r2 r3 r4 r5 r6 r7 hmy hburn hpr hnext hs0 hlen hbU hli hLk hkd hxr HWR
        go_upto_region 13 with fail
        obtain ⟨wu, hwu⟩ : ∃ Z, wx.alloc (.cells #[.int .i64 y0, .int .i64 y1, .int .i64 y2, .int .i64 y3, .int .i64 y4, .int .i64 y5, .int .i64 y6] 63) = Z := ⟨_, rfl⟩
        rw [hwu] at HU HBU
        try rw [hwu]
        clear hwu n3 t0 q0 q1 q2 q3 q4 q5 q6
        have u2 := HU.out.cell (i := 2) (v := .int .i64 y2) rfl
        have u3 := HU.out.cell (i := 3) (v := .int .i64 y3) rfl
        have u5 := HU.out.cell (i := 5) (v := .int .i64 y5) rfl
        have v2 := HU.out.fr (i := 2)
        have v3 := HU.out.fr (i := 3)
        have v5 := HU.out.fr (i := 5)
        have t1 := (HTX.out.past HBU.out).cell (i := 1) (v := .int .i64 n) rfl
        have c9u := (HBU.out.cell (p := ⟨b9, off9 + k, none⟩) (by have := HBX.out.size; dsimp only; omega)).trans ((HBX.out.cell (p := ⟨b9, off9 + k, none⟩) hb9).trans HC9.out)
        refine region_plain (fun W => W.cell? ⟨tb, 1, none⟩ = some (.int .i64 n) ∧ W.cell? ⟨b9, off9 + k, none⟩ = some (.int .i64 x)) 28 #[false, false, false, false, false, false, false, false, false, false, false, false, false, false, false, false, false, false, false, false, false, false, false, false, false, false, false, false] rfl rfl (by kernel_rfl) ?_
        obtain ⟨wz, hwz⟩ : ∃ Z, wu.drew = Z := ⟨_, rfl⟩
        have HUZ : Hid (Blk wz ub #[.int .i64 y0, .int .i64 y1, .int .i64 y2, .int .i64 y3, .int .i64 y4, .int .i64 y5, .int .i64 y6] 63) := Lib.hid (by rw [← hwz]; exact HU.out.drew)
        have HBZ : Hid (Below wx.heap.size wx wz) := Lib.hid (by rw [← hwz]; exact HBU.out.drew)
        rw [hwz]
        have hSS : (wz.cell? ⟨tb, 1, none⟩ = some (.int .i64 n) ∧ wz.cell? ⟨b9, off9 + k, none⟩ = some (.int .i64 x)) := by rw [← hwz]; exact ⟨t1, c9u⟩
        clear hwz u2 u3 u5 v2 v3 v5 t1 c9u HU HBU
        have u2 := HUZ.out.cell (i := 2) (v := .int .i64 y2) rfl
        have u3 := HUZ.out.cell (i := 3) (v := .int .i64 y3) rfl
        have u5 := HUZ.out.cell (i := 5) (v := .int .i64 y5) rfl
        have v2 := HUZ.out.fr (i := 2)
        have v3 := HUZ.out.fr (i := 3)
        have v5 := HUZ.out.fr (i := 5)
        have HUA := Lib.hid (HUZ.out.set 2 (by simp) (.int .i64 (y2 - n)) rfl)
        have HUB := Lib.hid (HUA.out.set 3 (by simp) (.int .i64 (y3 + n - x)) rfl)
        have HUC := Lib.hid (HUB.out.set 5 (by simp) (.int .i64 (y5 + x)) rfl)
        have hxu : wx.heap.size ≤ ub := by omega
        have BA := HBZ.out.setCell (p := ⟨ub, 2, none⟩) hxu (.int .i64 (y2 - n))
        have BB := BA.setCell (p := ⟨ub, 3, none⟩) hxu (.int .i64 (y3 + n - x))
        have BC := BB.setCell (p := ⟨ub, 5, none⟩) hxu (.int .i64 (y5 + x))
        have hb9x : b9 < wx.heap.size := by have := HBX.out.size; omega
        have hc9x := (HBX.out.cell (p := ⟨b9, off9 + k, none⟩) hb9).trans HC9.out
        have HSA := Lib.hid (And.intro ((HTX.out.past BA).cell (i := 1) (v := .int .i64 n) rfl) ((BA.cell (p := ⟨b9, off9 + k, none⟩) hb9x).trans hc9x))
        have HSB := Lib.hid (And.intro ((HTX.out.past BB).cell (i := 1) (v := .int .i64 n) rfl) ((BB.cell (p := ⟨b9, off9 + k, none⟩) hb9x).trans hc9x))
        have HSC := Lib.hid (And.intro ((HTX.out.past BC).cell (i := 1) (v := .int .i64 n) rfl) ((BC.cell (p := ⟨b9, off9 + k, none⟩) hb9x).trans hc9x))
        have HBC := Lib.hid BC
        clear BA BB BC hc9x
        refine take_first (i := 0) (v := ?_) rfl (by kernel_rfl) (by kernel_rfl) (by kernel_rfl) (fun _ _ _ h => h) (by rfl) (by assumption) ?_ ?_
        rotate_left 1
        · intro X hSX
          (try dsimp only at hSX)
          first | (go_simp; done) | (go_simp; with_reducible rfl)
        try simp only [Act.put, List.setIfInBounds_toArray, List.set_cons_zero, List.set_cons_succ]
        refine take_first (i := 2) (v := ?_) rfl (by kernel_rfl) (by kernel_rfl) (by kernel_rfl) (fun _ _ _ h => h) (by rfl) (by assumption) ?_ ?_
        rotate_left 1
        · intro X hSX
          (try dsimp only at hSX)
          first | (go_simp; done) | (go_simp; with_reducible rfl)
        try simp only [Act.put, List.setIfInBounds_toArray, List.set_cons_zero, List.set_cons_succ]
        refine take_first (i := 3) (v := ?_) rfl (by kernel_rfl) (by kernel_rfl) (by kernel_rfl) (fun _ _ _ h => h) (by rfl) (by assumption) ?_ ?_
        rotate_left 1
        · intro X hSX
          (try dsimp only at hSX)
          first | (go_simp; done) | (go_simp; with_reducible rfl)
        try simp only [Act.put, List.setIfInBounds_toArray, List.set_cons_zero, List.set_cons_succ]
        refine take_first (i := 5) (v := ?_) rfl (by kernel_rfl) (by kernel_rfl) (by kernel_rfl) (fun _ _ _ h => h) (by rfl) (by assumption) ?_ ?_
        rotate_left 1
        · intro X hSX
          (try dsimp only at hSX)
          first | (go_simp; done) | (go_simp; with_reducible rfl)
        try simp only [Act.put, List.setIfInBounds_toArray, List.set_cons_zero, List.set_cons_succ]
        refine take_first (i := 7) (v := ?_) rfl (by kernel_rfl) (by kernel_rfl) (by kernel_rfl) (fun _ _ _ h => h) (by rfl) (by assumption) ?_ ?_
        rotate_left 1
        · intro X hSX
          (try dsimp only at hSX)
          first | (go_simp; done) | (go_simp; with_reducible rfl)
        try simp only [Act.put, List.setIfInBounds_toArray, List.set_cons_zero, List.set_cons_succ]
        refine take_first (i := 8) (v := ?_) rfl (by kernel_rfl) (by kernel_rfl) (by kernel_rfl) (fun _ _ _ h => h) (by rfl) (by assumption) ?_ ?_
        rotate_left 1
        · intro X hSX
          (try dsimp only at hSX)
          first | (go_simp; done) | (go_simp; with_reducible rfl)
        try simp only [Act.put, List.setIfInBounds_toArray, List.set_cons_zero, List.set_cons_succ]
        refine take_first (i := 10) (v := ?_) rfl (by kernel_rfl) (by kernel_rfl) (by kernel_rfl) (fun _ _ _ h => h) (by rfl) (by assumption) ?_ ?_
        rotate_left 1
        · intro X hSX
          (try dsimp only at hSX)
          first | (go_simp; done) | (go_simp; with_reducible rfl)
        try simp only [Act.put, List.setIfInBounds_toArray, List.set_cons_zero, List.set_cons_succ]
        refine take_first (i := 11) (v := ?_) rfl (by kernel_rfl) (by kernel_rfl) (by kernel_rfl) (fun _ _ _ h => h) (by rfl) (by assumption) ?_ ?_
        rotate_left 1
        · intro X hSX
          (try dsimp only at hSX)
          first | (go_simp; done) | (go_simp; with_reducible rfl)
        try simp only [Act.put, List.setIfInBounds_toArray, List.set_cons_zero, List.set_cons_succ]
        refine take_first (i := 12) (v := ?_) rfl (by kernel_rfl) (by kernel_rfl) (by kernel_rfl) (fun _ _ _ h => h) (by rfl) (by assumption) ?_ ?_
        rotate_left 1
        · intro X hSX
          (try dsimp only at hSX)
          first | (go_simp; done) | (go_simp; with_reducible rfl)
        try simp only [Act.put, List.setIfInBounds_toArray, List.set_cons_zero, List.set_cons_succ]
        refine take_first (i := 13) (v := ?_) rfl (by kernel_rfl) (by kernel_rfl) (by kernel_rfl) (fun _ _ _ h => h) (by rfl) (by assumption) ?_ ?_
        rotate_left 1
        · intro X hSX
          (try dsimp only at hSX)
          first | (go_simp; done) | (go_simp; with_reducible rfl)
        try simp only [Act.put, List.setIfInBounds_toArray, List.set_cons_zero, List.set_cons_succ]
        refine take_first (i := 15) (v := ?_) rfl (by kernel_rfl) (by kernel_rfl) (by kernel_rfl) (fun _ _ _ h => h) (by rfl) (by assumption) ?_ ?_
        rotate_left 1
        · intro X hSX
          (try dsimp only at hSX)
          first | (go_simp; done) | (go_simp; with_reducible rfl)
        try simp only [Act.put, List.setIfInBounds_toArray, List.set_cons_zero, List.set_cons_succ]
        refine take_first (i := 17) (v := ?_) rfl (by kernel_rfl) (by kernel_rfl) (by kernel_rfl) (fun _ _ _ h => h) (by rfl) (by assumption) ?_ ?_
        rotate_left 1
        · intro X hSX
          (try dsimp only at hSX)
          first | (go_simp; done) | (go_simp; with_reducible rfl)
        try simp only [Act.put, List.setIfInBounds_toArray, List.set_cons_zero, List.set_cons_succ]
        refine take_first (i := 18) (v := ?_) rfl (by kernel_rfl) (by kernel_rfl) (by kernel_rfl) (fun _ _ _ h => h) (by rfl) (by assumption) ?_ ?_
        rotate_left 1
        · intro X hSX
          (try dsimp only at hSX)
          first | (go_simp; done) | (go_simp; with_reducible rfl)
        try simp only [Act.put, List.setIfInBounds_toArray, List.set_cons_zero, List.set_cons_succ]
        refine take_first (i := 19) (v := ?_) rfl (by kernel_rfl) (by kernel_rfl) (by kernel_rfl) (fun _ _ _ h => h) (by rfl) (by assumption) ?_ ?_
        rotate_left 1
        · intro X hSX
          (try dsimp only at hSX)
          first | (go_simp; done) | (go_simp; with_reducible rfl)
        try simp only [Act.put, List.setIfInBounds_toArray, List.set_cons_zero, List.set_cons_succ]
        refine take_first (i := 20) (v := ?_) rfl (by kernel_rfl) (by kernel_rfl) (by kernel_rfl) (fun _ _ _ h => h) (by rfl) (by assumption) ?_ ?_
        rotate_left 1
        · intro X hSX
          (try dsimp only at hSX)
          first | (go_simp; done) | (go_simp; with_reducible rfl)
        try simp only [Act.put, List.setIfInBounds_toArray, List.set_cons_zero, List.set_cons_succ]
        refine oneB_of_three (i := 1) (j := 6) (k := 16) (by kernel_rfl) rfl rfl rfl (by rfl) (by rfl) (by rfl) ?_ ?_ ?_
        · intro K hK
          go_simp
          refine hK.out _ _ hSS ?_
          clear hK K
          try simp only [Act.put, List.setIfInBounds_toArray, List.set_cons_zero, List.set_cons_succ]
          refine take_first (i := 4) (v := ?_) rfl (by kernel_rfl) (by kernel_rfl) (by kernel_rfl) (fun _ _ _ h => h) (by rfl) (by assumption) ?_ ?_
          rotate_left 1
          · intro X hSX
            (try dsimp only at hSX)
            first | (go_simp; done) | (go_simp; with_reducible rfl)
          try simp only [Act.put, List.setIfInBounds_toArray, List.set_cons_zero, List.set_cons_succ]
          refine oneB_of_two (i := 6) (j := 16) (by kernel_rfl) rfl rfl (by rfl) (by rfl) ?_ ?_
          · intro K hK
            go_simp
            refine hK.out _ _ hSS ?_
            clear hK K
            try simp only [Act.put, List.setIfInBounds_toArray, List.set_cons_zero, List.set_cons_succ]
            refine take_first (i := 9) (v := ?_) rfl (by kernel_rfl) (by kernel_rfl) (by kernel_rfl) (fun _ _ _ h => h) (by rfl) (by assumption) ?_ ?_
            rotate_left 1
            · intro X hSX
              (try dsimp only at hSX)
              first | (go_simp; done) | (go_simp; with_reducible rfl)
            try simp only [Act.put, List.setIfInBounds_toArray, List.set_cons_zero, List.set_cons_succ]
            refine take_first (i := 14) (v := ?_) rfl (by kernel_rfl) (by kernel_rfl) (by kernel_rfl) (fun _ _ _ h => h) (by rfl) (by assumption) ?_ ?_
            rotate_left 1
            · intro X hSX
              (try dsimp only at hSX)
              first | (go_simp; done) | (go_simp; with_reducible rfl)
            try simp only [Act.put, List.setIfInBounds_toArray, List.set_cons_zero, List.set_cons_succ]
            refine only_one (i := 16) (by kernel_rfl) rfl (by rfl) ?_
            intro K hK
            go_simp
            refine hK.out _ _ hSS ?_
            clear hK K
            try simp only [Act.put, List.setIfInBounds_toArray, List.set_cons_zero, List.set_cons_succ]
            refine take_first (i := 21) (v := ?_) rfl (by kernel_rfl) (by kernel_rfl) (by kernel_rfl) (fun _ _ _ h => h) (by rfl) (by assumption) ?_ ?_
            rotate_left 1
            · intro X hSX
              (try dsimp only at hSX)
              first | (go_simp; done) | (go_simp; with_reducible rfl)
            try simp only [Act.put, List.setIfInBounds_toArray, List.set_cons_zero, List.set_cons_succ]
            refine take_first (i := 22) (v := ?_) rfl (by kernel_rfl) (by kernel_rfl) (by kernel_rfl) (fun _ _ _ h => h) (by rfl) (by assumption) ?_ ?_
            rotate_left 1
            · intro X hSX
              (try dsimp only at hSX)
              first | (go_simp; done) | (go_simp; with_reducible rfl)
            try simp only [Act.put, List.setIfInBounds_toArray, List.set_cons_zero, List.set_cons_succ]
            refine only_one (i := 23) (by kernel_rfl) rfl (by rfl) ?_
            intro K hK
            go_simp
            clear hSS
            have hSS : ((wz.setCell ⟨ub, 2, none⟩ (.int .i64 (y2 - n))).cell? ⟨tb, 1, none⟩ = some (.int .i64 n) ∧ (wz.setCell ⟨ub, 2, none⟩ (.int .i64 (y2 - n))).cell? ⟨b9, off9 + k, none⟩ = some (.int .i64 x)) := HSA.out
            have u3 := HUA.out.cell (i := 3) (v := .int .i64 y3) rfl
            have v3 := HUA.out.fr (i := 3)
            refine hK.out _ _ hSS ?_
            clear hK K
            try simp only [Act.put, List.setIfInBounds_toArray, List.set_cons_zero, List.set_cons_succ]
            refine take_first (i := 24) (v := ?_) rfl (by kernel_rfl) (by kernel_rfl) (by kernel_rfl) (fun _ _ _ h => h) (by rfl) (by assumption) ?_ ?_
            rotate_left 1
            · intro X hSX
              (try dsimp only at hSX)
              first | (go_simp; done) | (go_simp; with_reducible rfl)
            try simp only [Act.put, List.setIfInBounds_toArray, List.set_cons_zero, List.set_cons_succ]
            refine only_one (i := 25) (by kernel_rfl) rfl (by rfl) ?_
            intro K hK
            go_simp
            clear hSS
            have hSS : (((wz.setCell ⟨ub, 2, none⟩ (.int .i64 (y2 - n))).setCell ⟨ub, 3, none⟩ (.int .i64 (y3 + n - x))).cell? ⟨tb, 1, none⟩ = some (.int .i64 n) ∧ ((wz.setCell ⟨ub, 2, none⟩ (.int .i64 (y2 - n))).setCell ⟨ub, 3, none⟩ (.int .i64 (y3 + n - x))).cell? ⟨b9, off9 + k, none⟩ = some (.int .i64 x)) := HSB.out
            have u5 := HUB.out.cell (i := 5) (v := .int .i64 y5) rfl
            have v5 := HUB.out.fr (i := 5)
            refine hK.out _ _ hSS ?_
            clear hK K
            try simp only [Act.put, List.setIfInBounds_toArray, List.set_cons_zero, List.set_cons_succ]
            refine take_first (i := 26) (v := ?_) rfl (by kernel_rfl) (by kernel_rfl) (by kernel_rfl) (fun _ _ _ h => h) (by rfl) (by assumption) ?_ ?_
            rotate_left 1
            · intro X hSX
              (try dsimp only at hSX)
              first | (go_simp; done) | (go_simp; with_reducible rfl)
            try simp only [Act.put, List.setIfInBounds_toArray, List.set_cons_zero, List.set_cons_succ]
            refine only_one (i := 27) (by kernel_rfl) rfl (by rfl) ?_
            intro K hK
            go_simp
            clear hSS
            have hSS : ((((wz.setCell ⟨ub, 2, none⟩ (.int .i64 (y2 - n))).setCell ⟨ub, 3, none⟩ (.int .i64 (y3 + n - x))).setCell ⟨ub, 5, none⟩ (.int .i64 (y5 + x))).cell? ⟨tb, 1, none⟩ = some (.int .i64 n) ∧ (((wz.setCell ⟨ub, 2, none⟩ (.int .i64 (y2 - n))).setCell ⟨ub, 3, none⟩ (.int .i64 (y3 + n - x))).setCell ⟨ub, 5, none⟩ (.int .i64 (y5 + x))).cell? ⟨b9, off9 + k, none⟩ = some (.int .i64 x)) := HSC.out
            refine hK.out _ _ hSS ?_
            clear hK K
            try simp only [Act.put, List.setIfInBounds_toArray, List.set_cons_zero, List.set_cons_succ]
            refine wpAnyH_done (by kernel_rfl) ?_ _
            obtain ⟨wv, hwv⟩ : ∃ Z, (((wz.setCell ⟨ub, 2, none⟩ (.int .i64 (y2 - n))).setCell ⟨ub, 3, none⟩ (.int .i64 (y3 + n - x))).setCell ⟨ub, 5, none⟩ (.int .i64 (y5 + x))) = Z := ⟨_, rfl⟩
            rw [hwv] at HUC HBC
            try rw [hwv]
            clear hwv hSS u2 u3 u5 v2 v3 v5
            have HU7 : Hid (Blk wv ub #[.int .i64 y0, .int .i64 y1, .int .i64 (y2 - n), .int .i64 (y3 + n - x), .int .i64 y4, .int .i64 (y5 + x), .int .i64 y6] 63) := Lib.hid (by simpa using HUC.out)
            have g0 := HU7.out.cell (i := 0) (v := .int .i64 y0) rfl
            have g1 := HU7.out.cell (i := 1) (v := .int .i64 y1) rfl
            have g2 := HU7.out.cell (i := 2) (v := .int .i64 (y2 - n)) rfl
            have g3 := HU7.out.cell (i := 3) (v := .int .i64 (y3 + n - x)) rfl
            have g4 := HU7.out.cell (i := 4) (v := .int .i64 y4) rfl
            have g5 := HU7.out.cell (i := 5) (v := .int .i64 (y5 + x)) rfl
            have g6 := HU7.out.cell (i := 6) (v := .int .i64 y6) rfl
            have t0 := (HTX.out.past HBC.out).cell (i := 0) (v := .int .i64 (kk : Int)) rfl
            have HNV := Lib.hid (HNX.out.past HBC.out)
            have n0 := HNV.out.cell (i := 0) (v := .bool false) rfl
            have n1 := HNV.out.cell (i := 1) (v := .slice ps sp.length cs) rfl
            have n2 := HNV.out.cell (i := 2) (v := .int .i64 room) rfl
            have n3 := HNV.out.cell (i := 3) (v := .slice (some ⟨gk, 0, none⟩) l.length ck) rfl
            have n4 := HNV.out.cell (i := 4) (v := .slice (some ⟨gi, 0, none⟩) L.length cb) rfl
            have hwi := with_any false ps (some ⟨gi, 0, none⟩) sp.length cs L.length cb room base gk ck li kk y0 y1 (y2 - n) (y3 + n - x) y4 (y5 + x) y6 y7 wv (by unfold WarR; rw [HLEN.out]; exact own_past (by have := HWKX.out; unfold WarR at this; rwa [HLEN.out] at this) HBC.out) hkli (by rw [HLEN.out]; exact hl)
            rw [HLEN.out] at hwi
            have HWI := Lib.hid hwi
            clear hwi
            go_wp2_with fail
            refine HWI.out.mono ?_
            rintro e w9 ⟨hb9', vw, rfl, hwar⟩
            obtain ⟨gk2, ck2, rfl⟩ : ∃ gk2 ck2, vw = .slice (some ⟨gk2, 0, none⟩) l.length ck2 := by
              unfold WarR at hwar
              rw [List.length_set, HLEN.out] at hwar
              rcases hwar.2 with ⟨_, h⟩ | ⟨gn, cn, cur, rfl, _⟩
              · omega
              · exact ⟨gn, cn, rfl⟩
            have HN9 := Lib.hid (HNV.out.past hb9')
            have HX9 := Lib.hid ((HXX.out.past HBC.out).past hb9')
            have HZ9 := Lib.hid ((HZX.out.past HBC.out).past hb9')
            have HW9 := Lib.hid ((HWX.out.trans (HBC.out.mono HWX.out.size)).trans (hb9'.mono (HWX.out.trans (HBC.out.mono HWX.out.size)).size))
            have hle : base ≤ wv.heap.size := Nat.le_trans hbase (HWX.out.trans (HBC.out.mono HWX.out.size)).size
            have HK9 : Hid (WarR w9 base (.slice (some ⟨gk2, 0, none⟩) l.length ck2) (drawn ((L.zip br).take (k + 1)) l)) := Lib.hid (by
              rw [HNEXT.out]
              have e9 : drawS n x ⟨y0, y1, y2, y3, y4, y5, y6, y7⟩ = ⟨y0, y1, y2 - n, y3 + n - x, y4, y5 + x, y6, y7⟩ := by simp [drawS]; omega
              rw [e9]
              exact own_low hwar hle)
            have HN10 := Lib.hid (blk_set5 HN9.out (.bool false) (.slice ps sp.length cs) (.int .i64 room) (.slice (some ⟨gk2, 0, none⟩) l.length ck2) (.slice (some ⟨gi, 0, none⟩) L.length cb) rfl rfl rfl rfl rfl)
            have HX10 := Lib.hid (blk_f5 (b' := xb + 2) HX9.out (by omega) (.bool false) (.slice ps sp.length cs) (.int .i64 room) (.slice (some ⟨gk2, 0, none⟩) l.length ck2) (.slice (some ⟨gi, 0, none⟩) L.length cb))
            have HZ10 := Lib.hid (blk_f5 (b' := xb + 2) HZ9.out (by omega) (.bool false) (.slice ps sp.length cs) (.int .i64 room) (.slice (some ⟨gk2, 0, none⟩) l.length ck2) (.slice (some ⟨gi, 0, none⟩) L.length cb))
            have HK10 := Lib.hid (own_set5 (gq := xb + 2) HK9.out (own_ne HK9.out ⟨_, HN9.out⟩ (by decide)) (.bool false) (.slice ps sp.length cs) (.int .i64 room) (.slice (some ⟨gk2, 0, none⟩) l.length ck2) (.slice (some ⟨gi, 0, none⟩) L.length cb))
            have HW10 := Lib.hid (below_set5 (b := xb + 2) HW9.out (by omega) (.bool false) (.slice ps sp.length cs) (.int .i64 room) (.slice (some ⟨gk2, 0, none⟩) l.length ck2) (.slice (some ⟨gi, 0, none⟩) L.length cb))
            clear hwar hb9' hle n0 n1 n2 n3 n4 g0 g1 g2 g3 g4 g5 g6 t0 HWI
            have m0 := HN9.out.cell (i := 0) (v := .bool false) rfl
            have p0 := HN9.out.fr (i := 0)
            have m1 := HN9.out.cell (i := 1) (v := .slice ps sp.length cs) rfl
            have p1 := HN9.out.fr (i := 1)
            have m2 := HN9.out.cell (i := 2) (v := .int .i64 room) rfl
            have p2 := HN9.out.fr (i := 2)
            have m3 := HN9.out.cell (i := 3) (v := .slice (some ⟨gk, 0, none⟩) l.length ck) rfl
            have p3 := HN9.out.fr (i := 3)
            have m4 := HN9.out.cell (i := 4) (v := .slice (some ⟨gi, 0, none⟩) L.length cb) rfl
            have p4 := HN9.out.fr (i := 4)
            go_wp2
            go_roundw
            case rel => exact ⟨k + 1, gk2, ck2, by omega, by go_num, HA2, HN10, HK10, HX10, HZ10, HW10⟩
            case measure => simp [intOf]; omega
          · intro K hK
            go_simp
            refine hK.out _ _ hSS ?_
            clear hK K
            try simp only [Act.put, List.setIfInBounds_toArray, List.set_cons_zero, List.set_cons_succ]
            refine take_first (i := 21) (v := ?_) rfl (by kernel_rfl) (by kernel_rfl) (by kernel_rfl) (fun _ _ _ h => h) (by rfl) (by assumption) ?_ ?_
            rotate_left 1
            · intro X hSX
              (try dsimp only at hSX)
              first | (go_simp; done) | (go_simp; with_reducible rfl)
            try simp only [Act.put, List.setIfInBounds_toArray, List.set_cons_zero, List.set_cons_succ]
            refine only_one (i := 6) (by kernel_rfl) rfl (by rfl) ?_
            intro K hK
            go_simp
            refine hK.out _ _ hSS ?_
            clear hK K
            try simp only [Act.put, List.setIfInBounds_toArray, List.set_cons_zero, List.set_cons_succ]
            refine take_first (i := 9) (v := ?_) rfl (by kernel_rfl) (by kernel_rfl) (by kernel_rfl) (fun _ _ _ h => h) (by rfl) (by assumption) ?_ ?_
            rotate_left 1
            · intro X hSX
              (try dsimp only at hSX)
              first | (go_simp; done) | (go_simp; with_reducible rfl)
            try simp only [Act.put, List.setIfInBounds_toArray, List.set_cons_zero, List.set_cons_succ]
            refine take_first (i := 14) (v := ?_) rfl (by kernel_rfl) (by kernel_rfl) (by kernel_rfl) (fun _ _ _ h => h) (by rfl) (by assumption) ?_ ?_
            rotate_left 1
            · intro X hSX
              (try dsimp only at hSX)
              first | (go_simp; done) | (go_simp; with_reducible rfl)
            try simp only [Act.put, List.setIfInBounds_toArray, List.set_cons_zero, List.set_cons_succ]
            refine take_first (i := 22) (v := ?_) rfl (by kernel_rfl) (by kernel_rfl) (by kernel_rfl) (fun _ _ _ h => h) (by rfl) (by assumption) ?_ ?_
            rotate_left 1
            · intro X hSX
              (try dsimp only at hSX)
              first | (go_simp; done) | (go_simp; with_reducible rfl)
            try simp only [Act.put, List.setIfInBounds_toArray, List.set_cons_zero, List.set_cons_succ]
            refine only_one (i := 23) (by kernel_rfl) rfl (by rfl) ?_
            intro K hK
            go_simp
            clear hSS
            have hSS : ((wz.setCell ⟨ub, 2, none⟩ (.int .i64 (y2 - n))).cell? ⟨tb, 1, none⟩ = some (.int .i64 n) ∧ (wz.setCell ⟨ub, 2, none⟩ (.int .i64 (y2 - n))).cell? ⟨b9, off9 + k, none⟩ = some (.int .i64 x)) := HSA.out
            have u3 := HUA.out.cell (i := 3) (v := .int .i64 y3) rfl
            have v3 := HUA.out.fr (i := 3)
            refine hK.out _ _ hSS ?_
            clear hK K
            try simp only [Act.put, List.setIfInBounds_toArray, List.set_cons_zero, List.set_cons_succ]
            refine take_first (i := 24) (v := ?_) rfl (by kernel_rfl) (by kernel_rfl) (by kernel_rfl) (fun _ _ _ h => h) (by rfl) (by assumption) ?_ ?_
            rotate_left 1
            · intro X hSX
              (try dsimp only at hSX)
              first | (go_simp; done) | (go_simp; with_reducible rfl)
            try simp only [Act.put, List.setIfInBounds_toArray, List.set_cons_zero, List.set_cons_succ]
            refine only_one (i := 25) (by kernel_rfl) rfl (by rfl) ?_
            intro K hK
            go_simp
            clear hSS
            have hSS : (((wz.setCell ⟨ub, 2, none⟩ (.int .i64 (y2 - n))).setCell ⟨ub, 3, none⟩ (.int .i64 (y3 + n - x))).cell? ⟨tb, 1, none⟩ = some (.int .i64 n) ∧ ((wz.setCell ⟨ub, 2, none⟩ (.int .i64 (y2 - n))).setCell ⟨ub, 3, none⟩ (.int .i64 (y3 + n - x))).cell? ⟨b9, off9 + k, none⟩ = some (.int .i64 x)) := HSB.out
            have u5 := HUB.out.cell (i := 5) (v := .int .i64 y5) rfl
            have v5 := HUB.out.fr (i := 5)
            refine hK.out _ _ hSS ?_
            clear hK K
            try simp only [Act.put, List.setIfInBounds_toArray, List.set_cons_zero, List.set_cons_succ]
            refine take_first (i := 26) (v := ?_) rfl (by kernel_rfl) (by kernel_rfl) (by kernel_rfl) (fun _ _ _ h => h) (by rfl) (by assumption) ?_ ?_
            rotate_left 1
            · intro X hSX
              (try dsimp only at hSX)
              first | (go_simp; done) | (go_simp; with_reducible rfl)
            try simp only [Act.put, List.setIfInBounds_toArray, List.set_cons_zero, List.set_cons_succ]
            refine only_one (i := 27) (by kernel_rfl) rfl (by rfl) ?_
            intro K hK
            go_simp
            clear hSS
            have hSS : ((((wz.setCell ⟨ub, 2, none⟩ (.int .i64 (y2 - n))).setCell ⟨ub, 3, none⟩ (.int .i64 (y3 + n - x))).setCell ⟨ub, 5, none⟩ (.int .i64 (y5 + x))).cell? ⟨tb, 1, none⟩ = some (.int .i64 n) ∧ (((wz.setCell ⟨ub, 2, none⟩ (.int .i64 (y2 - n))).setCell ⟨ub, 3, none⟩ (.int .i64 (y3 + n - x))).setCell ⟨ub, 5, none⟩ (.int .i64 (y5 + x))).cell? ⟨b9, off9 + k, none⟩ = some (.int .i64 x)) := HSC.out
            refine hK.out _ _ hSS ?_
            clear hK K
            try simp only [Act.put, List.setIfInBounds_toArray, List.set_cons_zero, List.set_cons_succ]
            refine wpAnyH_done (by kernel_rfl) ?_ _
            obtain ⟨wv, hwv⟩ : ∃ Z, (((wz.setCell ⟨ub, 2, none⟩ (.int .i64 (y2 - n))).setCell ⟨ub, 3, none⟩ (.int .i64 (y3 + n - x))).setCell ⟨ub, 5, none⟩ (.int .i64 (y5 + x))) = Z := ⟨_, rfl⟩
            rw [hwv] at HUC HBC
            try rw [hwv]
            clear hwv hSS u2 u3 u5 v2 v3 v5
            have HU7 : Hid (Blk wv ub #[.int .i64 y0, .int .i64 y1, .int .i64 (y2 - n), .int .i64 (y3 + n - x), .int .i64 y4, .int .i64 (y5 + x), .int .i64 y6] 63) := Lib.hid (by simpa using HUC.out)
            have g0 := HU7.out.cell (i := 0) (v := .int .i64 y0) rfl
            have g1 := HU7.out.cell (i := 1) (v := .int .i64 y1) rfl
            have g2 := HU7.out.cell (i := 2) (v := .int .i64 (y2 - n)) rfl
            have g3 := HU7.out.cell (i := 3) (v := .int .i64 (y3 + n - x)) rfl
            have g4 := HU7.out.cell (i := 4) (v := .int .i64 y4) rfl
            have g5 := HU7.out.cell (i := 5) (v := .int .i64 (y5 + x)) rfl
            have g6 := HU7.out.cell (i := 6) (v := .int .i64 y6) rfl
            have t0 := (HTX.out.past HBC.out).cell (i := 0) (v := .int .i64 (kk : Int)) rfl
            have HNV := Lib.hid (HNX.out.past HBC.out)
            have n0 := HNV.out.cell (i := 0) (v := .bool false) rfl
            have n1 := HNV.out.cell (i := 1) (v := .slice ps sp.length cs) rfl
            have n2 := HNV.out.cell (i := 2) (v := .int .i64 room) rfl
            have n3 := HNV.out.cell (i := 3) (v := .slice (some ⟨gk, 0, none⟩) l.length ck) rfl
            have n4 := HNV.out.cell (i := 4) (v := .slice (some ⟨gi, 0, none⟩) L.length cb) rfl
            have hwi := with_any false ps (some ⟨gi, 0, none⟩) sp.length cs L.length cb room base gk ck li kk y0 y1 (y2 - n) (y3 + n - x) y4 (y5 + x) y6 y7 wv (by unfold WarR; rw [HLEN.out]; exact own_past (by have := HWKX.out; unfold WarR at this; rwa [HLEN.out] at this) HBC.out) hkli (by rw [HLEN.out]; exact hl)
            rw [HLEN.out] at hwi
            have HWI := Lib.hid hwi
            clear hwi
            go_wp2_with fail
            refine HWI.out.mono ?_
            rintro e w9 ⟨hb9', vw, rfl, hwar⟩
            obtain ⟨gk2, ck2, rfl⟩ : ∃ gk2 ck2, vw = .slice (some ⟨gk2, 0, none⟩) l.length ck2 := by
              unfold WarR at hwar
              rw [List.length_set, HLEN.out] at hwar
              rcases hwar.2 with ⟨_, h⟩ | ⟨gn, cn, cur, rfl, _⟩
              · omega
              · exact ⟨gn, cn, rfl⟩
            have HN9 := Lib.hid (HNV.out.past hb9')
            have HX9 := Lib.hid ((HXX.out.past HBC.out).past hb9')
            have HZ9 := Lib.hid ((HZX.out.past HBC.out).past hb9')
            have HW9 := Lib.hid ((HWX.out.trans (HBC.out.mono HWX.out.size)).trans (hb9'.mono (HWX.out.trans (HBC.out.mono HWX.out.size)).size))
            have hle : base ≤ wv.heap.size := Nat.le_trans hbase (HWX.out.trans (HBC.out.mono HWX.out.size)).size
            have HK9 : Hid (WarR w9 base (.slice (some ⟨gk2, 0, none⟩) l.length ck2) (drawn ((L.zip br).take (k + 1)) l)) := Lib.hid (by
              rw [HNEXT.out]
              have e9 : drawS n x ⟨y0, y1, y2, y3, y4, y5, y6, y7⟩ = ⟨y0, y1, y2 - n, y3 + n - x, y4, y5 + x, y6, y7⟩ := by simp [drawS]; omega
              rw [e9]
              exact own_low hwar hle)
            have HN10 := Lib.hid (blk_set5 HN9.out (.bool false) (.slice ps sp.length cs) (.int .i64 room) (.slice (some ⟨gk2, 0, none⟩) l.length ck2) (.slice (some ⟨gi, 0, none⟩) L.length cb) rfl rfl rfl rfl rfl)
            have HX10 := Lib.hid (blk_f5 (b' := xb + 2) HX9.out (by omega) (.bool false) (.slice ps sp.length cs) (.int .i64 room) (.slice (some ⟨gk2, 0, none⟩) l.length ck2) (.slice (some ⟨gi, 0, none⟩) L.length cb))
            have HZ10 := Lib.hid (blk_f5 (b' := xb + 2) HZ9.out (by omega) (.bool false) (.slice ps sp.length cs) (.int .i64 room) (.slice (some ⟨gk2, 0, none⟩) l.length ck2) (.slice (some ⟨gi, 0, none⟩) L.length cb))
            have HK10 := Lib.hid (own_set5 (gq := xb + 2) HK9.out (own_ne HK9.out ⟨_, HN9.out⟩ (by decide)) (.bool false) (.slice ps sp.length cs) (.int .i64 room) (.slice (some ⟨gk2, 0, none⟩) l.length ck2) (.slice (some ⟨gi, 0, none⟩) L.length cb))
            have HW10 := Lib.hid (below_set5 (b := xb + 2) HW9.out (by omega) (.bool false) (.slice ps sp.length cs) (.int .i64 room) (.slice (some ⟨gk2, 0, none⟩) l.length ck2) (.slice (some ⟨gi, 0, none⟩) L.length cb))
            clear hwar hb9' hle n0 n1 n2 n3 n4 g0 g1 g2 g3 g4 g5 g6 t0 HWI
            have m0 := HN9.out.cell (i := 0) (v := .bool false) rfl
            have p0 := HN9.out.fr (i := 0)
            have m1 := HN9.out.cell (i := 1) (v := .slice ps sp.length cs) rfl
            have p1 := HN9.out.fr (i := 1)
            have m2 := HN9.out.cell (i := 2) (v := .int .i64 room) rfl
            have p2 := HN9.out.fr (i := 2)
            have m3 := HN9.out.cell (i := 3) (v := .slice (some ⟨gk, 0, none⟩) l.length ck) rfl
            have p3 := HN9.out.fr (i := 3)
            have m4 := HN9.out.cell (i := 4) (v := .slice (some ⟨gi, 0, none⟩) L.length cb) rfl
            have p4 := HN9.out.fr (i := 4)
            go_wp2
            go_roundw
            case rel => exact ⟨k + 1, gk2, ck2, by omega, by go_num, HA2, HN10, HK10, HX10, HZ10, HW10⟩
            case measure => simp [intOf]; omega
        · intro K hK
          go_simp
          refine hK.out _ _ hSS ?_
          clear hK K
          try simp only [Act.put, List.setIfInBounds_toArray, List.set_cons_zero, List.set_cons_succ]
          refine take_first (i := 9) (v := ?_) rfl (by kernel_rfl) (by kernel_rfl) (by kernel_rfl) (fun _ _ _ h => h) (by rfl) (by assumption) ?_ ?_
          rotate_left 1
          · intro X hSX
            (try dsimp only at hSX)
            first | (go_simp; done) | (go_simp; with_reducible rfl)
          try simp only [Act.put, List.setIfInBounds_toArray, List.set_cons_zero, List.set_cons_succ]
          refine take_first (i := 14) (v := ?_) rfl (by kernel_rfl) (by kernel_rfl) (by kernel_rfl) (fun _ _ _ h => h) (by rfl) (by assumption) ?_ ?_
          rotate_left 1
          · intro X hSX
            (try dsimp only at hSX)
            first | (go_simp; done) | (go_simp; with_reducible rfl)
          try simp only [Act.put, List.setIfInBounds_toArray, List.set_cons_zero, List.set_cons_succ]
          refine oneB_of_two (i := 1) (j := 16) (by kernel_rfl) rfl rfl (by rfl) (by rfl) ?_ ?_
          · intro K hK
            go_simp
            refine hK.out _ _ hSS ?_
            clear hK K
            try simp only [Act.put, List.setIfInBounds_toArray, List.set_cons_zero, List.set_cons_succ]
            refine take_first (i := 4) (v := ?_) rfl (by kernel_rfl) (by kernel_rfl) (by kernel_rfl) (fun _ _ _ h => h) (by rfl) (by assumption) ?_ ?_
            rotate_left 1
            · intro X hSX
              (try dsimp only at hSX)
              first | (go_simp; done) | (go_simp; with_reducible rfl)
            try simp only [Act.put, List.setIfInBounds_toArray, List.set_cons_zero, List.set_cons_succ]
            refine only_one (i := 16) (by kernel_rfl) rfl (by rfl) ?_
            intro K hK
            go_simp
            refine hK.out _ _ hSS ?_
            clear hK K
            try simp only [Act.put, List.setIfInBounds_toArray, List.set_cons_zero, List.set_cons_succ]
            refine take_first (i := 21) (v := ?_) rfl (by kernel_rfl) (by kernel_rfl) (by kernel_rfl) (fun _ _ _ h => h) (by rfl) (by assumption) ?_ ?_
            rotate_left 1
            · intro X hSX
              (try dsimp only at hSX)
              first | (go_simp; done) | (go_simp; with_reducible rfl)
            try simp only [Act.put, List.setIfInBounds_toArray, List.set_cons_zero, List.set_cons_succ]
            refine take_first (i := 22) (v := ?_) rfl (by kernel_rfl) (by kernel_rfl) (by kernel_rfl) (fun _ _ _ h => h) (by rfl) (by assumption) ?_ ?_
            rotate_left 1
            · intro X hSX
              (try dsimp only at hSX)
              first | (go_simp; done) | (go_simp; with_reducible rfl)
            try simp only [Act.put, List.setIfInBounds_toArray, List.set_cons_zero, List.set_cons_succ]
            refine only_one (i := 23) (by kernel_rfl) rfl (by rfl) ?_
            intro K hK
            go_simp
            clear hSS
            have hSS : ((wz.setCell ⟨ub, 2, none⟩ (.int .i64 (y2 - n))).cell? ⟨tb, 1, none⟩ = some (.int .i64 n) ∧ (wz.setCell ⟨ub, 2, none⟩ (.int .i64 (y2 - n))).cell? ⟨b9, off9 + k, none⟩ = some (.int .i64 x)) := HSA.out
            have u3 := HUA.out.cell (i := 3) (v := .int .i64 y3) rfl
            have v3 := HUA.out.fr (i := 3)
            refine hK.out _ _ hSS ?_
            clear hK K
            try simp only [Act.put, List.setIfInBounds_toArray, List.set_cons_zero, List.set_cons_succ]
            refine take_first (i := 24) (v := ?_) rfl (by kernel_rfl) (by kernel_rfl) (by kernel_rfl) (fun _ _ _ h => h) (by rfl) (by assumption) ?_ ?_
            rotate_left 1
            · intro X hSX
              (try dsimp only at hSX)
              first | (go_simp; done) | (go_simp; with_reducible rfl)
            try simp only [Act.put, List.setIfInBounds_toArray, List.set_cons_zero, List.set_cons_succ]
            refine only_one (i := 25) (by kernel_rfl) rfl (by rfl) ?_
            intro K hK
            go_simp
            clear hSS
            have hSS : (((wz.setCell ⟨ub, 2, none⟩ (.int .i64 (y2 - n))).setCell ⟨ub, 3, none⟩ (.int .i64 (y3 + n - x))).cell? ⟨tb, 1, none⟩ = some (.int .i64 n) ∧ ((wz.setCell ⟨ub, 2, none⟩ (.int .i64 (y2 - n))).setCell ⟨ub, 3, none⟩ (.int .i64 (y3 + n - x))).cell? ⟨b9, off9 + k, none⟩ = some (.int .i64 x)) := HSB.out
            have u5 := HUB.out.cell (i := 5) (v := .int .i64 y5) rfl
            have v5 := HUB.out.fr (i := 5)
            refine hK.out _ _ hSS ?_
            clear hK K
            try simp only [Act.put, List.setIfInBounds_toArray, List.set_cons_zero, List.set_cons_succ]
            refine take_first (i := 26) (v := ?_) rfl (by kernel_rfl) (by kernel_rfl) (by kernel_rfl) (fun _ _ _ h => h) (by rfl) (by assumption) ?_ ?_
            rotate_left 1
            · intro X hSX
              (try dsimp only at hSX)
              first | (go_simp; done) | (go_simp; with_reducible rfl)
            try simp only [Act.put, List.setIfInBounds_toArray, List.set_cons_zero, List.set_cons_succ]
            refine only_one (i := 27) (by kernel_rfl) rfl (by rfl) ?_
            intro K hK
            go_simp
            clear hSS
            have hSS : ((((wz.setCell ⟨ub, 2, none⟩ (.int .i64 (y2 - n))).setCell ⟨ub, 3, none⟩ (.int .i64 (y3 + n - x))).setCell ⟨ub, 5, none⟩ (.int .i64 (y5 + x))).cell? ⟨tb, 1, none⟩ = some (.int .i64 n) ∧ (((wz.setCell ⟨ub, 2, none⟩ (.int .i64 (y2 - n))).setCell ⟨ub, 3, none⟩ (.int .i64 (y3 + n - x))).setCell ⟨ub, 5, none⟩ (.int .i64 (y5 + x))).cell? ⟨b9, off9 + k, none⟩ = some (.int .i64 x)) := HSC.out
            refine hK.out _ _ hSS ?_
            clear hK K
            try simp only [Act.put, List.setIfInBounds_toArray, List.set_cons_zero, List.set_cons_succ]
            refine wpAnyH_done (by kernel_rfl) ?_ _
            obtain ⟨wv, hwv⟩ : ∃ Z, (((wz.setCell ⟨ub, 2, none⟩ (.int .i64 (y2 - n))).setCell ⟨ub, 3, none⟩ (.int .i64 (y3 + n - x))).setCell ⟨ub, 5, none⟩ (.int .i64 (y5 + x))) = Z := ⟨_, rfl⟩
            rw [hwv] at HUC HBC
            try rw [hwv]
            clear hwv hSS u2 u3 u5 v2 v3 v5
            have HU7 : Hid (Blk wv ub #[.int .i64 y0, .int .i64 y1, .int .i64 (y2 - n), .int .i64 (y3 + n - x), .int .i64 y4, .int .i64 (y5 + x), .int .i64 y6] 63) := Lib.hid (by simpa using HUC.out)
            have g0 := HU7.out.cell (i := 0) (v := .int .i64 y0) rfl
            have g1 := HU7.out.cell (i := 1) (v := .int .i64 y1) rfl
            have g2 := HU7.out.cell (i := 2) (v := .int .i64 (y2 - n)) rfl
            have g3 := HU7.out.cell (i := 3) (v := .int .i64 (y3 + n - x)) rfl
            have g4 := HU7.out.cell (i := 4) (v := .int .i64 y4) rfl
            have g5 := HU7.out.cell (i := 5) (v := .int .i64 (y5 + x)) rfl
            have g6 := HU7.out.cell (i := 6) (v := .int .i64 y6) rfl
            have t0 := (HTX.out.past HBC.out).cell (i := 0) (v := .int .i64 (kk : Int)) rfl
            have HNV := Lib.hid (HNX.out.past HBC.out)
            have n0 := HNV.out.cell (i := 0) (v := .bool false) rfl
            have n1 := HNV.out.cell (i := 1) (v := .slice ps sp.length cs) rfl
            have n2 := HNV.out.cell (i := 2) (v := .int .i64 room) rfl
            have n3 := HNV.out.cell (i := 3) (v := .slice (some ⟨gk, 0, none⟩) l.length ck) rfl
            have n4 := HNV.out.cell (i := 4) (v := .slice (some ⟨gi, 0, none⟩) L.length cb) rfl
            have hwi := with_any false ps (some ⟨gi, 0, none⟩) sp.length cs L.length cb room base gk ck li kk y0 y1 (y2 - n) (y3 + n - x) y4 (y5 + x) y6 y7 wv (by unfold WarR; rw [HLEN.out]; exact own_past (by have := HWKX.out; unfold WarR at this; rwa [HLEN.out] at this) HBC.out) hkli (by rw [HLEN.out]; exact hl)
            rw [HLEN.out] at hwi
            have HWI := Lib.hid hwi
            clear hwi
            go_wp2_with fail
            refine HWI.out.mono ?_
            rintro e w9 ⟨hb9', vw, rfl, hwar⟩
            obtain ⟨gk2, ck2, rfl⟩ : ∃ gk2 ck2, vw = .slice (some ⟨gk2, 0, none⟩) l.length ck2 := by
              unfold WarR at hwar
              rw [List.length_set, HLEN.out] at hwar
              rcases hwar.2 with ⟨_, h⟩ | ⟨gn, cn, cur, rfl, _⟩
              · omega
              · exact ⟨gn, cn, rfl⟩
            have HN9 := Lib.hid (HNV.out.past hb9')
            have HX9 := Lib.hid ((HXX.out.past HBC.out).past hb9')
            have HZ9 := Lib.hid ((HZX.out.past HBC.out).past hb9')
            have HW9 := Lib.hid ((HWX.out.trans (HBC.out.mono HWX.out.size)).trans (hb9'.mono (HWX.out.trans (HBC.out.mono HWX.out.size)).size))
            have hle : base ≤ wv.heap.size := Nat.le_trans hbase (HWX.out.trans (HBC.out.mono HWX.out.size)).size
            have HK9 : Hid (WarR w9 base (.slice (some ⟨gk2, 0, none⟩) l.length ck2) (drawn ((L.zip br).take (k + 1)) l)) := Lib.hid (by
              rw [HNEXT.out]
              have e9 : drawS n x ⟨y0, y1, y2, y3, y4, y5, y6, y7⟩ = ⟨y0, y1, y2 - n, y3 + n - x, y4, y5 + x, y6, y7⟩ := by simp [drawS]; omega
              rw [e9]
              exact own_low hwar hle)
            have HN10 := Lib.hid (blk_set5 HN9.out (.bool false) (.slice ps sp.length cs) (.int .i64 room) (.slice (some ⟨gk2, 0, none⟩) l.length ck2) (.slice (some ⟨gi, 0, none⟩) L.length cb) rfl rfl rfl rfl rfl)
            have HX10 := Lib.hid (blk_f5 (b' := xb + 2) HX9.out (by omega) (.bool false) (.slice ps sp.length cs) (.int .i64 room) (.slice (some ⟨gk2, 0, none⟩) l.length ck2) (.slice (some ⟨gi, 0, none⟩) L.length cb))
            have HZ10 := Lib.hid (blk_f5 (b' := xb + 2) HZ9.out (by omega) (.bool false) (.slice ps sp.length cs) (.int .i64 room) (.slice (some ⟨gk2, 0, none⟩) l.length ck2) (.slice (some ⟨gi, 0, none⟩) L.length cb))
            have HK10 := Lib.hid (own_set5 (gq := xb + 2) HK9.out (own_ne HK9.out ⟨_, HN9.out⟩ (by decide)) (.bool false) (.slice ps sp.length cs) (.int .i64 room) (.slice (some ⟨gk2, 0, none⟩) l.length ck2) (.slice (some ⟨gi, 0, none⟩) L.length cb))
            have HW10 := Lib.hid (below_set5 (b := xb + 2) HW9.out (by omega) (.bool false) (.slice ps sp.length cs) (.int .i64 room) (.slice (some ⟨gk2, 0, none⟩) l.length ck2) (.slice (some ⟨gi, 0, none⟩) L.length cb))
            clear hwar hb9' hle n0 n1 n2 n3 n4 g0 g1 g2 g3 g4 g5 g6 t0 HWI
            have m0 := HN9.out.cell (i := 0) (v := .bool false) rfl
            have p0 := HN9.out.fr (i := 0)
            have m1 := HN9.out.cell (i := 1) (v := .slice ps sp.length cs) rfl
            have p1 := HN9.out.fr (i := 1)
            have m2 := HN9.out.cell (i := 2) (v := .int .i64 room) rfl
            have p2 := HN9.out.fr (i := 2)
            have m3 := HN9.out.cell (i := 3) (v := .slice (some ⟨gk, 0, none⟩) l.length ck) rfl
            have p3 := HN9.out.fr (i := 3)
            have m4 := HN9.out.cell (i := 4) (v := .slice (some ⟨gi, 0, none⟩) L.length cb) rfl
            have p4 := HN9.out.fr (i := 4)
            go_wp2
            go_roundw
            case rel => exact ⟨k + 1, gk2, ck2, by omega, by go_num, HA2, HN10, HK10, HX10, HZ10, HW10⟩
            case measure => simp [intOf]; omega
          · intro K hK
            go_simp
            refine hK.out _ _ hSS ?_
            clear hK K
            try simp only [Act.put, List.setIfInBounds_toArray, List.set_cons_zero, List.set_cons_succ]
            refine take_first (i := 21) (v := ?_) rfl (by kernel_rfl) (by kernel_rfl) (by kernel_rfl) (fun _ _ _ h => h) (by rfl) (by assumption) ?_ ?_
            rotate_left 1
            · intro X hSX
              (try dsimp only at hSX)
              first | (go_simp; done) | (go_simp; with_reducible rfl)
            try simp only [Act.put, List.setIfInBounds_toArray, List.set_cons_zero, List.set_cons_succ]
            refine only_one (i := 1) (by kernel_rfl) rfl (by rfl) ?_
            intro K hK
            go_simp
            refine hK.out _ _ hSS ?_
            clear hK K
            try simp only [Act.put, List.setIfInBounds_toArray, List.set_cons_zero, List.set_cons_succ]
            refine take_first (i := 4) (v := ?_) rfl (by kernel_rfl) (by kernel_rfl) (by kernel_rfl) (fun _ _ _ h => h) (by rfl) (by assumption) ?_ ?_
            rotate_left 1
            · intro X hSX
              (try dsimp only at hSX)
              first | (go_simp; done) | (go_simp; with_reducible rfl)
            try simp only [Act.put, List.setIfInBounds_toArray, List.set_cons_zero, List.set_cons_succ]
            refine take_first (i := 22) (v := ?_) rfl (by kernel_rfl) (by kernel_rfl) (by kernel_rfl) (fun _ _ _ h => h) (by rfl) (by assumption) ?_ ?_
            rotate_left 1
            · intro X hSX
              (try dsimp only at hSX)
              first | (go_simp; done) | (go_simp; with_reducible rfl)
            try simp only [Act.put, List.setIfInBounds_toArray, List.set_cons_zero, List.set_cons_succ]
            refine only_one (i := 23) (by kernel_rfl) rfl (by rfl) ?_
            intro K hK
            go_simp
            clear hSS
            have hSS : ((wz.setCell ⟨ub, 2, none⟩ (.int .i64 (y2 - n))).cell? ⟨tb, 1, none⟩ = some (.int .i64 n) ∧ (wz.setCell ⟨ub, 2, none⟩ (.int .i64 (y2 - n))).cell? ⟨b9, off9 + k, none⟩ = some (.int .i64 x)) := HSA.out
            have u3 := HUA.out.cell (i := 3) (v := .int .i64 y3) rfl
            have v3 := HUA.out.fr (i := 3)
            refine hK.out _ _ hSS ?_
            clear hK K
            try simp only [Act.put, List.setIfInBounds_toArray, List.set_cons_zero, List.set_cons_succ]
            refine take_first (i := 24) (v := ?_) rfl (by kernel_rfl) (by kernel_rfl) (by kernel_rfl) (fun _ _ _ h => h) (by rfl) (by assumption) ?_ ?_
            rotate_left 1
            · intro X hSX
              (try dsimp only at hSX)
              first | (go_simp; done) | (go_simp; with_reducible rfl)
            try simp only [Act.put, List.setIfInBounds_toArray, List.set_cons_zero, List.set_cons_succ]
            refine only_one (i := 25) (by kernel_rfl) rfl (by rfl) ?_
            intro K hK
            go_simp
            clear hSS
            have hSS : (((wz.setCell ⟨ub, 2, none⟩ (.int .i64 (y2 - n))).setCell ⟨ub, 3, none⟩ (.int .i64 (y3 + n - x))).cell? ⟨tb, 1, none⟩ = some (.int .i64 n) ∧ ((wz.setCell ⟨ub, 2, none⟩ (.int .i64 (y2 - n))).setCell ⟨ub, 3, none⟩ (.int .i64 (y3 + n - x))).cell? ⟨b9, off9 + k, none⟩ = some (.int .i64 x)) := HSB.out
            have u5 := HUB.out.cell (i := 5) (v := .int .i64 y5) rfl
            have v5 := HUB.out.fr (i := 5)
            refine hK.out _ _ hSS ?_
            clear hK K
            try simp only [Act.put, List.setIfInBounds_toArray, List.set_cons_zero, List.set_cons_succ]
            refine take_first (i := 26) (v := ?_) rfl (by kernel_rfl) (by kernel_rfl) (by kernel_rfl) (fun _ _ _ h => h) (by rfl) (by assumption) ?_ ?_
            rotate_left 1
            · intro X hSX
              (try dsimp only at hSX)
              first | (go_simp; done) | (go_simp; with_reducible rfl)
            try simp only [Act.put, List.setIfInBounds_toArray, List.set_cons_zero, List.set_cons_succ]
            refine only_one (i := 27) (by kernel_rfl) rfl (by rfl) ?_
            intro K hK
            go_simp
            clear hSS
            have hSS : ((((wz.setCell ⟨ub, 2, none⟩ (.int .i64 (y2 - n))).setCell ⟨ub, 3, none⟩ (.int .i64 (y3 + n - x))).setCell ⟨ub, 5, none⟩ (.int .i64 (y5 + x))).cell? ⟨tb, 1, none⟩ = some (.int .i64 n) ∧ (((wz.setCell ⟨ub, 2, none⟩ (.int .i64 (y2 - n))).setCell ⟨ub, 3, none⟩ (.int .i64 (y3 + n - x))).setCell ⟨ub, 5, none⟩ (.int .i64 (y5 + x))).cell? ⟨b9, off9 + k, none⟩ = some (.int .i64 x)) := HSC.out
            refine hK.out _ _ hSS ?_
            clear hK K
            try simp only [Act.put, List.setIfInBounds_toArray, List.set_cons_zero, List.set_cons_succ]
            refine wpAnyH_done (by kernel_rfl) ?_ _
            obtain ⟨wv, hwv⟩ : ∃ Z, (((wz.setCell ⟨ub, 2, none⟩ (.int .i64 (y2 - n))).setCell ⟨ub, 3, none⟩ (.int .i64 (y3 + n - x))).setCell ⟨ub, 5, none⟩ (.int .i64 (y5 + x))) = Z := ⟨_, rfl⟩
            rw [hwv] at HUC HBC
            try rw [hwv]
            clear hwv hSS u2 u3 u5 v2 v3 v5
            have HU7 : Hid (Blk wv ub #[.int .i64 y0, .int .i64 y1, .int .i64 (y2 - n), .int .i64 (y3 + n - x), .int .i64 y4, .int .i64 (y5 + x), .int .i64 y6] 63) := Lib.hid (by simpa using HUC.out)
            have g0 := HU7.out.cell (i := 0) (v := .int .i64 y0) rfl
            have g1 := HU7.out.cell (i := 1) (v := .int .i64 y1) rfl
            have g2 := HU7.out.cell (i := 2) (v := .int .i64 (y2 - n)) rfl
            have g3 := HU7.out.cell (i := 3) (v := .int .i64 (y3 + n - x)) rfl
            have g4 := HU7.out.cell (i := 4) (v := .int .i64 y4) rfl
            have g5 := HU7.out.cell (i := 5) (v := .int .i64 (y5 + x)) rfl
            have g6 := HU7.out.cell (i := 6) (v := .int .i64 y6) rfl
            have t0 := (HTX.out.past HBC.out).cell (i := 0) (v := .int .i64 (kk : Int)) rfl
            have HNV := Lib.hid (HNX.out.past HBC.out)
            have n0 := HNV.out.cell (i := 0) (v := .bool false) rfl
            have n1 := HNV.out.cell (i := 1) (v := .slice ps sp.length cs) rfl
            have n2 := HNV.out.cell (i := 2) (v := .int .i64 room) rfl
            have n3 := HNV.out.cell (i := 3) (v := .slice (some ⟨gk, 0, none⟩) l.length ck) rfl
            have n4 := HNV.out.cell (i := 4) (v := .slice (some ⟨gi, 0, none⟩) L.length cb) rfl
            have hwi := with_any false ps (some ⟨gi, 0, none⟩) sp.length cs L.length cb room base gk ck li kk y0 y1 (y2 - n) (y3 + n - x) y4 (y5 + x) y6 y7 wv (by unfold WarR; rw [HLEN.out]; exact own_past (by have := HWKX.out; unfold WarR at this; rwa [HLEN.out] at this) HBC.out) hkli (by rw [HLEN.out]; exact hl)
            rw [HLEN.out] at hwi
            have HWI := Lib.hid hwi
            clear hwi
            go_wp2_with fail
            refine HWI.out.mono ?_
            rintro e w9 ⟨hb9', vw, rfl, hwar⟩
            obtain ⟨gk2, ck2, rfl⟩ : ∃ gk2 ck2, vw = .slice (some ⟨gk2, 0, none⟩) l.length ck2 := by
              unfold WarR at hwar
              rw [List.length_set, HLEN.out] at hwar
              rcases hwar.2 with ⟨_, h⟩ | ⟨gn, cn, cur, rfl, _⟩
              · omega
              · exact ⟨gn, cn, rfl⟩
            have HN9 := Lib.hid (HNV.out.past hb9')
            have HX9 := Lib.hid ((HXX.out.past HBC.out).past hb9')
            have HZ9 := Lib.hid ((HZX.out.past HBC.out).past hb9')
            have HW9 := Lib.hid ((HWX.out.trans (HBC.out.mono HWX.out.size)).trans (hb9'.mono (HWX.out.trans (HBC.out.mono HWX.out.size)).size))
            have hle : base ≤ wv.heap.size := Nat.le_trans hbase (HWX.out.trans (HBC.out.mono HWX.out.size)).size
            have HK9 : Hid (WarR w9 base (.slice (some ⟨gk2, 0, none⟩) l.length ck2) (drawn ((L.zip br).take (k + 1)) l)) := Lib.hid (by
              rw [HNEXT.out]
              have e9 : drawS n x ⟨y0, y1, y2, y3, y4, y5, y6, y7⟩ = ⟨y0, y1, y2 - n, y3 + n - x, y4, y5 + x, y6, y7⟩ := by simp [drawS]; omega
              rw [e9]
              exact own_low hwar hle)
            have HN10 := Lib.hid (blk_set5 HN9.out (.bool false) (.slice ps sp.length cs) (.int .i64 room) (.slice (some ⟨gk2, 0, none⟩) l.length ck2) (.slice (some ⟨gi, 0, none⟩) L.length cb) rfl rfl rfl rfl rfl)
            have HX10 := Lib.hid (blk_f5 (b' := xb + 2) HX9.out (by omega) (.bool false) (.slice ps sp.length cs) (.int .i64 room) (.slice (some ⟨gk2, 0, none⟩) l.length ck2) (.slice (some ⟨gi, 0, none⟩) L.length cb))
            have HZ10 := Lib.hid (blk_f5 (b' := xb + 2) HZ9.out (by omega) (.bool false) (.slice ps sp.length cs) (.int .i64 room) (.slice (some ⟨gk2, 0, none⟩) l.length ck2) (.slice (some ⟨gi, 0, none⟩) L.length cb))
            have HK10 := Lib.hid (own_set5 (gq := xb + 2) HK9.out (own_ne HK9.out ⟨_, HN9.out⟩ (by decide)) (.bool false) (.slice ps sp.length cs) (.int .i64 room) (.slice (some ⟨gk2, 0, none⟩) l.length ck2) (.slice (some ⟨gi, 0, none⟩) L.length cb))
            have HW10 := Lib.hid (below_set5 (b := xb + 2) HW9.out (by omega) (.bool false) (.slice ps sp.length cs) (.int .i64 room) (.slice (some ⟨gk2, 0, none⟩) l.length ck2) (.slice (some ⟨gi, 0, none⟩) L.length cb))
            clear hwar hb9' hle n0 n1 n2 n3 n4 g0 g1 g2 g3 g4 g5 g6 t0 HWI
            have m0 := HN9.out.cell (i := 0) (v := .bool false) rfl
            have p0 := HN9.out.fr (i := 0)
            have m1 := HN9.out.cell (i := 1) (v := .slice ps sp.length cs) rfl
            have p1 := HN9.out.fr (i := 1)
            have m2 := HN9.out.cell (i := 2) (v := .int .i64 room) rfl
            have p2 := HN9.out.fr (i := 2)
            have m3 := HN9.out.cell (i := 3) (v := .slice (some ⟨gk, 0, none⟩) l.length ck) rfl
            have p3 := HN9.out.fr (i := 3)
            have m4 := HN9.out.cell (i := 4) (v := .slice (some ⟨gi, 0, none⟩) L.length cb) rfl
            have p4 := HN9.out.fr (i := 4)
            go_wp2
            go_roundw
            case rel => exact ⟨k + 1, gk2, ck2, by omega, by go_num, HA2, HN10, HK10, HX10, HZ10, HW10⟩
            case measure => simp [intOf]; omega
        · intro K hK
          go_simp
          refine hK.out _ _ hSS ?_
          clear hK K
          try simp only [Act.put, List.setIfInBounds_toArray, List.set_cons_zero, List.set_cons_succ]
          refine take_first (i := 21) (v := ?_) rfl (by kernel_rfl) (by kernel_rfl) (by kernel_rfl) (fun _ _ _ h => h) (by rfl) (by assumption) ?_ ?_
          rotate_left 1
          · intro X hSX
            (try dsimp only at hSX)
            first | (go_simp; done) | (go_simp; with_reducible rfl)
          try simp only [Act.put, List.setIfInBounds_toArray, List.set_cons_zero, List.set_cons_succ]
          refine oneB_of_two (i := 1) (j := 6) (by kernel_rfl) rfl rfl (by rfl) (by rfl) ?_ ?_
          · intro K hK
            go_simp
            refine hK.out _ _ hSS ?_
            clear hK K
            try simp only [Act.put, List.setIfInBounds_toArray, List.set_cons_zero, List.set_cons_succ]
            refine take_first (i := 4) (v := ?_) rfl (by kernel_rfl) (by kernel_rfl) (by kernel_rfl) (fun _ _ _ h => h) (by rfl) (by assumption) ?_ ?_
            rotate_left 1
            · intro X hSX
              (try dsimp only at hSX)
              first | (go_simp; done) | (go_simp; with_reducible rfl)
            try simp only [Act.put, List.setIfInBounds_toArray, List.set_cons_zero, List.set_cons_succ]
            refine only_one (i := 6) (by kernel_rfl) rfl (by rfl) ?_
            intro K hK
            go_simp
            refine hK.out _ _ hSS ?_
            clear hK K
            try simp only [Act.put, List.setIfInBounds_toArray, List.set_cons_zero, List.set_cons_succ]
            refine take_first (i := 9) (v := ?_) rfl (by kernel_rfl) (by kernel_rfl) (by kernel_rfl) (fun _ _ _ h => h) (by rfl) (by assumption) ?_ ?_
            rotate_left 1
            · intro X hSX
              (try dsimp only at hSX)
              first | (go_simp; done) | (go_simp; with_reducible rfl)
            try simp only [Act.put, List.setIfInBounds_toArray, List.set_cons_zero, List.set_cons_succ]
            refine take_first (i := 14) (v := ?_) rfl (by kernel_rfl) (by kernel_rfl) (by kernel_rfl) (fun _ _ _ h => h) (by rfl) (by assumption) ?_ ?_
            rotate_left 1
            · intro X hSX
              (try dsimp only at hSX)
              first | (go_simp; done) | (go_simp; with_reducible rfl)
            try simp only [Act.put, List.setIfInBounds_toArray, List.set_cons_zero, List.set_cons_succ]
            refine take_first (i := 22) (v := ?_) rfl (by kernel_rfl) (by kernel_rfl) (by kernel_rfl) (fun _ _ _ h => h) (by rfl) (by assumption) ?_ ?_
            rotate_left 1
            · intro X hSX
              (try dsimp only at hSX)
              first | (go_simp; done) | (go_simp; with_reducible rfl)
            try simp only [Act.put, List.setIfInBounds_toArray, List.set_cons_zero, List.set_cons_succ]
            refine only_one (i := 23) (by kernel_rfl) rfl (by rfl) ?_
            intro K hK
            go_simp
            clear hSS
            have hSS : ((wz.setCell ⟨ub, 2, none⟩ (.int .i64 (y2 - n))).cell? ⟨tb, 1, none⟩ = some (.int .i64 n) ∧ (wz.setCell ⟨ub, 2, none⟩ (.int .i64 (y2 - n))).cell? ⟨b9, off9 + k, none⟩ = some (.int .i64 x)) := HSA.out
            have u3 := HUA.out.cell (i := 3) (v := .int .i64 y3) rfl
            have v3 := HUA.out.fr (i := 3)
            refine hK.out _ _ hSS ?_
            clear hK K
            try simp only [Act.put, List.setIfInBounds_toArray, List.set_cons_zero, List.set_cons_succ]
            refine take_first (i := 24) (v := ?_) rfl (by kernel_rfl) (by kernel_rfl) (by kernel_rfl) (fun _ _ _ h => h) (by rfl) (by assumption) ?_ ?_
            rotate_left 1
            · intro X hSX
              (try dsimp only at hSX)
              first | (go_simp; done) | (go_simp; with_reducible rfl)
            try simp only [Act.put, List.setIfInBounds_toArray, List.set_cons_zero, List.set_cons_succ]
            refine only_one (i := 25) (by kernel_rfl) rfl (by rfl) ?_
            intro K hK
            go_simp
            clear hSS
            have hSS : (((wz.setCell ⟨ub, 2, none⟩ (.int .i64 (y2 - n))).setCell ⟨ub, 3, none⟩ (.int .i64 (y3 + n - x))).cell? ⟨tb, 1, none⟩ = some (.int .i64 n) ∧ ((wz.setCell ⟨ub, 2, none⟩ (.int .i64 (y2 - n))).setCell ⟨ub, 3, none⟩ (.int .i64 (y3 + n - x))).cell? ⟨b9, off9 + k, none⟩ = some (.int .i64 x)) := HSB.out
            have u5 := HUB.out.cell (i := 5) (v := .int .i64 y5) rfl
            have v5 := HUB.out.fr (i := 5)
            refine hK.out _ _ hSS ?_
            clear hK K
            try simp only [Act.put, List.setIfInBounds_toArray, List.set_cons_zero, List.set_cons_succ]
            refine take_first (i := 26) (v := ?_) rfl (by kernel_rfl) (by kernel_rfl) (by kernel_rfl) (fun _ _ _ h => h) (by rfl) (by assumption) ?_ ?_
            rotate_left 1
            · intro X hSX
              (try dsimp only at hSX)
              first | (go_simp; done) | (go_simp; with_reducible rfl)
            try simp only [Act.put, List.setIfInBounds_toArray, List.set_cons_zero, List.set_cons_succ]
            refine only_one (i := 27) (by kernel_rfl) rfl (by rfl) ?_
            intro K hK
            go_simp
            clear hSS
            have hSS : ((((wz.setCell ⟨ub, 2, none⟩ (.int .i64 (y2 - n))).setCell ⟨ub, 3, none⟩ (.int .i64 (y3 + n - x))).setCell ⟨ub, 5, none⟩ (.int .i64 (y5 + x))).cell? ⟨tb, 1, none⟩ = some (.int .i64 n) ∧ (((wz.setCell ⟨ub, 2, none⟩ (.int .i64 (y2 - n))).setCell ⟨ub, 3, none⟩ (.int .i64 (y3 + n - x))).setCell ⟨ub, 5, none⟩ (.int .i64 (y5 + x))).cell? ⟨b9, off9 + k, none⟩ = some (.int .i64 x)) := HSC.out
            refine hK.out _ _ hSS ?_
            clear hK K
            try simp only [Act.put, List.setIfInBounds_toArray, List.set_cons_zero, List.set_cons_succ]
            refine wpAnyH_done (by kernel_rfl) ?_ _
            obtain ⟨wv, hwv⟩ : ∃ Z, (((wz.setCell ⟨ub, 2, none⟩ (.int .i64 (y2 - n))).setCell ⟨ub, 3, none⟩ (.int .i64 (y3 + n - x))).setCell ⟨ub, 5, none⟩ (.int .i64 (y5 + x))) = Z := ⟨_, rfl⟩
            rw [hwv] at HUC HBC
            try rw [hwv]
            clear hwv hSS u2 u3 u5 v2 v3 v5
            have HU7 : Hid (Blk wv ub #[.int .i64 y0, .int .i64 y1, .int .i64 (y2 - n), .int .i64 (y3 + n - x), .int .i64 y4, .int .i64 (y5 + x), .int .i64 y6] 63) := Lib.hid (by simpa using HUC.out)
            have g0 := HU7.out.cell (i := 0) (v := .int .i64 y0) rfl
            have g1 := HU7.out.cell (i := 1) (v := .int .i64 y1) rfl
            have g2 := HU7.out.cell (i := 2) (v := .int .i64 (y2 - n)) rfl
            have g3 := HU7.out.cell (i := 3) (v := .int .i64 (y3 + n - x)) rfl
            have g4 := HU7.out.cell (i := 4) (v := .int .i64 y4) rfl
            have g5 := HU7.out.cell (i := 5) (v := .int .i64 (y5 + x)) rfl
            have g6 := HU7.out.cell (i := 6) (v := .int .i64 y6) rfl
            have t0 := (HTX.out.past HBC.out).cell (i := 0) (v := .int .i64 (kk : Int)) rfl
            have HNV := Lib.hid (HNX.out.past HBC.out)
            have n0 := HNV.out.cell (i := 0) (v := .bool false) rfl
            have n1 := HNV.out.cell (i := 1) (v := .slice ps sp.length cs) rfl
            have n2 := HNV.out.cell (i := 2) (v := .int .i64 room) rfl
            have n3 := HNV.out.cell (i := 3) (v := .slice (some ⟨gk, 0, none⟩) l.length ck) rfl
            have n4 := HNV.out.cell (i := 4) (v := .slice (some ⟨gi, 0, none⟩) L.length cb) rfl
            have hwi := with_any false ps (some ⟨gi, 0, none⟩) sp.length cs L.length cb room base gk ck li kk y0 y1 (y2 - n) (y3 + n - x) y4 (y5 + x) y6 y7 wv (by unfold WarR; rw [HLEN.out]; exact own_past (by have := HWKX.out; unfold WarR at this; rwa [HLEN.out] at this) HBC.out) hkli (by rw [HLEN.out]; exact hl)
            rw [HLEN.out] at hwi
            have HWI := Lib.hid hwi
            clear hwi
            go_wp2_with fail
            refine HWI.out.mono ?_
            rintro e w9 ⟨hb9', vw, rfl, hwar⟩
            obtain ⟨gk2, ck2, rfl⟩ : ∃ gk2 ck2, vw = .slice (some ⟨gk2, 0, none⟩) l.length ck2 := by
              unfold WarR at hwar
              rw [List.length_set, HLEN.out] at hwar
              rcases hwar.2 with ⟨_, h⟩ | ⟨gn, cn, cur, rfl, _⟩
              · omega
              · exact ⟨gn, cn, rfl⟩
            have HN9 := Lib.hid (HNV.out.past hb9')
            have HX9 := Lib.hid ((HXX.out.past HBC.out).past hb9')
            have HZ9 := Lib.hid ((HZX.out.past HBC.out).past hb9')
            have HW9 := Lib.hid ((HWX.out.trans (HBC.out.mono HWX.out.size)).trans (hb9'.mono (HWX.out.trans (HBC.out.mono HWX.out.size)).size))
            have hle : base ≤ wv.heap.size := Nat.le_trans hbase (HWX.out.trans (HBC.out.mono HWX.out.size)).size
            have HK9 : Hid (WarR w9 base (.slice (some ⟨gk2, 0, none⟩) l.length ck2) (drawn ((L.zip br).take (k + 1)) l)) := Lib.hid (by
              rw [HNEXT.out]
              have e9 : drawS n x ⟨y0, y1, y2, y3, y4, y5, y6, y7⟩ = ⟨y0, y1, y2 - n, y3 + n - x, y4, y5 + x, y6, y7⟩ := by simp [drawS]; omega
              rw [e9]
              exact own_low hwar hle)
            have HN10 := Lib.hid (blk_set5 HN9.out (.bool false) (.slice ps sp.length cs) (.int .i64 room) (.slice (some ⟨gk2, 0, none⟩) l.length ck2) (.slice (some ⟨gi, 0, none⟩) L.length cb) rfl rfl rfl rfl rfl)
            have HX10 := Lib.hid (blk_f5 (b' := xb + 2) HX9.out (by omega) (.bool false) (.slice ps sp.length cs) (.int .i64 room) (.slice (some ⟨gk2, 0, none⟩) l.length ck2) (.slice (some ⟨gi, 0, none⟩) L.length cb))
            have HZ10 := Lib.hid (blk_f5 (b' := xb + 2) HZ9.out (by omega) (.bool false) (.slice ps sp.length cs) (.int .i64 room) (.slice (some ⟨gk2, 0, none⟩) l.length ck2) (.slice (some ⟨gi, 0, none⟩) L.length cb))
            have HK10 := Lib.hid (own_set5 (gq := xb + 2) HK9.out (own_ne HK9.out ⟨_, HN9.out⟩ (by decide)) (.bool false) (.slice ps sp.length cs) (.int .i64 room) (.slice (some ⟨gk2, 0, none⟩) l.length ck2) (.slice (some ⟨gi, 0, none⟩) L.length cb))
            have HW10 := Lib.hid (below_set5 (b := xb + 2) HW9.out (by omega) (.bool false) (.slice ps sp.length cs) (.int .i64 room) (.slice (some ⟨gk2, 0, none⟩) l.length ck2) (.slice (some ⟨gi, 0, none⟩) L.length cb))
            clear hwar hb9' hle n0 n1 n2 n3 n4 g0 g1 g2 g3 g4 g5 g6 t0 HWI
            have m0 := HN9.out.cell (i := 0) (v := .bool false) rfl
            have p0 := HN9.out.fr (i := 0)
            have m1 := HN9.out.cell (i := 1) (v := .slice ps sp.length cs) rfl
            have p1 := HN9.out.fr (i := 1)
            have m2 := HN9.out.cell (i := 2) (v := .int .i64 room) rfl
            have p2 := HN9.out.fr (i := 2)
            have m3 := HN9.out.cell (i := 3) (v := .slice (some ⟨gk, 0, none⟩) l.length ck) rfl
            have p3 := HN9.out.fr (i := 3)
            have m4 := HN9.out.cell (i := 4) (v := .slice (some ⟨gi, 0, none⟩) L.length cb) rfl
            have p4 := HN9.out.fr (i := 4)
            go_wp2
            go_roundw
            case rel => exact ⟨k + 1, gk2, ck2, by omega, by go_num, HA2, HN10, HK10, HX10, HZ10, HW10⟩
            case measure => simp [intOf]; omega
          · intro K hK
            go_simp
            refine hK.out _ _ hSS ?_
            clear hK K
            try simp only [Act.put, List.setIfInBounds_toArray, List.set_cons_zero, List.set_cons_succ]
            refine take_first (i := 9) (v := ?_) rfl (by kernel_rfl) (by kernel_rfl) (by kernel_rfl) (fun _ _ _ h => h) (by rfl) (by assumption) ?_ ?_
            rotate_left 1
            · intro X hSX
              (try dsimp only at hSX)
              first | (go_simp; done) | (go_simp; with_reducible rfl)
            try simp only [Act.put, List.setIfInBounds_toArray, List.set_cons_zero, List.set_cons_succ]
            refine take_first (i := 14) (v := ?_) rfl (by kernel_rfl) (by kernel_rfl) (by kernel_rfl) (fun _ _ _ h => h) (by rfl) (by assumption) ?_ ?_
            rotate_left 1
            · intro X hSX
              (try dsimp only at hSX)
              first | (go_simp; done) | (go_simp; with_reducible rfl)
            try simp only [Act.put, List.setIfInBounds_toArray, List.set_cons_zero, List.set_cons_succ]
            refine only_one (i := 1) (by kernel_rfl) rfl (by rfl) ?_
            intro K hK
            go_simp
            refine hK.out _ _ hSS ?_
            clear hK K
            try simp only [Act.put, List.setIfInBounds_toArray, List.set_cons_zero, List.set_cons_succ]
            refine take_first (i := 4) (v := ?_) rfl (by kernel_rfl) (by kernel_rfl) (by kernel_rfl) (fun _ _ _ h => h) (by rfl) (by assumption) ?_ ?_
            rotate_left 1
            · intro X hSX
              (try dsimp only at hSX)
              first | (go_simp; done) | (go_simp; with_reducible rfl)
            try simp only [Act.put, List.setIfInBounds_toArray, List.set_cons_zero, List.set_cons_succ]
            refine take_first (i := 22) (v := ?_) rfl (by kernel_rfl) (by kernel_rfl) (by kernel_rfl) (fun _ _ _ h => h) (by rfl) (by assumption) ?_ ?_
            rotate_left 1
            · intro X hSX
              (try dsimp only at hSX)
              first | (go_simp; done) | (go_simp; with_reducible rfl)
            try simp only [Act.put, List.setIfInBounds_toArray, List.set_cons_zero, List.set_cons_succ]
            refine only_one (i := 23) (by kernel_rfl) rfl (by rfl) ?_
            intro K hK
            go_simp
            clear hSS
            have hSS : ((wz.setCell ⟨ub, 2, none⟩ (.int .i64 (y2 - n))).cell? ⟨tb, 1, none⟩ = some (.int .i64 n) ∧ (wz.setCell ⟨ub, 2, none⟩ (.int .i64 (y2 - n))).cell? ⟨b9, off9 + k, none⟩ = some (.int .i64 x)) := HSA.out
            have u3 := HUA.out.cell (i := 3) (v := .int .i64 y3) rfl
            have v3 := HUA.out.fr (i := 3)
            refine hK.out _ _ hSS ?_
            clear hK K
            try simp only [Act.put, List.setIfInBounds_toArray, List.set_cons_zero, List.set_cons_succ]
            refine take_first (i := 24) (v := ?_) rfl (by kernel_rfl) (by kernel_rfl) (by kernel_rfl) (fun _ _ _ h => h) (by rfl) (by assumption) ?_ ?_
            rotate_left 1
            · intro X hSX
              (try dsimp only at hSX)
              first | (go_simp; done) | (go_simp; with_reducible rfl)
            try simp only [Act.put, List.setIfInBounds_toArray, List.set_cons_zero, List.set_cons_succ]
            refine only_one (i := 25) (by kernel_rfl) rfl (by rfl) ?_
            intro K hK
            go_simp
            clear hSS
            have hSS : (((wz.setCell ⟨ub, 2, none⟩ (.int .i64 (y2 - n))).setCell ⟨ub, 3, none⟩ (.int .i64 (y3 + n - x))).cell? ⟨tb, 1, none⟩ = some (.int .i64 n) ∧ ((wz.setCell ⟨ub, 2, none⟩ (.int .i64 (y2 - n))).setCell ⟨ub, 3, none⟩ (.int .i64 (y3 + n - x))).cell? ⟨b9, off9 + k, none⟩ = some (.int .i64 x)) := HSB.out
            have u5 := HUB.out.cell (i := 5) (v := .int .i64 y5) rfl
            have v5 := HUB.out.fr (i := 5)
            refine hK.out _ _ hSS ?_
            clear hK K
            try simp only [Act.put, List.setIfInBounds_toArray, List.set_cons_zero, List.set_cons_succ]
            refine take_first (i := 26) (v := ?_) rfl (by kernel_rfl) (by kernel_rfl) (by kernel_rfl) (fun _ _ _ h => h) (by rfl) (by assumption) ?_ ?_
            rotate_left 1
            · intro X hSX
              (try dsimp only at hSX)
              first | (go_simp; done) | (go_simp; with_reducible rfl)
            try simp only [Act.put, List.setIfInBounds_toArray, List.set_cons_zero, List.set_cons_succ]
            refine only_one (i := 27) (by kernel_rfl) rfl (by rfl) ?_
            intro K hK
            go_simp
            clear hSS
            have hSS : ((((wz.setCell ⟨ub, 2, none⟩ (.int .i64 (y2 - n))).setCell ⟨ub, 3, none⟩ (.int .i64 (y3 + n - x))).setCell ⟨ub, 5, none⟩ (.int .i64 (y5 + x))).cell? ⟨tb, 1, none⟩ = some (.int .i64 n) ∧ (((wz.setCell ⟨ub, 2, none⟩ (.int .i64 (y2 - n))).setCell ⟨ub, 3, none⟩ (.int .i64 (y3 + n - x))).setCell ⟨ub, 5, none⟩ (.int .i64 (y5 + x))).cell? ⟨b9, off9 + k, none⟩ = some (.int .i64 x)) := HSC.out
            refine hK.out _ _ hSS ?_
            clear hK K
            try simp only [Act.put, List.setIfInBounds_toArray, List.set_cons_zero, List.set_cons_succ]
            refine wpAnyH_done (by kernel_rfl) ?_ _
            obtain ⟨wv, hwv⟩ : ∃ Z, (((wz.setCell ⟨ub, 2, none⟩ (.int .i64 (y2 - n))).setCell ⟨ub, 3, none⟩ (.int .i64 (y3 + n - x))).setCell ⟨ub, 5, none⟩ (.int .i64 (y5 + x))) = Z := ⟨_, rfl⟩
            rw [hwv] at HUC HBC
            try rw [hwv]
            clear hwv hSS u2 u3 u5 v2 v3 v5
            have HU7 : Hid (Blk wv ub #[.int .i64 y0, .int .i64 y1, .int .i64 (y2 - n), .int .i64 (y3 + n - x), .int .i64 y4, .int .i64 (y5 + x), .int .i64 y6] 63) := Lib.hid (by simpa using HUC.out)
            have g0 := HU7.out.cell (i := 0) (v := .int .i64 y0) rfl
            have g1 := HU7.out.cell (i := 1) (v := .int .i64 y1) rfl
            have g2 := HU7.out.cell (i := 2) (v := .int .i64 (y2 - n)) rfl
            have g3 := HU7.out.cell (i := 3) (v := .int .i64 (y3 + n - x)) rfl
            have g4 := HU7.out.cell (i := 4) (v := .int .i64 y4) rfl
            have g5 := HU7.out.cell (i := 5) (v := .int .i64 (y5 + x)) rfl
            have g6 := HU7.out.cell (i := 6) (v := .int .i64 y6) rfl
            have t0 := (HTX.out.past HBC.out).cell (i := 0) (v := .int .i64 (kk : Int)) rfl
            have HNV := Lib.hid (HNX.out.past HBC.out)
            have n0 := HNV.out.cell (i := 0) (v := .bool false) rfl
            have n1 := HNV.out.cell (i := 1) (v := .slice ps sp.length cs) rfl
            have n2 := HNV.out.cell (i := 2) (v := .int .i64 room) rfl
            have n3 := HNV.out.cell (i := 3) (v := .slice (some ⟨gk, 0, none⟩) l.length ck) rfl
            have n4 := HNV.out.cell (i := 4) (v := .slice (some ⟨gi, 0, none⟩) L.length cb) rfl
            have hwi := with_any false ps (some ⟨gi, 0, none⟩) sp.length cs L.length cb room base gk ck li kk y0 y1 (y2 - n) (y3 + n - x) y4 (y5 + x) y6 y7 wv (by unfold WarR; rw [HLEN.out]; exact own_past (by have := HWKX.out; unfold WarR at this; rwa [HLEN.out] at this) HBC.out) hkli (by rw [HLEN.out]; exact hl)
            rw [HLEN.out] at hwi
            have HWI := Lib.hid hwi
            clear hwi
            go_wp2_with fail
            refine HWI.out.mono ?_
            rintro e w9 ⟨hb9', vw, rfl, hwar⟩
            obtain ⟨gk2, ck2, rfl⟩ : ∃ gk2 ck2, vw = .slice (some ⟨gk2, 0, none⟩) l.length ck2 := by
              unfold WarR at hwar
              rw [List.length_set, HLEN.out] at hwar
              rcases hwar.2 with ⟨_, h⟩ | ⟨gn, cn, cur, rfl, _⟩
              · omega
              · exact ⟨gn, cn, rfl⟩
            have HN9 := Lib.hid (HNV.out.past hb9')
            have HX9 := Lib.hid ((HXX.out.past HBC.out).past hb9')
            have HZ9 := Lib.hid ((HZX.out.past HBC.out).past hb9')
            have HW9 := Lib.hid ((HWX.out.trans (HBC.out.mono HWX.out.size)).trans (hb9'.mono (HWX.out.trans (HBC.out.mono HWX.out.size)).size))
            have hle : base ≤ wv.heap.size := Nat.le_trans hbase (HWX.out.trans (HBC.out.mono HWX.out.size)).size
            have HK9 : Hid (WarR w9 base (.slice (some ⟨gk2, 0, none⟩) l.length ck2) (drawn ((L.zip br).take (k + 1)) l)) := Lib.hid (by
              rw [HNEXT.out]
              have e9 : drawS n x ⟨y0, y1, y2, y3, y4, y5, y6, y7⟩ = ⟨y0, y1, y2 - n, y3 + n - x, y4, y5 + x, y6, y7⟩ := by simp [drawS]; omega
              rw [e9]
              exact own_low hwar hle)
            have HN10 := Lib.hid (blk_set5 HN9.out (.bool false) (.slice ps sp.length cs) (.int .i64 room) (.slice (some ⟨gk2, 0, none⟩) l.length ck2) (.slice (some ⟨gi, 0, none⟩) L.length cb) rfl rfl rfl rfl rfl)
            have HX10 := Lib.hid (blk_f5 (b' := xb + 2) HX9.out (by omega) (.bool false) (.slice ps sp.length cs) (.int .i64 room) (.slice (some ⟨gk2, 0, none⟩) l.length ck2) (.slice (some ⟨gi, 0, none⟩) L.length cb))
            have HZ10 := Lib.hid (blk_f5 (b' := xb + 2) HZ9.out (by omega) (.bool false) (.slice ps sp.length cs) (.int .i64 room) (.slice (some ⟨gk2, 0, none⟩) l.length ck2) (.slice (some ⟨gi, 0, none⟩) L.length cb))
            have HK10 := Lib.hid (own_set5 (gq := xb + 2) HK9.out (own_ne HK9.out ⟨_, HN9.out⟩ (by decide)) (.bool false) (.slice ps sp.length cs) (.int .i64 room) (.slice (some ⟨gk2, 0, none⟩) l.length ck2) (.slice (some ⟨gi, 0, none⟩) L.length cb))
            have HW10 := Lib.hid (below_set5 (b := xb + 2) HW9.out (by omega) (.bool false) (.slice ps sp.length cs) (.int .i64 room) (.slice (some ⟨gk2, 0, none⟩) l.length ck2) (.slice (some ⟨gi, 0, none⟩) L.length cb))
            clear hwar hb9' hle n0 n1 n2 n3 n4 g0 g1 g2 g3 g4 g5 g6 t0 HWI
            have m0 := HN9.out.cell (i := 0) (v := .bool false) rfl
            have p0 := HN9.out.fr (i := 0)
            have m1 := HN9.out.cell (i := 1) (v := .slice ps sp.length cs) rfl
            have p1 := HN9.out.fr (i := 1)
            have m2 := HN9.out.cell (i := 2) (v := .int .i64 room) rfl
            have p2 := HN9.out.fr (i := 2)
            have m3 := HN9.out.cell (i := 3) (v := .slice (some ⟨gk, 0, none⟩) l.length ck) rfl
            have p3 := HN9.out.fr (i := 3)
            have m4 := HN9.out.cell (i := 4) (v := .slice (some ⟨gi, 0, none⟩) L.length cb) rfl
            have p4 := HN9.out.fr (i := 4)
            go_wp2
            go_roundw
            case rel => exact ⟨k + 1, gk2, ck2, by omega, by go_num, HA2, HN10, HK10, HX10, HZ10, HW10⟩
            case measure => simp [intOf]; omega
    · have hke : k = L.length := by omega
      subst hke
      have htk : (L.zip br).take L.length = L.zip br := List.take_of_length_le (by rw [zip_len L br HBL.out]; exact Nat.le_refl _)
      have hall := HA.out
      have hwk := HWK.out
      rw [htk] at hall hwk
      have HV : Hid (R = (0, drawn (L.zip br) l, [])) := Lib.hid (by
        rw [← HR.out]; unfold drawF
        rw [if_neg (List.length_pos_iff.1 HPOS.out), if_neg (by rw [HBL.out]; simp), if_neg (by rw [hall]; simp)])
      have n4 := HN.out.cell (i := 4) (v := .slice (some ⟨gi, 0, none⟩) L.length cb) rfl
      have f4 := HN.out.fr (i := 4)
      have HNF : Hid (Blk (wr.setCell ⟨xb + 2, 4, none⟩ (.slice none 0 0)) (xb + 2) #[.bool false, .slice ps sp.length cs, .int .i64 room, .slice (some ⟨gk, 0, none⟩) l.length ck, .slice none 0 0] 56) := Lib.hid (by simpa using HN.out.set 4 (by simp) (.slice none 0 0) rfl)
      have HZF := Lib.hid (HZ.out.far (b' := xb + 2) (i := 4) (u := .slice none 0 0) (by omega))
      have HBF := Lib.hid (HW.out.setCell (p := ⟨xb + 2, 4, none⟩) (by dsimp only; omega) (.slice none 0 0))
      have HRF2 : Hid (RefAt (wr.setCell ⟨xb + 2, 4, none⟩ (.slice none 0 0)) base sp (drawn (L.zip br) l) [] ps cs gk ck none 0) := Lib.hid
        ⟨own_far HRF.out.sp (own_ne HRF.out.sp ⟨_, HN.out⟩ (by decide)), by rw [drawn_len]; exact own_far hwk (own_ne hwk ⟨_, HN.out⟩ (by decide)), InsAt.nil _ _⟩
      have hkb : ¬ L.length < br.length := by rw [HBL.out]; exact Nat.lt_irrefl _
      have hkc : ¬ ((L.length : Int) < (br.length : Int)) := by omega
      clear htk hall hwk
      go_upto_region 16 with fail
      obtain ⟨wf, hwf⟩ : ∃ Z, wr.setCell ⟨xb + 2, 4, none⟩ (.slice none 0 0) = Z := ⟨_, rfl⟩
      rw [hwf] at HNF HZF HBF HRF2 ⊢
      clear hwf n4 f4
      have e0z := HNF.out.cell (i := 0) (v := (.bool false)) rfl
      have e1z := HNF.out.cell (i := 1) (v := (.slice ps sp.length cs)) rfl
      have e2z := HNF.out.cell (i := 2) (v := (.int .i64 room)) rfl
      have e3z := HNF.out.cell (i := 3) (v := (.slice (some ⟨gk, 0, none⟩) l.length ck)) rfl
      have e4z := HNF.out.cell (i := 4) (v := (.slice none 0 0)) rfl
      have z0z := HZF.out.cell (i := 0) (v := (.bool false)) rfl
      have y0z := HZF.out.fr (i := 0)
      have z1z := HZF.out.cell (i := 1) (v := (.slice none 0 0)) rfl
      have y1z := HZF.out.fr (i := 1)
      have z2z := HZF.out.cell (i := 2) (v := (.int .i64 0)) rfl
      have y2z := HZF.out.fr (i := 2)
      have z3z := HZF.out.cell (i := 3) (v := (.slice none 0 0)) rfl
      have y3z := HZF.out.fr (i := 3)
      have z4z := HZF.out.cell (i := 4) (v := (.slice none 0 0)) rfl
      have y4z := HZF.out.fr (i := 4)
      have HZ8 := Lib.hid (blk_set5 HZF.out (.bool false) (.slice ps sp.length cs) (.int .i64 room) (.slice (some ⟨gk, 0, none⟩) l.length ck) (.slice none 0 0) rfl rfl rfl rfl rfl)
      have HB8 := Lib.hid (below_set5 (b := xb + 1) HBF.out (by omega) (.bool false) (.slice ps sp.length cs) (.int .i64 room) (.slice (some ⟨gk, 0, none⟩) l.length ck) (.slice none 0 0))
      have HR8 := Lib.hid (HRF2.out.set5 HZF.out (.bool false) (.slice ps sp.length cs) (.int .i64 room) (.slice (some ⟨gk, 0, none⟩) l.length ck) (.slice none 0 0))
      go_wp2
      obtain ⟨w8, hw8⟩ : ∃ Z, ((((wf.setCell ⟨xb + 1, 0, none⟩ (.bool false)).setCell ⟨xb + 1, 1, none⟩ (.slice ps sp.length cs)).setCell ⟨xb + 1, 2, none⟩ (.int .i64 room)).setCell ⟨xb + 1, 3, none⟩ (.slice (some ⟨gk, 0, none⟩) l.length ck)).setCell ⟨xb + 1, 4, none⟩ (.slice none 0 0) = Z := ⟨_, rfl⟩
      rw [hw8] at HZ8 HB8 HR8
      try rw [hw8]
      have g0 := HZ8.out.cell (i := 0) (v := (.bool false)) rfl
      have g1 := HZ8.out.cell (i := 1) (v := (.slice ps sp.length cs)) rfl
      have g2 := HZ8.out.cell (i := 2) (v := (.int .i64 room)) rfl
      have g3 := HZ8.out.cell (i := 3) (v := (.slice (some ⟨gk, 0, none⟩) l.length ck)) rfl
      have g4 := HZ8.out.cell (i := 4) (v := (.slice none 0 0)) rfl
      refine bodyPost_ret (v := .tuple #[.agg #[.bool false, .slice ps sp.length cs, .int .i64 room, .slice (some ⟨gk, 0, none⟩) l.length ck, .slice none 0 0], .int .i64 0]) (by simp [results, Try.results64, go_sem, g0, g1, g2, g3, g4]) rfl ⟨HB8.out, gk, ck, none, 0, by rw [HV.out]; simp [drawn_len], by rw [HV.out]; exact HR8.out⟩
end Go.Proofs.Ytopnlcjbklmicaa
