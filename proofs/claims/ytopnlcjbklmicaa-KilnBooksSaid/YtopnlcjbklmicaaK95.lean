import Derived.Test.YtopnlcjbklmicaaK94
import Derived.WalkKit
import Derived.WalkSpells
import Derived.WalkLawsBesides
import Derived.Deep.QuietTactic
import Derived.BigQuiet
import Derived.Lib.Hide
import Derived.WalkSmall
import Derived.Maps.OwnSet
import Derived.Maps.RangeWalk
import Derived.Deep.RegionWith
import Derived.Deep.RegionHeld3
import Derived.Deep.DrawnRows
import Derived.Deep.DeepCutAuto
import Derived.OneCell
import Derived.KernelRfl
import Derived.Laws.StructEq
import Derived.StillTailTactics
import Derived.Laws.Externs
import Derived.RangeFuncBox
import Derived.Outline
import Derived.RangeFuncNested
import Derived.RangeFuncBound
import Derived.RangeFuncCalls
import Derived.RangeFuncLeaves
import Derived.Shelf.RegionOpen
import Derived.OwnWalkIn
import Derived.TacticsInMore
import Derived.LoopNIn
import Derived.LoopIn
import Derived.Test.YtopnlcjbklmicaaProg
namespace Go.Proofs.Ytopnlcjbklmicaa
open Go.RowKit Go.Maps Go.Shelf
set_option linter.unusedVariables false
set_option linter.unusedSimpArgs false
theorem own_low {w : World} {base base' z n : Nat} {T : TypeId} {v : Value} {xs : List Value} (h : w.ownsRow base T z v n xs) (hb : base' ≤ base) : w.ownsRow base' T z v n xs := by
  obtain ⟨h1, h2 | ⟨g, cap, cur, h3, h4, h5⟩⟩ := h
  · exact ⟨h1, .inl h2⟩
  · exact ⟨h1, .inr ⟨g, cap, cur, h3, Nat.le_trans hb h4, h5⟩⟩
theorem own_far {w : World} {base z n bb i : Nat} {T : TypeId} {v u : Value} {xs : List Value} (h : w.ownsRow base T z v n xs) (hne : v.ownBlock ≠ some bb) : (w.setCell ⟨bb, i, none⟩ u).ownsRow base T z v n xs :=
  World.ownsRow.kept h (grownBy_setCell _ _ _) (.inr hne)
theorem own_past {w w' : World} {base z n : Nat} {T : TypeId} {v : Value} {xs : List Value} (h : w.ownsRow base T z v n xs) (hb : Below w.heap.size w w') : w'.ownsRow base T z v n xs :=
  World.ownsRow.kept (row := none) h ⟨hb.os, hb.tape, hb.output, hb.size, fun j hj _ => hb.block j hj⟩ (by cases hv : v.ownBlock <;> simp)
/-- What Fire and Draw leave: the error, the book and what is inside, and what else lies, as it was. -/
def BookTo2 (w : World) (bb base : Nat) (r : Int × List St × BatL) (room : Int) (e : Ending) (w' : World) : Prop :=
  e = .returned (.int .i64 r.1) ∧ (∃ iv, BookAt w' bb base r.2.1 room iv ∧ InsAt w' base iv r.2.2) ∧ ∃ q, base ≤ q ∧ (∀ o, w.heap[q]? = some o → ∃ vs f, o = .cells vs 133 f) ∧ But bb q w w'
theorem BookTo2.same {w w' : World} {bb base : Nat} {er : Int} {l : List St} {L : BatL} {room : Int} {iv : Value} {r : Int × List St × BatL} (hr : r = (er, l, L)) (h : BookAt w bb base l room iv) (hi : InsAt w base iv L) (hb : Below w.heap.size w w') (hbase : base ≤ w.heap.size) :
    BookTo2 w bb base r room (.returned (.int .i64 er)) w' := by
  subst hr
  exact ⟨rfl, ⟨iv, h.past hb, hi.past hb⟩, w.heap.size, hbase, fun o ho => by simp at ho, But.of_below hb⟩
theorem fireF_eq (room : Int) (l : List St) (bs : BatL) (h0 : bs ≠ []) (h20 : ¬ (20 < bs.length)) :
    fireF room l [] bs = if (filledR room (fillF bs [] l 0)).1 ≠ 0 then ((filledR room (fillF bs [] l 0)).1, l, []) else (0, (filledR room (fillF bs [] l 0)).2, bs) := by
  unfold fireF filledR
  by_cases h1 : (fillF bs [] l 0).1 = 0 <;> by_cases h2 : (fillF bs [] l 0).2.2 > room <;> simp [h0, h20, h1, h2]
set_option maxRecDepth 100000 in
set_option maxHeartbeats 4000000 in
theorem fire_any (bb base : Nat) (l : List St) (room : Int) (iv : Value) (L : BatL) (v : Value) (bs : BatL) (w : World) (hb : BookAt w bb base l room iv) (hi : InsAt w base iv L) (hbase : base ≤ w.heap.size) (hq : PairsAt w v bs) (hl : l.length ≤ 1000000) (hl0 : 0 < l.length) (hinv : BInv l L) :
    Calls Try.prog 46 #[.pointer (some ⟨bb, 0, none⟩), v] w (BookTo2 w bb base (fireF room l L bs) room) := by
  obtain ⟨a, capb, rfl, hlen, hp⟩ := hq.placed
  have HF := Lib.hid (isFired_any bb base base l room iv L w hb hi)
  have HB := Lib.hid hb
  have HI := Lib.hid hi
  have HINV := Lib.hid hinv
  have HQ := Lib.hid hq
  obtain ⟨q1, hq1⟩ : ∃ q, decide (0 < (L.length : Int)) = q := ⟨_, rfl⟩
  rw [hq1] at HF
  have HQ1 := Lib.hid hq1
  obtain ⟨R, hR⟩ : ∃ R, fireF room l L bs = R := ⟨_, rfl⟩
  have HR := Lib.hid hR
  rw [hR]
  clear hb hi hinv hq hp hq1 hR
  go_enter Try.func46, Try.ntmps46
  go_wp2_with fail
  refine HF.out.mono ?_
  rintro e w2 ⟨rfl, hw2⟩
  subst w2
  cases q1
  rotate_left 1
  · have hne : L ≠ [] := by rintro rfl; have := HQ1.out; simp at this
    have HV : Hid (R = (9, l, L)) := Lib.hid (by rw [← HR.out]; unfold fireF; rw [if_pos hne])
    clear hne
    go_wp2
    go_ret
    exact BookTo2.same HV.out HB.out HI.out (Below.refl _ _) hbase
  obtain rfl : L = [] := by
    have := of_decide_eq_false HQ1.out
    exact List.length_eq_zero_iff.1 (by omega)
  obtain ⟨q2, hq2⟩ : ∃ q, ((bs.length : Int) == 0) = q := ⟨_, rfl⟩
  obtain ⟨q3, hq3⟩ : ∃ q, decide (20 < (bs.length : Int)) = q := ⟨_, rfl⟩
  have HQ2 := Lib.hid hq2
  have HQ3 := Lib.hid hq3
  cases q2
  rotate_left 1
  · have h0 : bs = [] := by
      have := HQ2.out
      simp at this
      exact this
    have HV : Hid (R = (2, l, [])) := Lib.hid (by rw [← HR.out]; unfold fireF; rw [if_neg (by simp), if_pos h0])
    clear h0
    go_wp2
    go_ret
    exact BookTo2.same HV.out HB.out HI.out (Below.refl _ _) hbase
  have h0 : bs ≠ [] := by rintro rfl; have := HQ2.out; simp at this
  cases q3
  rotate_left 1
  · have h20 := of_decide_eq_true HQ3.out
    have HV : Hid (R = (5, l, [])) := Lib.hid (by rw [← HR.out]; unfold fireF; rw [if_neg (by simp), if_neg h0, if_pos (by omega)])
    clear h20 h0
    go_wp2
    go_ret
    exact BookTo2.same HV.out HB.out HI.out (Below.refl _ _) hbase
  have h20 : ¬ (20 < bs.length) := by have := of_decide_eq_false HQ3.out; omega
  obtain ⟨b, off, rfl, hbl, hC⟩ : ∃ b off, a = some ⟨b, off, none⟩ ∧ b < w.heap.size ∧ PairsC w b off bs := by
    rcases HQ.out.2 with ⟨h, _⟩ | ⟨b, off, cap, hv, _, hb, hc⟩
    · exact absurd h h0
    · simp only [Value.slice.injEq] at hv
      exact ⟨b, off, hv.1, hb, hc⟩
  have HEQ := Lib.hid (fireF_eq room l bs h0 h20)
  have HFI := Lib.hid (filled_any bb base l room iv b off capb bs w HB.out hC hbl hl hl0 (by omega) HINV.out)
  obtain ⟨⟨er, nl⟩, hr⟩ : ∃ r, filledR room (fillF bs [] l 0) = r := ⟨_, rfl⟩
  rw [HR.out, hr] at HEQ
  rw [hr] at HFI
  have HC := Lib.hid hC
  clear hr h0 h20 hC HF HR
  go_wp2_with fail
  refine HFI.out.mono ?_
  rintro e w2 ⟨nv, rfl, hown, hb2⟩
  dsimp only at hown HEQ
  have HB2 := Lib.hid hb2
  have HOWN := Lib.hid hown
  clear hb2 hown HFI
  by_cases he : er = 0
  · subst he
    obtain ⟨np, nc, rfl⟩ := own_shape8 HOWN.out
    have HV := Lib.hid (HEQ.out.trans (if_neg (by simp)))
    have HCB := Lib.hid (cloneB_any b off capb bs w2 (HC.out.below hbl HB2.out) (by have := of_decide_eq_false HQ3.out; omega))
    clear HEQ
    go_wp2_with fail
    refine HCB.out.mono ?_
    rintro e w3 ⟨bv, rfl, hbv, hb3⟩
    obtain ⟨bp, bc, rfl⟩ := own_shape2 hbv
    have HB3 := HB2.out.trans (hb3.mono HB2.out.size)
    obtain ⟨sv, h1, h2⟩ := HB.out
    have hbl2 := h1.lt
    have H1 := h1.past HB3
    have HOW3 := own_past HOWN.out hb3
    have hn1 : (Value.slice np nl.length nc).ownBlock ≠ some bb := fun e => by have := (HOWN.out.lt bb e).1; omega
    have hn2 : (Value.slice bp bs.length bc).ownBlock ≠ some bb := fun e => by have := (hbv.lt bb e).1; have := HB2.out.size; omega
    have HFIN : Hid (BookAt ((w3.setCell ⟨bb, 0, none⟩ (.slice np nl.length nc)).setCell ⟨bb, 2, none⟩ (.slice bp bs.length bc)) bb base nl room (.slice bp bs.length bc)) := Lib.hid
      ⟨_, by simpa using (H1.set 0 (by simp) (.slice np nl.length nc) rfl).set 2 (by simp) (.slice bp bs.length bc) rfl, own_far (own_far (own_low HOW3 hbase) hn1) hn1⟩
    have HFI2 : Hid (InsAt ((w3.setCell ⟨bb, 0, none⟩ (.slice np nl.length nc)).setCell ⟨bb, 2, none⟩ (.slice bp bs.length bc)) base (.slice bp bs.length bc) bs) := Lib.hid
      (own_far (own_far (own_low (base' := base) hbv (Nat.le_trans hbase HB2.out.size)) hn2) hn2)
    have HBT : Hid (But bb w.heap.size w ((w3.setCell ⟨bb, 0, none⟩ (.slice np nl.length nc)).setCell ⟨bb, 2, none⟩ (.slice bp bs.length bc))) := Lib.hid
      (((But.of_below HB3).set bb (.inl rfl) _).set bb (.inl rfl) _)
    have c0 := H1.cell (i := 0) (v := sv) rfl
    have f0 := H1.fr (i := 0)
    have c2 := H1.cell (i := 2) (v := iv) rfl
    have f2 := H1.fr (i := 2)
    clear H1 h1 h2 HOW3 hb3 hbv HB3 HCB
    go_wp2
    go_ret
    exact ⟨by rw [HV.out]; rfl, ⟨_, by rw [HV.out]; exact HFIN.out, by rw [HV.out]; exact HFI2.out⟩, w.heap.size, hbase, fun o ho => by simp at ho, HBT.out⟩
  · have hne : (er != 0) = true := by simpa using he
    have HV := Lib.hid (HEQ.out.trans (if_pos he))
    clear HEQ he
    go_wp2
    go_ret
    exact BookTo2.same HV.out HB.out HI.out HB2.out hbase
end Go.Proofs.Ytopnlcjbklmicaa
