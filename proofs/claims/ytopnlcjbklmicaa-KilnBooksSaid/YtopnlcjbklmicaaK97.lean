import Derived.Test.YtopnlcjbklmicaaK93
import Derived.WalkKit
import Derived.WalkSpells
import Derived.WalkLawsBesides
import Derived.Deep.QuietTactic
import Derived.BigQuiet
import Derived.Lib.Hide
import Derived.WalkSmall
import Derived.Maps.OwnSet
import Derived.Maps.RangeWalk
import Derived.Deep.RegionWith
import Derived.Deep.RegionHeld3
import Derived.Deep.DrawnRows
import Derived.Deep.DeepCutAuto
import Derived.OneCell
import Derived.KernelRfl
import Derived.Laws.StructEq
import Derived.StillTailTactics
import Derived.Laws.Externs
import Derived.RangeFuncBox
import Derived.Outline
import Derived.RangeFuncNested
import Derived.RangeFuncBound
import Derived.RangeFuncCalls
import Derived.RangeFuncLeaves
import Derived.Shelf.RegionOpen
import Derived.OwnWalkIn
import Derived.TacticsInMore
import Derived.LoopNIn
import Derived.LoopIn
import Derived.Test.YtopnlcjbklmicaaProg
namespace Go.Proofs.Ytopnlcjbklmicaa
open Go.RowKit Go.Maps Go.Shelf
set_option linter.unusedVariables false
set_option linter.unusedSimpArgs false
theorem BookTo.row {w w' : World} {bb base b0 z n : Nat} {r : Int × List St} {room : Int} {iv v : Value} {e : Ending} {T : TypeId} {xs : List Value} (h : BookTo w bb base r room iv e w') (hr : w.ownsRow b0 T z v n xs) (hT : T ≠ 133) : w'.ownsRow b0 T z v n xs := by
  obtain ⟨h1, h2 | ⟨g, cap, cur, h3, h4, h5, h6⟩⟩ := hr
  · exact ⟨h1, .inl h2⟩
  · exact ⟨h1, .inr ⟨g, cap, cur, h3, h4, h.keep (b := g) h5 hT, h6⟩⟩
theorem BookTo2.keep {w w' : World} {bb base b : Nat} {r : Int × List St × BatL} {l : List St} {room : Int} {iv : Value} {e : Ending} {vs : Array Value} {T : TypeId} (h : BookTo2 w bb base r room e w') (hk : BookAt w bb base l room iv) (hb : Blk w b vs T) (hT : T ≠ 133) (hT2 : T ≠ 131) : Blk w' b vs T := by
  obtain ⟨_, _, q, _, hq, hbut⟩ := h
  obtain ⟨sv, hbk, _⟩ := hk
  have hne : b ≠ q := fun e => by
    subst e
    obtain ⟨vs', f, h9⟩ := hq _ hb
    injection h9 with _ h9
    exact hT h9
  exact hbut.blk hb (hb.ne hbk hT2) hne
theorem BookTo2.size {w w' : World} {bb base : Nat} {r : Int × List St × BatL} {room : Int} {e : Ending} (h : BookTo2 w bb base r room e w') : w.heap.size ≤ w'.heap.size := by
  obtain ⟨_, _, q, _, _, hbut⟩ := h
  exact hbut.size
theorem BookTo2.belowO {w w' : World} {bb base n : Nat} {r : Int × List St × BatL} {room : Int} {e : Ending} (h : BookTo2 w bb base r room e w') (hn : n ≤ base) (hbb : n ≤ bb) (hw : n ≤ w.heap.size) : Below n w w' := by
  obtain ⟨_, _, q, hq0, _, hbut⟩ := h
  exact hbut.toBelow hw hbb (Nat.le_trans hn hq0)
/-- The counts of stores, as they lie in the law's array. -/
def wl (l : List St) : List Value := (l.map St.wares).flatten
/-- What lies while the law goes on: the book, what it keeps, and the counts before. -/
structure CW (w : World) (bb base m5 p6 l7 w8 : Nat) (o l : List St) (L : BatL) (M P A : List Int) (W : World) : Prop where
  book : ∃ iv, BookAt W bb base l 400 iv ∧ InsAt W base iv L
  bm : Blk W m5 (iM M).toArray 103
  bp : Blk W p6 (iM P).toArray 103
  bl : Blk W l7 (iM A).toArray 103
  bw : Blk W w8 (wl o).toArray 104
  below : Below w.heap.size w W
  base2 : base ≤ W.heap.size
/-- What holds of the blocks for all the time. -/
structure CB (w : World) (bb base m5 p6 l7 w8 : Nat) : Prop where
  cbase : w.heap.size ≤ base
  cbb : w.heap.size ≤ bb
  c5 : w.heap.size ≤ m5
  c56 : m5 < p6
  c67 : p6 < l7
  c78 : l7 < w8
section
variable {w : World} {bb base m5 p6 l7 w8 : Nat} {o l : List St} {L : BatL} {M P A : List Int} {W : World}
theorem CW.past {W' : World} (h : CW w bb base m5 p6 l7 w8 o l L M P A W) (hb : Below W.heap.size W W') : CW w bb base m5 p6 l7 w8 o l L M P A W' := by
  obtain ⟨⟨iv, h1, h2⟩, h3, h4, h5, h6, h7, h8⟩ := h
  exact ⟨⟨iv, h1.past hb, h2.past hb⟩, h3.past hb, h4.past hb, h5.past hb, h6.past hb, h7.trans (hb.mono h7.size), Nat.le_trans h8 hb.size⟩
theorem CW.co {l' : List St} {iv : Value} {er : Int} {e : Ending} {W' : World} (hB : CB w bb base m5 p6 l7 w8) (h : CW w bb base m5 p6 l7 w8 o l L M P A W) (hi : InsAt W base iv L) (hT : BookTo W bb base (er, l') 400 iv e W') : CW w bb base m5 p6 l7 w8 o l' L M P A W' :=
  ⟨⟨iv, hT.2.1, hT.row hi (by decide)⟩, hT.keep h.bm (by decide), hT.keep h.bp (by decide), hT.keep h.bl (by decide), hT.keep h.bw (by decide), h.below.trans (hT.belowO hB.cbase h.below.size), Nat.le_trans h.base2 hT.size⟩
theorem CW.co2 {l' : List St} {L' : BatL} {er : Int} {e : Ending} {W' : World} (hB : CB w bb base m5 p6 l7 w8) (h : CW w bb base m5 p6 l7 w8 o l L M P A W) (hT : BookTo2 W bb base (er, l', L') 400 e W') : CW w bb base m5 p6 l7 w8 o l' L' M P A W' := by
  obtain ⟨iv, hk, _⟩ := h.book
  exact ⟨hT.2.1, hT.keep hk h.bm (by decide) (by decide), hT.keep hk h.bp (by decide) (by decide), hT.keep hk h.bl (by decide) (by decide), hT.keep hk h.bw (by decide) (by decide), h.below.trans (hT.belowO hB.cbase hB.cbb h.below.size), Nat.le_trans h.base2 hT.size⟩
theorem CW.drew (h : CW w bb base m5 p6 l7 w8 o l L M P A W) : CW w bb base m5 p6 l7 w8 o l L M P A W.drew := h.past (Below.refl _ _).drew
end
theorem iM_set (M : List Int) (k : Nat) (x : Int) (hk : k < M.length) : (iM M).toArray.setIfInBounds k (.int .i64 x) = (iM (M.set k x)).toArray := by
  apply Array.ext'
  simp [iM, List.map_set]
theorem iM_at (M : List Int) (k : Nat) (hk : k < M.length) : (iM M).toArray[k]? = some (.int .i64 (M[k]?.getD 0)) := by simp [iM, hk]
theorem new_counts : newF [1, 3] 400 = true := by decide
def headIs (k : Nat) : Code → Bool
  | .region id _ _ => id == k
  | _ => false
/-- The piece of code that begins with a region. -/
def segAt (k : Nat) : Code → Option Code
  | .seq a b => if headIs k a then some (.seq a b) else match segAt k a with
    | some c => some c
    | none => segAt k b
  | .block _ c => segAt k c
  | .loop c => segAt k c
  | .scope c => segAt k c
  | .cond _ a b => match segAt k a with
    | some c => some c
    | none => segAt k b
  | _ => none
noncomputable def swCode : Code := (Try.f10.body.bind (segAt 13)).getD .skip
noncomputable def inCode : Code := (Try.f10.body.bind (segAt 44)).getD .skip
theorem pairs_one (W : World) (b : Nat) (hb : W.heap.size = b) (x y : Int) (T : TypeId) : PairsAt (W.alloc (.cells #[.int .i64 x, .int .i64 y] T)) (.slice (some ⟨b, 0, none⟩) 1 1) [(x, y)] := by
  have B := Blk.newI W b #[.int .i64 x, .int .i64 y] T hb
  refine ⟨by simp, .inr ⟨b, 0, 1, rfl, by simp, B.lt, fun i hi => ?_⟩⟩
  obtain rfl : i = 0 := by simp at hi; omega
  exact ⟨B.cell (i := 0) rfl, B.cell (i := 1) rfl⟩
theorem intsR_one (W : World) (b : Nat) (hb : W.heap.size = b) (x : Int) : IntsR (W.alloc (.cells #[.int .i64 x] 3)) b (.slice (some ⟨b, 0, none⟩) 1 1) [x] := by
  subst hb
  exact ⟨rfl, .inr ⟨W.heap.size, 1, #[.int .i64 x], rfl, Nat.le_refl _, Blk.new W _ _, Nat.le_refl _, by decide, rfl, rfl⟩⟩
theorem cp_range {l : List St} {L : BatL} {bu : Bool} {M P A : List Int} (h : CP l L bu M P A) {k : Nat} (hk : k < 2) : (0 ≤ M[k]?.getD 0 ∧ M[k]?.getD 0 ≤ 1000000000) ∧ (0 ≤ A[k]?.getD 0 ∧ A[k]?.getD 0 ≤ 1000000000) := by
  have hg := h.inv.good k (by rw [h.len]; exact hk)
  rw [← h.all k hk, ← h.laid k hk]
  obtain ⟨⟨h1, h2, h3, h4, h5, h6, h7⟩, g2, _⟩ := hg
  refine ⟨⟨?_, g2⟩, h5⟩
  unfold St.all
  omega
end Go.Proofs.Ytopnlcjbklmicaa
