import Derived.Test.YtopnlcjbklmicaaK32
import Derived.WalkKit
import Derived.WalkSpells
import Derived.WalkLawsBesides
import Derived.Deep.QuietTactic
import Derived.BigQuiet
import Derived.Lib.Hide
import Derived.WalkSmall
import Derived.Maps.OwnSet
import Derived.Maps.RangeWalk
import Derived.Deep.RegionWith
import Derived.Deep.RegionHeld3
import Derived.Deep.DrawnRows
import Derived.Deep.DeepCutAuto
import Derived.OneCell
import Derived.KernelRfl
import Derived.Laws.StructEq
import Derived.StillTailTactics
import Derived.Laws.Externs
import Derived.RangeFuncBox
import Derived.Outline
import Derived.RangeFuncNested
import Derived.RangeFuncBound
import Derived.RangeFuncCalls
import Derived.RangeFuncLeaves
import Derived.Shelf.RegionOpen
import Derived.OwnWalkIn
import Derived.TacticsInMore
import Derived.LoopNIn
import Derived.LoopIn
import Derived.Test.YtopnlcjbklmicaaProg
namespace Go.Proofs.Ytopnlcjbklmicaa
open Go.RowKit Go.Maps Go.Shelf
set_option linter.unusedVariables false
set_option linter.unusedSimpArgs false
theorem known_moulds : mouldsF 900 940 500 600 100 200 = (977, 999, 0) := by decide
theorem known_first : FirstN 81 [(500, 1000), (500, 1000)] 98 := by
  have hs : ([(500, 1000), (500, 1000)] : List (Int × Int)).all stageF = true := by decide
  refine ⟨by omega, by omega, fun x h0 hx => ?_, fun x h0 hx => ?_⟩
  · have h := leastF_mono hs (a := x) (b := 97) h0 (by omega) (by omega)
    have e : leastF 97 [(500, 1000), (500, 1000)] = 80 := by decide
    omega
  · have h := leastF_mono hs (a := 98) (b := x) (by omega) h0 hx
    have e : leastF 98 [(500, 1000), (500, 1000)] = 81 := by decide
    omega
theorem known_need {r : Int × Int} (h : NeedTo 81 [(500, 1000), (500, 1000)] r) : r = (98, 0) := by
  obtain ⟨k, h1, h2⟩ := h.2 (by decide)
  rw [h1.uniq known_first] at h2
  rw [h2]
  decide
theorem known_new : newF [1] 9 = true := by decide
theorem ok_one : AllOk [mkSt 1] := fun i hi => by
  have : i = 0 := by simp at hi; omega
  subst this
  simp [mkSt, St.Ok]
theorem known_mould : coF [mkSt 1] 0 10 (mouldF 10) = (0, [⟨10, 0, 0, 0, 0, 0, 0, 1⟩]) := by
  have : (mouldF 10 (mkSt 1)) = (0, ⟨10, 0, 0, 0, 0, 0, 0, 1⟩) := rfl
  simp [coF, inB, this, chF, Int.min_def]
theorem ok_two : AllOk [⟨10, 0, 0, 0, 0, 0, 0, 1⟩] := fun i hi => by
  have : i = 0 := by simp at hi; omega
  subst this
  simp [St.Ok]
theorem known_dry : coF [⟨10, 0, 0, 0, 0, 0, 0, 1⟩] 0 8 (dryF 8 1) = (0, [⟨2, 7, 0, 0, 0, 1, 0, 1⟩]) := by
  have : (dryF 8 1 ⟨10, 0, 0, 0, 0, 0, 0, 1⟩) = (0, ⟨2, 7, 0, 0, 0, 1, 0, 1⟩) := rfl
  simp [coF, inB, this, chF, Int.min_def]
theorem known_count : countF [⟨2, 7, 0, 0, 0, 1, 0, 1⟩] 0 = (⟨2, 7, 0, 0, 0, 1, 0, 1⟩, 0) := by simp [countF, inB]
theorem BookTo.keep {w w' : World} {bb base b : Nat} {r : Int × List St} {room : Int} {iv : Value} {e : Ending} {vs : Array Value} {T : TypeId} (h : BookTo w bb base r room iv e w') (hb : Blk w b vs T) (hT : T ≠ 133) : Blk w' b vs T := by
  obtain ⟨_, _, q, _, hq, hbut⟩ := h
  have hne : b ≠ q := fun e => by
    subst e
    obtain ⟨vs', f, h9⟩ := hq _ hb
    injection h9 with _ h9
    exact hT h9
  exact hbut.blk hb hne hne
theorem BookTo.size {w w' : World} {bb base : Nat} {r : Int × List St} {room : Int} {iv : Value} {e : Ending} (h : BookTo w bb base r room iv e w') : w.heap.size ≤ w'.heap.size := by
  obtain ⟨_, _, q, _, _, hbut⟩ := h
  exact hbut.size
theorem BookTo.belowO {w w' : World} {bb base n : Nat} {r : Int × List St} {room : Int} {iv : Value} {e : Ending} (h : BookTo w bb base r room iv e w') (hn : n ≤ base) (hw : n ≤ w.heap.size) : Below n w w' := by
  obtain ⟨_, _, q, hq0, _, hbut⟩ := h
  exact hbut.toBelow hw (Nat.le_trans hn hq0) (Nat.le_trans hn hq0)
/-- What known reads of the loads. -/
def TwoRows (W : World) (bv fv : Value) : Prop :=
  ∃ gb g vals g0 c0 cur, bv = .slice (some ⟨gb, 0, none⟩) 2 2 ∧ fv = .slice (some ⟨g, 0, none⟩) 2 2 ∧ Blk W gb vals 78 ∧ vals[0]? = some (.slice (some ⟨g0, 0, none⟩) 2 c0) ∧ Blk W g0 cur 116 ∧ cur[2]? = some (.int .i64 2) ∧ cur[3]? = some (.int .i64 1) ∧
    Blk W g #[.int .i64 5, .int .i64 1, .int .i64 7, .int .i64 1] 116
theorem two_rows {w : World} {e : Ending} {w' : World} (h : LoadsAll w 2 1 twoL e w') : Below w.heap.size w w' ∧ ∃ bv fv, e = .returned (.tuple #[bv, fv, .int .i64 0]) ∧ TwoRows w' bv fv := by
  rcases h with ⟨h, _⟩ | ⟨_, r, rv, fv, er, h1, rfl, h2, h3, h4⟩
  · exact absurd two_check h
  · have hr : r = none := by
      cases r with
      | none => rfl
      | some q =>
        obtain ⟨t, b⟩ := q
        have h5 := two_hang.1 t h1.1 b h1.2.1
        rw [h1.2.2.1] at h5
        cases h5
    obtain ⟨h5, h6, h7⟩ := h4 hr
    have e2 : (((2 : Int) * 1).toNat) = 2 := by decide
    rw [e2, two_hang.2] at h5 h7
    obtain ⟨gb, g, rfl, hgb, ⟨vals, hv1, hv2, hv3⟩, rfl, hg, hl⟩ := h7 h5
    refine ⟨h2, _, _, by rw [h5], gb, g, vals.toArray, ?_⟩
    have hv0 := hv3 0 (by simp)
    simp only [List.getElem?_cons_zero, Option.getD_some] at hv0
    obtain ⟨g0, c0, he⟩ := ownsRow_succ (k := 1) hv0
    have hvl : vals.length = 2 := by rw [hv1]; rfl
    have hv00 : vals[0]? = some (.slice (some ⟨g0, 0, none⟩) 2 c0) := by
      rw [List.getElem?_eq_getElem (by omega)] at he ⊢
      simpa using he
    rw [he] at hv0
    rcases hv0.2 with ⟨h', _⟩ | ⟨g', cap', cur, h', _, hg0, _, _, hcs, htake⟩
    · simp at h'
    · simp only [Value.slice.injEq, Option.some.injEq, Addr.mk.injEq, and_true, true_and] at h'
      obtain ⟨rfl, _, rfl⟩ := h'
      have ht : ∀ j u, j < 4 → (flatL [(2, 1), (2, 1)])[j]? = some u → cur[j]? = some u := fun j u hj hu => by
        have h9 := congrArg (fun l => l[j]?) htake
        simp only [List.getElem?_take] at h9
        rw [if_pos (by simp; omega)] at h9
        rw [← Array.getElem?_toList, h9]
        exact hu
      exact ⟨g0, c0, cur, rfl, rfl, hv2, by simpa using hv00, hg0, ht 2 _ (by omega) rfl, ht 3 _ (by omega) rfl, hl⟩
end Go.Proofs.Ytopnlcjbklmicaa
