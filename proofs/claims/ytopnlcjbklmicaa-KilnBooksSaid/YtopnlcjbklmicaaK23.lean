import Derived.Test.YtopnlcjbklmicaaK22
import Derived.WalkKit
import Derived.WalkSpells
import Derived.WalkLawsBesides
import Derived.Deep.QuietTactic
import Derived.BigQuiet
import Derived.Lib.Hide
import Derived.WalkSmall
import Derived.Maps.OwnSet
import Derived.Maps.RangeWalk
import Derived.Deep.RegionWith
import Derived.Deep.RegionHeld3
import Derived.Deep.DrawnRows
import Derived.Deep.DeepCutAuto
import Derived.OneCell
import Derived.KernelRfl
import Derived.Laws.StructEq
import Derived.StillTailTactics
import Derived.Laws.Externs
import Derived.RangeFuncBox
import Derived.Outline
import Derived.RangeFuncNested
import Derived.RangeFuncBound
import Derived.RangeFuncCalls
import Derived.RangeFuncLeaves
import Derived.Shelf.RegionOpen
import Derived.OwnWalkIn
import Derived.TacticsInMore
import Derived.LoopNIn
import Derived.LoopIn
import Derived.Test.YtopnlcjbklmicaaProg
namespace Go.Proofs.Ytopnlcjbklmicaa
open Go.RowKit Go.Maps Go.Shelf
set_option linter.unusedVariables false
set_option linter.unusedSimpArgs false
theorem sumF_ok {pr : List (Nat × Nat)} (hpr : ∀ i, i < pr.length → LoadOk (pr[i]?.getD (0, 1))) : ∀ (cs : List Nat) (acc : Nat × Nat), (∀ c ∈ cs, c < pr.length) → LoadOk acc → (sumF pr cs acc).2 = 0 → LoadOk (sumF pr cs acc).1 := by
  intro cs
  induction cs with
  | nil => intro acc _ h _; exact h
  | cons c cs ih =>
    intro acc hcs ha h
    simp only [sumF] at h ⊢
    split at h
    · rename_i h2
      rw [if_pos h2]
      rcases addF_ok ha (hpr c (hcs c (by simp))) with ⟨e, _⟩ | ⟨_, h3⟩
      · rw [e] at h2; cases h2
      · exact ih _ (fun d hd => hcs d (by simp [hd])) h3 h
    · rename_i h2
      exact absurd h h2
theorem pressF_ok {v1 v2 wt n : Nat} (h2 : 1 ≤ v2) (hn : 1 ≤ n) (h0 : (pressF v1 v2 wt n).2.2 = 0) : LoadOk ((pressF v1 v2 wt n).1.toNat, (pressF v1 v2 wt n).2.1.toNat) := by
  unfold pressF at h0 ⊢
  have hd1 : 1 ≤ v2 * 1 := by omega
  rcases lowestF_ok (n := v1 * 1 + wt * v2) hd1 with ⟨e1, _⟩ | ⟨e1, a5, b5, e2, e3, e4, e5⟩
  · rw [e1] at h0; simp at h0
  · rw [e2] at h0 ⊢
    simp only [ne_eq, not_true_eq_false, if_false, Int.toNat_natCast] at h0 ⊢
    have hd2 : 1 ≤ b5 * n := Nat.mul_le_mul e4 hn
    rcases lowestF_ok (n := a5) hd2 with ⟨e6, _⟩ | ⟨_, a6, b6, e7, e8, e9, e10⟩
    · rw [e6] at h0; simp at h0
    · rw [e7]; exact ⟨e8, e9, e10⟩
theorem brickF_ok {ts : List (List Int × List Int)} {ti : Nat} {pr : List (Nat × Nat)} {b : Nat} (hpr : ∀ i, i < pr.length → LoadOk (pr[i]?.getD (0, 1))) (hN : (ts[ti]?.getD ([], [])).1.length = pr.length)
    (hr : 1 ≤ (restsL ts ti b).length) (h : (brickF ts ti pr b).2.2 = 0) : LoadOk (brickF ts ti pr b).1 ∧ LoadOk (brickF ts ti pr b).2.1 := by
  unfold brickF at h ⊢
  dsimp only at h ⊢
  split at h
  · rename_i h2
    rw [if_pos h2]
    have h3 := sumF_ok hpr (cellsL (ts[ti]?.getD ([], [])).1 b) (0, 1) (fun c hc => by rw [← hN]; exact cellsL_lt hc) (by simp [LoadOk]) h2
    exact ⟨h3, pressF_ok h3.2.1 hr h⟩
  · rename_i h2
    exact absurd h h2
theorem setAll_mem {bl : List (Nat × Nat)} {cs : List Nat} {E p : Nat × Nat} (h : p ∈ setAll bl cs E) : p ∈ bl ∨ p = E := by
  unfold setAll at h
  induction cs generalizing bl with
  | nil => exact .inl h
  | cons c cs ih =>
    rcases ih h with h1 | h1
    · exact List.mem_or_eq_of_mem_set h1
    · exact .inr h1
theorem passS_ok {ts : List (List Int × List Int)} {ti : Nat} {pr : List (Nat × Nat)} (hpr : ∀ i, i < pr.length → LoadOk (pr[i]?.getD (0, 1))) (hN : (ts[ti]?.getD ([], [])).1.length = pr.length) :
    ∀ (bs : List Nat) (ls bl : List (Nat × Nat)), (∀ b ∈ bs, 1 ≤ (restsL ts ti b).length) → (∀ p ∈ ls, LoadOk p) → (∀ p ∈ bl, LoadOk p) → (passS ts ti pr bs ls bl).2.2 = 0 →
      (∀ p ∈ (passS ts ti pr bs ls bl).1, LoadOk p) ∧ (∀ p ∈ (passS ts ti pr bs ls bl).2.1, LoadOk p) ∧ (passS ts ti pr bs ls bl).1.length = ls.length + bs.length ∧ (passS ts ti pr bs ls bl).2.1.length = bl.length := by
  intro bs
  induction bs with
  | nil => intro ls bl _ h1 h2 _; exact ⟨h1, h2, rfl, rfl⟩
  | cons b bs ih =>
    intro ls bl hb h1 h2 h
    simp only [passS] at h ⊢
    split at h
    · rename_i h3
      rw [if_pos h3]
      obtain ⟨o1, o2⟩ := brickF_ok hpr hN (hb b (by simp)) h3
      obtain ⟨r1, r2, r3, r4⟩ := ih _ _ (fun c hc => hb c (by simp [hc])) (fun p hp => by
        rcases List.mem_append.1 hp with hp | hp
        · exact h1 p hp
        · rw [List.mem_singleton.1 hp]; exact o1) (fun p hp => by
        rcases setAll_mem hp with hp | hp
        · exact h2 p hp
        · rw [hp]; exact o2) h
      exact ⟨r1, r2, by rw [r3]; simp; omega, by rw [r4, setAll_len]⟩
    · rename_i h3
      exact absurd h h3
/-- What a tier leaves: a load for each brick, and what presses on each cell below. -/
theorem passF_ok {ts : List (List Int × List Int)} {ti N : Nat} {pr : List (Nat × Nat)} (hpl : pr.length = N) (hpr : ∀ i, i < pr.length → LoadOk (pr[i]?.getD (0, 1))) (hN : (ts[ti]?.getD ([], [])).1.length = N) (hok : TierOk ts ti)
    (h : (passF ts ti N pr).2.2 = 0) : (passF ts ti N pr).1.length = (ts[ti]?.getD ([], [])).2.length ∧ (passF ts ti N pr).2.1.length = N ∧ (∀ i, i < N → LoadOk ((passF ts ti N pr).2.1[i]?.getD (0, 1))) ∧ (∀ p ∈ (passF ts ti N pr).1, LoadOk p) := by
  unfold passF at h ⊢
  obtain ⟨r1, r2, r3, r4⟩ := passS_ok hpr (hN.trans hpl.symm) (List.range (ts[ti]?.getD ([], [])).2.length) [] (List.replicate N (0, 1)) (fun b hb => hok.rs b (List.mem_range.1 hb)) (fun p hp => by cases hp) (fun p hp => by rw [(List.mem_replicate.1 hp).2]; simp [LoadOk]) h
  rw [List.length_replicate] at r4
  refine ⟨by rw [r3]; simp, r4, fun i hi => ?_, r1⟩
  have hi2 : i < (passS ts ti pr (List.range (ts[ti]?.getD ([], [])).2.length) [] (List.replicate N (0, 1))).2.1.length := by omega
  rw [List.getElem?_eq_getElem hi2]
  exact r2 _ (List.getElem_mem hi2)
/-- The loads of all tiers, from the last to the first. -/
def loadsS (ts : List (List Int × List Int)) (N : Nat) : List Nat → List (List (Nat × Nat)) → List (Nat × Nat) → List (List (Nat × Nat)) × List (Nat × Nat) × Int
  | [], rows, pr => (rows, pr, 0)
  | t :: rest, rows, pr => if (passF ts t N pr).2.2 = 0 then loadsS ts N rest (rows.set t (passF ts t N pr).1) (passF ts t N pr).2.1 else ([], [], (passF ts t N pr).2.2)
def loadsF (ts : List (List Int × List Int)) (N : Nat) : List (List (Nat × Nat)) × List (Nat × Nat) × Int := loadsS ts N (List.range ts.length).reverse (List.replicate ts.length []) (List.replicate N (0, 1))
theorem loadsS_snoc {ts : List (List Int × List Int)} {N : Nat} {pre : List Nat} {rows rows' : List (List (Nat × Nat))} {pr pr' : List (Nat × Nat)} (t : Nat) (h : loadsS ts N pre rows pr = (rows', pr', 0)) :
    loadsS ts N (pre ++ [t]) rows pr = if (passF ts t N pr').2.2 = 0 then (rows'.set t (passF ts t N pr').1, (passF ts t N pr').2.1, 0) else ([], [], (passF ts t N pr').2.2) := by
  induction pre generalizing rows pr with
  | nil => simp only [loadsS] at h; cases h; simp only [List.nil_append, loadsS]
  | cons x pre ih =>
    simp only [List.cons_append, loadsS] at h ⊢
    split at h
    · rename_i h2
      rw [if_pos h2]
      exact ih h
    · rename_i h2
      exact absurd (congrArg (·.2.2) h) h2
theorem loadsS_fail {ts : List (List Int × List Int)} {N : Nat} {pre : List Nat} {rows : List (List (Nat × Nat))} {pr : List (Nat × Nat)} {e : Int} (rest : List Nat) (h : loadsS ts N pre rows pr = ([], [], e)) (he : e ≠ 0) : loadsS ts N (pre ++ rest) rows pr = ([], [], e) := by
  induction pre generalizing rows pr with
  | nil => simp only [loadsS] at h; exact absurd (congrArg (·.2.2) h).symm he
  | cons x pre ih =>
    simp only [List.cons_append, loadsS] at h ⊢
    split at h
    · rename_i h2
      rw [if_pos h2]
      exact ih h
    · rename_i h2
      rw [if_neg h2]
      exact h
/-- The loads of tiers as they lie: a block of slices, each owning its row. -/
def RowsAt (W : World) (base gb : Nat) (rows : List (List (Nat × Nat))) : Prop :=
  ∃ vals : List Value, vals.length = rows.length ∧ Blk W gb vals.toArray 78 ∧ ∀ i, i < rows.length → W.ownsRow base 116 2 (vals[i]?.getD undef) (rows[i]?.getD []).length (flatL (rows[i]?.getD []))
theorem RowsAt.past {W W' : World} {base gb : Nat} {rows : List (List (Nat × Nat))} (h : RowsAt W base gb rows) (hb : Below W.heap.size W W') : RowsAt W' base gb rows := by
  obtain ⟨vals, h1, h2, h3⟩ := h
  exact ⟨vals, h1, h2.past hb, fun i hi => (h3 i hi).kept (row := none) ⟨hb.os, hb.tape, hb.output, hb.size, fun j hj _ => hb.block j hj⟩ (by cases hv : (vals[i]?.getD undef).ownBlock <;> simp)⟩
theorem RowsAt.far {W : World} {base gb b i : Nat} {u : Value} {T : TypeId} {vs : Array Value} (hb : Blk W b vs T) (hT : T ≠ 116) {rows : List (List (Nat × Nat))} (h : RowsAt W base gb rows) (hne : gb ≠ b) : RowsAt (W.setCell ⟨b, i, none⟩ u) base gb rows := by
  obtain ⟨vals, h1, h2, h3⟩ := h
  refine ⟨vals, h1, h2.far hne, fun j hj => (h3 j hj).kept (grownBy_setCell W ⟨b, i, none⟩ u) ?_⟩
  rcases (h3 j hj).2 with ⟨h4, _⟩ | ⟨g, cap, cur, h4, _, hgo, _⟩
  · exact .inl (by rw [h4]; rfl)
  · refine .inr fun e => ?_
    rw [h4] at e
    obtain rfl : g = b := by simpa [Value.ownBlock] using e
    rw [show W.heap[g]? = _ from hb] at hgo
    cases hgo
    exact hT rfl
theorem RowsAt.set {W : World} {base gb ti : Nat} {rows : List (List (Nat × Nat))} {lv : Value} {ls : List (Nat × Nat)} (h : RowsAt W base gb rows) (hti : ti < rows.length) (hlv : W.ownsRow base 116 2 lv ls.length (flatL ls)) :
    RowsAt (W.setCell ⟨gb, ti, none⟩ lv) base gb (rows.set ti ls) := by
  obtain ⟨vals, h1, h2, h3⟩ := h
  have hc : lv.cells = #[lv] := by
    obtain ⟨p, c, rfl⟩ := own_shape2 hlv
    rfl
  have hkeep : ∀ {v : Value} {k : Nat} {xs : List Value}, W.ownsRow base 116 2 v k xs → (W.setCell ⟨gb, ti, none⟩ lv).ownsRow base 116 2 v k xs := fun {v k xs} h4 => h4.kept (grownBy_setCell W ⟨gb, ti, none⟩ lv) (by
    rcases h4.2 with ⟨h5, _⟩ | ⟨g, cap, cur, h5, _, hgo, _⟩
    · exact .inl (by rw [h5]; rfl)
    · refine .inr fun e => ?_
      rw [h5] at e
      obtain rfl : g = gb := by simpa [Value.ownBlock] using e
      rw [show W.heap[g]? = _ from h2] at hgo
      injection hgo with hgo
      injection hgo with _ hgo
      exact absurd hgo (by decide))
  refine ⟨vals.set ti lv, by simp [h1], by simpa using h2.set ti (by simp; omega) lv hc, fun i hi => ?_⟩
  by_cases e : i = ti
  · subst e
    rw [List.getElem?_set_self (by omega), List.getElem?_set_self hti]
    exact hkeep hlv
  · rw [List.getElem?_set_ne (Ne.symm e), List.getElem?_set_ne (Ne.symm e)]
    exact hkeep (h3 i (by simpa using hi))
theorem RowsAt.nils {W : World} {base gb n : Nat} (h : Blk W gb (Array.replicate n (.slice none 0 0)) 78) : RowsAt W base gb (List.replicate n []) := by
  refine ⟨List.replicate n (.slice none 0 0), by simp, by simpa using h, fun i hi => ?_⟩
  have hi2 : i < n := by simpa using hi
  simp only [List.getElem?_replicate, hi2, if_true, Option.getD_some]
  exact World.ownsRow_nil _ _ _ _
end Go.Proofs.Ytopnlcjbklmicaa
