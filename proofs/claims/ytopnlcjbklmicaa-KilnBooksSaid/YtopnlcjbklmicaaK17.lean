import Derived.Test.YtopnlcjbklmicaaK16
import Derived.Maps.OwnIn
import Derived.WalkKit
import Derived.WalkSpells
import Derived.WalkLawsBesides
import Derived.Deep.QuietTactic
import Derived.BigQuiet
import Derived.Lib.Hide
import Derived.WalkSmall
import Derived.Maps.OwnSet
import Derived.Maps.RangeWalk
import Derived.Deep.RegionWith
import Derived.Deep.RegionHeld3
import Derived.Deep.DrawnRows
import Derived.Deep.DeepCutAuto
import Derived.OneCell
import Derived.KernelRfl
import Derived.Laws.StructEq
import Derived.StillTailTactics
import Derived.Laws.Externs
import Derived.RangeFuncBox
import Derived.Outline
import Derived.RangeFuncNested
import Derived.RangeFuncBound
import Derived.RangeFuncCalls
import Derived.RangeFuncLeaves
import Derived.Shelf.RegionOpen
import Derived.OwnWalkIn
import Derived.TacticsInMore
import Derived.LoopNIn
import Derived.LoopIn
import Derived.Test.YtopnlcjbklmicaaProg
namespace Go.Proofs.Ytopnlcjbklmicaa
open Go.RowKit Go.Maps Go.Shelf
set_option linter.unusedVariables false
set_option linter.unusedSimpArgs false
/-- How many bricks of n have come. -/
def cnt (n : Nat) (pre : List Int) : Nat := ((List.range n).filter fun b : Nat => decide ((b : Int) ∈ pre)).length
theorem cnt_nil (n : Nat) : cnt n [] = 0 := by
  unfold cnt
  rw [List.length_eq_zero_iff, List.filter_eq_nil_iff]
  intro a _ h
  simp at h
theorem filter_len_snoc (n : Nat) (pre : List Int) (x : Nat) (hx : x < n) (hp : (x : Int) ∉ pre) : cnt n (pre ++ [(x : Int)]) = cnt n pre + 1 := by
  unfold cnt
  induction n with
  | zero => omega
  | succ n ih =>
    rw [List.range_succ, List.filter_append, List.filter_append, List.length_append, List.length_append]
    by_cases h : x = n
    · subst h
      have e1 : (List.range x).filter (fun b : Nat => decide ((b : Int) ∈ pre ++ [(x : Int)])) = (List.range x).filter (fun b : Nat => decide ((b : Int) ∈ pre)) := by
        apply List.filter_congr
        intro b hb
        have : b < x := List.mem_range.1 hb
        have hne : (b : Int) ≠ (x : Int) := by omega
        simp [hne]
      rw [e1]
      simp [hp]
    · have := ih (by omega)
      have hne : (n : Int) ≠ (x : Int) := by omega
      rw [this]
      by_cases hn : (n : Int) ∈ pre
      · simp [hne, hn] <;> omega
      · simp [hne, hn]
theorem filter_len_same (n : Nat) (pre : List Int) (x : Int) (hp : x ∈ pre ∨ x < 0) : cnt n (pre ++ [x]) = cnt n pre := by
  unfold cnt
  congr 1
  apply List.filter_congr
  intro b _
  have : ((b : Int) ∈ pre ++ [x]) ↔ ((b : Int) ∈ pre) := by
    rw [List.mem_append, List.mem_singleton]
    constructor
    · rintro (h | h)
      · exact h
      · rcases hp with h1 | h1
        · rw [h]; exact h1
        · omega
    · exact .inl
  simp [this]
theorem cnt_full (n : Nat) (pre : List Int) : cnt n pre = n ↔ (List.range n).all (fun b : Nat => decide ((b : Int) ∈ pre)) = true := by
  unfold cnt
  rw [List.all_eq_true]
  constructor
  · intro h x hx
    have h2 : ((List.range n).filter fun b : Nat => decide ((b : Int) ∈ pre)).length = (List.range n).length := by rw [h, List.length_range]
    exact List.length_filter_eq_length_iff.1 h2 x hx
  · intro h
    have := List.length_filter_eq_length_iff.2 h
    rw [this, List.length_range]
/-- Whether a tier on N cells is valid. -/
def isTierF (N : Int) (cells weights : List Int) : Bool :=
  decide ((cells.length : Int) = N) && cells.all (fun x => inB x (-1) ((weights.length : Int) - 1)) && weights.all (fun x => inB x 0 1000) && (List.range weights.length).all (fun b : Nat => decide ((b : Int) ∈ cells))
theorem undMap : Try.prog.underlying 168 = some (.map 3 4) := by kernel_rfl
theorem undInt : Try.prog.underlying 3 = some (.int .i64) := by kernel_rfl
theorem undBool : Try.prog.underlying 4 = some .bool := by kernel_rfl
open Go.Maps in
/-- The map of the bricks that have come. -/
def SeenM (w : World) (bm k n : Nat) (pre : List Int) : Prop :=
  ∃ (D : DataW Unit) (m : Nat), w.ownsMap Try.prog 3 (plainElem (H := Unit) Try.prog 4) bm m D ∧ m ≤ k ∧ (∀ x : Int, Maps.has D (.int .i64 x) = decide (x ∈ pre ∧ x ≠ -1)) ∧ Maps.size D = cnt n pre
theorem wf_small {x : Int} (h1 : -1 ≤ x) (h2 : x ≤ 100000000000000000) : (Lit.int .i64 x).wf = true := by
  simp [Lit.wf, IntKind.min, IntKind.max, IntKind.signed, IntKind.bits]; omega
theorem SeenM.same {w w' : World} {bm k n : Nat} {pre : List Int} (h : SeenM w bm k n pre) (hw : Below w.heap.size w w') (hb : bm < w.heap.size) : SeenM w' bm k n pre := by
  obtain ⟨D, m, h1, h2⟩ := h
  exact ⟨D, m, h1.kept (row := none) ⟨hw.os, hw.tape, hw.output, hw.size, fun i hi _ => hw.block i hi⟩ (by simp), h2⟩
set_option maxRecDepth 100000 in
set_option maxHeartbeats 4000000 in
theorem isTier_any (N : Int) (vc vw : Value) (cells weights : List Int) (w : World) (hc : IntsAt w vc cells) (hw : IntsAt w vw weights) (hN : N ≤ 1000) :
    Calls Try.prog 69 #[.agg #[vc, vw], .int .i64 N] w fun e w' => e = .returned (.bool (isTierF N cells weights)) ∧ Below w.heap.size w w' := by
  obtain ⟨ac, capc, rfl, hlc, hpc⟩ := hc.placed
  obtain ⟨aw, capw, rfl, hlw, hpw⟩ := hw.placed
  have hmm := @run_makeMap Try.prog
  have B := Blk.new w #[.slice ac cells.length capc, .slice aw weights.length capw] 85
  have b0 := B.cell (i := 0) (v := .slice ac cells.length capc) rfl
  have b1 := B.cell (i := 1) (v := .slice aw weights.length capw) rfl
  have BB := (Below.refl _ w).alloc (Nat.le_refl _) (.cells #[.slice ac cells.length capc, .slice aw weights.length capw] 85)
  have hc1 := hc.below BB
  have hw1 := hw.below BB
  have HPC := Lib.hid hpc
  have HF : Hid (isTierF N cells weights = (decide ((cells.length : Int) = N) && cells.all (fun x => inB x (-1) ((weights.length : Int) - 1)) && weights.all (fun x => inB x 0 1000) && (List.range weights.length).all (fun b : Nat => decide ((b : Int) ∈ cells)))) := Lib.hid rfl
  obtain ⟨f1, hf1⟩ : ∃ f1, cells.all (fun x => inB x (-1) ((weights.length : Int) - 1)) = f1 := ⟨_, rfl⟩
  obtain ⟨f2, hf2⟩ : ∃ f2, weights.all (fun x => inB x 0 1000) = f2 := ⟨_, rfl⟩
  obtain ⟨f3, hf3⟩ : ∃ f3, (List.range weights.length).all (fun b : Nat => decide ((b : Int) ∈ cells)) = f3 := ⟨_, rfl⟩
  obtain ⟨F, hF⟩ : ∃ F, isTierF N cells weights = F := ⟨_, rfl⟩
  have HA1 := Lib.hid (areWithin_any (-1) ((weights.length : Int) - 1) _ cells _ hc1)
  have HA2 := Lib.hid (areWithin_any 0 1000 _ weights _ hw1)
  rw [hf1] at HA1 HF
  rw [hf2] at HA2 HF
  rw [hf3] at HF
  rw [hF] at HF ⊢
  have HF1 := Lib.hid hf1
  have HF3 := Lib.hid hf3
  have HB := Lib.hid B
  have HBB := Lib.hid BB
  clear hf1 hf2 hf3 hF B BB hc1 hw1 hpc hpw hc hw
  go_enter Try.func69, Try.ntmps69
  by_cases hln : (cells.length : Int) = N
  · subst hln
    go_wp2_with fail
    refine HA1.out.mono ?_
    rintro e w2 ⟨rfl, rfl⟩
    cases f1
    · have HV : Hid (F = false) := Lib.hid (by rw [HF.out]; simp)
      clear HF
      go_wp2
      go_ret
      exact ⟨ret_bool (by rw [HV.out]), HBB.out⟩
    · go_wp2_with fail
      refine HA2.out.mono ?_
      rintro e w2 ⟨rfl, rfl⟩
      cases f2
      · have HV : Hid (F = false) := Lib.hid (by rw [HF.out]; simp)
        clear HF
        go_wp2
        go_ret
        exact ⟨ret_bool (by rw [HV.out]), HBB.out⟩
      · have HV : Hid (F = f3) := Lib.hid (by rw [HF.out]; simp)
        clear HF HA1 HA2
        obtain ⟨w1, hw1⟩ : ∃ w1, w.alloc (.cells #[.slice ac cells.length capc, .slice aw weights.length capw] 85) = w1 := ⟨_, rfl⟩
        rw [hw1] at b0 b1 HB HBB
        obtain ⟨bm, hbm⟩ : ∃ bm, w1.heap.size = bm := ⟨_, rfl⟩
        have hm0 := World.ownsMap_made w1 Try.prog 3 (plainElem (H := Unit) Try.prog 4)
        rw [hbm] at hm0
        have HSM : Hid (SeenM (w1.alloc (.map #[] 0)) bm 0 weights.length []) := Lib.hid ⟨_, 0, hm0, Nat.le_refl _, fun x => (by simp [Maps.has]), (by rw [cnt_nil]; rfl)⟩
        have HB1 := Lib.hid (HB.out.alloc (.map #[] 0))
        have HBB1 := Lib.hid (HBB.out.alloc HBB.out.size (.map #[] 0))
        have hlt1 := HB.out.lt
        rw [hbm] at hlt1
        clear hm0
        obtain ⟨w0, hw0⟩ : ∃ w0, w1.alloc (.map #[] 0) = w0 := ⟨_, rfl⟩
        rw [hw0] at HSM HB1 HBB1
        have e0 := HB1.out.cell (i := 0) (v := .slice ac cells.length capc) rfl
        have e1 := HB1.out.cell (i := 1) (v := .slice aw weights.length capw) rfl
        go_wp2
        clear hw1 hw0 hbm hmm
        go_loopw [33] (fun i wr => ∃ k : Nat, k ≤ cells.length ∧ i = .int .i64 k ∧ Hid (SeenM wr bm k weights.length (cells.take k)) ∧ Hid (Blk wr w.heap.size #[.slice ac cells.length capc, .slice aw weights.length capw] 85) ∧ Hid (Below w.heap.size w wr)) (fun i _ => cells.length - (intOf i).toNat)
        case atStart => exact ⟨0, Nat.zero_le _, rfl, HSM, HB1, HBB1⟩
        case round =>
          obtain ⟨k, hk, rfl, HS3, HB3, HBB3⟩ := hrel
          by_cases hlt : k < cells.length
          · obtain ⟨b, off, rfl, hbb, c1⟩ := HPC.out k hlt
            have c1 := (HBB3.out.cell (p := ⟨b, _, none⟩) hbb).trans c1
            have hrg := all_get 0 HF1.out k hlt
            have htk : cells.take (k + 1) = cells.take k ++ [cells[k]?.getD 0] := by rw [List.take_succ_eq_append_getElem hlt]; simp [hlt]
            obtain ⟨x, hx⟩ : ∃ x, cells[k]?.getD 0 = x := ⟨_, rfl⟩
            rw [hx] at c1 hrg htk
            have HTK := Lib.hid htk
            have hrg2 : -1 ≤ x ∧ x ≤ (weights.length : Int) - 1 := by simpa [inB] using hrg
            clear hx htk hrg
            by_cases hx1 : x = -1
            · subst hx1
              have HS4 : Hid (SeenM wr bm (k + 1) weights.length (cells.take (k + 1))) := Lib.hid (by
                obtain ⟨D, m, h1, h2, h3, h4⟩ := HS3.out
                rw [HTK.out]
                exact ⟨D, m, h1, by omega, fun y => by rw [h3]; by_cases e : y = -1 <;> simp [e], by rw [h4, filter_len_same _ _ _ (.inr (by omega))]⟩)
              clear HS3
              go_wp2
              go_roundw
              case rel => exact ⟨k + 1, by omega, by go_num, HS4, HB3, HBB3⟩
              case measure => simp [intOf]; omega
            · have hx0 : 0 ≤ x := by omega
              have hwf : (Lit.int .i64 x).wf = true := wf_small (by omega) (by omega)
              have hxb : (x != -1) = true := by simpa using hx1
              obtain ⟨D, m, hown, hm2, hh, hz⟩ := HS3.out
              have hmx : m < maxLen := by unfold maxLen; omega
              have HO := Lib.hid hown
              have HH := Lib.hid hh
              have HZ := Lib.hid hz
              clear hh hz HS3
              go_wp2_with (at_mapUpdate; refine wpList_mapUpdate_own _ rfl _ _ _ 168 rfl 3 4 (Maps.int_keyed undInt) undMap _ bm m _ rfl HO.out hmx _ _ _ rfl rfl (Maps.keyOf_int_mk undInt hwf) _ [] (plainElem_bool undBool true) ?_; intro w3 hown3 hgrow3; have HO3 := Lib.hid hown3; have HG3 := Lib.hid hgrow3; clear hown3 hgrow3)
              go_roundw
              case rel =>
                refine ⟨k + 1, by omega, by go_num, Lib.hid ⟨_, m + 1, HO3.out, by omega, fun y => ?_, ?_⟩, Lib.hid (HB3.out.kept HG3.out (by intro e; have := Option.some.inj e; omega)), Lib.hid (HBB3.out.grown HG3.out HBB3.out.size (by intro j hj; cases hj; omega))⟩
                · rw [HTK.out]
                  by_cases e : y = x
                  · subst e
                    rw [Maps.has_put_same HO.out.isMap (by simp [WideAt.IsKeyLit])]
                    simp [hx1]
                  · rw [Maps.has_put_other (by intro h; cases h; exact e rfl), HH.out]
                    simp [e]
                · rw [HTK.out, Maps.size_put (HO.out.tidy (Maps.int_keyed undInt)), HH.out]
                  by_cases e : x ∈ cells.take k
                  · rw [filter_len_same _ _ _ (.inl e)]
                    simp [e, hx1, HZ.out]
                  · obtain ⟨xn, rfl⟩ : ∃ xn : Nat, x = xn := ⟨x.toNat, by omega⟩
                    rw [filter_len_snoc _ _ _ (by omega) e]
                    simp [e, HZ.out]
              case measure => simp [intOf]; omega
          · have hke : k = cells.length := by omega
            subst hke
            have htk : cells.take cells.length = cells := List.take_length
            rw [htk] at HS3
            have b0 := HB3.out.cell (i := 0) (v := .slice ac cells.length capc) rfl
            have b1 := HB3.out.cell (i := 1) (v := .slice aw weights.length capw) rfl
            obtain ⟨D, m, hown, hm2, hh, hz⟩ := HS3.out
            have hcf := cnt_full weights.length cells
            rw [HF3.out, ← hz] at hcf
            have HFF : Hid (f3 = decide (((Maps.size D : Nat) : Int) = (weights.length : Int))) := Lib.hid (by
              rw [Bool.eq_iff_iff, ← hcf]; simp; omega)
            have HO := Lib.hid hown
            clear htk hh hz hcf HS3
            go_wp2_with (at_len; refine wpList_len_own _ rfl _ 168 rfl 3 4 undMap _ bm m D rfl HO.out ?_)
            go_ret
            exact ⟨ret_bool (by rw [HV.out, HFF.out]; first | rfl | simp), HBB3.out⟩
  · have HV : Hid (F = false) := Lib.hid (by rw [HF.out]; simp [hln])
    clear HF
    go_wp2
    go_ret
    exact ⟨ret_bool (by rw [HV.out]), HBB.out⟩
end Go.Proofs.Ytopnlcjbklmicaa
