import Derived.Test.YtopnlcjbklmicaaK24
import Derived.WalkKit
import Derived.WalkSpells
import Derived.WalkLawsBesides
import Derived.Deep.QuietTactic
import Derived.BigQuiet
import Derived.Lib.Hide
import Derived.WalkSmall
import Derived.Maps.OwnSet
import Derived.Maps.RangeWalk
import Derived.Deep.RegionWith
import Derived.Deep.RegionHeld3
import Derived.Deep.DrawnRows
import Derived.Deep.DeepCutAuto
import Derived.OneCell
import Derived.KernelRfl
import Derived.Laws.StructEq
import Derived.StillTailTactics
import Derived.Laws.Externs
import Derived.RangeFuncBox
import Derived.Outline
import Derived.RangeFuncNested
import Derived.RangeFuncBound
import Derived.RangeFuncCalls
import Derived.RangeFuncLeaves
import Derived.Shelf.RegionOpen
import Derived.OwnWalkIn
import Derived.TacticsInMore
import Derived.LoopNIn
import Derived.LoopIn
import Derived.Test.YtopnlcjbklmicaaProg
namespace Go.Proofs.Ytopnlcjbklmicaa
open Go.RowKit Go.Maps Go.Shelf
set_option linter.unusedVariables false
set_option linter.unusedSimpArgs false
theorem nodup_len : ∀ (l m : List Int), l.Nodup → (∀ x ∈ l, x ∈ m) → l.length ≤ m.length
  | [], _, _, _ => Nat.zero_le _
  | x :: l, m, hn, hm => by
    have h1 := nodup_len l (m.erase x) (List.nodup_cons.1 hn).2 (fun y hy => (List.mem_erase_of_ne (fun e : y = x => (List.nodup_cons.1 hn).1 (e ▸ hy))).2 (hm y (by simp [hy])))
    have h2 := List.length_erase_of_mem (hm x (by simp))
    have h3 : 0 < m.length := List.length_pos_of_mem (hm x (by simp))
    simp only [List.length_cons]
    omega
theorem tier_parts {N : Int} {cells weights : List Int} (h : isTierF N cells weights = true) : (cells.length : Int) = N ∧ weights.length ≤ cells.length ∧ ∀ b, b < weights.length → 0 ≤ weights[b]?.getD 0 ∧ weights[b]?.getD 0 ≤ 1000 := by
  unfold isTierF at h
  simp only [Bool.and_eq_true, decide_eq_true_eq, List.all_eq_true, List.mem_range] at h
  obtain ⟨⟨⟨h1, h2⟩, h3⟩, h4⟩ := h
  refine ⟨h1, ?_, fun b hb => ?_⟩
  · have h5 := nodup_len ((List.range weights.length).map (fun b : Nat => (b : Int))) cells (by
      rw [List.nodup_iff_pairwise_ne, List.pairwise_map]
      exact (List.nodup_range).imp (fun hne e => hne (by omega))) (fun x hx => by
      obtain ⟨b, hb, rfl⟩ := List.mem_map.1 hx
      exact h4 b (List.mem_range.1 hb))
    simpa using h5
  · have h6 := h3 (weights[b]?.getD 0) (by rw [List.getElem?_eq_getElem hb]; exact List.getElem_mem hb)
    simp only [inB, Bool.and_eq_true, decide_eq_true_eq] at h6
    exact h6
theorem check_parts {W H : Int} {ts : List (List Int × List Int)} (h : checkF W H ts = 0) : (1 ≤ W ∧ W ≤ 12) ∧ (1 ≤ H ∧ H ≤ 12) ∧ ts.length ≤ 10 ∧ (∀ i, i < ts.length → (ts[i]?.getD ([], [])).1.length = (W * H).toNat) ∧ ∀ i, i < ts.length → TierIn ts i := by
  unfold checkF at h
  split at h
  · rename_i hc
    obtain ⟨h1, h2, h3⟩ := hc
    simp only [inB, Bool.and_eq_true, decide_eq_true_eq] at h1
    have hr := prod_range h1.1 h1.2
    have ht : ∀ i, i < ts.length → isTierF (W * H) (ts[i]?.getD ([], [])).1 (ts[i]?.getD ([], [])).2 = true := fun i hi => List.all_eq_true.1 h3 (ts[i]?.getD ([], [])) (by rw [List.getElem?_eq_getElem hi]; exact List.getElem_mem hi)
    refine ⟨h1.1, h1.2, h2, fun i hi => ?_, fun i hi => ?_⟩
    · have := (tier_parts (ht i hi)).1; omega
    · obtain ⟨a1, a2, a3⟩ := tier_parts (ht i hi)
      exact ⟨by omega, a3⟩
  · cases h
/-- What Loads returns. -/
def LoadsAll (w : World) (W H : Int) (ts : List (List Int × List Int)) (e : Ending) (w' : World) : Prop :=
  (checkF W H ts ≠ 0 ∧ e = .returned (.tuple #[.slice none 0 0, .slice none 0 0, .int .i64 (checkF W H ts)]) ∧ Below w.heap.size w w') ∨
  (checkF W H ts = 0 ∧ LoadsTo w ts (W * H).toNat e w')
theorem Ext.ret {w w' : World} (h : Below w.heap.size w w') : Below w.heap.size w w' := h
set_option maxHeartbeats 1000000 in
theorem loadsAll_any (n₀ : Nat) (W H : Int) (tv : Value) (ts : List (List Int × List Int)) (w : World) (ht : TiersAt n₀ w tv ts) :
    Calls Try.prog 34 #[.agg #[.int .i64 W, .int .i64 H, tv]] w (LoadsAll w W H ts) := by
  obtain ⟨a, cap, rfl, hl, hn, hp⟩ := ht.placed
  have S := Blk.new w #[.int .i64 W, .int .i64 H, .slice a ts.length cap] 69
  have s0 := S.cell (i := 0) (v := .int .i64 W) rfl
  have s1 := S.cell (i := 1) (v := .int .i64 H) rfl
  have s2 := S.cell (i := 2) (v := .slice a ts.length cap) rfl
  have BB := ((Below.refl _ w).alloc (Nat.le_refl _) (.cells #[.int .i64 W, .int .i64 H, .slice a ts.length cap] 69))
  have T1 := ht.past BB
  have HC := Lib.hid (checkStack_any n₀ W H _ ts _ T1)
  obtain ⟨er, her⟩ : ∃ er, checkF W H ts = er := ⟨_, rfl⟩
  rw [her] at HC
  have HE := Lib.hid her
  have HBB := Lib.hid BB
  have HT := Lib.hid T1
  have HS := Lib.hid S
  clear BB S T1 hp ht her
  go_enter Try.func34, Try.ntmps34
  go_wp2_with fail
  refine HC.out.mono ?_
  rintro e w2 ⟨rfl, hb2⟩
  have HB2 := Lib.hid (HBB.out.trans (hb2.mono HBB.out.size))
  have HT2 := Lib.hid (HT.out.past hb2)
  have S2 := HS.out.past hb2
  clear s0 s1 s2
  have s0 := S2.cell (i := 0) (v := .int .i64 W) rfl
  have s1 := S2.cell (i := 1) (v := .int .i64 H) rfl
  have s2 := S2.cell (i := 2) (v := .slice a ts.length cap) rfl
  clear hb2 S2
  by_cases he : er = 0
  · subst he
    obtain ⟨c1, c2, c3, c4, c5⟩ := check_parts HE.out
    have HL := Lib.hid (loads_any n₀ W H _ ts w2 (W * H).toNat c1 c2 rfl c4 HT2.out (by omega) c5)
    clear c1 c2 c3 c4 c5
    go_wp2_with fail
    refine HL.out.mono ?_
    rintro e w3 ⟨r, rv, fv, er, h1, rfl, h2, h3, h4⟩
    have HB3 := Lib.hid (HB2.out.trans (h2.mono HB2.out.size))
    have HH : Hid (LoadsTo w ts (W * H).toNat (.returned (.tuple #[rv, fv, .int .i64 er])) w3) := Lib.hid ⟨r, rv, fv, er, h1, rfl, HB3.out, h3, fun hr => ⟨(h4 hr).1, (h4 hr).2.1, fun h0 => by
      obtain ⟨gb, g, k1, k2, k3, k4, k5, k6⟩ := (h4 hr).2.2 h0
      have := HB2.out.size
      exact ⟨gb, g, k1, by omega, k3.mono this, k4, by omega, k6⟩⟩⟩
    clear h1 h2 h3 h4
    go_wp2
    refine bodyPost_ret (v := .tuple #[rv, fv, .int .i64 er]) ?_ rfl ?_
    · simp [results, Try.results34, go_sem]
    · exact .inr ⟨HE.out, HH.out⟩
  · have hne : (er != 0) = true := by simpa using he
    go_wp2
    refine bodyPost_ret (v := .tuple #[.slice none 0 0, .slice none 0 0, .int .i64 er]) ?_ rfl ?_
    · simp [results, Try.results34, go_sem]
    · exact .inl ⟨by rw [HE.out]; exact he, by rw [HE.out], HB2.out⟩
end Go.Proofs.Ytopnlcjbklmicaa
