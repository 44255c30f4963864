import Derived.Test.YtopnlcjbklmicaaK11
import Derived.WalkKit
import Derived.WalkSpells
import Derived.WalkLawsBesides
import Derived.Deep.QuietTactic
import Derived.BigQuiet
import Derived.Lib.Hide
import Derived.WalkSmall
import Derived.Maps.OwnSet
import Derived.Maps.RangeWalk
import Derived.Deep.RegionWith
import Derived.Deep.RegionHeld3
import Derived.Deep.DrawnRows
import Derived.Deep.DeepCutAuto
import Derived.OneCell
import Derived.KernelRfl
import Derived.Laws.StructEq
import Derived.StillTailTactics
import Derived.Laws.Externs
import Derived.RangeFuncBox
import Derived.Outline
import Derived.RangeFuncNested
import Derived.RangeFuncBound
import Derived.RangeFuncCalls
import Derived.RangeFuncLeaves
import Derived.Shelf.RegionOpen
import Derived.OwnWalkIn
import Derived.TacticsInMore
import Derived.LoopNIn
import Derived.LoopIn
import Derived.Test.YtopnlcjbklmicaaProg
namespace Go.Proofs.Ytopnlcjbklmicaa
open Go.RowKit Go.Maps Go.Shelf
set_option linter.unusedVariables false
set_option linter.unusedSimpArgs false
attribute [local go_sem] Oper.semAt_some
theorem Iter.later {α : Type} {P : Program} {g : Nat} {lb : Array Value} {encs : α → Array Value} {K : Nat → Obj → Prop} {xs : List α} {w w' : World} (h : Iter P g lb encs K xs w) (hk : Kept K w w') : Iter P g lb encs K xs w' :=
  fun l J Jx W hW => h l J Jx W (hk.trans hW)
set_option maxRecDepth 100000 in
set_option maxHeartbeats 2000000 in
theorem count_any (n₀ gf : Nat) (lb : Array Value) (eg : ∀ args w, (callFunc gf args).run Try.prog w = .ok (.enter gf args) w) (xs : List Nat) (w : World) (hn : n₀ ≤ w.heap.size) (hxs : xs.length ≤ 1000000)
    (hit : Iter Try.prog gf lb (fun c : Nat => #[Value.int .i64 c]) (KS n₀) xs w) :
    Calls Try.prog 80 #[.func (.func gf) #[] lb] w fun e w' => e = .returned (.int .i64 xs.length) ∧ Below w.heap.size w w' := by
  have hit2 := hit.later (Kept.alloc _ w (.cells #[.int .i64 0] 3))
  have B := Blk.new w #[.int .i64 0] 3
  have BB := (Below.refl _ w).alloc (Nat.le_refl _) (.cells #[.int .i64 0] 3)
  have hs : (w.alloc (.cells #[.int .i64 0] 3)).heap.size = w.heap.size + 1 := by simp
  refine (callsIn_wide (n := 9)).1 ?_
  refine callsIn_of_wp_marks Try.func80 rfl trivial ?_ rfl
  simp only [Try.ntmps80, List.size_toArray, List.length_cons, List.length_nil, Nat.reduceAdd, Nat.reduceSub, Array.replicate_succ, Array.replicate_zero, List.push_toArray, List.append_toArray, List.nil_append, List.cons_append]
  gi_wp2
  obtain ⟨W0, hW0⟩ : ∃ W0, w.alloc (.cells #[.int .i64 0] 3) = W0 := ⟨_, rfl⟩
  rw [hW0] at hit2 B BB hs ⊢
  clear hW0
  apply range_outer1 (gf := gf) (lb := lb) rfl eg hit2 (fun k r hk => KS.loop (by omega) r) (fun _ => rfl)
    (fun pre W => Blk W w.heap.size #[.int .i64 pre.length] 3 ∧ Below w.heap.size w W) (fun _ _ _ => False)
    (OwnFrom.and (Own.from (blk_own w.heap.size 3 (fun pre : List Nat => #[Value.int .i64 pre.length])) _) (ownFrom_below (Nat.le_refl _) (by omega)))
    (fun _ _ _ _ _ hs _ _ => hs) ⟨B, BB⟩
  case hassign =>
    intro l pre x W Q hi hQ
    gi_wp2
    exact hQ _ _ (KeepsFrom.refl _ _) (Kept.refl _ _) hi rfl
  case hbody =>
    rintro l pre x W hl hr ⟨hB, hb⟩ hpre
    have hlen : pre.length + 1 ≤ xs.length := by have := hpre.length_le; simpa using this
    have c0 := hB.cell (i := 0) (v := .int .i64 pre.length) rfl
    have f0 := hB.fr (i := 0)
    obtain ⟨m, hm⟩ : ∃ m, pre.length = m := ⟨_, rfl⟩
    have HB := Lib.hid hB
    have HM : Hid ((pre ++ [x]).length = m + 1) := Lib.hid (by simp [hm])
    rw [hm] at c0 hlen HB
    have hm2 : m ≤ 1000000 := by omega
    clear hB hpre hm
    gi_wp2
    refine ⟨(KeepsOthers.setCell _ _ _).from _, Kept.setCell _ _ _ (fun o ho => ?_), ?_, hb.setCell (Nat.le_refl _) _⟩
    · rw [show W.heap[w.heap.size]? = _ from HB.out] at ho
      cases ho
      exact KS.other hn (by decide) (by decide) (by decide)
    · rw [HM.out]
      exact HB.out.set 0 (by simp) _ rfl
  case hdone =>
    rintro D W hD ⟨hB, hb⟩ hdf
    have c0 := hB.cell (i := 0) (v := .int .i64 xs.length) rfl
    gi_wp2
    refine ⟨by simp, .inl ⟨_, _, rfl, run_takeDeferred hdf, ?_⟩⟩
    exact ⟨_, results_tmp rfl _ _ _, rfl, hb.trans (belowK_b (w := w) (Nat.le_refl _) W D _ _ (by omega) hdf rfl rfl)⟩
  case hstop =>
    rintro D c pre W _ _ h _
    exact h.elim
set_option maxHeartbeats 2000000 in
/-- Whether a brick rests on nothing. -/
theorem hangs_any (n₀ bs : Nat) (W H : Int) (tv : Value) (ti : Nat) (br : Int) (ts : List (List Int × List Int)) (w : World) (N : Nat) (hN : ∀ i, i < ts.length → (ts[i]?.getD ([], [])).1.length = N) (hN1 : N ≤ 144)
    (h1 : Blk w bs #[.int .i64 W, .int .i64 H, tv] 143) (ht : TiersAt n₀ w tv ts) (hti : ti < ts.length) :
    Calls Try.prog 93 #[.agg #[.int .i64 ti, .int .i64 br], .pointer (some ⟨bs, 0, none⟩)] w fun e w' => e = .returned (.bool (decide ((restsL ts ti br).length = 0))) ∧ Below w.heap.size w w' := by
  obtain ⟨a, cap, rfl, hl, hn, _⟩ := ht.placed
  have G1 := h1.alloc (.cells #[.int .i64 ti, .int .i64 br] 74)
  have k0 := G1.cell (i := 0) (v := .int .i64 W) rfl
  have k1 := G1.cell (i := 1) (v := .int .i64 H) rfl
  have k2 := G1.cell (i := 2) (v := .slice a ts.length cap) rfl
  have B := Blk.new w #[.int .i64 ti, .int .i64 br] 74
  have b0 := B.cell (i := 0) (v := .int .i64 ti) rfl
  have b1 := B.cell (i := 1) (v := .int .i64 br) rfl
  have BB := Lib.hid ((Below.refl _ w).alloc (Nat.le_refl _) (.cells #[.int .i64 ti, .int .i64 br] 74))
  obtain ⟨w1, hw1⟩ : ∃ w1, w.alloc (.cells #[.int .i64 ti, .int .i64 br] 74) = w1 := ⟨_, rfl⟩
  have HT := Lib.hid (ht.keptK (Kept.alloc _ w (.cells #[.int .i64 ti, .int .i64 br] 74)))
  rw [hw1] at HT BB k0 k1 k2 b0 b1
  have HM := Lib.hid (rests_mk (.int .i64 W) (.int .i64 H) (.slice a ts.length cap) ti br w1)
  have hlen : (restsL ts ti br).length ≤ 1000000 := by
    unfold restsL cellsL
    refine Nat.le_trans (List.length_filter_le _ _) (Nat.le_trans (List.length_filter_le _ _) ?_)
    rw [List.length_range, hN ti hti]; omega
  obtain ⟨rl, hrl⟩ : ∃ rl, restsL ts ti br = rl := ⟨_, rfl⟩
  have S2 := (Blk.newI w1 w1.heap.size #[.int .i64 W, .int .i64 H, .slice a ts.length cap] 143 rfl).alloc (.cells #[.int .i64 ti, .int .i64 br] 74)
  have B2 := Blk.newI (w1.alloc (.cells #[.int .i64 W, .int .i64 H, .slice a ts.length cap] 143)) (w1.heap.size + 1) #[.int .i64 ti, .int .i64 br] 74 (by simp)
  have hK3 : Kept (KS n₀) w1 ((w1.alloc (.cells #[.int .i64 W, .int .i64 H, .slice a ts.length cap] 143)).alloc (.cells #[.int .i64 ti, .int .i64 br] 74)) := (Kept.alloc _ _ _).trans (Kept.alloc _ _ _)
  have hC := count_any n₀ 104 _ (enters_of Try.func104 (by kernel_rfl) rfl) _ _ (Nat.le_trans hn (Nat.le_trans BB.out.size hK3.size)) hlen (rests_iter n₀ _ _ W H _ ti br ts _ N hN S2 B2 (HT.out.keptK hK3) hti)
  rw [hrl] at hC hlen ⊢
  have HC := Lib.hid hC
  have HB3 := Lib.hid ((BB.out.alloc BB.out.size (.cells #[.int .i64 W, .int .i64 H, .slice a ts.length cap] 143)).alloc (by simpa using Nat.le_succ_of_le BB.out.size) (.cells #[.int .i64 ti, .int .i64 br] 74))
  clear hC hrl S2 B2 hK3 HT G1 B h1 ht hN
  go_enter Try.func93, Try.ntmps93
  go_wp2_with fail
  refine HM.out.mono ?_
  rintro e w2 ⟨rfl, rfl⟩
  go_wp2_with fail
  refine HC.out.mono ?_
  rintro e w3 ⟨rfl, hb3⟩
  have HB4 := Lib.hid (HB3.out.trans (hb3.mono HB3.out.size))
  clear hb3
  go_wp2
  go_ret
  exact ⟨ret_bool (by rw [Bool.eq_iff_iff]; simp <;> omega), HB4.out⟩
end Go.Proofs.Ytopnlcjbklmicaa
