import Derived.Test.YtopnlcjbklmicaaK15
import Derived.WalkKit
import Derived.WalkSpells
import Derived.WalkLawsBesides
import Derived.Deep.QuietTactic
import Derived.BigQuiet
import Derived.Lib.Hide
import Derived.WalkSmall
import Derived.Maps.OwnSet
import Derived.Maps.RangeWalk
import Derived.Deep.RegionWith
import Derived.Deep.RegionHeld3
import Derived.Deep.DrawnRows
import Derived.Deep.DeepCutAuto
import Derived.OneCell
import Derived.KernelRfl
import Derived.Laws.StructEq
import Derived.StillTailTactics
import Derived.Laws.Externs
import Derived.RangeFuncBox
import Derived.Outline
import Derived.RangeFuncNested
import Derived.RangeFuncBound
import Derived.RangeFuncCalls
import Derived.RangeFuncLeaves
import Derived.Shelf.RegionOpen
import Derived.OwnWalkIn
import Derived.TacticsInMore
import Derived.LoopNIn
import Derived.LoopIn
import Derived.Test.YtopnlcjbklmicaaProg
namespace Go.Proofs.Ytopnlcjbklmicaa
open Go.RowKit Go.Maps Go.Shelf
set_option linter.unusedVariables false
set_option linter.unusedSimpArgs false
theorem Below.allocI {B : Nat} {a w : World} (hB : B ≤ a.heap.size) (h : Below B a w) (o : Obj) : Below B a (w.alloc o) := h.alloc (Nat.le_trans hB h.size) o
theorem Below.chain {W P w' : World} (h : Below W.heap.size W P) (hb : Below P.heap.size P w') : Below W.heap.size W w' := h.trans (hb.mono h.size)
theorem zK (W : World) {P w3 : World} (b : Nat) (vs : Array Value) (T : TypeId) (h : Below P.heap.size P w3) (hb : W.heap.size = b) (hP : P.heap = (W.alloc (.cells vs T)).heap) : Blk w3 b vs T :=
  (show Blk P b vs T by unfold Blk; rw [hP]; exact Blk.newI W b vs T hb).past h
theorem rests_call (n₀ : Nat) (W H : Int) (tv : Value) (ti : Nat) (br : Int) (ts : List (List Int × List Int)) (w : World) (N : Nat) (hN : ∀ i, i < ts.length → (ts[i]?.getD ([], [])).1.length = N) (ht : TiersAt n₀ w tv ts) (hti : ti < ts.length) :
    Calls Try.prog 94 #[.agg #[.int .i64 W, .int .i64 H, tv], .agg #[.int .i64 ti, .int .i64 br]] w fun e w' => ∃ lb, e = .returned (.func (.func 104) #[] lb) ∧ Iter Try.prog 104 lb (fun c : Nat => #[Value.int .i64 c]) (KS n₀) (restsL ts ti br) w' ∧ Below w.heap.size w w' := by
  refine (rests_mk (.int .i64 W) (.int .i64 H) tv ti br w).mono ?_
  rintro e w' ⟨rfl, rfl⟩
  have S2 := (Blk.newI w w.heap.size #[.int .i64 W, .int .i64 H, tv] 143 rfl).alloc (.cells #[.int .i64 ti, .int .i64 br] 74)
  have B2 := Blk.newI (w.alloc (.cells #[.int .i64 W, .int .i64 H, tv] 143)) (w.heap.size + 1) #[.int .i64 ti, .int .i64 br] 74 (by simp)
  have hK3 : Kept (KS n₀) w ((w.alloc (.cells #[.int .i64 W, .int .i64 H, tv] 143)).alloc (.cells #[.int .i64 ti, .int .i64 br] 74)) := (Kept.alloc _ _ _).trans (Kept.alloc _ _ _)
  exact ⟨_, rfl, rests_iter n₀ _ _ W H _ ti br ts _ N hN S2 B2 (ht.keptK hK3) hti, ((Below.refl _ w).alloc (Nat.le_refl _) _).alloc (by simp) _⟩
theorem cells_call (n₀ : Nat) (W H : Int) (tv : Value) (ti : Nat) (br : Int) (ts : List (List Int × List Int)) (w : World) (ht : TiersAt n₀ w tv ts) (hti : ti < ts.length) :
    Calls Try.prog 81 #[.agg #[.int .i64 W, .int .i64 H, tv], .agg #[.int .i64 ti, .int .i64 br]] w fun e w' => ∃ lb, e = .returned (.func (.func 100) #[] lb) ∧ Iter Try.prog 100 lb (fun c : Nat => #[Value.int .i64 c]) (KS n₀) (cellsL (ts[ti]?.getD ([], [])).1 br) w' ∧ Below w.heap.size w w' := by
  have htc : tv.cells = #[tv] := by obtain ⟨a, cap, rfl, _⟩ := ht.placed; rfl
  refine (cells_mk (.int .i64 W) (.int .i64 H) tv ti br w rfl rfl htc).mono ?_
  rintro e w' ⟨rfl, rfl⟩
  have S2 := (Blk.newI w w.heap.size #[.int .i64 W, .int .i64 H, tv] 143 rfl).alloc (.cells #[.int .i64 ti, .int .i64 br] 74)
  have B2 := Blk.newI (w.alloc (.cells #[.int .i64 W, .int .i64 H, tv] 143)) (w.heap.size + 1) #[.int .i64 ti, .int .i64 br] 74 (by simp)
  have hK3 : Kept (KS n₀) w ((w.alloc (.cells #[.int .i64 W, .int .i64 H, tv] 143)).alloc (.cells #[.int .i64 ti, .int .i64 br] 74)) := (Kept.alloc _ _ _).trans (Kept.alloc _ _ _)
  exact ⟨_, rfl, cells_iter n₀ _ _ _ _ _ ti br ts _ S2 B2 (ht.keptK hK3) hti, ((Below.refl _ w).alloc (Nat.le_refl _) _).alloc (by simp) _⟩
set_option maxRecDepth 100000 in
set_option maxHeartbeats 4000000 in
theorem pressing_any (n₀ : Nat) (W H : Int) (tv : Value) (ts : List (List Int × List Int)) (ti br n d wt c : Nat) (w : World) (N : Nat) (hN : ∀ i, i < ts.length → (ts[i]?.getD ([], [])).1.length = N) (hN1 : N ≤ 144)
    (ht : TiersAt n₀ w tv ts) (hti : ti < ts.length) (hbr : br < (ts[ti]?.getD ([], [])).2.length) (hwt : (ts[ti]?.getD ([], [])).2[br]?.getD 0 = wt) (hwt1 : wt ≤ 1000)
    (hn : n ≤ 1000000000) (hd1 : 1 ≤ d) (hd2 : d ≤ 1000000000) (hc : (restsL ts ti br).length = c) (hc1 : 1 ≤ c) :
    Calls Try.prog 107 #[.agg #[.int .i64 W, .int .i64 H, tv], .agg #[.int .i64 ti, .int .i64 br], .agg #[.int .i64 n, .int .i64 d]] w fun e w' =>
      e = .returned (.tuple #[.agg #[.int .i64 (pressF n d wt c).1, .int .i64 (pressF n d wt c).2.1], .int .i64 (pressF n d wt c).2.2]) ∧ Below w.heap.size w w' := by
  obtain ⟨a, cap, rfl, hl, hn0, hp⟩ := ht.placed
  obtain ⟨b, off, rfl, hb, vc, vw, c1, c2, _, ⟨hi, hik⟩⟩ := hp ti hti
  obtain ⟨aw, capw, rfl, hlw, hpw⟩ := hi.placed
  obtain ⟨b2, off2, rfl, hb2, c3⟩ := hpw br hbr
  rw [hwt] at c3
  obtain ⟨nw, hnw⟩ : ∃ nw, (ts[ti]?.getD ([], [])).2.length = nw := ⟨_, rfl⟩
  rw [hnw] at c2 hbr
  have hc144 : c ≤ 144 := by
    rw [← hc]; unfold restsL cellsL
    refine Nat.le_trans (List.length_filter_le _ _) (Nat.le_trans (List.length_filter_le _ _) ?_)
    rw [List.length_range, hN ti hti]; exact hN1
  have A1 := (((Blk.new w #[.int .i64 W, .int .i64 H, .slice (some ⟨b, off, none⟩) ts.length cap] 143).alloc (.cells #[.int .i64 ti, .int .i64 br] 74)).alloc (.cells #[.int .i64 n, .int .i64 d] 116)).alloc (.cells #[.int .i64 0, .int .i64 0] 116)
  have A2 := ((Blk.newI (w.alloc (.cells #[.int .i64 W, .int .i64 H, .slice (some ⟨b, off, none⟩) ts.length cap] 143)) (w.heap.size + 1) #[.int .i64 ti, .int .i64 br] 74 (by simp)).alloc (.cells #[.int .i64 n, .int .i64 d] 116)).alloc (.cells #[.int .i64 0, .int .i64 0] 116)
  have A3 := (Blk.newI ((w.alloc (.cells #[.int .i64 W, .int .i64 H, .slice (some ⟨b, off, none⟩) ts.length cap] 143)).alloc (.cells #[.int .i64 ti, .int .i64 br] 74)) (w.heap.size + 1 + 1) #[.int .i64 n, .int .i64 d] 116 (by simp)).alloc (.cells #[.int .i64 0, .int .i64 0] 116)
  have A4 := Blk.newI (((w.alloc (.cells #[.int .i64 W, .int .i64 H, .slice (some ⟨b, off, none⟩) ts.length cap] 143)).alloc (.cells #[.int .i64 ti, .int .i64 br] 74)).alloc (.cells #[.int .i64 n, .int .i64 d] 116)) (w.heap.size + 1 + 1 + 1) #[.int .i64 0, .int .i64 0] 116 (by simp)
  have BB := ((((Below.refl _ w).alloc (Nat.le_refl _) (.cells #[.int .i64 W, .int .i64 H, .slice (some ⟨b, off, none⟩) ts.length cap] 143)).alloc (by simp) (.cells #[.int .i64 ti, .int .i64 br] 74)).alloc (by simp; omega) (.cells #[.int .i64 n, .int .i64 d] 116)).alloc (by simp; omega) (.cells #[.int .i64 0, .int .i64 0] 116)
  have hbw : b < w.heap.size := Nat.lt_of_lt_of_le hb hn0
  obtain ⟨r1, r2, r3, hr⟩ : ∃ r1 r2 r3, pressF n d wt c = (r1, r2, r3) := ⟨_, _, _, rfl⟩
  rw [hr]
  have HRR := Lib.hid hr
  unfold pressF at HRR
  have HPL := Lib.hid (fun w => plus_any n d wt 1 w hn hd1 hd2 (by omega) (by omega) (by omega))
  have hok := lowestF_ok (n := n * 1 + wt * d) (d := d * 1) (by omega)
  obtain ⟨q1, q2, q3, hq⟩ : ∃ q1 q2 q3, lowestF (n * 1 + wt * d) (d * 1) = (q1, q2, q3) := ⟨_, _, _, rfl⟩
  rw [hq] at HPL HRR hok
  have HT := Lib.hid ht
  have HN := Lib.hid hN
  have HCL := Lib.hid hc
  clear hp hi hik hpw hr hq ht hN hnw hc hwt
  go_enter Try.func107, Try.ntmps107
  go_wp2_with fail
  obtain ⟨w1, hw1⟩ : ∃ w1, (((w.alloc (.cells #[.int .i64 W, .int .i64 H, .slice (some ⟨b, off, none⟩) ts.length cap] 143)).alloc (.cells #[.int .i64 ti, .int .i64 br] 74)).alloc (.cells #[.int .i64 n, .int .i64 d] 116)).alloc (.cells #[.int .i64 0, .int .i64 0] 116) = w1 := ⟨_, rfl⟩
  rw [hw1] at A1 A2 A3 A4 BB ⊢
  clear hw1
  have k0 := A1.cell (i := 2) (v := .slice (some ⟨b, off, none⟩) ts.length cap) rfl
  have k1 := A2.cell (i := 0) (v := .int .i64 ti) rfl
  have k2 := A2.cell (i := 1) (v := .int .i64 br) rfl
  have k3 := A3.cell (i := 0) (v := .int .i64 n) rfl
  have k4 := A3.cell (i := 1) (v := .int .i64 d) rfl
  have c2 := (BB.cell (p := ⟨b, off + ti * 2 + 1, none⟩) hbw).trans c2
  have c3 := (BB.cell (p := ⟨b2, off2 + br, none⟩) hb2).trans c3
  have hbw1 := Nat.lt_of_lt_of_le hbw BB.size
  have hbw2 := Nat.lt_of_lt_of_le hb2 BB.size
  have HA1 := Lib.hid A1
  have HA2 := Lib.hid A2
  have HA3 := Lib.hid A3
  have HA4 := Lib.hid A4
  have HBB := Lib.hid BB
  have KK : Hid (∀ w', Below w1.heap.size w1 w' → w'.cell? ⟨w.heap.size, 2, none⟩ = some (.slice (some ⟨b, off, none⟩) ts.length cap) ∧ w'.cell? ⟨w.heap.size + 1, 0, none⟩ = some (.int .i64 ti) ∧ w'.cell? ⟨w.heap.size + 1, 1, none⟩ = some (.int .i64 br) ∧ w'.cell? ⟨w.heap.size + 1 + 1, 0, none⟩ = some (.int .i64 n) ∧ w'.cell? ⟨w.heap.size + 1 + 1, 1, none⟩ = some (.int .i64 d) ∧ w'.cell? ⟨b, off + ti * 2 + 1, none⟩ = some (.slice (some ⟨b2, off2, none⟩) nw capw) ∧ w'.cell? ⟨b2, off2 + br, none⟩ = some (.int .i64 wt)) :=
    Lib.hid fun w' hb => ⟨(HA1.out.past hb).cell (i := 2) rfl, (HA2.out.past hb).cell (i := 0) rfl, (HA2.out.past hb).cell (i := 1) rfl, (HA3.out.past hb).cell (i := 0) rfl, (HA3.out.past hb).cell (i := 1) rfl, (hb.cell (p := ⟨b, off + ti * 2 + 1, none⟩) hbw1).trans c2, (hb.cell (p := ⟨b2, off2 + br, none⟩) hbw2).trans c3⟩
  have B0 := Below.refl w1.heap.size w1
  have hx1 : (0 : Int) ≤ (ti : Int) := by omega
  have hx2 : (ti : Int) < (ts.length : Int) := by omega
  have hx3 : (0 : Int) ≤ (br : Int) := by omega
  have hx4 : (br : Int) < (nw : Int) := by omega
  clear A1 A2 A3 A4 BB
  go_region_held3 (fun w' => w'.cell? ⟨w.heap.size, 2, none⟩ = some (.slice (some ⟨b, off, none⟩) ts.length cap) ∧ w'.cell? ⟨w.heap.size + 1, 0, none⟩ = some (.int .i64 ti) ∧ w'.cell? ⟨w.heap.size + 1, 1, none⟩ = some (.int .i64 br) ∧ w'.cell? ⟨w.heap.size + 1 + 1, 0, none⟩ = some (.int .i64 n) ∧ w'.cell? ⟨w.heap.size + 1 + 1, 1, none⟩ = some (.int .i64 d) ∧ w'.cell? ⟨b, off + ti * 2 + 1, none⟩ = some (.slice (some ⟨b2, off2, none⟩) nw capw) ∧ w'.cell? ⟨b2, off2 + br, none⟩ = some (.int .i64 wt))
    (exact KK.out _ (by (repeat' (first | assumption | exact B0 | exact Nat.le_refl _ | (refine Below.setCell ?_ ?_ _) | (refine Below.allocI (Nat.le_refl _) ?_ _) | (refine Below.drew ?_) | (dsimp only; omega)))))
    ((go_at_call 106; refine (HPL.out _).mono ?_; rintro e w2 ⟨rfl, hb2⟩; have B2 := Below.chain (W := w1) (by (repeat' (first | assumption | exact B0 | exact Nat.le_refl _ | (refine Below.setCell ?_ ?_ _) | (refine Below.allocI (Nat.le_refl _) ?_ _) | (refine Below.drew ?_) | (dsimp only; omega)))) hb2; (first | (have Z2 := zK w1 w1.heap.size #[.int .i64 0, .int .i64 0] 116 hb2 rfl rfl; have z0 := Z2.cell (i := 0) (v := .int .i64 0) rfl; have z1 := Z2.cell (i := 1) (v := .int .i64 0) rfl; have g0 := Z2.fr (i := 0); have g1 := Z2.fr (i := 1)) | skip)))
  all_goals
    (first
      | (obtain ⟨kb, hkb⟩ : ∃ kb, w2.heap.size = kb := ⟨_, rfl⟩
         have HX := Lib.hid (Blk.newI w2 kb #[.int .i64 q1, .int .i64 q2] 116 hkb)
         have HB5 := Lib.hid (HBB.out.trans ((Below.allocI (Nat.le_refl _) B2 (.cells #[.int .i64 q1, .int .i64 q2] 116)).mono HBB.out.size))
         have HA15 := Lib.hid ((HA1.out.past B2).alloc (.cells #[.int .i64 q1, .int .i64 q2] 116))
         have HA25 := Lib.hid ((HA2.out.past B2).alloc (.cells #[.int .i64 q1, .int .i64 q2] 116))
         have HA45 := Lib.hid ((HA4.out.past B2).alloc (.cells #[.int .i64 q1, .int .i64 q2] 116))
         obtain ⟨w5, hw5⟩ : ∃ w5, w2.alloc (.cells #[.int .i64 q1, .int .i64 q2] 116) = w5 := ⟨_, rfl⟩
         have hkr : kb ≠ w.heap.size + 1 + 1 + 1 := by have h1 := (HA4.out.past B2).lt; omega
         rw [hw5] at HX HB5 HA15 HA25 HA45
         rw [hw5, hkb]
         clear hw5 hkb B2 hb2)
      | (have hl9 := HA4.out.lt
         have HX := Lib.hid ((Z2.set 0 (by simp) (.int .i64 q1) rfl).set 1 (by simp) (.int .i64 q2) rfl)
         have HB5 := Lib.hid (HBB.out.trans (((B2.setCell (p := ⟨w1.heap.size, 0, none⟩) (Nat.le_refl _) (.int .i64 q1)).setCell (p := ⟨w1.heap.size, 1, none⟩) (Nat.le_refl _) (.int .i64 q2)).mono HBB.out.size))
         have HA15 := Lib.hid (((HA1.out.past B2).far (b' := w1.heap.size) (i := 0) (u := .int .i64 q1) (by omega)).far (b' := w1.heap.size) (i := 1) (u := .int .i64 q2) (by omega))
         have HA25 := Lib.hid (((HA2.out.past B2).far (b' := w1.heap.size) (i := 0) (u := .int .i64 q1) (by omega)).far (b' := w1.heap.size) (i := 1) (u := .int .i64 q2) (by omega))
         have HA45 := Lib.hid (((HA4.out.past B2).far (b' := w1.heap.size) (i := 0) (u := .int .i64 q1) (by omega)).far (b' := w1.heap.size) (i := 1) (u := .int .i64 q2) (by omega))
         obtain ⟨kb, hkb⟩ : ∃ kb, w1.heap.size = kb := ⟨_, rfl⟩
         rw [hkb] at HX HB5 HA15 HA25 HA45 ⊢
         have hkr : kb ≠ w.heap.size + 1 + 1 + 1 := by omega
         obtain ⟨w5, hw5⟩ : ∃ w5, (w2.setCell ⟨kb, 0, none⟩ (.int .i64 q1)).setCell ⟨kb, 1, none⟩ (.int .i64 q2) = w5 := ⟨_, rfl⟩
         rw [hw5] at HX HB5 HA15 HA25 HA45 ⊢
         clear hw5 hkb B2 hb2 Z2 z0 z1 g0 g1 hl9))
    clear k0 k1 k2 k3 k4 c2 c3 KK HA1 HA2 HA3 HA4 B0 HPL
    have r0 := HA45.out.cell (i := 0) (v := .int .i64 0) rfl
    have r1' := HA45.out.cell (i := 1) (v := .int .i64 0) rfl
    have f0 := HA45.out.fr (i := 0)
    have f1 := HA45.out.fr (i := 1)
    rcases hok with ⟨e1, e2, e3⟩ | ⟨e1, a5, b5, e2, e3, e4, e5⟩
    · have e1 : q3 = 10 := e1
      have e2 : q1 = 0 := e2
      have e3 : q2 = 0 := e3
      subst e1 e2 e3
      have HV : Hid (r1 = 0 ∧ r2 = 0 ∧ r3 = 10) := Lib.hid (by have := HRR.out; simp at this; omega)
      clear HRR
      go_wp2
      obtain ⟨d0, d1, d2, hg, _⟩ := blk_after HA45.out (.int .i64 0) (.int .i64 0) rfl rfl
      refine bodyPost_ret (v := .tuple #[.agg #[.int .i64 0, .int .i64 0], .int .i64 10]) ?_ rfl ?_
      · simp [results, Try.results107, go_sem, d0, d1, d2]
      · exact ⟨by rw [HV.out.1, HV.out.2.1, HV.out.2.2], HB5.out.grown hg HB5.out.size (by intro k hk; cases hk; omega)⟩
    · have e1 : q3 = 0 := e1
      have e2 : (q1, q2, q3) = ((a5 : Int), (b5 : Int), (0 : Int)) := e2
      obtain ⟨e6, e7, e8⟩ : q1 = (a5 : Int) ∧ q2 = (b5 : Int) ∧ q3 = 0 := by
        have h1 := congrArg (·.1) e2
        have h2 := congrArg (·.2.1) e2
        have h3 := congrArg (·.2.2) e2
        exact ⟨h1, h2, h3⟩
      subst e6 e7 e8
      have m1 := mul_bd e5 hc144
      have m2 := mul_bd e4 hc1
      obtain ⟨z, hz⟩ : ∃ z, b5 * c = z := ⟨_, rfl⟩
      have hzi : (b5 : Int) * (c : Int) = (z : Int) := by rw [← hz]; simp
      rw [hz] at m1 m2
      have HV : Hid (lowestF a5 z = (r1, r2, r3)) := Lib.hid (by have := HRR.out; simpa [hz] using this)
      have HLO := Lib.hid (fun w => lowest_any a5 z w (by omega) (by omega) (by omega))
      rw [HV.out] at HLO
      clear HRR hz e1 e2
      have x0 := HX.out.cell (i := 0) (v := .int .i64 a5) rfl
      have x1 := HX.out.cell (i := 1) (v := .int .i64 b5) rfl
      have s0 := HA15.out.cell (i := 0) (v := .int .i64 W) rfl
      have s1 := HA15.out.cell (i := 1) (v := .int .i64 H) rfl
      have s2 := HA15.out.cell (i := 2) (v := .slice (some ⟨b, off, none⟩) ts.length cap) rfl
      have t0 := HA25.out.cell (i := 0) (v := .int .i64 ti) rfl
      have t1 := HA25.out.cell (i := 1) (v := .int .i64 br) rfl
      have HT5 := Lib.hid (HT.out.keptK (Kept.of_below (HB5.out.mono (Nat.le_refl _))))
      have B5 := Below.refl w5.heap.size w5
      have HEG : Hid (∀ args w, (callFunc 104 args).run Try.prog w = .ok (.enter 104 args) w) := Lib.hid (enters_of Try.func104 (by kernel_rfl) rfl)
      have hwz : IntKind.i64.wrap (z : Int) = z := wrap_id (by omega) (by omega)
      have KK : Hid (∀ w', Below w5.heap.size w5 w' → w'.cell? ⟨kb, 0, none⟩ = some (.int .i64 a5) ∧ w'.cell? ⟨kb, 1, none⟩ = some (.int .i64 b5) ∧ w'.cell? ⟨w.heap.size, 0, none⟩ = some (.int .i64 W) ∧ w'.cell? ⟨w.heap.size, 1, none⟩ = some (.int .i64 H) ∧ w'.cell? ⟨w.heap.size, 2, none⟩ = some (.slice (some ⟨b, off, none⟩) ts.length cap) ∧ w'.cell? ⟨w.heap.size + 1, 0, none⟩ = some (.int .i64 ti) ∧ w'.cell? ⟨w.heap.size + 1, 1, none⟩ = some (.int .i64 br)) :=
        Lib.hid fun w' hb => ⟨(HX.out.past hb).cell (i := 0) rfl, (HX.out.past hb).cell (i := 1) rfl, (HA15.out.past hb).cell (i := 0) rfl, (HA15.out.past hb).cell (i := 1) rfl, (HA15.out.past hb).cell (i := 2) rfl, (HA25.out.past hb).cell (i := 0) rfl, (HA25.out.past hb).cell (i := 1) rfl⟩
      have KK2 : Hid (∀ w' u v, Below w5.heap.size w5 w' → ((w'.setCell ⟨w.heap.size + 1 + 1 + 1, 0, none⟩ u).setCell ⟨w.heap.size + 1 + 1 + 1, 1, none⟩ v).cell? ⟨kb, 0, none⟩ = some (.int .i64 a5) ∧ ((w'.setCell ⟨w.heap.size + 1 + 1 + 1, 0, none⟩ u).setCell ⟨w.heap.size + 1 + 1 + 1, 1, none⟩ v).cell? ⟨kb, 1, none⟩ = some (.int .i64 b5) ∧ ((w'.setCell ⟨w.heap.size + 1 + 1 + 1, 0, none⟩ u).setCell ⟨w.heap.size + 1 + 1 + 1, 1, none⟩ v).cell? ⟨w.heap.size, 0, none⟩ = some (.int .i64 W) ∧ ((w'.setCell ⟨w.heap.size + 1 + 1 + 1, 0, none⟩ u).setCell ⟨w.heap.size + 1 + 1 + 1, 1, none⟩ v).cell? ⟨w.heap.size, 1, none⟩ = some (.int .i64 H) ∧ ((w'.setCell ⟨w.heap.size + 1 + 1 + 1, 0, none⟩ u).setCell ⟨w.heap.size + 1 + 1 + 1, 1, none⟩ v).cell? ⟨w.heap.size, 2, none⟩ = some (.slice (some ⟨b, off, none⟩) ts.length cap) ∧ ((w'.setCell ⟨w.heap.size + 1 + 1 + 1, 0, none⟩ u).setCell ⟨w.heap.size + 1 + 1 + 1, 1, none⟩ v).cell? ⟨w.heap.size + 1, 0, none⟩ = some (.int .i64 ti) ∧ ((w'.setCell ⟨w.heap.size + 1 + 1 + 1, 0, none⟩ u).setCell ⟨w.heap.size + 1 + 1 + 1, 1, none⟩ v).cell? ⟨w.heap.size + 1, 1, none⟩ = some (.int .i64 br)) := Lib.hid fun w' u v hb => ⟨(((HX.out.past hb).far hkr).far hkr).cell (i := 0) rfl, (((HX.out.past hb).far hkr).far hkr).cell (i := 1) rfl, (((HA15.out.past hb).far (by omega)).far (by omega)).cell (i := 0) rfl, (((HA15.out.past hb).far (by omega)).far (by omega)).cell (i := 1) rfl, (((HA15.out.past hb).far (by omega)).far (by omega)).cell (i := 2) rfl, (((HA25.out.past hb).far (by omega)).far (by omega)).cell (i := 0) rfl, (((HA25.out.past hb).far (by omega)).far (by omega)).cell (i := 1) rfl⟩
      have KK3 : Hid (∀ w' u v, Below w5.heap.size w5 w' → ((w'.setCell ⟨w.heap.size + 1 + 1 + 1, 0, none⟩ u).setCell ⟨w.heap.size + 1 + 1 + 1, 1, none⟩ v).drew.cell? ⟨kb, 0, none⟩ = some (.int .i64 a5) ∧ ((w'.setCell ⟨w.heap.size + 1 + 1 + 1, 0, none⟩ u).setCell ⟨w.heap.size + 1 + 1 + 1, 1, none⟩ v).drew.cell? ⟨kb, 1, none⟩ = some (.int .i64 b5) ∧ ((w'.setCell ⟨w.heap.size + 1 + 1 + 1, 0, none⟩ u).setCell ⟨w.heap.size + 1 + 1 + 1, 1, none⟩ v).drew.cell? ⟨w.heap.size, 0, none⟩ = some (.int .i64 W) ∧ ((w'.setCell ⟨w.heap.size + 1 + 1 + 1, 0, none⟩ u).setCell ⟨w.heap.size + 1 + 1 + 1, 1, none⟩ v).drew.cell? ⟨w.heap.size, 1, none⟩ = some (.int .i64 H) ∧ ((w'.setCell ⟨w.heap.size + 1 + 1 + 1, 0, none⟩ u).setCell ⟨w.heap.size + 1 + 1 + 1, 1, none⟩ v).drew.cell? ⟨w.heap.size, 2, none⟩ = some (.slice (some ⟨b, off, none⟩) ts.length cap) ∧ ((w'.setCell ⟨w.heap.size + 1 + 1 + 1, 0, none⟩ u).setCell ⟨w.heap.size + 1 + 1 + 1, 1, none⟩ v).drew.cell? ⟨w.heap.size + 1, 0, none⟩ = some (.int .i64 ti) ∧ ((w'.setCell ⟨w.heap.size + 1 + 1 + 1, 0, none⟩ u).setCell ⟨w.heap.size + 1 + 1 + 1, 1, none⟩ v).drew.cell? ⟨w.heap.size + 1, 1, none⟩ = some (.int .i64 br)) := Lib.hid fun w' u v hb => KK2.out w' u v hb
      go_wp2_with fail
      go_region_held3 (fun w' => w'.cell? ⟨kb, 0, none⟩ = some (.int .i64 a5) ∧ w'.cell? ⟨kb, 1, none⟩ = some (.int .i64 b5) ∧ w'.cell? ⟨w.heap.size, 0, none⟩ = some (.int .i64 W) ∧ w'.cell? ⟨w.heap.size, 1, none⟩ = some (.int .i64 H) ∧ w'.cell? ⟨w.heap.size, 2, none⟩ = some (.slice (some ⟨b, off, none⟩) ts.length cap) ∧ w'.cell? ⟨w.heap.size + 1, 0, none⟩ = some (.int .i64 ti) ∧ w'.cell? ⟨w.heap.size + 1, 1, none⟩ = some (.int .i64 br))
        (first | with_reducible exact KK2.out _ _ _ B8 | with_reducible exact KK3.out _ _ _ B8 | exact KK.out _ (by (repeat' (first | assumption | exact B5 | exact Nat.le_refl _ | (refine Below.setCell ?_ ?_ _) | (refine Below.allocI (Nat.le_refl _) ?_ _) | (refine Below.drew ?_) | (dsimp only; omega)))))
        (first
          | (go_at_call 94; ((with_reducible refine (rests_call n₀ W H _ ti br ts _ N HN.out ?_ hti).mono ?_); (exact HT5.out.past (by (repeat' (first | assumption | exact B5 | exact Nat.le_refl _ | (refine Below.setCell ?_ ?_ _) | (refine Below.allocI (Nat.le_refl _) ?_ _) | (refine Below.drew ?_) | (dsimp only; omega)))))); rintro e w6 ⟨lb, rfl, hit, hb6⟩; have B6 := Below.chain (W := w5) (by (repeat' (first | assumption | exact B5 | exact Nat.le_refl _ | (refine Below.setCell ?_ ?_ _) | (refine Below.allocI (Nat.le_refl _) ?_ _) | (refine Below.drew ?_) | (dsimp only; omega)))) hb6)
          | (go_at_call 80; ((with_reducible refine (count_any n₀ 104 lb HEG.out (restsL ts ti br) _ ?_ ?_ ?_).mono ?_); (exact Nat.le_trans HT5.out.2.1 B6.size); (rw [HCL.out]; omega); (first | with_reducible exact hit | with_reducible exact hit.later (Kept.drew _ _))); rintro e w7 ⟨rfl, hb7⟩; rw [HCL.out]; have B7 := Below.chain (W := w5) (by (repeat' (first | assumption | exact B5 | exact Nat.le_refl _ | (refine Below.setCell ?_ ?_ _) | (refine Below.allocI (Nat.le_refl _) ?_ _) | (refine Below.drew ?_) | (dsimp only; omega)))) hb7)
          | (go_at_call 109; refine (HLO.out _).mono ?_; rintro e w8 ⟨rfl, hb8⟩; have B8 := Below.chain (W := w5) (by (repeat' (first | assumption | exact B5 | exact Nat.le_refl _ | (refine Below.setCell ?_ ?_ _) | (refine Below.allocI (Nat.le_refl _) ?_ _) | (refine Below.drew ?_) | (dsimp only; omega)))) hb8; have R8 := HA45.out.past B8; have r0 := R8.cell (i := 0) (v := .int .i64 0) rfl; have r1' := R8.cell (i := 1) (v := .int .i64 0) rfl; have f0 := R8.fr (i := 0); have f1 := R8.fr (i := 1)))
      all_goals
        have HR8 := Lib.hid R8
        have HB8 := Lib.hid (HB5.out.trans (B8.mono HB5.out.size))
        clear R8 B8 B7 B6 hb6 hb7 hb8 hit KK KK2 KK3
        go_wp2
        obtain ⟨d0, d1, d2, hg, _⟩ := blk_after HR8.out (.int .i64 r1) (.int .i64 r2) rfl rfl
        refine bodyPost_ret (v := .tuple #[.agg #[.int .i64 r1, .int .i64 r2], .int .i64 r3]) ?_ rfl ?_
        · simp [results, Try.results107, go_sem, d0, d1, d2]
        · exact ⟨rfl, by first | exact HB8.out.grown hg HB8.out.size (by intro k hk; cases hk; omega) | exact (HB8.out.grown hg HB8.out.size (by intro k hk; cases hk; omega)).drew⟩
end Go.Proofs.Ytopnlcjbklmicaa
