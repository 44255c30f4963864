import Derived.Test.YtopnlcjbklmicaaK4
import Derived.Lib.MinMax
import Derived.WalkKit
import Derived.WalkSpells
import Derived.WalkLawsBesides
import Derived.Deep.QuietTactic
import Derived.BigQuiet
import Derived.Lib.Hide
import Derived.WalkSmall
import Derived.Maps.OwnSet
import Derived.Maps.RangeWalk
import Derived.Deep.RegionWith
import Derived.Deep.RegionHeld3
import Derived.Deep.DrawnRows
import Derived.Deep.DeepCutAuto
import Derived.OneCell
import Derived.KernelRfl
import Derived.Laws.StructEq
import Derived.StillTailTactics
import Derived.Laws.Externs
import Derived.RangeFuncBox
import Derived.Outline
import Derived.RangeFuncNested
import Derived.RangeFuncBound
import Derived.RangeFuncCalls
import Derived.RangeFuncLeaves
import Derived.Shelf.RegionOpen
import Derived.OwnWalkIn
import Derived.TacticsInMore
import Derived.LoopNIn
import Derived.LoopIn
import Derived.Test.YtopnlcjbklmicaaProg
namespace Go.Proofs.Ytopnlcjbklmicaa
open Go.RowKit Go.Maps Go.Shelf
set_option linter.unusedVariables false
set_option linter.unusedSimpArgs false
/-- Moulds: the spread and the error. -/
def mouldsF (wl wh dl dh fl fh : Int) : Int × Int × Int :=
  if isClayF dl dh fl fh = false then (0, 0, 2) else if isSpreadF wl wh 1000000 = false then (0, 0, 3)
  else if min 1000000 (wh * 100000000 / ((10000 - dl) * (10000 - fl))) < max 1 ((wl * 100000000 + (10000 - dh) * (10000 - fh) - 1) / ((10000 - dh) * (10000 - fh))) then (0, 0, 7)
  else (max 1 ((wl * 100000000 + (10000 - dh) * (10000 - fh) - 1) / ((10000 - dh) * (10000 - fh))), min 1000000 (wh * 100000000 / ((10000 - dl) * (10000 - fl))), 0)
theorem isSpreadF_range {l h m : Int} (e : isSpreadF l h m = true) : 0 ≤ l ∧ l ≤ h ∧ h ≤ m := by
  simp [isSpreadF, inB] at e; omega
set_option maxHeartbeats 2000000 in
theorem moulds_any (wl wh dl dh fl fh : Int) (w : World) :
    Calls Try.prog 14 #[.agg #[.int .i64 wl, .int .i64 wh], .agg #[.int .i64 dl, .int .i64 dh, .int .i64 fl, .int .i64 fh]] w fun e w' =>
      e = .returned (.tuple #[.agg #[.int .i64 (mouldsF wl wh dl dh fl fh).1, .int .i64 (mouldsF wl wh dl dh fl fh).2.1], .int .i64 (mouldsF wl wh dl dh fl fh).2.2]) ∧ Below w.heap.size w w' := by
  have A := ((Blk.new w #[.int .i64 wl, .int .i64 wh] 23).alloc (.cells #[.int .i64 dl, .int .i64 dh, .int .i64 fl, .int .i64 fh] 25)).alloc (.cells #[.int .i64 0, .int .i64 0] 23)
  have B := (Blk.newI (w.alloc (.cells #[.int .i64 wl, .int .i64 wh] 23)) (w.heap.size + 1) #[.int .i64 dl, .int .i64 dh, .int .i64 fl, .int .i64 fh] 25 (by simp)).alloc (.cells #[.int .i64 0, .int .i64 0] 23)
  have R := Blk.newI ((w.alloc (.cells #[.int .i64 wl, .int .i64 wh] 23)).alloc (.cells #[.int .i64 dl, .int .i64 dh, .int .i64 fl, .int .i64 fh] 25)) (w.heap.size + 2) #[.int .i64 0, .int .i64 0] 23 (by simp)
  have b0 := B.cell (i := 0) (v := .int .i64 dl) rfl
  have b1 := B.cell (i := 1) (v := .int .i64 dh) rfl
  have b2 := B.cell (i := 2) (v := .int .i64 fl) rfl
  have b3 := B.cell (i := 3) (v := .int .i64 fh) rfl
  have BB := ((((Below.refl _ w).alloc (Nat.le_refl _) (.cells #[.int .i64 wl, .int .i64 wh] 23)).alloc (by simp) (.cells #[.int .i64 dl, .int .i64 dh, .int .i64 fl, .int .i64 fh] 25)).alloc (by simp; omega) (.cells #[.int .i64 0, .int .i64 0] 23))
  have HBB := Lib.hid BB
  obtain ⟨r, hr⟩ : ∃ r, mouldsF wl wh dl dh fl fh = r := ⟨_, rfl⟩
  have HS := Lib.hid hr.symm
  unfold mouldsF at HS
  rw [hr]
  have HR := Lib.hid R
  have HB := Lib.hid B
  have HA := Lib.hid A
  clear A B R hr BB
  go_enter Try.func14, Try.ntmps14
  go_wp2_with fail
  refine (isClay_any dl dh fl fh _).mono ?_
  rintro e w2 ⟨rfl, hb2⟩
  clear b0 b1 b2 b3
  have R2 := HR.out.past hb2
  have B2 := HB.out.past hb2
  have A2 := HA.out.past hb2
  have a0 := A2.cell (i := 0) (v := .int .i64 wl) rfl
  have a1 := A2.cell (i := 1) (v := .int .i64 wh) rfl
  have r0 := R2.cell (i := 0) (v := .int .i64 0) rfl
  have r1 := R2.cell (i := 1) (v := .int .i64 0) rfl
  have f0 := R2.fr (i := 0)
  have f1 := R2.fr (i := 1)
  have HB2 := Lib.hid (HBB.out.trans (hb2.mono HBB.out.size))
  have HR2 := Lib.hid R2
  have HX2 := Lib.hid B2
  have HA2 := Lib.hid A2
  clear hb2 R2 B2 A2 HBB HB HR HA
  cases hc : isClayF dl dh fl fh
  · have HV : Hid (r = (0, 0, 2)) := Lib.hid (by rw [HS.out, hc]; rfl)
    clear hc HS
    go_wp2
    obtain ⟨d0, d1, d2, hg, _⟩ := blk_after HR2.out (.int .i64 0) (.int .i64 0) rfl rfl
    refine bodyPost_ret (v := .tuple #[.agg #[.int .i64 0, .int .i64 0], .int .i64 2]) ?_ rfl ?_
    · simp [results, Try.results14, go_sem, d0, d1, d2]
    · exact ⟨by rw [HV.out], HB2.out.grown hg HB2.out.size (by intro k hk; cases hk; omega)⟩
  · obtain ⟨q1, q2, q3, q4, q5, q6⟩ := isClayF_range hc
    rw [hc] at HS
    go_wp2_with fail
    refine (isSpread_any wl wh 1000000 _).mono ?_
    rintro e w3 ⟨rfl, hb3⟩
    clear a0 a1 r0 r1 f0 f1
    have R3 := HR2.out.past hb3
    have X3 := HX2.out.past hb3
    have A3 := HA2.out.past hb3
    have HB3 := Lib.hid (HB2.out.trans (hb3.mono HB2.out.size))
    have r0 := R3.cell (i := 0) (v := .int .i64 0) rfl
    have r1 := R3.cell (i := 1) (v := .int .i64 0) rfl
    have f0 := R3.fr (i := 0)
    have f1 := R3.fr (i := 1)
    have b0 := X3.cell (i := 0) (v := .int .i64 dl) rfl
    have b1 := X3.cell (i := 1) (v := .int .i64 dh) rfl
    have b2 := X3.cell (i := 2) (v := .int .i64 fl) rfl
    have b3 := X3.cell (i := 3) (v := .int .i64 fh) rfl
    have HR3 := Lib.hid R3
    have HX3 := Lib.hid X3
    have HA3 := Lib.hid A3
    clear hb3 R3 X3 A3 HB2 HR2 HX2 HA2 hc
    cases hs : isSpreadF wl wh 1000000
    · have HV : Hid (r = (0, 0, 3)) := Lib.hid (by rw [HS.out, hs]; rfl)
      clear hs HS
      go_wp2
      obtain ⟨d0, d1, d2, hg, _⟩ := blk_after HR3.out (.int .i64 0) (.int .i64 0) rfl rfl
      refine bodyPost_ret (v := .tuple #[.agg #[.int .i64 0, .int .i64 0], .int .i64 3]) ?_ rfl ?_
      · simp [results, Try.results14, go_sem, d0, d1, d2]
      · exact ⟨by rw [HV.out], HB3.out.grown hg HB3.out.size (by intro k hk; cases hk; omega)⟩
    · obtain ⟨s1, s2, s3⟩ := isSpreadF_range hs
      rw [hs] at HS
      have k1 := kept_range q2 q4
      have k2 := kept_range q1 q3
      have HKC := Lib.hid (keptOf_any dl dh fl fh w3 q1 q2 q3 q4)
      obtain ⟨x, hx⟩ : ∃ x, (10000 - dh) * (10000 - fh) = x := ⟨_, rfl⟩
      obtain ⟨y, hy⟩ : ∃ y, (10000 - dl) * (10000 - fl) = y := ⟨_, rfl⟩
      rw [hx] at k1
      rw [hy] at k2
      rw [hx, hy] at HS HKC
      clear hx hy hs q1 q2 q3 q4 q5 q6
      go_wp2_with fail
      refine HKC.out.mono ?_
      rintro e w4 ⟨rfl, hb4⟩
      clear b0 b1 b2 b3 r0 r1 f0 f1
      have R4 := HR3.out.past hb4
      have A4 := HA3.out.past hb4
      have hlt4 := R4.lt
      have hne : w4.heap.size ≠ w.heap.size + 2 := by omega
      have hne' : w4.heap.size ≠ w.heap.size := by omega
      have HB4 := Lib.hid ((HB3.out.trans (hb4.mono HB3.out.size)).alloc (Nat.le_trans HB3.out.size hb4.size) (.cells #[.int .i64 x, .int .i64 y] 23))
      have HK4 := Lib.hid (Blk.new w4 #[.int .i64 x, .int .i64 y] 23)
      have HR4 := Lib.hid (R4.alloc (.cells #[.int .i64 x, .int .i64 y] 23))
      have HA4 := Lib.hid (A4.alloc (.cells #[.int .i64 x, .int .i64 y] 23))
      obtain ⟨kb, hkb⟩ : ∃ kb, w4.heap.size = kb := ⟨_, rfl⟩
      clear hb4 R4 A4 HR3 HX3 HA3 HB3 HKC
      go_wp2_with fail
      rw [hkb] at HK4 hne hne'
      obtain ⟨W4, hW4⟩ : ∃ W4, w4.alloc (.cells #[.int .i64 x, .int .i64 y] 23) = W4 := ⟨_, rfl⟩
      rw [hW4] at HB4 HK4 HR4 HA4 ⊢
      clear hW4 hlt4 hkb
      have c0 := HK4.out.cell (i := 0) (v := .int .i64 x) rfl
      have c1 := HK4.out.cell (i := 1) (v := .int .i64 y) rfl
      have a0 := HA4.out.cell (i := 0) (v := .int .i64 wl) rfl
      have a1 := HA4.out.cell (i := 1) (v := .int .i64 wh) rfl
      have hx1 : IntKind.i64.wrap (wl * 100000000) = wl * 100000000 := wrap_id (by omega) (by omega)
      have hx2 : IntKind.i64.wrap (wh * 100000000) = wh * 100000000 := wrap_id (by omega) (by omega)
      obtain ⟨p, hp⟩ : ∃ p, (wl * 100000000 + x - 1) / x = p := ⟨_, rfl⟩
      obtain ⟨q, hq⟩ : ∃ q, wh * 100000000 / y = q := ⟨_, rfl⟩
      rw [hp, hq] at HS
      have q1 : 0 ≤ q := by rw [← hq]; exact Int.ediv_nonneg (by omega) (by omega)
      have q2 : q ≤ wh * 100000000 := by rw [← hq]; exact Int.ediv_le_self _ (by omega)
      have p1 : 0 ≤ p := by rw [← hp]; exact Int.ediv_nonneg (by omega) (by omega)
      have p2 : p ≤ wl * 100000000 + x - 1 := by rw [← hp]; exact Int.ediv_le_self _ (by omega)
      have hwr : IntKind.i64.wrap ((wh * 100000000).tdiv y) = q := by rw [Int.tdiv_eq_ediv_of_nonneg (by omega), hq]; exact wrap_id (by omega) (by omega)
      have hy0 : y ≠ 0 := by omega
      have hwl : (wh * 100000000).tdiv y = q := by rw [Int.tdiv_eq_ediv_of_nonneg (by omega), hq]
      have HD := Lib.hid (fun w => dividedUp_any (wl * 100000000) x w (by omega) (by omega) (by omega) (by omega))
      rw [hp] at HD
      have hwq : IntKind.i64.wrap q = q := wrap_id (by omega) (by omega)
      obtain ⟨m1, hm1⟩ : ∃ m, max 1 p = m := ⟨_, rfl⟩
      obtain ⟨m2, hm2⟩ : ∃ m, min 1000000 q = m := ⟨_, rfl⟩
      rw [hm1, hm2] at HS
      have HV : Hid (r = if m2 < m1 then (0, 0, 7) else (m1, m2, 0)) := Lib.hid (by rw [HS.out]; rfl)
      have HM := Lib.hid (Blk.new W4 #[.int .i64 m1, .int .i64 m2] 23)
      have HRR := Lib.hid (HR4.out.alloc (.cells #[.int .i64 m1, .int .i64 m2] 23))
      have HBW := Lib.hid ((HB4.out.alloc HB4.out.size (.cells #[.int .i64 m1, .int .i64 m2] 23)).drew)
      clear hp hq HS
      go_region_held3 (fun W => W.cell? ⟨kb, 0, none⟩ = some (.int .i64 x) ∧ W.cell? ⟨kb, 1, none⟩ = some (.int .i64 y) ∧ W.cell? ⟨w.heap.size, 0, none⟩ = some (.int .i64 wl) ∧ W.cell? ⟨w.heap.size, 1, none⟩ = some (.int .i64 wh))
        (first | with_reducible exact ⟨c0, c1, a0, a1⟩ | with_reducible exact ⟨HK4.out.drew.cell (i := 0) rfl, HK4.out.drew.cell (i := 1) rfl, HA4.out.drew.cell (i := 0) rfl, HA4.out.drew.cell (i := 1) rfl⟩ | (go_keep; done))
        ((go_at_call 56; refine (HD.out _).mono ?_; rintro e w5 ⟨rfl, rfl⟩))
      all_goals
        by_cases c : m2 < m1
        · have HVC := Lib.hid HV.out
          rw [if_pos c] at HVC
          clear HV hm1 hm2 hwr hwl hwq hx1 hx2
          have e0 := HM.out.drew.cell (i := 0) (v := .int .i64 m1) rfl
          have e1 := HM.out.drew.cell (i := 1) (v := .int .i64 m2) rfl
          have r0 := HRR.out.drew.cell (i := 0) (v := .int .i64 0) rfl
          have r1 := HRR.out.drew.cell (i := 1) (v := .int .i64 0) rfl
          have f0 := HRR.out.drew.fr (i := 0)
          have f1 := HRR.out.drew.fr (i := 1)
          obtain ⟨W6, hW6⟩ : ∃ W6, (W4.alloc (.cells #[.int .i64 m1, .int .i64 m2] 23)).drew = W6 := ⟨_, rfl⟩
          have HR6 : Hid (Blk W6 (w.heap.size + 2) #[.int .i64 0, .int .i64 0] 23) := Lib.hid (by rw [← hW6]; exact HRR.out.drew)
          rw [hW6] at e0 e1 r0 r1 f0 f1 HBW ⊢
          clear hW6 HM HRR HB4 HK4 HR4 HA4 c0 c1 a0 a1
          go_wp2
          obtain ⟨d0, d1, d2, hg, _⟩ := blk_after HR6.out (.int .i64 0) (.int .i64 0) rfl rfl
          refine bodyPost_ret (v := .tuple #[.agg #[.int .i64 0, .int .i64 0], .int .i64 7]) ?_ rfl ?_
          · simp [results, Try.results14, go_sem, d0, d1, d2]
          · exact ⟨by rw [HVC.out], HBW.out.grown hg HBW.out.size (by intro k hk; cases hk; omega)⟩
        · have HVC := Lib.hid HV.out
          rw [if_neg c] at HVC
          clear HV hm1 hm2 hwr hwl hwq hx1 hx2
          have e0 := HM.out.drew.cell (i := 0) (v := .int .i64 m1) rfl
          have e1 := HM.out.drew.cell (i := 1) (v := .int .i64 m2) rfl
          have r0 := HRR.out.drew.cell (i := 0) (v := .int .i64 0) rfl
          have r1 := HRR.out.drew.cell (i := 1) (v := .int .i64 0) rfl
          have f0 := HRR.out.drew.fr (i := 0)
          have f1 := HRR.out.drew.fr (i := 1)
          obtain ⟨W6, hW6⟩ : ∃ W6, (W4.alloc (.cells #[.int .i64 m1, .int .i64 m2] 23)).drew = W6 := ⟨_, rfl⟩
          have HR6 : Hid (Blk W6 (w.heap.size + 2) #[.int .i64 0, .int .i64 0] 23) := Lib.hid (by rw [← hW6]; exact HRR.out.drew)
          rw [hW6] at e0 e1 r0 r1 f0 f1 HBW ⊢
          clear hW6 HM HRR HB4 HK4 HR4 HA4 c0 c1 a0 a1
          go_wp2
          obtain ⟨d0, d1, d2, hg, _⟩ := blk_after HR6.out (.int .i64 m1) (.int .i64 m2) rfl rfl
          refine bodyPost_ret (v := .tuple #[.agg #[.int .i64 m1, .int .i64 m2], .int .i64 0]) ?_ rfl ?_
          · simp [results, Try.results14, go_sem, d0, d1, d2]
          · exact ⟨by rw [HVC.out], HBW.out.grown hg HBW.out.size (by intro k hk; cases hk; omega)⟩
end Go.Proofs.Ytopnlcjbklmicaa
