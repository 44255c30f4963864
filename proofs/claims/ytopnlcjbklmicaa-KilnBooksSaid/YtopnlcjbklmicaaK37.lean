import Derived.Test.YtopnlcjbklmicaaK36
import Derived.WalkKit
import Derived.WalkSpells
import Derived.WalkLawsBesides
import Derived.Deep.QuietTactic
import Derived.BigQuiet
import Derived.Lib.Hide
import Derived.WalkSmall
import Derived.Maps.OwnSet
import Derived.Maps.RangeWalk
import Derived.Deep.RegionWith
import Derived.Deep.RegionHeld3
import Derived.Deep.DrawnRows
import Derived.Deep.DeepCutAuto
import Derived.OneCell
import Derived.KernelRfl
import Derived.Laws.StructEq
import Derived.StillTailTactics
import Derived.Laws.Externs
import Derived.RangeFuncBox
import Derived.Outline
import Derived.RangeFuncNested
import Derived.RangeFuncBound
import Derived.RangeFuncCalls
import Derived.RangeFuncLeaves
import Derived.Shelf.RegionOpen
import Derived.OwnWalkIn
import Derived.TacticsInMore
import Derived.LoopNIn
import Derived.LoopIn
import Derived.Test.YtopnlcjbklmicaaProg
namespace Go.Proofs.Ytopnlcjbklmicaa
open Go.RowKit Go.Maps Go.Shelf
set_option linter.unusedVariables false
set_option linter.unusedSimpArgs false
theorem mouldsF_ok {wl wh dl dh fl fh : Int} (hc : isClayF dl dh fl fh = true) (hw : 0 ≤ wl ∧ wl ≤ wh ∧ wh ≤ 1000000) :
    mouldsF wl wh dl dh fl fh = if firstF wl ((10000 - dh) * (10000 - fh)) ≤ lastF wh ((10000 - dl) * (10000 - fl)) then (firstF wl ((10000 - dh) * (10000 - fh)), lastF wh ((10000 - dl) * (10000 - fl)), 0) else (0, 0, 7) := by
  unfold mouldsF firstF lastF
  rw [hc, if_neg (by simp), if_neg (by simp [isSpreadF, inB]; omega)]
  obtain ⟨a, ha⟩ : ∃ a, (wl * 100000000 + (10000 - dh) * (10000 - fh) - 1) / ((10000 - dh) * (10000 - fh)) = a := ⟨_, rfl⟩
  obtain ⟨b, hb⟩ : ∃ b, wh * 100000000 / ((10000 - dl) * (10000 - fl)) = b := ⟨_, rfl⟩
  rw [ha, hb]
  simp only [Int.min_def, Int.max_def]
  split <;> split <;> split <;> split <;> (try split) <;> first | rfl | (exfalso; omega) | (congr 1; omega) | omega
set_option maxRecDepth 100000 in
set_option maxHeartbeats 2000000 in
theorem mouldsLaw_any (n wl wh dl dh fl fh : Int) (w : World) :
    Calls Try.prog 3 #[.int .i64 n, .agg #[.int .i64 wl, .int .i64 wh], .agg #[.int .i64 dl, .int .i64 dh, .int .i64 fl, .int .i64 fh]] w fun e w' => e = .returned (.bool true) ∧ Below w.heap.size w w' := by
  have HS := Lib.hid fun w => shrunk_any n dl dh fl fh w
  have HM := Lib.hid fun w => moulds_any wl wh dl dh fl fh w
  have HK := Lib.hid known_any
  have HSE : Hid (shrunkF n dl dh fl fh = if isClayF dl dh fl fh = false then (0, 0, 2) else if inB n 1 1000000 = false then (0, 0, 3) else (loS n ((10000 - dh) * (10000 - fh)), hiS n ((10000 - dl) * (10000 - fl)), 0)) := Lib.hid rfl
  have HME := Lib.hid (@mouldsF_ok wl wh dl dh fl fh)
  have HME0 : Hid (mouldsF wl wh dl dh fl fh = if isClayF dl dh fl fh = false then (0, 0, 2) else if isSpreadF wl wh 1000000 = false then (0, 0, 3) else mouldsF wl wh dl dh fl fh) := Lib.hid (by
    unfold mouldsF
    split
    · rfl
    · split
      · rfl
      · rfl)
  have HRM := Lib.hid fun w hc hw => refMoulds_any wl wh dl dh fl fh w hc hw
  have HRS := Lib.hid fun w hc hn => refShrunk_any n dl dh fl fh w hc hn
  obtain ⟨⟨s1, s2, s3⟩, hs⟩ : ∃ s, shrunkF n dl dh fl fh = s := ⟨_, rfl⟩
  obtain ⟨⟨m1, m2, m3⟩, hm⟩ : ∃ s, mouldsF wl wh dl dh fl fh = s := ⟨_, rfl⟩
  rw [hs] at HS HSE
  rw [hm] at HM HME HME0
  obtain ⟨cl, hcl⟩ : ∃ c, isClayF dl dh fl fh = c := ⟨_, rfl⟩
  rw [hcl] at HSE HME HME0 HRM HRS
  have HCL := Lib.hid fun w => refClay_any dl dh fl fh w
  rw [hcl] at HCL
  have A := (Blk.new w #[.int .i64 wl, .int .i64 wh] 23).alloc (.cells #[.int .i64 dl, .int .i64 dh, .int .i64 fl, .int .i64 fh] 25)
  have B := Blk.newI (w.alloc (.cells #[.int .i64 wl, .int .i64 wh] 23)) (w.heap.size + 1) #[.int .i64 dl, .int .i64 dh, .int .i64 fl, .int .i64 fh] 25 (by simp)
  have BB := (((Below.refl _ w).alloc (Nat.le_refl _) (.cells #[.int .i64 wl, .int .i64 wh] 23)).alloc (by simp) (.cells #[.int .i64 dl, .int .i64 dh, .int .i64 fl, .int .i64 fh] 25))
  obtain ⟨w1, hw1⟩ : ∃ w1, (w.alloc (.cells #[.int .i64 wl, .int .i64 wh] 23)).alloc (.cells #[.int .i64 dl, .int .i64 dh, .int .i64 fl, .int .i64 fh] 25) = w1 := ⟨_, rfl⟩
  rw [hw1] at A B BB
  have b0 := B.cell (i := 0) (v := .int .i64 dl) rfl
  have b1 := B.cell (i := 1) (v := .int .i64 dh) rfl
  have b2 := B.cell (i := 2) (v := .int .i64 fl) rfl
  have b3 := B.cell (i := 3) (v := .int .i64 fh) rfl
  have HA := Lib.hid A
  have HB := Lib.hid B
  have HBB := Lib.hid BB
  clear A B BB hs hm
  go_enter Try.func3, Try.ntmps3
  go_wp2_with fail
  refine (HS.out _).mono ?_
  rintro e w2 ⟨rfl, hb2⟩
  clear hw1 b0 b1 b2 b3
  obtain ⟨xb, hxb⟩ : ∃ xb, w2.heap.size = xb := ⟨_, rfl⟩
  have hp := hb2.alloc hb2.size (.cells #[.int .i64 s1, .int .i64 s2] 23)
  have X := Blk.newI w2 xb #[.int .i64 s1, .int .i64 s2] 23 hxb
  have A := HA.out.past hp
  have B := HB.out.past hp
  have BB := HBB.out.trans (hp.mono HBB.out.size)
  have hzx : w.heap.size ≤ xb := by have := HBB.out.size; have := hb2.size; omega
  obtain ⟨w3, hw3⟩ : ∃ w3, w2.alloc (.cells #[.int .i64 s1, .int .i64 s2] 23) = w3 := ⟨_, rfl⟩
  rw [hw3] at X A B BB
  have a0 := A.cell (i := 0) (v := .int .i64 wl) rfl
  have a1 := A.cell (i := 1) (v := .int .i64 wh) rfl
  have b0 := B.cell (i := 0) (v := .int .i64 dl) rfl
  have b1 := B.cell (i := 1) (v := .int .i64 dh) rfl
  have b2 := B.cell (i := 2) (v := .int .i64 fl) rfl
  have b3 := B.cell (i := 3) (v := .int .i64 fh) rfl
  have HA2 := Lib.hid A
  have HB2 := Lib.hid B
  have HX2 := Lib.hid X
  have HBB2 := Lib.hid BB
  clear hb2 hp X A B BB HA HB HBB HS
  go_wp2_with fail
  refine (HM.out _).mono ?_
  rintro e w4 ⟨rfl, hb4⟩
  clear hw3 a0 a1 b0 b1 b2 b3
  obtain ⟨yb, hyb⟩ : ∃ yb, w4.heap.size = yb := ⟨_, rfl⟩
  have hp := hb4.alloc hb4.size (.cells #[.int .i64 m1, .int .i64 m2] 23)
  have Y := Blk.newI w4 yb #[.int .i64 m1, .int .i64 m2] 23 hyb
  have X := HX2.out.past hp
  have A := HA2.out.past hp
  have B := HB2.out.past hp
  have BB := HBB2.out.trans (hp.mono HBB2.out.size)
  obtain ⟨w5, hw5⟩ : ∃ w5, w4.alloc (.cells #[.int .i64 m1, .int .i64 m2] 23) = w5 := ⟨_, rfl⟩
  rw [hw5] at X Y A B BB
  have b0 := B.cell (i := 0) (v := .int .i64 dl) rfl
  have b1 := B.cell (i := 1) (v := .int .i64 dh) rfl
  have b2 := B.cell (i := 2) (v := .int .i64 fl) rfl
  have b3 := B.cell (i := 3) (v := .int .i64 fh) rfl
  have HA := Lib.hid A
  have HB := Lib.hid B
  have HX := Lib.hid X
  have HY := Lib.hid Y
  have HBB := Lib.hid BB
  clear hb4 hp X Y A B BB HA2 HB2 HX2 HBB2 HM
  go_wp2_with fail
  refine (HCL.out _).mono ?_
  rintro e w6 ⟨rfl, rfl⟩
  have hp := (Below.refl w5.heap.size w5).alloc (Nat.le_refl _) (.cells #[.int .i64 dl, .int .i64 dh, .int .i64 fl, .int .i64 fh] 25)
  have X := HX.out.past hp
  have Y := HY.out.past hp
  have A := HA.out.past hp
  have B := HB.out.past hp
  have BB := HBB.out.trans (hp.mono HBB.out.size)
  obtain ⟨w6, hw6⟩ : ∃ w6, w5.alloc (.cells #[.int .i64 dl, .int .i64 dh, .int .i64 fl, .int .i64 fh] 25) = w6 := ⟨_, rfl⟩
  rw [hw6] at X Y A B BB ⊢
  have HA6 := Lib.hid A
  have HB6 := Lib.hid B
  have HX6 := Lib.hid X
  have HY6 := Lib.hid Y
  have HBB6 := Lib.hid BB
  clear hp hw6 hw5 A B BB HA HB HX HY HBB HCL b0 b1 b2 b3
  have x0 := X.cell (i := 0) (v := .int .i64 s1) rfl
  have x1 := X.cell (i := 1) (v := .int .i64 s2) rfl
  have y0 := Y.cell (i := 0) (v := .int .i64 m1) rfl
  have y1 := Y.cell (i := 1) (v := .int .i64 m2) rfl
  clear X Y
  cases cl
  · have e1 : (s1, s2, s3) = (0, 0, 2) := by rw [HSE.out]; rfl
    have e2 : (m1, m2, m3) = (0, 0, 2) := by rw [HME0.out]; rfl
    simp only [Prod.mk.injEq] at e1 e2
    obtain ⟨rfl, rfl, rfl⟩ := e1
    obtain ⟨rfl, rfl, rfl⟩ := e2
    go_wp2_with fail
    refine (HK.out _).mono ?_
    rintro e w9 ⟨rfl, hb9⟩
    have HB9 := Lib.hid (HBB6.out.trans (hb9.mono HBB6.out.size))
    clear hb9
    go_wp2
    go_ret
    exact ⟨rfl, HB9.out⟩
  · have HR := Lib.hid (isClayF_range hcl)
    obtain ⟨sp, hsp⟩ : ∃ sp, isSpreadF wl wh 1000000 = sp := ⟨_, rfl⟩
    rw [hsp] at HME0
    have HW : Hid (isSpreadF wl wh 1000000 = sp ↔ (sp = true ↔ 0 ≤ wl ∧ wl ≤ wh ∧ wh ≤ 1000000)) := Lib.hid (by cases sp <;> simp [isSpreadF, inB] <;> omega)
    have a0 := HA6.out.cell (i := 0) (v := .int .i64 wl) rfl
    have a1 := HA6.out.cell (i := 1) (v := .int .i64 wh) rfl
    have b0 := HB6.out.cell (i := 0) (v := .int .i64 dl) rfl
    have b1 := HB6.out.cell (i := 1) (v := .int .i64 dh) rfl
    have b2 := HB6.out.cell (i := 2) (v := .int .i64 fl) rfl
    have b3 := HB6.out.cell (i := 3) (v := .int .i64 fh) rfl
    by_cases hn : n < 1 ∨ 1000000 < n
    · have e1 : (s1, s2, s3) = (0, 0, 3) := by
        rw [HSE.out, if_neg (by simp), if_pos (by simp [inB]; omega)]
      simp only [Prod.mk.injEq] at e1
      obtain ⟨rfl, rfl, rfl⟩ := e1
      have HN := Lib.hid hn
      clear hn
      cases sp
      · skip
        have e2 : (m1, m2, m3) = (0, 0, 3) := by rw [HME0.out]; rfl
        simp only [Prod.mk.injEq] at e2
        obtain ⟨rfl, rfl, rfl⟩ := e2
        have HV : Hid (¬ (0 ≤ wl ∧ wl ≤ wh ∧ wh ≤ 1000000)) := Lib.hid (fun h => absurd ((HW.out.1 hsp).2 h) (by simp))
        clear HW hsp HME0 HME HSE HR HRM
        go_wp2_with (first | (go_at_call 16; refine (HK.out _).mono ?_; rintro e w9 ⟨rfl, hb9⟩; have HB9 := Lib.hid (HBB6.out.trans (hb9.mono HBB6.out.size)); clear hb9))
        all_goals first
          | (exfalso; have h1 := HN.out; have h2 := HV.out; omega)
          | (go_ret; exact ⟨rfl, HB9.out⟩)
      · skip
        have HWR : Hid (0 ≤ wl ∧ wl ≤ wh ∧ wh ≤ 1000000) := Lib.hid ((HW.out.1 hsp).1 (by first | rfl | trivial))
        have hME := HME.out (by first | rfl | trivial) HWR.out
        have HRM2 := Lib.hid fun w => HRM.out w (by first | rfl | trivial) HWR.out
        obtain ⟨F, hF⟩ : ∃ F, firstF wl ((10000 - dh) * (10000 - fh)) = F := ⟨_, rfl⟩
        obtain ⟨G, hG⟩ : ∃ G, lastF wh ((10000 - dl) * (10000 - fl)) = G := ⟨_, rfl⟩
        rw [hF, hG] at hME HRM2
        clear HW hsp HME0 HME HSE HR HRM hF hG
        go_wp2_with (first | (go_at_call 18; refine stopHere ?_))
        all_goals try (exfalso; have h1 := HN.out; have h2 := HWR.out; omega)
        all_goals
          intro _
          refine (HRM2.out _).mono ?_
          rintro e w7 ⟨rfl, hb7⟩
          obtain ⟨zb, hzb⟩ : ∃ zb, w7.heap.size = zb := ⟨_, rfl⟩
          have hp := hb7.alloc hb7.size (.cells #[.int .i64 F, .int .i64 G] 23)
          have Z := Blk.newI w7 zb #[.int .i64 F, .int .i64 G] 23 hzb
          have Y := HY6.out.past hp
          have BB := HBB6.out.trans (hp.mono HBB6.out.size)
          obtain ⟨w8, hw8⟩ : ∃ w8, w7.alloc (.cells #[.int .i64 F, .int .i64 G] 23) = w8 := ⟨_, rfl⟩
          rw [hw8] at Y Z BB
          clear x0 x1 y0 y1 a0 a1
          have y0 := Y.cell (i := 0) (v := .int .i64 m1) rfl
          have y1 := Y.cell (i := 1) (v := .int .i64 m2) rfl
          have z0 := Z.cell (i := 0) (v := .int .i64 F) rfl
          have z1 := Z.cell (i := 1) (v := .int .i64 G) rfl
          have HBB8 := Lib.hid BB
          clear hp hb7 Y Z BB HRM2
          by_cases hfg : F ≤ G
          · rw [if_pos hfg] at hME
            simp only [Prod.mk.injEq] at hME
            obtain ⟨rfl, rfl, rfl⟩ := hME
            have hd : decide (m1 ≤ m2) = true := decide_eq_true hfg
            rw [hd]
            clear hfg hd
            go_wp2_with (first | (go_at_call 16; refine (HK.out _).mono ?_; rintro e w9 ⟨rfl, hb9⟩; have HB9 := Lib.hid (HBB8.out.trans (hb9.mono HBB8.out.size)); clear hb9))
            go_ret
            exact ⟨rfl, HB9.out⟩
          · rw [if_neg hfg] at hME
            simp only [Prod.mk.injEq] at hME
            obtain ⟨rfl, rfl, rfl⟩ := hME
            have hd : decide (F ≤ G) = false := decide_eq_false hfg
            rw [hd]
            clear hfg hd
            go_wp2_with (first | (go_at_call 16; refine (HK.out _).mono ?_; rintro e w9 ⟨rfl, hb9⟩; have HB9 := Lib.hid (HBB8.out.trans (hb9.mono HBB8.out.size)); clear hb9))
            go_ret
            exact ⟨rfl, HB9.out⟩
    · have hnr : 1 ≤ n ∧ n ≤ 1000000 := by omega
      have e1 : (s1, s2, s3) = (loS n ((10000 - dh) * (10000 - fh)), hiS n ((10000 - dl) * (10000 - fl)), 0) := by
        rw [HSE.out, if_neg (by simp), if_neg (by simp [inB]; omega)]
      simp only [Prod.mk.injEq] at e1
      obtain ⟨h1, h2, rfl⟩ := e1
      have HRS2 := Lib.hid fun w => HRS.out w rfl (by omega)
      rw [← h1, ← h2] at HRS2
      have HN := Lib.hid hnr
      clear hn hnr h1 h2
      go_wp2_with fail
      all_goals try (exfalso; have h1 := HN.out; omega)
      have HS0 := Lib.hid (And.intro x0 (And.intro x1 (And.intro b0 (And.intro b1 (And.intro b2 b3)))))
      have HRS3 := Lib.hid (HRS2.out w6.drew)
      go_region_held3 (fun W => W.cell? ⟨xb, 0, none⟩ = some (.int .i64 s1) ∧ W.cell? ⟨xb, 1, none⟩ = some (.int .i64 s2) ∧ W.cell? ⟨w.heap.size + 1, 0, none⟩ = some (.int .i64 dl) ∧ W.cell? ⟨w.heap.size + 1, 1, none⟩ = some (.int .i64 dh) ∧ W.cell? ⟨w.heap.size + 1, 2, none⟩ = some (.int .i64 fl) ∧ W.cell? ⟨w.heap.size + 1, 3, none⟩ = some (.int .i64 fh))
        (first | with_reducible exact HS0.out | exact HS0.out | with_reducible exact HS5 | (go_keep; done))
        ((go_at_call 17; refine HRS3.out.mono ?_; rintro e w7 ⟨rfl, hb7⟩; have hb67 := (Below.refl w6.heap.size w6).drew.trans hb7; have HS5 := (show w7.cell? ⟨xb, 0, none⟩ = some (.int .i64 s1) ∧ w7.cell? ⟨xb, 1, none⟩ = some (.int .i64 s2) ∧ w7.cell? ⟨w.heap.size + 1, 0, none⟩ = some (.int .i64 dl) ∧ w7.cell? ⟨w.heap.size + 1, 1, none⟩ = some (.int .i64 dh) ∧ w7.cell? ⟨w.heap.size + 1, 2, none⟩ = some (.int .i64 fl) ∧ w7.cell? ⟨w.heap.size + 1, 3, none⟩ = some (.int .i64 fh) from ⟨(HX6.out.past hb67).cell (i := 0) rfl, (HX6.out.past hb67).cell (i := 1) rfl, (HB6.out.past hb67).cell (i := 0) rfl, (HB6.out.past hb67).cell (i := 1) rfl, (HB6.out.past hb67).cell (i := 2) rfl, (HB6.out.past hb67).cell (i := 3) rfl⟩)))
      all_goals
        rename_i hHeld
        have HA7 := Lib.hid (HA6.out.past hb67)
        have HB7 := Lib.hid (HB6.out.past hb67)
        have HY7 := Lib.hid (HY6.out.past hb67)
        have HBB7 := Lib.hid (HBB6.out.trans (hb67.mono HBB6.out.size))
        clear hHeld HS0 HS5 hb7 hb67 HRS2 HRS3 x0 x1 y0 y1 a0 a1 b0 b1 b2 b3 HX6
        have y0 := HY7.out.cell (i := 0) (v := .int .i64 m1) rfl
        have y1 := HY7.out.cell (i := 1) (v := .int .i64 m2) rfl
        have x0 := y0
        have x1 := y1
        have a0 := HA7.out.cell (i := 0) (v := .int .i64 wl) rfl
        have a1 := HA7.out.cell (i := 1) (v := .int .i64 wh) rfl
        have b0 := HB7.out.cell (i := 0) (v := .int .i64 dl) rfl
        have b1 := HB7.out.cell (i := 1) (v := .int .i64 dh) rfl
        have b2 := HB7.out.cell (i := 2) (v := .int .i64 fl) rfl
        have b3 := HB7.out.cell (i := 3) (v := .int .i64 fh) rfl
        cases sp
        · skip
          have e2 : (m1, m2, m3) = (0, 0, 3) := by rw [HME0.out]; rfl
          simp only [Prod.mk.injEq] at e2
          obtain ⟨rfl, rfl, rfl⟩ := e2
          have HV : Hid (¬ (0 ≤ wl ∧ wl ≤ wh ∧ wh ≤ 1000000)) := Lib.hid (fun h => absurd ((HW.out.1 hsp).2 h) (by simp))
          clear HW hsp HME0 HME HSE HR HRM
          go_wp2_with (first | (go_at_call 16; refine (HK.out _).mono ?_; rintro e w9 ⟨rfl, hb9⟩; have HB9 := Lib.hid (HBB7.out.trans (hb9.mono HBB7.out.size)); clear hb9))
          all_goals first
            | (exfalso; have h1 := HN.out; have h2 := HV.out; omega)
            | (go_ret; exact ⟨rfl, HB9.out⟩)
        · skip
          have HWR : Hid (0 ≤ wl ∧ wl ≤ wh ∧ wh ≤ 1000000) := Lib.hid ((HW.out.1 hsp).1 (by first | rfl | trivial))
          have hME := HME.out (by first | rfl | trivial) HWR.out
          have HRM2 := Lib.hid fun w => HRM.out w (by first | rfl | trivial) HWR.out
          obtain ⟨F, hF⟩ : ∃ F, firstF wl ((10000 - dh) * (10000 - fh)) = F := ⟨_, rfl⟩
          obtain ⟨G, hG⟩ : ∃ G, lastF wh ((10000 - dl) * (10000 - fl)) = G := ⟨_, rfl⟩
          rw [hF, hG] at hME HRM2
          clear HW hsp HME0 HME HSE HR HRM hF hG
          go_wp2_with (first | (go_at_call 18; refine stopHere ?_))
          all_goals try (exfalso; have h1 := HN.out; have h2 := HWR.out; omega)
          all_goals
            intro _
            refine (HRM2.out _).mono ?_
            rintro e w7 ⟨rfl, hb7⟩
            obtain ⟨zb, hzb⟩ : ∃ zb, w7.heap.size = zb := ⟨_, rfl⟩
            have hp := hb7.alloc hb7.size (.cells #[.int .i64 F, .int .i64 G] 23)
            have Z := Blk.newI w7 zb #[.int .i64 F, .int .i64 G] 23 hzb
            have Y := HY7.out.past hp
            have BB := HBB7.out.trans (hp.mono HBB7.out.size)
            obtain ⟨w8, hw8⟩ : ∃ w8, w7.alloc (.cells #[.int .i64 F, .int .i64 G] 23) = w8 := ⟨_, rfl⟩
            rw [hw8] at Y Z BB
            clear x0 x1 y0 y1 a0 a1
            have y0 := Y.cell (i := 0) (v := .int .i64 m1) rfl
            have y1 := Y.cell (i := 1) (v := .int .i64 m2) rfl
            have z0 := Z.cell (i := 0) (v := .int .i64 F) rfl
            have z1 := Z.cell (i := 1) (v := .int .i64 G) rfl
            have HBB8 := Lib.hid BB
            clear hp hb7 Y Z BB HRM2
            by_cases hfg : F ≤ G
            · rw [if_pos hfg] at hME
              simp only [Prod.mk.injEq] at hME
              obtain ⟨rfl, rfl, rfl⟩ := hME
              have hd : decide (m1 ≤ m2) = true := decide_eq_true hfg
              rw [hd]
              clear hfg hd
              go_wp2_with (first | (go_at_call 16; refine (HK.out _).mono ?_; rintro e w9 ⟨rfl, hb9⟩; have HB9 := Lib.hid (HBB8.out.trans (hb9.mono HBB8.out.size)); clear hb9))
              go_ret
              exact ⟨rfl, HB9.out⟩
            · rw [if_neg hfg] at hME
              simp only [Prod.mk.injEq] at hME
              obtain ⟨rfl, rfl, rfl⟩ := hME
              have hd : decide (F ≤ G) = false := decide_eq_false hfg
              rw [hd]
              clear hfg hd
              go_wp2_with (first | (go_at_call 16; refine (HK.out _).mono ?_; rintro e w9 ⟨rfl, hb9⟩; have HB9 := Lib.hid (HBB8.out.trans (hb9.mono HBB8.out.size)); clear hb9))
              go_ret
              exact ⟨rfl, HB9.out⟩
end Go.Proofs.Ytopnlcjbklmicaa
