import Derived.Test.YtopnlcjbklmicaaK35
import Derived.WalkKit
import Derived.WalkSpells
import Derived.WalkLawsBesides
import Derived.Deep.QuietTactic
import Derived.BigQuiet
import Derived.Lib.Hide
import Derived.WalkSmall
import Derived.Maps.OwnSet
import Derived.Maps.RangeWalk
import Derived.Deep.RegionWith
import Derived.Deep.RegionHeld3
import Derived.Deep.DrawnRows
import Derived.Deep.DeepCutAuto
import Derived.OneCell
import Derived.KernelRfl
import Derived.Laws.StructEq
import Derived.StillTailTactics
import Derived.Laws.Externs
import Derived.RangeFuncBox
import Derived.Outline
import Derived.RangeFuncNested
import Derived.RangeFuncBound
import Derived.RangeFuncCalls
import Derived.RangeFuncLeaves
import Derived.Shelf.RegionOpen
import Derived.OwnWalkIn
import Derived.TacticsInMore
import Derived.LoopNIn
import Derived.LoopIn
import Derived.Test.YtopnlcjbklmicaaProg
namespace Go.Proofs.Ytopnlcjbklmicaa
open Go.RowKit Go.Maps Go.Shelf
set_option linter.unusedVariables false
set_option linter.unusedSimpArgs false
/-- The first side that is not too small, and the last one that is not too great. -/
def firstF (wl kl : Int) : Int := min 1000001 (max 1 ((wl * 100000000 + kl - 1) / kl))
def lastF (wh kh : Int) : Int := min 1000000 (wh * 100000000 / kh)
theorem field_lo (w : World) (a b : Int) : (Instr.field 23 (.agg #[.int .i64 a, .int .i64 b]) 0).run Try.prog w = .ok (.int .i64 a) w := by kernel_rfl
theorem field_hi (w : World) (a b : Int) : (Instr.field 23 (.agg #[.int .i64 a, .int .i64 b]) 1).run Try.prog w = .ok (.int .i64 b) w := by kernel_rfl
set_option maxRecDepth 100000 in
set_option maxHeartbeats 2000000 in
theorem refMoulds_any (wl wh dl dh fl fh : Int) (w : World) (hc : isClayF dl dh fl fh = true) (hw : 0 ≤ wl ∧ wl ≤ wh ∧ wh ≤ 1000000) :
    Calls Try.prog 18 #[.agg #[.int .i64 wl, .int .i64 wh], .agg #[.int .i64 dl, .int .i64 dh, .int .i64 fl, .int .i64 fh]] w fun e w' =>
      e = .returned (.tuple #[.agg #[.int .i64 (firstF wl ((10000 - dh) * (10000 - fh))), .int .i64 (lastF wh ((10000 - dl) * (10000 - fl)))], .bool (decide (firstF wl ((10000 - dh) * (10000 - fh)) ≤ lastF wh ((10000 - dl) * (10000 - fl))))]) ∧ Below w.heap.size w w' := by
  obtain ⟨⟨k1, k2⟩, ⟨k3, k4⟩, _⟩ := ks_range hc
  have HLO : Hid (∀ n, wl ≤ loS n ((10000 - dh) * (10000 - fh)) ↔ (wl * 100000000 + (10000 - dh) * (10000 - fh) - 1) / ((10000 - dh) * (10000 - fh)) ≤ n) := Lib.hid fun n => lo_ge k1
  have HHI : Hid (∀ n, hiS n ((10000 - dl) * (10000 - fl)) ≤ wh ↔ n ≤ wh * 100000000 / ((10000 - dl) * (10000 - fl))) := Lib.hid fun n => hi_le k3
  have HRS := Lib.hid fun n w hn => refShrunk_any n dl dh fl fh w hc hn
  have HF : Hid (firstF wl ((10000 - dh) * (10000 - fh)) = min 1000001 (max 1 ((wl * 100000000 + (10000 - dh) * (10000 - fh) - 1) / ((10000 - dh) * (10000 - fh))))) := Lib.hid rfl
  have HG : Hid (lastF wh ((10000 - dl) * (10000 - fl)) = min 1000000 (wh * 100000000 / ((10000 - dl) * (10000 - fl)))) := Lib.hid rfl
  have hge : 0 ≤ wh * 100000000 / ((10000 - dl) * (10000 - fl)) := Int.ediv_nonneg (by omega) (by omega)
  obtain ⟨F, hF⟩ : ∃ F, firstF wl ((10000 - dh) * (10000 - fh)) = F := ⟨_, rfl⟩
  obtain ⟨G, hG⟩ : ∃ G, lastF wh ((10000 - dl) * (10000 - fl)) = G := ⟨_, rfl⟩
  rw [hF] at HF ⊢
  rw [hG] at HG ⊢
  obtain ⟨kl, hkl⟩ : ∃ k, (10000 - dh) * (10000 - fh) = k := ⟨_, rfl⟩
  obtain ⟨kh, hkh⟩ : ∃ k, (10000 - dl) * (10000 - fl) = k := ⟨_, rfl⟩
  rw [hkl] at HLO HRS HF
  rw [hkh] at HHI HRS HG hge
  obtain ⟨L0, hL0⟩ : ∃ L, (wl * 100000000 + kl - 1) / kl = L := ⟨_, rfl⟩
  obtain ⟨H0, hH0⟩ : ∃ H, wh * 100000000 / kh = H := ⟨_, rfl⟩
  rw [hL0] at HLO HF
  rw [hH0] at HHI HG hge
  have HFF : Hid (1 ≤ F ∧ F ≤ 1000001 ∧ (∀ n, 1 ≤ n → n < 1000001 → (L0 ≤ n ↔ F ≤ n))) := Lib.hid (by have := HF.out; rw [Int.min_def, Int.max_def] at this; refine ⟨by split at this <;> split at this <;> omega, by split at this <;> omega, fun n h1 h2 => by split at this <;> split at this <;> omega⟩)
  have HGG : Hid (0 ≤ G ∧ G ≤ 1000000 ∧ (∀ n, n ≤ 1000000 → (n ≤ H0 ↔ n ≤ G))) := Lib.hid (by have := HG.out; rw [Int.min_def] at this; refine ⟨by split at this <;> omega, by split at this <;> omega, fun n h1 => by split at this <;> omega⟩)
  have A := ((Blk.new w #[.int .i64 wl, .int .i64 wh] 23).alloc (.cells #[.int .i64 dl, .int .i64 dh, .int .i64 fl, .int .i64 fh] 25)).alloc (.cells #[.int .i64 0, .int .i64 0] 23)
  have B := (Blk.newI (w.alloc (.cells #[.int .i64 wl, .int .i64 wh] 23)) (w.heap.size + 1) #[.int .i64 dl, .int .i64 dh, .int .i64 fl, .int .i64 fh] 25 (by simp)).alloc (.cells #[.int .i64 0, .int .i64 0] 23)
  have R := Blk.newI ((w.alloc (.cells #[.int .i64 wl, .int .i64 wh] 23)).alloc (.cells #[.int .i64 dl, .int .i64 dh, .int .i64 fl, .int .i64 fh] 25)) (w.heap.size + 1 + 1) #[.int .i64 0, .int .i64 0] 23 (by simp)
  have BB := ((((Below.refl _ w).alloc (Nat.le_refl _) (.cells #[.int .i64 wl, .int .i64 wh] 23)).alloc (by simp) (.cells #[.int .i64 dl, .int .i64 dh, .int .i64 fl, .int .i64 fh] 25)).alloc (by simp; omega) (.cells #[.int .i64 0, .int .i64 0] 23))
  have hs3 : (((w.alloc (.cells #[.int .i64 wl, .int .i64 wh] 23)).alloc (.cells #[.int .i64 dl, .int .i64 dh, .int .i64 fl, .int .i64 fh] 25)).alloc (.cells #[.int .i64 0, .int .i64 0] 23)).heap.size = w.heap.size + 3 := by simp
  obtain ⟨w1, hw1⟩ : ∃ w1, ((w.alloc (.cells #[.int .i64 wl, .int .i64 wh] 23)).alloc (.cells #[.int .i64 dl, .int .i64 dh, .int .i64 fl, .int .i64 fh] 25)).alloc (.cells #[.int .i64 0, .int .i64 0] 23) = w1 := ⟨_, rfl⟩
  rw [hw1] at A B R BB hs3
  have HA := Lib.hid A
  have HB := Lib.hid B
  have HR := Lib.hid R
  have HBB := Lib.hid BB
  clear A B R BB hL0 hH0 hkl hkh hF hG HF HG hge k1 k2 k3 k4 hc hs3
  go_enter Try.func18, Try.ntmps18
  go_wp2_with fail
  try rw [hw1]
  clear hw1
  go_loopw [6, 7, 8] (fun a b _ wr => ∃ x y : Int, a = .int .i64 x ∧ b = .int .i64 y ∧ (1 ≤ x ∧ x ≤ y ∧ y ≤ 1000001) ∧ Hid (x ≤ F ∧ F ≤ y) ∧ Hid (Below w1.heap.size w1 wr)) (fun a b _ _ => (intOf b - intOf a).toNat)
  case atStart => exact ⟨1, 1000001, rfl, rfl, by omega, Lib.hid ⟨HFF.out.1, HFF.out.2.1⟩, Lib.hid (Below.refl _ _)⟩
  case round =>
    obtain ⟨x, y, rfl, rfl, hxy, HI, HW⟩ := hrel
    by_cases hlt : x < y
    · have w2 : IntKind.i64.wrap (x + y) = x + y := wrap_id (by omega) (by omega)
      obtain ⟨m, hm⟩ : ∃ m, (x + y) / 2 = m := ⟨_, rfl⟩
      have w3 : IntKind.i64.wrap ((x + y).tdiv 2) = m := by rw [Int.tdiv_eq_ediv_of_nonneg (by omega), hm]; exact wrap_id (by omega) (by omega)
      have hmr : x ≤ m ∧ m < y := by omega
      have w4 : IntKind.i64.wrap (m + 1) = m + 1 := wrap_id (by omega) (by omega)
      have A2 := (HA.out.past HW.out)
      have B2 := (HB.out.past HW.out)
      have a0 := A2.cell (i := 0) (v := .int .i64 wl) rfl
      have b0 := B2.cell (i := 0) (v := .int .i64 dl) rfl
      have b1 := B2.cell (i := 1) (v := .int .i64 dh) rfl
      have b2 := B2.cell (i := 2) (v := .int .i64 fl) rfl
      have b3 := B2.cell (i := 3) (v := .int .i64 fh) rfl
      have HS0 := Lib.hid (And.intro a0 (And.intro b0 (And.intro b1 (And.intro b2 b3))))
      have HA2 := Lib.hid A2
      have HB2 := Lib.hid B2
      have HC := Lib.hid (HRS.out m wr.drew (by omega))
      have hfl := field_lo
      clear A2 B2 hm
      go_wp2_with fail
      go_region_held3 (fun W => W.cell? ⟨w.heap.size, 0, none⟩ = some (.int .i64 wl) ∧ W.cell? ⟨w.heap.size + 1, 0, none⟩ = some (.int .i64 dl) ∧ W.cell? ⟨w.heap.size + 1, 1, none⟩ = some (.int .i64 dh) ∧ W.cell? ⟨w.heap.size + 1, 2, none⟩ = some (.int .i64 fl) ∧ W.cell? ⟨w.heap.size + 1, 3, none⟩ = some (.int .i64 fh))
        (first | with_reducible exact HS0.out | exact HS0.out | with_reducible exact HS5 | (go_keep; done))
        ((go_at_call 17; refine HC.out.mono ?_; rintro e w5 ⟨rfl, hb5⟩; have HS5 := (show w5.cell? ⟨w.heap.size, 0, none⟩ = some (.int .i64 wl) ∧ w5.cell? ⟨w.heap.size + 1, 0, none⟩ = some (.int .i64 dl) ∧ w5.cell? ⟨w.heap.size + 1, 1, none⟩ = some (.int .i64 dh) ∧ w5.cell? ⟨w.heap.size + 1, 2, none⟩ = some (.int .i64 fl) ∧ w5.cell? ⟨w.heap.size + 1, 3, none⟩ = some (.int .i64 fh) from ⟨(HA2.out.drew.past hb5).cell (i := 0) rfl, (HB2.out.drew.past hb5).cell (i := 0) rfl, (HB2.out.drew.past hb5).cell (i := 1) rfl, (HB2.out.drew.past hb5).cell (i := 2) rfl, (HB2.out.drew.past hb5).cell (i := 3) rfl⟩); have HW5 := Lib.hid (HW.out.drew.trans (hb5.mono HW.out.size))))
      all_goals
        rename_i hHeld
        clear hHeld HS0 a0 b0 b1 b2 b3 HC HS5 hb5
        obtain ⟨q, hq⟩ : ∃ q, decide (wl ≤ loS m kl) = q := ⟨_, rfl⟩
        rw [hq]
        cases q
        · have hnew : m + 1 ≤ F := by
            have h1 := of_decide_eq_false hq
            rw [HLO.out] at h1
            have h2 := HFF.out.2.2 m (by omega) (by omega)
            omega
          have HI2 : Hid (m + 1 ≤ F ∧ F ≤ y) := Lib.hid ⟨hnew, HI.out.2⟩
          clear hq hnew
          go_wp2
          go_roundw
          case rel => exact ⟨m + 1, y, rfl, rfl, by omega, HI2, HW5⟩
          case measure => simp [intOf]; omega
        · have hnew : F ≤ m := by
            have h1 := of_decide_eq_true hq
            rw [HLO.out] at h1
            have h2 := HFF.out.2.2 m (by omega) (by omega)
            omega
          have HI2 : Hid (x ≤ F ∧ F ≤ m) := Lib.hid ⟨HI.out.1, hnew⟩
          clear hq hnew
          go_wp2
          go_roundw
          case rel => exact ⟨x, m, rfl, rfl, by omega, HI2, HW5⟩
          case measure => simp [intOf]; omega
    · have hxF : x = F := by have := HI.out; omega
      have hxy2 : x = y := by omega
      subst hxy2
      have hxF := hxF.symm
      subst hxF
      clear hlt HI
      go_wp2_with fail
      go_loopw [6, 7, 10] (fun a b _ wr => ∃ u v : Int, a = .int .i64 u ∧ b = .int .i64 v ∧ (0 ≤ u ∧ u ≤ v ∧ v ≤ 1000000) ∧ Hid (u ≤ G ∧ G ≤ v) ∧ Hid (Below w1.heap.size w1 wr)) (fun a b _ _ => (intOf b - intOf a).toNat)
      case atStart => exact ⟨0, 1000000, rfl, rfl, by omega, Lib.hid ⟨HGG.out.1, HGG.out.2.1⟩, HW⟩
      case round =>
        clear HW
        obtain ⟨u, v, rfl, rfl, huv, HI, HW⟩ := hrel
        by_cases hlt : u < v
        · have w2 : IntKind.i64.wrap (u + v) = u + v := wrap_id (by omega) (by omega)
          have w2b : IntKind.i64.wrap (u + v + 1) = u + v + 1 := wrap_id (by omega) (by omega)
          obtain ⟨m, hm⟩ : ∃ m, (u + v + 1) / 2 = m := ⟨_, rfl⟩
          have w3 : IntKind.i64.wrap ((u + v + 1).tdiv 2) = m := by rw [Int.tdiv_eq_ediv_of_nonneg (by omega), hm]; exact wrap_id (by omega) (by omega)
          have hmr : u < m ∧ m ≤ v := by omega
          have w4 : IntKind.i64.wrap (m - 1) = m - 1 := wrap_id (by omega) (by omega)
          have A2 := (HA.out.past HW.out)
          have B2 := (HB.out.past HW.out)
          have a0 := A2.cell (i := 1) (v := .int .i64 wh) rfl
          have b0 := B2.cell (i := 0) (v := .int .i64 dl) rfl
          have b1 := B2.cell (i := 1) (v := .int .i64 dh) rfl
          have b2 := B2.cell (i := 2) (v := .int .i64 fl) rfl
          have b3 := B2.cell (i := 3) (v := .int .i64 fh) rfl
          have HS0 := Lib.hid (And.intro a0 (And.intro b0 (And.intro b1 (And.intro b2 b3))))
          have HA2 := Lib.hid A2
          have HB2 := Lib.hid B2
          have HC := Lib.hid (HRS.out m wr.drew (by omega))
          have hfl := field_hi
          clear A2 B2 hm
          go_wp2_with fail
          go_region_held3 (fun W => W.cell? ⟨w.heap.size, 1, none⟩ = some (.int .i64 wh) ∧ W.cell? ⟨w.heap.size + 1, 0, none⟩ = some (.int .i64 dl) ∧ W.cell? ⟨w.heap.size + 1, 1, none⟩ = some (.int .i64 dh) ∧ W.cell? ⟨w.heap.size + 1, 2, none⟩ = some (.int .i64 fl) ∧ W.cell? ⟨w.heap.size + 1, 3, none⟩ = some (.int .i64 fh))
            (first | with_reducible exact HS0.out | exact HS0.out | with_reducible exact HS5 | (go_keep; done))
            ((go_at_call 17; refine HC.out.mono ?_; rintro e w5 ⟨rfl, hb5⟩; have HS5 := (show w5.cell? ⟨w.heap.size, 1, none⟩ = some (.int .i64 wh) ∧ w5.cell? ⟨w.heap.size + 1, 0, none⟩ = some (.int .i64 dl) ∧ w5.cell? ⟨w.heap.size + 1, 1, none⟩ = some (.int .i64 dh) ∧ w5.cell? ⟨w.heap.size + 1, 2, none⟩ = some (.int .i64 fl) ∧ w5.cell? ⟨w.heap.size + 1, 3, none⟩ = some (.int .i64 fh) from ⟨(HA2.out.drew.past hb5).cell (i := 1) rfl, (HB2.out.drew.past hb5).cell (i := 0) rfl, (HB2.out.drew.past hb5).cell (i := 1) rfl, (HB2.out.drew.past hb5).cell (i := 2) rfl, (HB2.out.drew.past hb5).cell (i := 3) rfl⟩); have HW5 := Lib.hid (HW.out.drew.trans (hb5.mono HW.out.size))))
          all_goals
            rename_i hHeld
            clear hHeld HS0 a0 b0 b1 b2 b3 HC HS5 hb5
            obtain ⟨q, hq⟩ : ∃ q, decide (hiS m kh ≤ wh) = q := ⟨_, rfl⟩
            rw [hq]
            cases q
            · have hnew : G ≤ m - 1 := by
                have h1 := of_decide_eq_false hq
                rw [HHI.out] at h1
                have h2 := HGG.out.2.2 m (by omega)
                omega
              have HI2 : Hid (u ≤ G ∧ G ≤ m - 1) := Lib.hid ⟨HI.out.1, hnew⟩
              clear hq hnew
              go_wp2
              go_roundw
              case rel => exact ⟨u, m - 1, rfl, rfl, by omega, HI2, HW5⟩
              case measure => simp [intOf]; omega
            · have hnew : m ≤ G := by
                have h1 := of_decide_eq_true hq
                rw [HHI.out] at h1
                have h2 := HGG.out.2.2 m (by omega)
                omega
              have HI2 : Hid (m ≤ G ∧ G ≤ v) := Lib.hid ⟨hnew, HI.out.2⟩
              clear hq hnew
              go_wp2
              go_roundw
              case rel => exact ⟨m, v, rfl, rfl, by omega, HI2, HW5⟩
              case measure => simp [intOf]; omega
        · have huG : u = G := by have := HI.out; omega
          have huv2 : u = v := by omega
          subst huv2
          subst huG
          have R2 := HR.out.past HW.out
          have r0 := R2.cell (i := 0) (v := .int .i64 0) rfl
          have r1 := R2.cell (i := 1) (v := .int .i64 0) rfl
          have f0 := R2.fr (i := 0)
          have f1 := R2.fr (i := 1)
          have HR2 := Lib.hid R2
          have HBW := Lib.hid (HBB.out.trans (HW.out.mono HBB.out.size))
          clear R2 hlt HI
          go_wp2
          obtain ⟨d0, d1, d2, hg, _⟩ := blk_after HR2.out (.int .i64 F) (.int .i64 u) rfl rfl
          refine bodyPost_ret (v := .tuple #[.agg #[.int .i64 F, .int .i64 u], .bool (decide (F ≤ u))]) ?_ rfl ?_
          · simp [results, Try.results18, go_sem, d0, d1, d2]
          · exact ⟨rfl, HBW.out.grown hg HBW.out.size (by intro k hk; cases hk; omega)⟩
end Go.Proofs.Ytopnlcjbklmicaa
