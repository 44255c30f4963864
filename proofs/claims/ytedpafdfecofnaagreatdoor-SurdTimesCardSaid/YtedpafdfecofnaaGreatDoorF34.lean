/-
  Contracts of the program's own functions (and their plain mathematics), on the way to the law: each for all arguments that its hypotheses let.
-/
import Derived.Test.YtedpafdfecofnaaGreatDoorF33
import Derived.WalkKit
import Derived.WalkSpells
import Derived.WalkLawsBesides
import Derived.Deep.QuietTactic
import Derived.BigQuiet
import Derived.Lib.Hide
import Derived.WalkSmall
import Derived.Maps.OwnSet
import Derived.Maps.RangeWalk
import Derived.Deep.RegionWith
import Derived.Deep.RegionHeld3
import Derived.Deep.DrawnRows
import Derived.Deep.DeepCutAuto
import Derived.OneCell
import Derived.KernelRfl
import Derived.Laws.StructEq
import Derived.StillTailTactics
import Derived.Laws.Externs
import Derived.RangeFuncBox
import Derived.Deep.RegionLaw
import Derived.Deep.AppendLies
import Derived.Test.YtedpafdfecofnaaGreatDoorPlain
set_option linter.unusedSimpArgs false
set_option linter.unusedVariables false

/-! ## S99 -/
namespace Go.Proofs.YtedpafdfecofnaaGreatDoor
open Go.RowKit Go.Maps Go.Shelf Go.Sort
attribute [local go_sem ↓] Go.wp_at_zero Go.wp_at_succ

set_option maxRecDepth 100000 in
set_option maxHeartbeats 8000000 in
theorem rtimes_any (dx dy : Int) (vx vy : Value) (lx ly : List (Int × Int)) (w : World) (hx : TermsAt w vx lx) (hy : TermsAt w vy ly) :
    Calls Tryz.prog 29 #[.agg #[.int .i64 dx, vx], .agg #[.int .i64 dy, vy]] w (NumP (mulF dx lx dy ly) w) := by
  obtain ⟨ax, cx, rfl, px⟩ := hx.placed
  obtain ⟨ay, cy, rfl, py⟩ := hy.placed
  have PX := Lib.hid px
  have PY := Lib.hid py
  have HX := Lib.hid hx
  have HY := Lib.hid hy
  clear hx hy px py
  go_enter Tryz.func29, Tryz.ntmps29
  go_wp2_with fail
  refine (number_any dx _ lx _ (((HX.out.alloc _).alloc _).alloc _)).mono ?_
  rintro e w1 ⟨rfl, hb⟩
  have X1 : Two w1 w.heap.size (.int .i64 dx) (.slice ax lx.length cx) 24 := (((Two.new w (.int .i64 dx) (.slice ax lx.length cx) 24).alloc _).alloc _).below hb (by simp; omega)
  have Y1 : Two w1 (w.heap.size + 1) (.int .i64 dy) (.slice ay ly.length cy) 24 := by
    have := ((Two.new (w.alloc (.cells #[.int .i64 dx, .slice ax lx.length cx] 24)) (.int .i64 dy) (.slice ay ly.length cy) 24).alloc (.cells #[.int .i64 0, .slice none 0 0] 24)).below hb (by simp)
    simpa using this
  have R1 : Two w1 (w.heap.size + 1 + 1) (.int .i64 0) (.slice none 0 0) 24 := by
    have := (Two.new ((w.alloc (.cells #[.int .i64 dx, .slice ax lx.length cx] 24)).alloc (.cells #[.int .i64 dy, .slice ay ly.length cy] 24)) (.int .i64 0) (.slice none 0 0) 24).below hb (by simp)
    simpa [Nat.add_assoc] using this
  have B1 : Below w.heap.size w w1 := ((((Below.refl _ _).alloc (Nat.le_refl _) _).alloc (by simp) _).alloc (by simp; omega) _).trans (hb.mono (by simp; omega))
  have XX := Lib.hid X1
  have YY := Lib.hid Y1
  have RR := Lib.hid R1
  have BB := Lib.hid B1
  have x0 := X1.c0
  have x1 := X1.c1
  have y0 := Y1.c0
  have y1 := Y1.c1
  have r0 := R1.c0
  have r1 := R1.c1
  have f0 := R1.fr (i := 0)
  have f1 := R1.fr (i := 1)
  clear hb X1 Y1 R1 B1
  cases hvx : validF dx lx
  · have HP : Hid (mulF dx lx dy ly (0, [], 2)) := Lib.hid (by simp [mulF, hvx])
    clear hvx
    go_wp2
    obtain ⟨d0, d1, d2, hg⟩ := two_after RR.out (.int .i64 0) (.slice none 0 0) rfl
    refine bodyPost_ret (v := .tuple #[.agg #[.int .i64 0, .slice none 0 0], .int .i64 2]) ?_ rfl ?_
    · simp [results, Tryz.results29, go_sem, d0, d1, d2]
    · exact ⟨_, HP.out, _, rfl, termsAt_nil _, BB.out.grown hg BB.out.size (by intro k hk; cases hk; omega), fun k hk => by cases hk⟩
  have HVX := Lib.hid hvx
  clear hvx
  go_wp2_with fail
  refine (number_any dy _ ly _ (HY.out.below BB.out)).mono ?_
  rintro e w2 ⟨rfl, hb⟩
  have X2 := XX.out.below hb XX.out.lt
  have Y2 := YY.out.below hb YY.out.lt
  have R2 := RR.out.below hb RR.out.lt
  have B2 := BB.out.trans (hb.mono BB.out.size)
  have XX2 := Lib.hid X2
  have YY2 := Lib.hid Y2
  have RR2 := Lib.hid R2
  have BB2 := Lib.hid B2
  clear x0 x1 y0 y1 r0 r1 f0 f1 XX YY RR
  have x0 := X2.c0
  have x1 := X2.c1
  have y0 := Y2.c0
  have y1 := Y2.c1
  have r0 := R2.c0
  have r1 := R2.c1
  have f0 := R2.fr (i := 0)
  have f1 := R2.fr (i := 1)
  clear hb X2 Y2 R2 B2
  cases hvy : validF dy ly
  · have HP : Hid (mulF dx lx dy ly (0, [], 2)) := Lib.hid (by simp [mulF, hvy])
    clear hvy
    go_wp2
    obtain ⟨d0, d1, d2, hg⟩ := two_after RR2.out (.int .i64 0) (.slice none 0 0) rfl
    refine bodyPost_ret (v := .tuple #[.agg #[.int .i64 0, .slice none 0 0], .int .i64 2]) ?_ rfl ?_
    · simp [results, Tryz.results29, go_sem, d0, d1, d2]
    · exact ⟨_, HP.out, _, rfl, termsAt_nil _, BB2.out.grown hg BB2.out.size (by intro k hk; cases hk; omega), fun k hk => by cases hk⟩
  have HVY := Lib.hid hvy
  have VX := vld_of HVX.out
  have VY := vld_of hvy
  have HLX := Lib.hid VX.len
  have HLY := Lib.hid VY.len
  have hlx := VX.len
  have hly := VY.len
  have hdx1 := VX.d1
  have hdx2 := VX.d2
  have hdy1 := VY.d1
  have hdy2 := VY.d2
  have HVX2 := Lib.hid VX
  have HVY2 := Lib.hid VY
  have hsz2 : w.heap.size + 2 < w2.heap.size := RR2.out.lt
  obtain ⟨i0, hi, hz0, hz1, hz2⟩ := info_parts info34
  clear hvy VX VY BB
  go_wp2
  clear x0 x1 y0 y1 r0 r1 f0 f1
  go_loopw [6, 7] (fun v i wr => ∃ k : Nat, k ≤ lx.length ∧ i = .int .i64 k ∧ Hid (OwnT wr w2.heap.size v (timesUp lx ly k 0)) ∧ Hid (Below w2.heap.size w2 wr)) (fun _ i _ => lx.length - (intOf i).toNat)
  case atStart => exact ⟨0, Nat.zero_le _, rfl, Lib.hid (by rw [timesUp_zero]; exact empty_own w2), Lib.hid ((Below.refl _ _).alloc (Nat.le_refl _) _)⟩
  case round =>
    obtain ⟨k, hk, rfl, HO, HB⟩ := hrel
    have KX : Hid (∀ w', Below w2.heap.size w2 w' → w'.cell? ⟨w.heap.size, 0, none⟩ = some (.int .i64 dx) ∧ w'.cell? ⟨w.heap.size, 1, none⟩ = some (.slice ax lx.length cx) ∧ w'.cell? ⟨w.heap.size + 1, 0, none⟩ = some (.int .i64 dy) ∧ w'.cell? ⟨w.heap.size + 1, 1, none⟩ = some (.slice ay ly.length cy)) := Lib.hid fun w' h => by
      have a := XX2.out.below h XX2.out.lt
      have b := YY2.out.below h YY2.out.lt
      exact ⟨a.c0, a.c1, b.c0, b.c1⟩
    by_cases hlt : k < lx.length
    · obtain ⟨b, off, rfl, hbl, hp1, hp2⟩ := PX.out k hlt
      obtain ⟨x0, x1, y0, y1⟩ := KX.out _ HB.out
      have HBL : Hid (b < w2.heap.size) := Lib.hid (by omega)
      have HC1 := Lib.hid ((BB2.out.cell (p := ⟨b, _, none⟩) hbl).trans hp1)
      have HC2 := Lib.hid ((BB2.out.cell (p := ⟨b, _, none⟩) hbl).trans hp2)
      have hpt := vld_pt HVX2.out (lx[k]?.getD (0, 0)) (by simp [hlt])
      obtain ⟨c, r, hel⟩ : ∃ c r, lx[k]?.getD (0, 0) = (c, r) := ⟨_, _, rfl⟩
      rw [hel] at HC1 HC2 hpt
      dsimp only at HC1 HC2 hpt
      obtain ⟨⟨p1, p2⟩, p3, p4⟩ := hpt
      have HEL := Lib.hid hel
      have i1 : (0 : Int) ≤ (k : Int) := by omega
      have i2 : (k : Int) < (lx.length : Int) := by omega
      have hkb : k ≤ 3 := by omega
      clear hel hp1 hp2
      go_wp2
      clear x0 x1 y0 y1
      go_loopw [6, 8] (fun v i wr => ∃ j : Nat, j ≤ ly.length ∧ i = .int .i64 j ∧ Hid (OwnT wr w2.heap.size v (timesUp lx ly k j)) ∧ Hid (Below w2.heap.size w2 wr)) (fun _ i _ => ly.length - (intOf i).toNat)
      case atStart => exact ⟨0, Nat.zero_le _, rfl, HO, HB⟩
      case round =>
        clear HO HB
        obtain ⟨j, hj, rfl, HO, HB⟩ := hrel
        by_cases hlj : j < ly.length
        · obtain ⟨b2, off2, rfl, hbl2, hp1, hp2⟩ := PY.out j hlj
          obtain ⟨x0, x1, y0, y1⟩ := KX.out _ HB.out
          have HBL2 : Hid (b2 < w2.heap.size) := Lib.hid (by omega)
          have HD1 := Lib.hid ((BB2.out.cell (p := ⟨b2, _, none⟩) hbl2).trans hp1)
          have HD2 := Lib.hid ((BB2.out.cell (p := ⟨b2, _, none⟩) hbl2).trans hp2)
          have hpt := vld_pt HVY2.out (ly[j]?.getD (0, 0)) (by simp [hlj])
          obtain ⟨p, q, hel⟩ : ∃ c r, ly[j]?.getD (0, 0) = (c, r) := ⟨_, _, rfl⟩
          rw [hel] at HD1 HD2 hpt
          dsimp only at HD1 HD2 hpt
          obtain ⟨⟨q1, q2⟩, q3, q4⟩ := hpt
          have HSN := Lib.hid (timesUp_snoc hlj HEL.out hel)
          obtain ⟨n, hn⟩ : ∃ n, (timesUp lx ly k j).length = n := ⟨_, rfl⟩
          have hn2 : n ≤ 100 := by
            rw [← hn, timesUp_len (by omega)]
            have := Nat.mul_le_mul hkb hly
            omega
          have HN := Lib.hid hn
          have hm := times_pt p1 p2 q1 q2 p3 p4 q3 q4
          have hw1 : IntKind.i64.wrap (c * p) = c * p := IntWalk.i64_in _ (by omega)
          have hw2 : IntKind.i64.wrap (r * q) = r * q := IntWalk.i64_in _ (by omega)
          have j1 : (0 : Int) ≤ (j : Int) := by omega
          have j2 : (j : Int) < (ly.length : Int) := by omega
          have KK : Hid (∀ w', Below w2.heap.size w2 w' → w'.cell? ⟨w.heap.size, 1, none⟩ = some (.slice (some ⟨b, off, none⟩) lx.length cx) ∧ w'.cell? ⟨w.heap.size + 1, 1, none⟩ = some (.slice (some ⟨b2, off2, none⟩) ly.length cy) ∧ w'.cell? ⟨b, off + k * 2, none⟩ = some (.int .i64 c) ∧ w'.cell? ⟨b, off + k * 2 + 1, none⟩ = some (.int .i64 r) ∧ w'.cell? ⟨b2, off2 + j * 2, none⟩ = some (.int .i64 p) ∧ w'.cell? ⟨b2, off2 + j * 2 + 1, none⟩ = some (.int .i64 q)) := Lib.hid fun w' h => by
            have q := KX.out w' h
            exact ⟨q.2.1, q.2.2.2, (h.cell (p := ⟨b, _, none⟩) HBL.out).trans HC1.out, (h.cell (p := ⟨b, _, none⟩) HBL.out).trans HC2.out, (h.cell (p := ⟨b2, _, none⟩) HBL2.out).trans HD1.out, (h.cell (p := ⟨b2, _, none⟩) HBL2.out).trans HD2.out⟩
          clear hel hp1 hp2 hm x0 y0 hn
          have C0 := Below.refl wr.heap.size wr
          have KB : Hid (∀ w', Below wr.heap.size wr w' → Below w2.heap.size w2 w') := Lib.hid fun w' h => HB.out.trans (h.mono HB.out.size)
          have HOWN : Hid (∀ w', Below wr.heap.size wr w' → w'.ownsRow w2.heap.size 34 2 u6 n (flatT (timesUp lx ly k j))) := Lib.hid fun w' h => own8' HN.out (HO.out.below h)
          have HLOW : Hid (∀ q, u6.ownBlock = some q → w2.heap.size ≤ q) := Lib.hid (fun q hq => (HO.out.lt q hq).1)
          have HONE : Hid (∀ u ∈ [Value.int .i64 (c * p), Value.int .i64 (r * q)], u.oneCell' = true) := Lib.hid (by simp [Value.oneCell'])
          have HQ10 : Hid (n + 1 ≤ maxLen) := Lib.hid (by unfold maxLen; omega)
          have HQ11 : Hid ((n + 1) * 16 ≤ 140737488355328) := Lib.hid (by omega)
          go_wp2_with fail
          go_region_held3 (fun w' => w'.cell? ⟨w.heap.size, 1, none⟩ = some (.slice (some ⟨b, off, none⟩) lx.length cx) ∧ w'.cell? ⟨w.heap.size + 1, 1, none⟩ = some (.slice (some ⟨b2, off2, none⟩) ly.length cy) ∧ w'.cell? ⟨b, off + k * 2, none⟩ = some (.int .i64 c) ∧ w'.cell? ⟨b, off + k * 2 + 1, none⟩ = some (.int .i64 r) ∧ w'.cell? ⟨b2, off2 + j * 2, none⟩ = some (.int .i64 p) ∧ w'.cell? ⟨b2, off2 + j * 2 + 1, none⟩ = some (.int .i64 q))
            (first | exact KK.out _ (KB.out _ (by (first | exact C0 | exact C0.drew | exact C0.alloc (Nat.le_refl _) _ | exact (C0.drew).alloc (Nat.le_refl _) _ | exact (C0.alloc (Nat.le_refl _) _).drew | exact ((C0.drew).alloc (Nat.le_refl _) _).drew))) | exact KK.out _ BG | exact KK.out _ BG.drew)
            ((refine step_append_lies _ (by rfl) _ _ _ (by rfl) w2.heap.size 34 i0 (.agg #[.int .i64 0, .int .i64 0]) 2 16 und22 hi hz0 hz1 hz2 (by rfl) (by decide) u6 n (flatT (timesUp lx ly k j)) (by rfl) (HOWN.out _ (by (first | exact C0 | exact C0.drew | exact C0.alloc (Nat.le_refl _) _ | exact (C0.drew).alloc (Nat.le_refl _) _ | exact (C0.alloc (Nat.le_refl _) _).drew | exact ((C0.drew).alloc (Nat.le_refl _) _).drew))) ⟨wr.heap.size, 0, none⟩ 1 1 [Value.int .i64 (c * p), Value.int .i64 (r * q)] (by rfl) (by rfl) (fun j u h => cell_two_new _ _ _ _ j u h) HONE.out (by decide) HQ10.out HQ11.out (Below.size (KB.out _ (by (first | exact C0 | exact C0.drew | exact C0.alloc (Nat.le_refl _) _ | exact (C0.drew).alloc (Nat.le_refl _) _ | exact (C0.alloc (Nat.le_refl _) _).drew | exact ((C0.drew).alloc (Nat.le_refl _) _).drew)))) (wr.heap.size + 1) (by simp) ?_; intro g8 cap8 w8 hown8 hgrow8 hat8 hlt8; have BG := Below.grown (KB.out _ (by (first | exact C0 | exact C0.drew | exact C0.alloc (Nat.le_refl _) _ | exact (C0.drew).alloc (Nat.le_refl _) _ | exact (C0.alloc (Nat.le_refl _) _).drew | exact ((C0.drew).alloc (Nat.le_refl _) _).drew))) hgrow8 (Below.size (KB.out _ (by (first | exact C0 | exact C0.drew | exact C0.alloc (Nat.le_refl _) _ | exact (C0.drew).alloc (Nat.le_refl _) _ | exact (C0.alloc (Nat.le_refl _) _).drew | exact ((C0.drew).alloc (Nat.le_refl _) _).drew)))) HLOW.out; have HOWN9 := Lib.hid hown8; have HBG := Lib.hid BG; clear hown8 hgrow8 hat8))
          go_wp2
          go_roundw
          case rel => exact ⟨j + 1, by omega, by go_num, Lib.hid (by rw [HSN.out]; refine own9' (by rw [List.length_append, HN.out]) ?_; rw [flatT_snoc]; exact HOWN9.out), HBG⟩
          case measure => simp only [intOf]; omega
        · have HO2 : Hid (OwnT wr w2.heap.size u6 (timesUp lx ly (k + 1) 0)) := Lib.hid (by have := HO.out; rwa [timesUp_k hlt (show j = ly.length by omega)] at this)
          obtain ⟨x0, x1, y0, y1⟩ := KX.out _ HB.out
          clear HO
          go_wp2
          go_roundw
          case rel => exact ⟨k + 1, by omega, by go_num, HO2, HB⟩
          case measure => simp only [intOf]; omega
    · have HO1 : Hid (OwnT wr w2.heap.size u6 (timesL lx ly)) := Lib.hid (by have := HO.out; rwa [show k = lx.length by omega, timesUp_end] at this)
      have hln : (timesL lx ly).length ≤ 16 := by rw [timesL_len]; have := Nat.mul_le_mul hlx hly; omega
      have HT : Hid (TermsAt wr u6 (timesL lx ly)) := Lib.hid (HO1.out.at (by omega))
      obtain ⟨x0, x1, y0, y1⟩ := KX.out _ HB.out
      have HLN := Lib.hid hln
      clear HO hln
      have hmd := mul_den dx dy hdx1 hdx2 hdy1 hdy2
      obtain ⟨hmd1, hmd2⟩ := hmd
      have hw1 : IntKind.i64.wrap (dx * dy) = dx * dy := IntWalk.i64_in _ (by omega)
      go_wp2_with fail
      refine (parts_any (dx * dy) 10000000000000 _ _ _ HT.out (by have := HLN.out; omega) (by omega) (by have := HLN.out; omega) (timesL_pb HVX2.out HVY2.out) (by omega) (by omega) (by omega)).mono ?_
      rintro e w7 ⟨us, hsp, lf, hit, hlf, v, rfl, hta, hbw, hfr⟩
      have e1 := timesL_sp HVX2.out.rts HVY2.out.rts hsp
      rw [e1] at hit
      clear e1 hsp
      have R6 : Hid (Two wr (w.heap.size + 1 + 1) (.int .i64 0) (.slice none 0 0) 24) := Lib.hid (RR2.out.below HB.out RR2.out.lt)
      have HW6 : Hid (Below w.heap.size w wr) := Lib.hid (BB2.out.trans (HB.out.mono BB2.out.size))
      have R7 : Hid (Two w7 (w.heap.size + 1 + 1) (.int .i64 0) (.slice none 0 0) 24) := Lib.hid (R6.out.below hbw R6.out.lt)
      have HW7 : Hid (Below w.heap.size w w7) := Lib.hid (HW6.out.trans (hbw.mono HW6.out.size))
      have HFR : Hid (∀ k, v.ownBlock = some k → w.heap.size + 2 < k) := Lib.hid (fun k hk => by have := hfr k hk; have := R6.out.lt; omega)
      have HTA := Lib.hid hta
      have HP : Hid (mulF dx lx dy ly (finF (dx * dy) lf)) := Lib.hid (by simp only [mulF]; rw [if_pos ⟨HVX.out, HVY.out⟩]; exact ⟨lf, hit, rfl⟩)
      obtain ⟨r, hr⟩ : ∃ r, finF (dx * dy) lf = r := ⟨_, rfl⟩
      rw [hr] at HTA HP
      rw [hr]
      obtain ⟨a7, cap7, rfl, _⟩ := HTA.out.placed
      clear hta hbw hfr hit hr x0 x1 y0 y1
      have r0 := R7.out.c0
      have r1 := R7.out.c1
      have f0 := R7.out.fr (i := 0)
      have f1 := R7.out.fr (i := 1)
      go_wp2
      obtain ⟨d0, d1, d2, hg⟩ := two_after R7.out (.int .i64 r.1) (.slice a7 r.2.1.length cap7) rfl
      refine bodyPost_ret (v := .tuple #[.agg #[.int .i64 r.1, .slice a7 r.2.1.length cap7], .int .i64 r.2.2]) ?_ rfl ?_
      · simp [results, Tryz.results29, go_sem, d0, d1, d2]
      · refine ⟨_, HP.out, _, rfl, HTA.out.kept hg ?_, HW7.out.grown hg HW7.out.size (by intro k hk; cases hk; omega), fun k hk => by have := HFR.out k hk; omega⟩
        cases hv : (Value.slice a7 r.2.1.length cap7).ownBlock with
        | none => exact .inl rfl
        | some k => right; have := HFR.out k hv; simp; omega
end Go.Proofs.YtedpafdfecofnaaGreatDoor

/-! ## S100 -/
namespace Go.Proofs.YtedpafdfecofnaaGreatDoor
open Go.RowKit Go.Maps Go.Shelf Go.Sort
attribute [local go_sem ↓] Go.wp_at_zero Go.wp_at_succ

theorem two_blocks (W : World) (a b c d : Value) : Two ((W.alloc (.cells #[a, b] 34)).alloc (.cells #[c, d] 34)) W.heap.size a b 34 ∧ Two ((W.alloc (.cells #[a, b] 34)).alloc (.cells #[c, d] 34)) (W.heap.size + 1) c d 34 ∧ Below W.heap.size W ((W.alloc (.cells #[a, b] 34)).alloc (.cells #[c, d] 34)) := by
  refine ⟨(Two.new W _ _ 34).alloc _, ?_, ((Below.refl _ _).alloc (Nat.le_refl _) _).alloc (by simp) _⟩
  have := Two.new (W.alloc (.cells #[a, b] 34)) c d 34
  simpa using this
theorem news4 (W : World) (o : Obj) (a b c d : Value) : ∀ j u, [a, b, c, d][j]? = some u → ((W.alloc o).alloc (.cells #[a, b, c, d] 34)).cell? ((⟨W.heap.size + 1, 0, none⟩ : Addr).add j) = some u := by
  have h := Two_alloc_last (W.alloc o) (.cells #[a, b, c, d] 34)
  have e : (W.alloc o).heap.size = W.heap.size + 1 := by simp
  rw [e] at h
  exact World.news_of_block h
set_option maxRecDepth 100000 in
set_option maxHeartbeats 8000000 in
theorem rover_any (dx dy : Int) (vx vy : Value) (lx ly : List (Int × Int)) (w : World) (hx : TermsAt w vx lx) (hy : TermsAt w vy ly) :
    Calls Tryz.prog 30 #[.agg #[.int .i64 dx, vx], .agg #[.int .i64 dy, vy]] w (NumP (quoF dx lx dy ly) w) := by
  obtain ⟨ax, cx, rfl, px⟩ := hx.placed
  obtain ⟨ay, cy, rfl, py⟩ := hy.placed
  have PX := Lib.hid px
  have PY := Lib.hid py
  have HX := Lib.hid hx
  have HY := Lib.hid hy
  clear hx hy px py
  go_enter Tryz.func30, Tryz.ntmps30
  go_wp2_with fail
  refine (number_any dx _ lx _ (((HX.out.alloc _).alloc _).alloc _)).mono ?_
  rintro e w1 ⟨rfl, hb⟩
  have X1 : Two w1 w.heap.size (.int .i64 dx) (.slice ax lx.length cx) 24 := (((Two.new w (.int .i64 dx) (.slice ax lx.length cx) 24).alloc _).alloc _).below hb (by simp; omega)
  have Y1 : Two w1 (w.heap.size + 1) (.int .i64 dy) (.slice ay ly.length cy) 24 := by
    have := ((Two.new (w.alloc (.cells #[.int .i64 dx, .slice ax lx.length cx] 24)) (.int .i64 dy) (.slice ay ly.length cy) 24).alloc (.cells #[.int .i64 0, .slice none 0 0] 24)).below hb (by simp)
    simpa using this
  have R1 : Two w1 (w.heap.size + 1 + 1) (.int .i64 0) (.slice none 0 0) 24 := by
    have := (Two.new ((w.alloc (.cells #[.int .i64 dx, .slice ax lx.length cx] 24)).alloc (.cells #[.int .i64 dy, .slice ay ly.length cy] 24)) (.int .i64 0) (.slice none 0 0) 24).below hb (by simp)
    simpa [Nat.add_assoc] using this
  have B1 : Below w.heap.size w w1 := ((((Below.refl _ _).alloc (Nat.le_refl _) _).alloc (by simp) _).alloc (by simp; omega) _).trans (hb.mono (by simp; omega))
  have XX := Lib.hid X1
  have YY := Lib.hid Y1
  have RR := Lib.hid R1
  have BB := Lib.hid B1
  have x0 := X1.c0
  have x1 := X1.c1
  have y0 := Y1.c0
  have y1 := Y1.c1
  have r0 := R1.c0
  have r1 := R1.c1
  have f0 := R1.fr (i := 0)
  have f1 := R1.fr (i := 1)
  clear hb X1 Y1 R1 B1
  cases hvx : validF dx lx
  · have HP : Hid (quoF dx lx dy ly (0, [], 2)) := Lib.hid (by simp [quoF, hvx])
    clear hvx
    go_wp2
    obtain ⟨d0, d1, d2, hg⟩ := two_after RR.out (.int .i64 0) (.slice none 0 0) rfl
    refine bodyPost_ret (v := .tuple #[.agg #[.int .i64 0, .slice none 0 0], .int .i64 2]) ?_ rfl ?_
    · simp [results, Tryz.results30, go_sem, d0, d1, d2]
    · exact ⟨_, HP.out, _, rfl, termsAt_nil _, BB.out.grown hg BB.out.size (by intro k hk; cases hk; omega), fun k hk => by cases hk⟩
  have HVX := Lib.hid hvx
  clear hvx
  go_wp2_with fail
  refine (number_any dy _ ly _ (HY.out.below BB.out)).mono ?_
  rintro e w2 ⟨rfl, hb⟩
  have X2 := XX.out.below hb XX.out.lt
  have Y2 := YY.out.below hb YY.out.lt
  have R2 := RR.out.below hb RR.out.lt
  have B2 := BB.out.trans (hb.mono BB.out.size)
  have XX2 := Lib.hid X2
  have YY2 := Lib.hid Y2
  have RR2 := Lib.hid R2
  have BB2 := Lib.hid B2
  clear x0 x1 y0 y1 r0 r1 f0 f1 XX YY RR
  have x0 := X2.c0
  have x1 := X2.c1
  have y0 := Y2.c0
  have y1 := Y2.c1
  have r0 := R2.c0
  have r1 := R2.c1
  have f0 := R2.fr (i := 0)
  have f1 := R2.fr (i := 1)
  clear hb X2 Y2 R2 B2
  cases hvy : validF dy ly
  · have HP : Hid (quoF dx lx dy ly (0, [], 2)) := Lib.hid (by simp [quoF, hvy])
    clear hvy
    go_wp2
    obtain ⟨d0, d1, d2, hg⟩ := two_after RR2.out (.int .i64 0) (.slice none 0 0) rfl
    refine bodyPost_ret (v := .tuple #[.agg #[.int .i64 0, .slice none 0 0], .int .i64 2]) ?_ rfl ?_
    · simp [results, Tryz.results30, go_sem, d0, d1, d2]
    · exact ⟨_, HP.out, _, rfl, termsAt_nil _, BB2.out.grown hg BB2.out.size (by intro k hk; cases hk; omega), fun k hk => by cases hk⟩
  have HVY := Lib.hid hvy
  have VX := vld_of HVX.out
  have VY := vld_of hvy
  have HLX := Lib.hid VX.len
  have HLY := Lib.hid VY.len
  have hlx := VX.len
  have hly := VY.len
  have hdx1 := VX.d1
  have hdx2 := VX.d2
  have hdy1 := VY.d1
  have hdy2 := VY.d2
  have HVX2 := Lib.hid VX
  have HVY2 := Lib.hid VY
  have hsz2 : w.heap.size + 2 < w2.heap.size := RR2.out.lt
  obtain ⟨i0, hi, hz0, hz1, hz2⟩ := info_parts info34
  clear hvy VX VY BB
  by_cases h0 : ly.length = 0
  · have HP : Hid (quoF dx lx dy ly (0, [], 7)) := Lib.hid (by unfold quoF; rw [if_pos ⟨HVX.out, HVY.out⟩, if_pos h0])
    go_wp2
    obtain ⟨d0, d1, d2, hg⟩ := two_after RR2.out (.int .i64 0) (.slice none 0 0) rfl
    refine bodyPost_ret (v := .tuple #[.agg #[.int .i64 0, .slice none 0 0], .int .i64 7]) ?_ rfl ?_
    · simp [results, Tryz.results30, go_sem, d0, d1, d2]
    · exact ⟨_, HP.out, _, rfl, termsAt_nil _, BB2.out.grown hg BB2.out.size (by intro k hk; cases hk; omega), fun k hk => by cases hk⟩
  by_cases h2 : 2 < ly.length
  · have HP : Hid (quoF dx lx dy ly (0, [], 11)) := Lib.hid (by unfold quoF; rw [if_pos ⟨HVX.out, HVY.out⟩, if_neg h0, if_pos h2])
    go_wp2
    obtain ⟨d0, d1, d2, hg⟩ := two_after RR2.out (.int .i64 0) (.slice none 0 0) rfl
    refine bodyPost_ret (v := .tuple #[.agg #[.int .i64 0, .slice none 0 0], .int .i64 11]) ?_ rfl ?_
    · simp [results, Tryz.results30, go_sem, d0, d1, d2]
    · exact ⟨_, HP.out, _, rfl, termsAt_nil _, BB2.out.grown hg BB2.out.size (by intro k hk; cases hk; omega), fun k hk => by cases hk⟩
  obtain ⟨b2, off2, rfl, hbl2, hp1, hp2⟩ := PY.out 0 (by omega)
  simp only [Nat.zero_mul, Nat.add_zero] at hp1 hp2
  replace hp1 := (BB2.out.cell (p := ⟨b2, _, none⟩) hbl2).trans hp1
  replace hp2 := (BB2.out.cell (p := ⟨b2, _, none⟩) hbl2).trans hp2
  have HA : Hid (ly[0]?.getD (0, 0) = terA ly) := Lib.hid rfl
  have hbd := over_bd HVY2.out h0 (by omega)
  have HBD := Lib.hid hbd
  have HCO := Lib.hid (over_coef dy lx ly h0 (by omega))
  have HDN := Lib.hid (over_den ly h0 (by omega))
  have HPB := Lib.hid (overL_pb (a := terA ly) (b := terB ly) HVX2.out hdy1 hdy2 hbd.1.1 hbd.1.2.1 hbd.2.1 hbd.2.2.1)
  have HNB := Lib.hid (normL_bd ly (by omega) (fun t ht => vld_pt HVY2.out t ht))
  have HNN := Lib.hid (normL_ne dy ly (by omega) (by intro e; rw [e] at h0; exact h0 rfl) HVY2.out)
  rw [HA.out] at hp1 hp2
  obtain ⟨a1, a2, hta⟩ : ∃ a1 a2, terA ly = (a1, a2) := ⟨_, _, rfl⟩
  rw [hta] at hp1 hp2 hbd
  dsimp only at hp1 hp2 hbd
  have HTA := Lib.hid hta
  have hsz3 : b2 < w2.heap.size := by omega
  clear hta
  have hz8 : w.heap.size < w2.heap.size := by omega
  have hz9 : w.heap.size + 1 < w2.heap.size := by omega
  have hz10 : w.heap.size + 1 + 1 < w2.heap.size := by omega
  go_upto_if 38 with fail
  go_cut [8] (fun _ wx => ∃ p q, Hid (terB ly = (p, q)) ∧ Hid (Two wx w2.heap.size (.int .i64 a1) (.int .i64 a2) 34) ∧ Hid (Two wx (w2.heap.size + 1) (.int .i64 p) (.int .i64 q) 34) ∧ Hid (Below w2.heap.size w2 wx))
  case first =>
    obtain ⟨TA, TB, TC⟩ := two_blocks w2 (.int .i64 a1) (.int .i64 a2) (.int .i64 0) (.int .i64 1)
    have HTA2 := Lib.hid TA
    have HTB2 := Lib.hid TB
    have HTC2 := Lib.hid TC
    clear TA TB TC
    by_cases hl2 : ly.length = 2
    · obtain ⟨b3, off3, he, hbl3, hq1, hq2⟩ := PY.out 1 (by omega)
      cases he
      replace hq1 := (BB2.out.cell (p := ⟨b2, _, none⟩) hbl2).trans hq1
      replace hq2 := (BB2.out.cell (p := ⟨b2, _, none⟩) hbl2).trans hq2
      have HB : Hid (ly[1]?.getD (0, 0) = terB ly) := Lib.hid (by simp [terB, hl2])
      rw [HB.out] at hq1 hq2
      obtain ⟨p, q, htb⟩ : ∃ p q, terB ly = (p, q) := ⟨_, _, rfl⟩
      rw [htb] at hq1 hq2
      dsimp only at hq1 hq2
      simp only [Nat.one_mul] at hq1 hq2
      have hq3 : w2.cell? ⟨b2, off2 + 3, none⟩ = some (.int .i64 q) := hq2
      have HTB := Lib.hid htb
      have HL2 : (ly.length : Int) = 2 := by omega
      have j1 : (1 : Int) < (ly.length : Int) := by omega
      have hh : ((ly.length : Int) == 2) = true := by simpa using HL2
      clear htb HL2 hl2
      go_wp2_with fail
      go_meet
      obtain ⟨t1, t2, t3⟩ := two_blocks w2 (.int .i64 a1) (.int .i64 a2) (.int .i64 p) (.int .i64 q)
      exact ⟨p, q, HTB, Lib.hid t1, Lib.hid t2, Lib.hid t3⟩
    · have HTB : Hid (terB ly = (0, 1)) := Lib.hid (by
        have : ly.length = 1 := by omega
        simp [terB, this])
      have hh : ((ly.length : Int) == 2) = false := by simp; omega
      go_wp2_with fail
      go_meet
      exact ⟨0, 1, HTB, HTA2, HTB2, HTC2⟩
  case rest KK0 hKK0 =>
    obtain ⟨p, q, HTB, TA3, TB3, HB3⟩ := hcut
    obtain ⟨w3, hw3⟩ : ∃ W, W = wc := ⟨wc, rfl⟩
    subst hw3
    have HSZ : Hid (w2.heap.size + 1 < w3.heap.size) := Lib.hid TB3.out.lt
    have KX : Hid (∀ w', Below w3.heap.size w3 w' → w'.cell? ⟨w.heap.size, 0, none⟩ = some (.int .i64 dx) ∧ w'.cell? ⟨w.heap.size, 1, none⟩ = some (.slice ax lx.length cx) ∧ w'.cell? ⟨w.heap.size + 1, 0, none⟩ = some (.int .i64 dy) ∧ w'.cell? ⟨w2.heap.size, 0, none⟩ = some (.int .i64 a1) ∧ w'.cell? ⟨w2.heap.size, 1, none⟩ = some (.int .i64 a2) ∧ w'.cell? ⟨w2.heap.size + 1, 0, none⟩ = some (.int .i64 p) ∧ w'.cell? ⟨w2.heap.size + 1, 1, none⟩ = some (.int .i64 q)) := Lib.hid fun w' h => by
      have x3 := XX2.out.below HB3.out XX2.out.lt
      have y3 := YY2.out.below HB3.out YY2.out.lt
      have a := x3.below h x3.lt
      have b := y3.below h y3.lt
      have c := TA3.out.below h TA3.out.lt
      have d := TB3.out.below h TB3.out.lt
      exact ⟨a.c0, a.c1, b.c0, c.c0, c.c1, d.c0, d.c1⟩
    have hbq := hbd.2
    rw [HTB.out] at hbq
    dsimp only at hbq
    obtain ⟨⟨⟨a3, a4⟩, ⟨a5, a6⟩, a7⟩, _⟩ := hbd
    obtain ⟨⟨b3, b4⟩, ⟨b5, b6⟩, b7⟩ := hbq
    have HRA := Lib.hid a7
    have HRB := Lib.hid b7
    clear x0 x1 y0 y1 r0 r1 f0 f1 hp1 hp2 a7 b7
    refine hKK0 _ _ ?_
    go_wp2
    go_loopw [8, 9] (fun v i wr => ∃ k : Nat, k ≤ lx.length ∧ i = .int .i64 k ∧ Hid (OwnT wr w3.heap.size v (overL dy (a1, a2) (p, q) (lx.take k))) ∧ Hid (Below w3.heap.size w3 wr)) (fun _ i _ => lx.length - (intOf i).toNat)
    case atStart => exact ⟨0, Nat.zero_le _, rfl, Lib.hid (empty_own w3), Lib.hid ((Below.refl _ _).alloc (Nat.le_refl _) _)⟩
    case round =>
      obtain ⟨k, hk, rfl, HO, HB⟩ := hrel
      have hsw : w3.heap.size ≤ wr.heap.size := HB.out.size
      have s1 : w.heap.size < wr.heap.size := by have := HSZ.out; omega
      have s2 : w.heap.size + 1 < wr.heap.size := by have := HSZ.out; omega
      have s3 : w2.heap.size < wr.heap.size := by have := HSZ.out; omega
      have s4 : w2.heap.size + 1 < wr.heap.size := by have := HSZ.out; omega
      by_cases hlt : k < lx.length
      · obtain ⟨b, off, rfl, hbl, hp1, hp2⟩ := PX.out k hlt
        obtain ⟨x0, x1, y0, c0, c1, d0, d1⟩ := KX.out _ HB.out
        have hq3 : b < w3.heap.size := by have := HSZ.out; omega
        have hc1 := (HB.out.cell (p := ⟨b, _, none⟩) hq3).trans ((HB3.out.cell (p := ⟨b, _, none⟩) (show b < w2.heap.size by omega)).trans ((BB2.out.cell (p := ⟨b, _, none⟩) hbl).trans hp1))
        have hc2 := (HB.out.cell (p := ⟨b, _, none⟩) hq3).trans ((HB3.out.cell (p := ⟨b, _, none⟩) (show b < w2.heap.size by omega)).trans ((BB2.out.cell (p := ⟨b, _, none⟩) hbl).trans hp2))
        have hpt := vld_pt HVX2.out (lx[k]?.getD (0, 0)) (by simp [hlt])
        obtain ⟨c, r, hel⟩ : ∃ c r, lx[k]?.getD (0, 0) = (c, r) := ⟨_, _, rfl⟩
        rw [hel] at hc1 hc2 hpt
        dsimp only at hc1 hc2 hpt
        obtain ⟨⟨p1, p2⟩, p3, p4⟩ := hpt
        have HSN := Lib.hid (over_snoc (dy := dy) (a := (a1, a2)) (b := (p, q)) hlt hel)
        have HN : Hid ((overL dy (a1, a2) (p, q) (lx.take k)).length = 2 * k) := Lib.hid (by rw [overL_len]; simp; omega)
        have m1 := over_pt p1 p2 a3 a4 hdy1 hdy2
        have m2 := over_pt (t := -c) (by omega) (by omega) b3 b4 hdy1 hdy2
        have m3 := (times_pt p1 p2 a3 a4 p3 p4 a5 a6).2
        have m4 := (times_pt p1 p2 b3 b4 p3 p4 b5 b6).2
        have hw1 : IntKind.i64.wrap (c * a1) = c * a1 := IntWalk.i64_in _ (by omega)
        have hw2 : IntKind.i64.wrap (c * a1 * dy) = c * a1 * dy := IntWalk.i64_in _ (by omega)
        have hw3 : IntKind.i64.wrap (r * a2) = r * a2 := IntWalk.i64_in _ (by omega)
        have hw4 : IntKind.i64.wrap (-c * p) = -c * p := IntWalk.i64_in _ (by omega)
        have hw5 : IntKind.i64.wrap (-c * p * dy) = -c * p * dy := IntWalk.i64_in _ (by omega)
        have hw6 : IntKind.i64.wrap (r * q) = r * q := IntWalk.i64_in _ (by omega)
        have i1 : (0 : Int) ≤ (k : Int) := by omega
        have i2 : (k : Int) < (lx.length : Int) := by omega
        have HOWN : Hid (∀ o1 o2, ((wr.alloc o1).alloc o2).ownsRow w3.heap.size 34 2 u8 (2 * k) (flatT (overL dy (a1, a2) (p, q) (lx.take k)))) := Lib.hid (fun o1 o2 => World.ownsRow.alloc (World.ownsRow.alloc (own8' HN.out HO.out) _) _)
        have HLOW : Hid (∀ z, u8.ownBlock = some z → w3.heap.size ≤ z) := Lib.hid (fun z hz => (HO.out.lt z hz).1)
        clear hel hp1 hp2 m1 m2 m3 m4
        go_wp2_with (first | (at_builtin; refine wpList_append_own _ rfl _ _ 22 rfl w3.heap.size 34 i0 (.agg #[.int .i64 0, .int .i64 0]) 2 16 und22 hi hz0 hz1 hz2 rfl (by decide) u8 (2 * k) (flatT (overL dy (a1, a2) (p, q) (lx.take k))) rfl (HOWN.out _ _) ⟨wr.heap.size + 1, 0, none⟩ 2 2 [.int .i64 (c * a1 * dy), .int .i64 (r * a2), .int .i64 (-c * p * dy), .int .i64 (r * q)] rfl rfl (news4 _ _ _ _ _ _) (by simp [Value.oneCell']) (by unfold maxLen; omega) (by omega) (by simp; omega) ?_; intro v' w8 hown2 hgrow2 _; obtain ⟨g', cap', rfl⟩ := ownsRow_succ hown2; have HOW2 := Lib.hid hown2; have HGW2 := Lib.hid hgrow2; clear hown2 hgrow2))
        go_roundw
        case rel =>
          refine ⟨k + 1, by omega, by go_num, Lib.hid ?_, Lib.hid ?_⟩
          · rw [HSN.out]
            refine own9' (n := 2 * k + 2) (by rw [List.length_append, HN.out]; rfl) ?_
            have h2 := HOW2.out
            rw [show flatT (overL dy (a1, a2) (p, q) (lx.take k) ++ [(c * a1 * dy, r * a2), (-c * p * dy, r * q)]) = flatT (overL dy (a1, a2) (p, q) (lx.take k)) ++ [.int .i64 (c * a1 * dy), .int .i64 (r * a2), .int .i64 (-c * p * dy), .int .i64 (r * q)] by simp [flatT]]
            exact h2
          · exact ((HB.out.alloc HB.out.size _).alloc (by have := HB.out.size; simp; omega) _).grown HGW2.out (by have := HB.out.size; simp; omega) (fun z hz => HLOW.out z hz)
        case measure => simp only [intOf]; omega
      · have HO1 : Hid (OwnT wr w3.heap.size u8 (overL dy (a1, a2) (p, q) lx)) := Lib.hid (by have := HO.out; rwa [show k = lx.length by omega, List.take_length] at this)
        have hln : (overL dy (a1, a2) (p, q) lx).length ≤ 8 := by rw [overL_len]; omega
        have HT : Hid (TermsAt wr u8 (overL dy (a1, a2) (p, q) lx)) := Lib.hid (HO1.out.at (by omega))
        obtain ⟨x0, x1, y0, c0, c1, e0, e1⟩ := KX.out _ HB.out
        have HLN := Lib.hid hln
        have hd := HDN.out
        rw [HTA.out, HTB.out] at hd
        dsimp only at hd
        have HDE := Lib.hid hd
        have HPB2 : Hid (PB (overL dy (a1, a2) (p, q) lx) 1000000000000000000) := Lib.hid (by have := HPB.out; rwa [HTA.out, HTB.out] at this)
        have HCO2 : Hid (plusC zeroC 1 (prodL lx (conjD dy (a1, a2) (p, q))) = plusC zeroC dy (prodL lx (conjL ly))) := Lib.hid (by have := HCO.out; rwa [HTA.out, HTB.out] at this)
        have m1 := sq_bd2 (a1, a2) ⟨⟨a3, a4⟩, a5, a6⟩
        have m2 := sq_bd2 (p, q) ⟨⟨b3, b4⟩, b5, b6⟩
        dsimp only at m1 m2
        have m3 := mulab_bd (a := dx) (b := a1 * a1 * a2 - p * p * q) (A := 100000) (B := 10000000000000) (by omega) (by omega) (by omega) (by omega) (by omega) (by omega)
        have HNZ : Hid (dx * (a1 * a1 * a2 - p * p * q) ≠ 0) := Lib.hid (by rw [hd]; exact Int.mul_ne_zero (by omega) HNN.out)
        have hw1 : IntKind.i64.wrap (a1 * a1) = a1 * a1 := IntWalk.i64_in _ (by omega)
        have hw2 : IntKind.i64.wrap (a1 * a1 * a2) = a1 * a1 * a2 := IntWalk.i64_in _ (by omega)
        have hw3 : IntKind.i64.wrap (p * p) = p * p := IntWalk.i64_in _ (by omega)
        have hw4 : IntKind.i64.wrap (p * p * q) = p * p * q := IntWalk.i64_in _ (by omega)
        have hw5 : IntKind.i64.wrap (a1 * a1 * a2 - p * p * q) = a1 * a1 * a2 - p * p * q := IntWalk.i64_in _ (by omega)
        have hw6 : IntKind.i64.wrap (dx * (a1 * a1 * a2 - p * p * q)) = dx * (a1 * a1 * a2 - p * p * q) := IntWalk.i64_in _ (by omega)
        have HB0 : Hid (Below w2.heap.size w2 wr) := Lib.hid (HB3.out.trans (HB.out.mono (by have := HB3.out.size; omega)))
        have HM3 := Lib.hid m3
        clear HO hln hd m1 m2 m3 HB
        have HB := HB0
        go_wp2_with fail
        refine (parts_any (dx * (a1 * a1 * a2 - p * p * q)) 1000000000000000000 _ _ _ HT.out (by have := HLN.out; omega) (by omega) (by have := HLN.out; omega) HPB2.out (by have := HM3.out; omega) (by have := HM3.out; omega) HNZ.out).mono ?_
        rintro e w7 ⟨us, hsp, lf, hit, hlf, v, rfl, hta, hbw, hfr⟩
        have e2 := overL_sp HVX2.out.rts HRA.out HRB.out hsp
        rw [e2, HCO2.out] at hit
        clear e2 hsp c0 c1 e0 e1
        have y1 := x0
        have R6 : Hid (Two wr (w.heap.size + 1 + 1) (.int .i64 0) (.slice none 0 0) 24) := Lib.hid (RR2.out.below HB.out RR2.out.lt)
        have HW6 : Hid (Below w.heap.size w wr) := Lib.hid (BB2.out.trans (HB.out.mono BB2.out.size))
        have R7 : Hid (Two w7 (w.heap.size + 1 + 1) (.int .i64 0) (.slice none 0 0) 24) := Lib.hid (R6.out.below hbw R6.out.lt)
        have HW7 : Hid (Below w.heap.size w w7) := Lib.hid (HW6.out.trans (hbw.mono HW6.out.size))
        have HFR : Hid (∀ k, v.ownBlock = some k → w.heap.size + 2 < k) := Lib.hid (fun k hk => by have := hfr k hk; have := R6.out.lt; omega)
        have HTA := Lib.hid hta
        have HP : Hid (quoF dx lx dy ly (finF (dx * (a1 * a1 * a2 - p * p * q)) lf)) := Lib.hid (by simp only [quoF]; rw [if_pos ⟨HVX.out, HVY.out⟩, if_neg (by omega), if_neg (by omega)]; exact ⟨lf, hit, by rw [HDE.out]⟩)
        obtain ⟨r, hr⟩ : ∃ r, finF (dx * (a1 * a1 * a2 - p * p * q)) lf = r := ⟨_, rfl⟩
        rw [hr] at HTA HP
        rw [hr]
        obtain ⟨a7, cap7, rfl, _⟩ := HTA.out.placed
        clear hta hbw hfr hit hr x0 x1 y0 y1
        have r0 := R7.out.c0
        have r1 := R7.out.c1
        have f0 := R7.out.fr (i := 0)
        have f1 := R7.out.fr (i := 1)
        go_wp2
        obtain ⟨d0, d1, d2, hg⟩ := two_after R7.out (.int .i64 r.1) (.slice a7 r.2.1.length cap7) rfl
        refine bodyPost_ret (v := .tuple #[.agg #[.int .i64 r.1, .slice a7 r.2.1.length cap7], .int .i64 r.2.2]) ?_ rfl ?_
        · simp [results, Tryz.results30, go_sem, d0, d1, d2]
        · refine ⟨_, HP.out, _, rfl, HTA.out.kept hg ?_, HW7.out.grown hg HW7.out.size (by intro k hk; cases hk; omega), fun k hk => by have := HFR.out k hk; omega⟩
          cases hv : (Value.slice a7 r.2.1.length cap7).ownBlock with
          | none => exact .inl rfl
          | some k => right; have := HFR.out k hv; simp; omega
end Go.Proofs.YtedpafdfecofnaaGreatDoor
