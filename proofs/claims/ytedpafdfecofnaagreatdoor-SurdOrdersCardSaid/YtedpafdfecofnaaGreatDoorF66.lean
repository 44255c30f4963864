/-
  Contracts of the program's own functions (and their plain mathematics), on the way to the law: each for all arguments that its hypotheses let.
-/
import Derived.Test.YtedpafdfecofnaaGreatDoorF12
import Derived.Test.YtedpafdfecofnaaGreatDoorF64
import Derived.WalkKit
import Derived.WalkSpells
import Derived.WalkLawsBesides
import Derived.Deep.QuietTactic
import Derived.BigQuiet
import Derived.Lib.Hide
import Derived.WalkSmall
import Derived.Maps.OwnSet
import Derived.Maps.RangeWalk
import Derived.Deep.RegionWith
import Derived.Deep.RegionHeld3
import Derived.Deep.DrawnRows
import Derived.Deep.DeepCutAuto
import Derived.OneCell
import Derived.KernelRfl
import Derived.Laws.StructEq
import Derived.StillTailTactics
import Derived.Laws.Externs
import Derived.RangeFuncBox
import Derived.Test.YtedpafdfecofnaaGreatDoorPlain
set_option linter.unusedSimpArgs false
set_option linter.unusedVariables false

/-! ## D17 -/
namespace Go.Proofs.YtedpafdfecofnaaGreatDoor
open Go.RowKit Go.Maps Go.Shelf Go.Sort
theorem Below.chain2 {W a b : World} (h : Below W.heap.size W a) (g : Below a.heap.size a b) : Below W.heap.size W b := h.trans (g.mono h.size)
def Boxes (w : World) (b c : Nat) (dx : Int) (vx : Value) (lx : List (Int × Int)) (dy : Int) (vy : Value) (ly : List (Int × Int)) : Prop :=
  Two w b (.int .i64 dx) vx 24 ∧ TermsAt w vx lx ∧ Two w c (.int .i64 dy) vy 24 ∧ TermsAt w vy ly
theorem boxes_below {w w' : World} {b c : Nat} {dx : Int} {vx : Value} {lx : List (Int × Int)} {dy : Int} {vy : Value} {ly : List (Int × Int)} (h : Boxes w b c dx vx lx dy vy ly) (hb : Below w.heap.size w w') : Boxes w' b c dx vx lx dy vy ly :=
  ⟨h.1.below hb h.1.lt, h.2.1.below hb, h.2.2.1.below hb h.2.2.1.lt, h.2.2.2.below hb⟩
def CmpQ (dx : Int) (lx : List (Int × Int)) (dy : Int) (ly : List (Int × Int)) (m f : Int) : Prop :=
  (validF dx lx = true → validF dy ly = true → f = 0 ∧ CmpN dx lx dy ly m) ∧ (¬ (validF dx lx = true ∧ validF dy ly = true) → m = 0 ∧ f = 2)
def CmpW (dx : Int) (lx : List (Int × Int)) (dy : Int) (ly : List (Int × Int)) (w : World) (e : Ending) (w' : World) : Prop := ∃ m f, CmpQ dx lx dy ly m f ∧ e = .returned (.tuple #[.int .i64 m, .int .i64 f]) ∧ Below w.heap.size w w'
theorem cmpw_call (dx dy : Int) (lx ly : List (Int × Int)) (v1 v2 : Value) (w : World) (hx : TermsAt w v1 lx) (hy : TermsAt w v2 ly) :
    Calls Tryz.prog 34 #[.agg #[.int .i64 dx, v1], .agg #[.int .i64 dy, v2]] w (CmpW dx lx dy ly w) :=
  (compareN_any dx dy v1 v2 lx ly w hx hy).mono fun e w' h => by
    unfold CmpTo at h
    by_cases hv : validF dx lx = true ∧ validF dy ly = true
    · rw [if_pos hv] at h
      obtain ⟨⟨ts, hc, he⟩, hb⟩ := h
      exact ⟨_, 0, ⟨fun _ _ => ⟨rfl, ts, hc, rfl⟩, fun h => absurd hv h⟩, he, hb⟩
    · rw [if_neg hv] at h
      exact ⟨0, 2, ⟨fun h1 h2 => absurd ⟨h1, h2⟩ hv, fun _ => ⟨rfl, rfl⟩⟩, h.1, h.2⟩
def C2Mid (P : Int → Int → Prop) (W : World) (p q : Value) (w' : World) : Prop := ∃ m f, p = .int .i64 m ∧ q = .int .i64 f ∧ P m f ∧ Below W.heap.size W w'
def Int1To (n : Int) (w : World) (e : Ending) (w' : World) : Prop := e = .returned (.int .i64 n) ∧ Below w.heap.size w w'
theorem rsign_vld {d : Int} {l : List (Int × Int)} (V : Vld d l) (v : Value) (w : World) (ht : TermsAt w v l) : Calls Tryz.prog 36 #[v] w (Int1To (sgnZ l) w) := by
  have hl := V.len
  have hb : BdL 100000 l := fun t ht => ⟨(V.cf t ht).1, (V.cf t ht).2.1⟩
  have habs : absS l ≤ ((1099511627776 : Nat) : Int) := by
    have h1 := absS_bd l hb (by decide)
    have h2 : (100000 : Int) * (l.length : Int) ≤ 100000 * 4 := Int.mul_le_mul_of_nonneg_left (by omega) (by decide)
    omega
  refine (rsign_any l v w ht (by omega) (Lib.hid fun t ht => ?_) (Lib.hid (far_of 7 1099511627776 50 (by decide) (by omega) (vld_fine V).nd (vld_rt V) habs (by decide) (by decide)))).mono ?_
  · have h1 := hb t ht
    have h2 := vld_rt V t ht
    exact ⟨by omega, h2.1.1, h2.2⟩
  · rintro e w' ⟨n, rfl, hs, hb⟩
    obtain rfl : n = sgnZ l := hs.uniq (sign_sg V)
    exact ⟨rfl, hb⟩
set_option maxRecDepth 100000 in
set_option maxHeartbeats 16000000 in
theorem orders_walk (hk : Hid KnownT) (dx dy : Int) (vx vy : Value) (lx ly : List (Int × Int)) (w : World) (hx : TermsAt w vx lx) (hy : TermsAt w vy ly) (hw : WOk w) :
    Calls Tryz.prog 7 #[.agg #[.int .i64 dx, vx], .agg #[.int .i64 dy, vy]] w (AnsB true w) := by
  obtain ⟨ax, cx, rfl, _⟩ := hx.placed
  obtain ⟨ay, cy, rfl, _⟩ := hy.placed
  have hB : Below w.heap.size w ((w.alloc (.cells #[.int .i64 dx, .slice ax lx.length cx] 24)).alloc (.cells #[.int .i64 dy, .slice ay ly.length cy] 24)) := ((Below.refl _ w).alloc (Nat.le_refl _) _).alloc (by simp) _
  obtain ⟨W, hW⟩ : ∃ W, (w.alloc (.cells #[.int .i64 dx, .slice ax lx.length cx] 24)).alloc (.cells #[.int .i64 dy, .slice ay ly.length cy] 24) = W := ⟨_, rfl⟩
  have hX : Two W w.heap.size (.int .i64 dx) (.slice ax lx.length cx) 24 := by rw [← hW]; exact (Two.new _ _ _ _).alloc _
  have hY : Two W (w.heap.size + 1) (.int .i64 dy) (.slice ay ly.length cy) 24 := by rw [← hW]; exact two_at _ _ _ _ _ (by simp)
  rw [hW] at hB
  have P0 : Hid (Boxes W w.heap.size (w.heap.size + 1) dx (.slice ax lx.length cx) lx dy (.slice ay ly.length cy) ly) := Lib.hid ⟨hX, hx.below hB, hY, hy.below hB⟩
  have B0 := Lib.hid hB
  have HWW := Lib.hid hW
  have HW := Lib.hid hw
  clear hx hy hB hX hY hW hw
  go_enter Tryz.func7, Tryz.ntmps7
  go_wp2_with fail
  rw [HWW.out]
  refine (long_any dx _ lx _ P0.out.2.1).mono ?_
  rintro e w1 ⟨rfl, hb⟩
  have B1 := Lib.hid (B0.out.trans (hb.mono B0.out.size))
  have P1 := Lib.hid (boxes_below P0.out hb)
  clear hb B0 P0
  by_cases hlong : 8 < lx.length
  · have e : decide (8 < lx.length) = true := decide_eq_true hlong
    rw [e]
    clear e
    have HBn := B1
    go_wp2_with fail
    refine (hk.out _ (HW.out.below HBn.out)).mono ?_
    rintro e wk ⟨rfl, hbk⟩
    have HBk := Lib.hid (HBn.out.trans (hbk.mono HBn.out.size))
    clear hbk
    go_wp2
    go_ret
    exact ⟨rfl, HBk.out⟩
  have e : decide (8 < lx.length) = false := decide_eq_false hlong
  rw [e]
  clear e
  have c0 := P1.out.1.c0
  have c1 := P1.out.1.c1
  have d0 := P1.out.2.2.1.c0
  have d1 := P1.out.2.2.1.c1
  have z0 := P1.out.1.lt
  have z1 := P1.out.2.2.1.lt
  go_wp2_with fail
  refine (long_any dy _ ly _ P1.out.2.2.2).mono ?_
  rintro e w2 ⟨rfl, hb⟩
  clear c0 c1 d0 d1 z0 z1
  have B2 := Lib.hid (B1.out.trans (hb.mono B1.out.size))
  have P2 := Lib.hid (boxes_below P1.out hb)
  clear hb B1 P1
  by_cases hlong2 : 8 < ly.length
  · have e : decide (8 < ly.length) = true := decide_eq_true hlong2
    rw [e]
    clear e
    have HBn := B2
    go_wp2_with fail
    refine (hk.out _ (HW.out.below HBn.out)).mono ?_
    rintro e wk ⟨rfl, hbk⟩
    have HBk := Lib.hid (HBn.out.trans (hbk.mono HBn.out.size))
    clear hbk
    go_wp2
    go_ret
    exact ⟨rfl, HBk.out⟩
  have e : decide (8 < ly.length) = false := decide_eq_false hlong2
  rw [e]
  clear e
  have c0 := P2.out.1.c0
  have c1 := P2.out.1.c1
  have d0 := P2.out.2.2.1.c0
  have d1 := P2.out.2.2.1.c1
  have z0 := P2.out.1.lt
  have z1 := P2.out.2.2.1.lt
  go_wp2_with fail
  refine (own_any dx _ lx _ P2.out.2.1 (by omega)).mono ?_
  rintro e w3 ⟨v3, rfl, ht3, hb, _⟩
  have HT3 := Lib.hid ht3
  clear ht3
  clear c0 c1 d0 d1 z0 z1
  have B3 := Lib.hid (B2.out.trans (hb.mono B2.out.size))
  have P3 := Lib.hid (boxes_below P2.out hb)
  clear hb B2 P2
  have hsg := fun w0 h0 => sign_any dx v3 lx w0 h0
  obtain ⟨n, hn⟩ : ∃ n, (if validF dx lx = true then sgnZ lx else 0) = n := ⟨_, rfl⟩
  obtain ⟨er, her⟩ : ∃ er : Int, (if validF dx lx = true then 0 else 2) = er := ⟨_, rfl⟩
  rw [hn, her] at hsg
  have HN := Lib.hid hn
  have HER := Lib.hid her
  have HSG := Lib.hid hsg
  clear hsg hn her
  go_wp2_with fail
  refine (HSG.out _ HT3.out).mono ?_
  rintro e w4 ⟨rfl, hb⟩
  have B4 := Lib.hid (B3.out.trans (hb.mono B3.out.size))
  have P4 := Lib.hid (boxes_below P3.out hb)
  clear hb B3 P3
  clear HT3 HSG
  obtain ⟨W4, hw4⟩ : ∃ W, W = w4 := ⟨w4, rfl⟩
  subst hw4
  have KK : Hid (∀ w', Below W4.heap.size W4 w' → w'.cell? ⟨w.heap.size, 0, none⟩ = some (.int .i64 dx) ∧ w'.cell? ⟨w.heap.size, 1, none⟩ = some (.slice ax lx.length cx) ∧ w'.cell? ⟨w.heap.size + 1, 0, none⟩ = some (.int .i64 dy) ∧ w'.cell? ⟨w.heap.size + 1, 1, none⟩ = some (.slice ay ly.length cy)) := Lib.hid fun w' hb => by
    have a := boxes_below P4.out hb
    exact ⟨a.1.c0, a.1.c1, a.2.2.1.c0, a.2.2.1.c1⟩
  have TX := Lib.hid (fun w' (hb : Below W4.heap.size W4 w') => (boxes_below P4.out hb).2.1)
  have TY := Lib.hid (fun w' (hb : Below W4.heap.size W4 w') => (boxes_below P4.out hb).2.2.2)
  have OX := Lib.hid (fun w' h => own_any dx (.slice ax lx.length cx) lx w' h (by omega))
  have OY := Lib.hid (fun w' h => own_any dy (.slice ay ly.length cy) ly w' h (by omega))
  have HB4 := B4
  clear B4
  have B0 := Below.refl W4.heap.size W4
  have c0 := P4.out.1.c0
  have c1 := P4.out.1.c1
  have d0 := P4.out.2.2.1.c0
  have d1 := P4.out.2.2.1.c1
  have z0 := P4.out.1.lt
  have z1 := P4.out.2.2.1.lt
  go_upto_region 4 with fail
  go_cut [7, 8] (fun p q wx => C2Mid (CmpQ dx lx dy ly) W4 p q wx)
  case first =>
    go_region_held3 (fun w' => w'.cell? ⟨w.heap.size, 0, none⟩ = some (.int .i64 dx) ∧ w'.cell? ⟨w.heap.size, 1, none⟩ = some (.slice ax lx.length cx) ∧ w'.cell? ⟨w.heap.size + 1, 0, none⟩ = some (.int .i64 dy) ∧ w'.cell? ⟨w.heap.size + 1, 1, none⟩ = some (.slice ay ly.length cy))
      (exact KK.out _ (by (first | assumption | exact B0 | exact B0.drew | exact B0.alloc (by first | exact Nat.le_refl _ | exact B0.size) _ | exact (B0.drew).alloc (by first | exact Nat.le_refl _ | exact B0.size) _ | exact Below.alloc (by assumption) (Below.size (by assumption)) _)))
      (first
        | (go_at_call 19; ((with_reducible refine (OX.out _ ?_).mono ?_); (exact TX.out _ (by (first | assumption | exact B0 | exact B0.drew | exact B0.alloc (by first | exact Nat.le_refl _ | exact B0.size) _ | exact (B0.drew).alloc (by first | exact Nat.le_refl _ | exact B0.size) _ | exact Below.alloc (by assumption) (Below.size (by assumption)) _)))); rintro e w1 ⟨v1, rfl, ht1, hb1, hk1⟩; have B1 := Below.chain2 (W := W4) (by (first | assumption | exact B0 | exact B0.drew | exact B0.alloc (by first | exact Nat.le_refl _ | exact B0.size) _ | exact (B0.drew).alloc (by first | exact Nat.le_refl _ | exact B0.size) _ | exact Below.alloc (by assumption) (Below.size (by assumption)) _)) hb1)
        | (go_at_call 19; ((with_reducible refine (OY.out _ ?_).mono ?_); (exact TY.out _ (by (first | assumption | exact B0 | exact B0.drew | exact B0.alloc (by first | exact Nat.le_refl _ | exact B0.size) _ | exact (B0.drew).alloc (by first | exact Nat.le_refl _ | exact B0.size) _ | exact Below.alloc (by assumption) (Below.size (by assumption)) _)))); rintro e w2 ⟨v2, rfl, ht2, hb2, hk2⟩; have B2 := Below.chain2 (W := W4) (by (first | assumption | exact B0 | exact B0.drew | exact B0.alloc (by first | exact Nat.le_refl _ | exact B0.size) _ | exact (B0.drew).alloc (by first | exact Nat.le_refl _ | exact B0.size) _ | exact Below.alloc (by assumption) (Below.size (by assumption)) _)) hb2; have ht1 := (by first | exact ht1.below hb2 | exact (ht1.alloc _).below hb2))
        | (go_at_call 34; ((with_reducible refine (cmpw_call dx dy lx ly _ _ _ ?_ ?_).mono ?_); (first | exact ht1 | exact ht1.alloc _); (first | exact ht2 | exact ht2.alloc _)); rintro e w3 ⟨m, f, hP, rfl, hb3⟩; have B3 := Below.chain2 (W := W4) (by (first | assumption | exact B0 | exact B0.drew | exact B0.alloc (by first | exact Nat.le_refl _ | exact B0.size) _ | exact (B0.drew).alloc (by first | exact Nat.le_refl _ | exact B0.size) _ | exact Below.alloc (by assumption) (Below.size (by assumption)) _)) hb3))
    all_goals
      go_wp2_with fail
      go_meet
      exact ⟨m, f, rfl, rfl, hP, B3⟩
  case rest =>
    obtain ⟨m, f, rfl, rfl, hP, hb⟩ := hcut
    obtain ⟨w5, hw5⟩ : ∃ W, W = wc := ⟨wc, rfl⟩
    subst hw5
    have HP := Lib.hid hP
    have B5 := Lib.hid (HB4.out.trans (hb.mono HB4.out.size))
    have P5 := Lib.hid (boxes_below P4.out hb)
    clear hb hP B0 KK TX TY OX OY HB4 P4
    clear c0 c1 d0 d1 z0 z1
    have c0 := P5.out.1.c0
    have c1 := P5.out.1.c1
    have d0 := P5.out.2.2.1.c0
    have d1 := P5.out.2.2.1.c1
    have z0 := P5.out.1.lt
    have z1 := P5.out.2.2.1.lt
    go_wp2_with fail
    refine (own_any dx _ lx _ P5.out.2.1 (by omega)).mono ?_
    rintro e w6 ⟨v6, rfl, ht6, hb, _⟩
    have HT6 := Lib.hid ht6
    clear ht6
    clear c0 c1 d0 d1 z0 z1
    have B6 := Lib.hid (B5.out.trans (hb.mono B5.out.size))
    have P6 := Lib.hid (boxes_below P5.out hb)
    clear hb B5 P5
    have hfl := fun w0 h0 => floor_ok dx v6 lx w0 h0
    have HBS : Hid (∀ V : Vld dx lx, (BoundsF dx 1 lx).2.2 = 0 ∧ BSpec dx 1 lx (BoundsF dx 1 lx).1 (BoundsF dx 1 lx).2.1) := Lib.hid fun V => by have := bounds_spec V (m := 1) (by decide) (by decide); exact ⟨this.1, this.2.1⟩
    have HN1 : Hid (¬ validF dx lx = true → BoundsF dx 1 lx = (0, 0, 2)) := Lib.hid fun h => by unfold BoundsF; rw [if_neg h]
    obtain ⟨⟨low, high, g⟩, hr⟩ : ∃ r, BoundsF dx 1 lx = r := ⟨_, rfl⟩
    rw [hr] at HBS HN1 hfl
    dsimp only at HBS hfl
    have HFL := Lib.hid hfl
    clear hfl hr
    go_wp2_with fail
    refine (HFL.out _ HT6.out).mono ?_
    rintro e w7 ⟨rfl, hb⟩
    have B7 := Lib.hid (B6.out.trans (hb.mono B6.out.size))
    have P7 := Lib.hid (boxes_below P6.out hb)
    clear hb B6 P6
    clear HT6 HFL
    have hnum := number_any dx (.slice ax lx.length cx) lx
    by_cases hv : validF dx lx = true
    · have V := vld_of hv
      have HV := Lib.hid V
      rw [hv] at hnum
      have HNUM := Lib.hid hnum
      obtain rfl : sgnZ lx = n := by have := HN.out; rwa [if_pos hv] at this
      obtain rfl : (0 : Int) = er := by have := HER.out; rwa [if_pos hv] at this
      obtain ⟨rfl, hbs⟩ := HBS.out V
      have HSP := Lib.hid hbs
      obtain ⟨n, hn⟩ : ∃ n, sgnZ lx = n := ⟨_, rfl⟩
      have hrs := fun v0 w0 h0 => rsign_vld V v0 w0 h0
      rw [hn] at hrs
      have HRS := Lib.hid hrs
      have hcq1 : Hid (validF dy ly = true → f = 0 ∧ CmpN dx lx dy ly m) := Lib.hid fun h => HP.out.1 hv h
      have hcq2 : Hid (¬ validF dy ly = true → m = 0 ∧ f = 2) := Lib.hid fun h => HP.out.2 fun h' => h h'.2
      clear HN HER HBS HN1 hbs hnum hrs V HP
      rw [hn]
      clear hn hv
      have c0 := P7.out.1.c0
      have c1 := P7.out.1.c1
      have d0 := P7.out.2.2.1.c0
      have d1 := P7.out.2.2.1.c1
      have z0 := P7.out.1.lt
      have z1 := P7.out.2.2.1.lt
      go_wp2_with fail
      refine (HNUM.out _ P7.out.2.1).mono ?_
      rintro e w8 ⟨rfl, hb⟩
      clear c0 c1 d0 d1 z0 z1
      have B8 := Lib.hid (B7.out.trans (hb.mono B7.out.size))
      have P8 := Lib.hid (boxes_below P7.out hb)
      clear hb B7 P7
      have c0 := P8.out.1.c0
      have c1 := P8.out.1.c1
      have d0 := P8.out.2.2.1.c0
      have d1 := P8.out.2.2.1.c1
      have z0 := P8.out.1.lt
      have z1 := P8.out.2.2.1.lt
      go_wp2_with fail
      refine (HRS.out _ _ P8.out.2.1).mono ?_
      rintro e w9 ⟨rfl, hb⟩
      clear c0 c1 d0 d1 z0 z1
      have B9 := Lib.hid (B8.out.trans (hb.mono B8.out.size))
      have P9 := Lib.hid (boxes_below P8.out hb)
      clear hb B8 P8
      have c0 := P9.out.1.c0
      have c1 := P9.out.1.c1
      have d0 := P9.out.2.2.1.c0
      have d1 := P9.out.2.2.1.c1
      have z0 := P9.out.1.lt
      have z1 := P9.out.2.2.1.lt
      clear HRS
      go_wp2_with fail
      refine (below_any dx 1 _ lx _ P9.out.2.1 HV.out (by decide) (by decide)).mono ?_
      rintro e w10 ⟨k, s, rfl, hs1, hs2, hs3, hb, hn1, hn2, hn3, hn4⟩
      obtain ⟨rfl, _⟩ := below_bounds HV.out HSP.out hs1 hs2 hs3
      clear hs1 hs2 hs3 hn1 hn2 hn3 hn4 HSP
      clear c0 c1 d0 d1 z0 z1
      have B10 := Lib.hid (B9.out.trans (hb.mono B9.out.size))
      have P10 := Lib.hid (boxes_below P9.out hb)
      clear hb B9 P9
      have c0 := P10.out.1.c0
      have c1 := P10.out.1.c1
      have d0 := P10.out.2.2.1.c0
      have d1 := P10.out.2.2.1.c1
      have z0 := P10.out.1.lt
      have z1 := P10.out.2.2.1.lt
      have hnum := number_any dy (.slice ay ly.length cy) ly
      by_cases hv2 : validF dy ly = true
      · have V2 := vld_of hv2
        have HV2 := Lib.hid V2
        rw [hv2] at hnum
        have HNU2 := Lib.hid hnum
        obtain ⟨rfl, hcm⟩ := hcq1.out hv2
        have HCM := Lib.hid (cmp_sg HV.out V2 hcm)
        clear hnum hv2 V2 hcm hcq1 hcq2
        go_wp2_with fail
        refine (HNU2.out _ P10.out.2.2.2).mono ?_
        rintro e w11 ⟨rfl, hb⟩
        clear c0 c1 d0 d1 z0 z1
        have B11 := Lib.hid (B10.out.trans (hb.mono B10.out.size))
        have P11 := Lib.hid (boxes_below P10.out hb)
        clear hb B10 P10
        have c0 := P11.out.1.c0
        have c1 := P11.out.1.c1
        have d0 := P11.out.2.2.1.c0
        have d1 := P11.out.2.2.1.c1
        have z0 := P11.out.1.lt
        have z1 := P11.out.2.2.1.lt
        go_wp2_with fail
        refine (rcmp_any dx dy _ _ lx ly _ P11.out.2.1 P11.out.2.2.2 HV.out HV2.out).mono ?_
        rintro e w12 ⟨m2, rfl, hs, hb⟩
        obtain rfl : m2 = m := hs.uniq HCM.out
        clear hs HCM
        clear c0 c1 d0 d1 z0 z1
        have B12 := Lib.hid (B11.out.trans (hb.mono B11.out.size))
        have P12 := Lib.hid (boxes_below P11.out hb)
        clear hb B11 P11
        have HBn := B12
        go_wp2_with fail
        refine (hk.out _ (HW.out.below HBn.out)).mono ?_
        rintro e wk ⟨rfl, hbk⟩
        have HBk := Lib.hid (HBn.out.trans (hbk.mono HBn.out.size))
        clear hbk
        go_wp2
        go_ret
        exact ⟨rfl, HBk.out⟩
      · have hv0 : validF dy ly = false := by simpa using hv2
        rw [hv0] at hnum
        have HNU2 := Lib.hid hnum
        obtain ⟨rfl, rfl⟩ := hcq2.out hv2
        clear hnum hv2 hv0 hcq1 hcq2
        go_wp2_with fail
        refine (HNU2.out _ P10.out.2.2.2).mono ?_
        rintro e w11 ⟨rfl, hb⟩
        clear c0 c1 d0 d1 z0 z1
        have B11 := Lib.hid (B10.out.trans (hb.mono B10.out.size))
        have P11 := Lib.hid (boxes_below P10.out hb)
        clear hb B10 P10
        have HBn := B11
        go_wp2_with fail
        refine (hk.out _ (HW.out.below HBn.out)).mono ?_
        rintro e wk ⟨rfl, hbk⟩
        have HBk := Lib.hid (HBn.out.trans (hbk.mono HBn.out.size))
        clear hbk
        go_wp2
        go_ret
        exact ⟨rfl, HBk.out⟩
    · have hv0 : validF dx lx = false := by simpa using hv
      rw [hv0] at hnum
      have HNUM := Lib.hid hnum
      obtain rfl : (0 : Int) = n := by have := HN.out; rwa [if_neg hv] at this
      obtain rfl : (2 : Int) = er := by have := HER.out; rwa [if_neg hv] at this
      obtain ⟨rfl, rfl, rfl⟩ : low = 0 ∧ high = 0 ∧ g = 2 := by have := HN1.out hv; simpa using this
      obtain ⟨rfl, rfl⟩ := HP.out.2 fun h => hv h.1
      clear HN HER HN1 HBS HP hnum hv hv0
      have c0 := P7.out.1.c0
      have c1 := P7.out.1.c1
      have d0 := P7.out.2.2.1.c0
      have d1 := P7.out.2.2.1.c1
      have z0 := P7.out.1.lt
      have z1 := P7.out.2.2.1.lt
      go_wp2_with fail
      refine (HNUM.out _ P7.out.2.1).mono ?_
      rintro e w8 ⟨rfl, hb⟩
      clear c0 c1 d0 d1 z0 z1
      have B8 := Lib.hid (B7.out.trans (hb.mono B7.out.size))
      have P8 := Lib.hid (boxes_below P7.out hb)
      clear hb B7 P7
      have HBn := B8
      go_wp2_with fail
      refine (hk.out _ (HW.out.below HBn.out)).mono ?_
      rintro e wk ⟨rfl, hbk⟩
      have HBk := Lib.hid (HBn.out.trans (hbk.mono HBn.out.size))
      clear hbk
      go_wp2
      go_ret
      exact ⟨rfl, HBk.out⟩
end Go.Proofs.YtedpafdfecofnaaGreatDoor
