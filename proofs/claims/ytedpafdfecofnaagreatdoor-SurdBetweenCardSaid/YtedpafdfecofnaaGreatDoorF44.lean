/-
  Contracts of the program's own functions (and their plain mathematics), on the way to the law: each for all arguments that its hypotheses let.
-/
import Derived.Test.YtedpafdfecofnaaGreatDoorF43
import Derived.Test.YtedpafdfecofnaaGreatDoorF28
import Derived.WalkKit
import Derived.WalkSpells
import Derived.WalkLawsBesides
import Derived.Deep.QuietTactic
import Derived.BigQuiet
import Derived.Lib.Hide
import Derived.WalkSmall
import Derived.Maps.OwnSet
import Derived.Maps.RangeWalk
import Derived.Deep.RegionWith
import Derived.Deep.RegionHeld3
import Derived.Deep.DrawnRows
import Derived.Deep.DeepCutAuto
import Derived.OneCell
import Derived.KernelRfl
import Derived.Laws.StructEq
import Derived.StillTailTactics
import Derived.Laws.Externs
import Derived.RangeFuncBox
import Derived.Test.YtedpafdfecofnaaGreatDoorPlain
set_option linter.unusedSimpArgs false
set_option linter.unusedVariables false

/-! ## S110 -/
namespace Go.Proofs.YtedpafdfecofnaaGreatDoor
open Go.RowKit Go.Maps Go.Shelf Go.Sort
attribute [local go_sem ↓] Go.wp_at_zero Go.wp_at_succ
/-- A box with a number. -/
def BoxW (W : World) (b : Nat) (d : Int) (v : Value) (l : List (Int × Int)) : Prop := Two W b (.int .i64 d) v 24 ∧ TermsAt W v l
theorem BoxW.at {W W' : World} {b : Nat} {d : Int} {v : Value} {l : List (Int × Int)} (h : BoxW W b d v l) (hb : Below W.heap.size W W') : BoxW W' b d v l := ⟨h.1.below hb h.1.lt, h.2.below hb⟩
theorem sign_call2 {d : Int} {l : List (Int × Int)} (hv : Hid (Vld d l)) (v : Value) (w : World) (ht : TermsAt w v l) : Calls Tryz.prog 33 #[.agg #[.int .i64 d, v]] w (Int2To (sgnZ l) 0 w) :=
  (sign_any d v l w ht).mono fun e w' h => by
    rw [if_pos hv.out.bool, if_pos hv.out.bool] at h
    exact h
/-- A call that gives a number, or an error. -/
def Op1 (f : Nat) (F : Int → List (Int × Int) → Int × List (Int × Int) × Int → Prop) : Prop := ∀ d v l w, TermsAt w v l → Calls Tryz.prog f #[.agg #[.int .i64 d, v]] w (NumP (F d l) w)
theorem Op1.call {f : Nat} {F : Int → List (Int × Int) → Int × List (Int × Int) × Int → Prop} (h : Op1 f F) (d : Int) (v : Value) (l : List (Int × Int)) (w : World) (hx : TermsAt w v l) : Calls Tryz.prog f #[.agg #[.int .i64 d, v]] w (NumP (F d l) w) := h d v l w hx
set_option maxRecDepth 100000 in
set_option maxHeartbeats 40000000 in
theorem squares_walk (hk : Hid KnownT) (hmul : Hid (OpC 27 mulF)) (hsub : Hid (OpC 25 (addF (-1)))) (hroot : Hid (Op1 31 RootP)) (d : Int) (vx : Value) (l : List (Int × Int)) (w : World) (hx : TermsAt w vx l) (hw : WOk w) :
    Calls Tryz.prog 11 #[.agg #[.int .i64 d, vx]] w (AnsB true w) := by
  obtain ⟨ax, cx, rfl, _⟩ := hx.placed
  have BA : Below w.heap.size w (w.alloc (.cells #[.int .i64 d, .slice ax l.length cx] 24)) := (Below.refl _ w).alloc (Nat.le_refl _) _
  have HX := Lib.hid (show BoxW (w.alloc (.cells #[.int .i64 d, .slice ax l.length cx] 24)) w.heap.size d (.slice ax l.length cx) l from ⟨Two.new w _ _ 24, hx.below BA⟩)
  have HBW := Lib.hid BA
  have HW := Lib.hid hw
  clear hx hw BA
  go_enter Tryz.func11, Tryz.ntmps11
  go_wp2_with fail
  refine (long_any d _ l _ HX.out.2).mono ?_
  rintro e w1 ⟨rfl, hb⟩
  replace HX := Lib.hid (HX.out.at hb)
  replace HBW := Lib.hid (HBW.out.trans (hb.mono HBW.out.size))
  clear hb
  by_cases hlx : 8 < l.length
  · rw [show decide (8 < l.length) = true from decide_eq_true hlx]
    go_wp2_with fail
    refine (hk.out _ (HW.out.below HBW.out)).mono ?_
    rintro e wk ⟨rfl, hb⟩
    have HBK := Lib.hid (HBW.out.trans (hb.mono HBW.out.size))
    clear hb
    go_wp2
    go_ret
    exact ⟨rfl, HBK.out⟩
  rw [show decide (8 < l.length) = false from decide_eq_false hlx]
  have fX0 := HX.out.1.c0
  have fX1 := HX.out.1.c1
  have fXz := HX.out.1.lt
  go_wp2_with fail
  refine (own_any d _ l _ HX.out.2 (by omega)).mono ?_
  rintro e w2 ⟨v2, rfl, ht, hb, _⟩
  have HT := Lib.hid ht
  clear fX0 fX1 fXz ht
  replace HX := Lib.hid (HX.out.at hb)
  replace HBW := Lib.hid (HBW.out.trans (hb.mono HBW.out.size))
  clear hb
  clear hlx
  go_wp2_with fail
  refine (check_any d _ l _ HT.out).mono ?_
  rintro e w3 ⟨rfl, hb⟩
  replace HX := Lib.hid (HX.out.at hb)
  replace HBW := Lib.hid (HBW.out.trans (hb.mono HBW.out.size))
  clear hb HT
  cases hv : validF d l
  · rw [if_neg (by simp)]
    go_wp2_with fail
    refine (hk.out _ (HW.out.below HBW.out)).mono ?_
    rintro e wk ⟨rfl, hb⟩
    have HBK := Lib.hid (HBW.out.trans (hb.mono HBW.out.size))
    clear hb
    go_wp2
    go_ret
    exact ⟨rfl, HBK.out⟩
  rw [if_pos rfl]
  have VX := Lib.hid (vld_of hv)
  clear hv
  have fX0 := HX.out.1.c0
  have fX1 := HX.out.1.c1
  have fXz := HX.out.1.lt
  go_wp2_with fail
  refine (own_any d _ l _ HX.out.2 (by have := VX.out.len; omega)).mono ?_
  rintro e w4 ⟨v4, rfl, ht, hb, _⟩
  have HT := Lib.hid ht
  clear fX0 fX1 fXz ht
  replace HX := Lib.hid (HX.out.at hb)
  replace HBW := Lib.hid (HBW.out.trans (hb.mono HBW.out.size))
  clear hb
  go_wp2_with fail
  refine (sign_call2 VX _ _ HT.out).mono ?_
  rintro e w5 ⟨rfl, hb⟩
  replace HX := Lib.hid (HX.out.at hb)
  replace HBW := Lib.hid (HBW.out.trans (hb.mono HBW.out.size))
  clear hb HT
  have HSR := Lib.hid (sign_range VX.out)
  have HRR := Lib.hid (fun r (h : RootP d l r) => root_range VX.out h)
  obtain ⟨n, hn⟩ : ∃ n, sgnZ l = n := ⟨_, rfl⟩
  rw [hn] at HSR HRR
  rw [hn]
  have HN := Lib.hid hn
  clear hn
  go_upto_region 4 with fail
  go_cut [50] (fun s wx => s = .bool false ∧ wx = w5)
  case first =>
    have fX0 := HX.out.1.c0
    have fX1 := HX.out.1.c1
    have fXz := HX.out.1.lt
    obtain ⟨hr, hz⟩ := HSR.out
    rcases hr with rfl | rfl | rfl
    · have hl0 : ((l.length : Int) == 0) = false := by
        have : l ≠ [] := fun e => by have := hz.2 e; omega
        simp; exact this
      clear hz
      go_wp2_with fail
      go_meet
      exact ⟨rfl, rfl⟩
    · have hl0 : ((l.length : Int) == 0) = true := by
        have := hz.1 rfl
        simp; exact this
      clear hz
      go_wp2_with fail
      go_meet
      exact ⟨rfl, rfl⟩
    · have hl0 : ((l.length : Int) == 0) = false := by
        have : l ≠ [] := fun e => by have := hz.2 e; omega
        simp; exact this
      clear hz
      go_wp2_with fail
      go_meet
      exact ⟨rfl, rfl⟩
  case rest KK0 hKK0 =>
    obtain ⟨rfl, rfl⟩ := hcut
    obtain ⟨w5, hw⟩ : ∃ W, W = wc := ⟨wc, rfl⟩
    subst hw
    have fX0 := HX.out.1.c0
    have fX1 := HX.out.1.c1
    have fXz := HX.out.1.lt
    go_wp2_with fail
    refine (own_any d _ l _ HX.out.2 (by have := VX.out.len; omega)).mono ?_
    rintro e w6 ⟨v6, rfl, ht, hb, _⟩
    have HT := Lib.hid ht
    clear fX0 fX1 fXz ht
    replace HX := Lib.hid (HX.out.at hb)
    replace HBW := Lib.hid (HBW.out.trans (hb.mono HBW.out.size))
    clear hb
    go_wp2_with fail
    refine (hroot.out.call d _ l _ HT.out).mono ?_
    rintro e w7 ⟨rr, hP, v, rfl, ht, hb, _⟩
    obtain ⟨ar, cr, rfl, _⟩ := ht.placed
    have PR := Lib.hid hP
    have hq : Below w7.heap.size w7 (w7.alloc (.cells #[.int .i64 rr.1, .slice ar rr.2.1.length cr] 24)) := (Below.refl _ _).alloc (Nat.le_refl _) _
    have HR : Hid (BoxW (w7.alloc (.cells #[.int .i64 rr.1, .slice ar rr.2.1.length cr] 24)) w7.heap.size rr.1 (.slice ar rr.2.1.length cr) rr.2.1) := Lib.hid ⟨Two.new _ _ _ _, ht.alloc _⟩
    replace HX := Lib.hid ((HX.out.at hb).at hq)
    replace HBW := Lib.hid ((HBW.out.trans (hb.mono HBW.out.size)).trans (hq.mono (Nat.le_trans HBW.out.size hb.size)))
    clear hb ht hq HT hP
    obtain ⟨w8, hw8⟩ : ∃ W, w7.alloc (.cells #[.int .i64 rr.1, .slice ar rr.2.1.length cr] 24) = W := ⟨_, rfl⟩
    obtain ⟨br, hbr⟩ : ∃ n, w7.heap.size = n := ⟨_, rfl⟩
    rw [hw8] at HX HR HBW
    rw [hbr] at HR
    have H3 := Lib.hid (HRR.out rr PR.out)
    obtain ⟨f, hf⟩ : ∃ f, rr.2.2 = f := ⟨_, rfl⟩
    rw [hf] at H3
    have HF := Lib.hid hf
    rw [hf]
    have HW8 := Lib.hid hw8
    have HBR := Lib.hid hbr
    clear hw8 hbr hf
    go_upto_region 7 with fail
    rw [HW8.out, HBR.out]
    go_cut [61] (fun s wx => s = .bool false ∧ wx = w8)
    case first =>
      have h3 := H3.out
      by_cases hneg : n < 0
      · have h4 := h3.1 hneg
        have hq : (f == 3) = true := by simpa using h4
        have hd : decide (n < 0) = true := decide_eq_true hneg
        clear h3 h4
        go_wp2_with fail
        go_meet
        exact ⟨rfl, rfl⟩
      · have h4 : ¬ f = 3 := fun e => hneg (h3.2 e)
        have hq : (f == 3) = false := by simpa using h4
        have hd : decide (n < 0) = false := decide_eq_false hneg
        clear h3 h4
        go_wp2_with fail
        go_meet
        exact ⟨rfl, rfl⟩
    case rest KK0 hKK0 =>
      obtain ⟨rfl, rfl⟩ := hcut
      obtain ⟨w8, hw⟩ : ∃ W, W = wc := ⟨wc, rfl⟩
      subst hw
      clear HW8 HBR H3 HRR
      go_upto_if 63 with fail
      go_cut [7] (fun _ wx => Below w8.heap.size w8 wx)
      case first =>
        by_cases hf0 : f = 0
        rotate_left
        · go_wp2_with fail
          go_meet
          exact Below.refl _ _
        have hP0 : RootP d l (rr.1, rr.2.1, 0) := by
          have := PR.out
          rw [show rr = (rr.1, rr.2.1, f) by rw [← HF.out]] at this
          rw [hf0] at this
          exact this
        have hok := root_ok VX.out hP0
        have VR := Lib.hid hok.1
        have HS0 := Lib.hid hok.2.2
        have HP0 := Lib.hid hP0
        subst hf0
        clear hok hP0 HBW
        have HBW : Hid (Below w8.heap.size w8 w8) := Lib.hid (Below.refl _ _)
        have KK : Hid (∀ w', Below w8.heap.size w8 w' → w'.cell? ⟨br, 0, none⟩ = some (.int .i64 rr.1) ∧ w'.cell? ⟨br, 1, none⟩ = some (.slice ar rr.2.1.length cr)) := Lib.hid fun w' hb => ⟨(HR.out.at hb).1.c0, (HR.out.at hb).1.c1⟩
        have TT := Lib.hid (fun w' (hb : Below w8.heap.size w8 w') => (HR.out.at hb).2)
        have OO := Lib.hid (fun w' h => own_any rr.1 (.slice ar rr.2.1.length cr) rr.2.1 w' h (by have := VR.out.len; omega))
        have B0 := Below.refl w8.heap.size w8
        have zb := HR.out.1.lt
        go_upto_region 10 with fail
        go_cut [7, 8] (fun p q wx => Mid (mulF rr.1 rr.2.1 rr.1 rr.2.1) w8 p q wx)
        case first =>
          go_region_held3 (fun w' => w'.cell? ⟨br, 0, none⟩ = some (.int .i64 rr.1) ∧ w'.cell? ⟨br, 1, none⟩ = some (.slice ar rr.2.1.length cr))
            (first | exact KK.out _ (by (first | assumption | exact B0 | exact B0.drew | exact B0.alloc (by first | exact Nat.le_refl _ | exact B0.size) _ | exact (B0.drew).alloc (by first | exact Nat.le_refl _ | exact B0.size) _ | exact Below.alloc (by assumption) (Below.size (by assumption)) _)) | exact KK.out _ (by (exact (B3.setCell (by first | exact Nat.le_refl _ | exact B0.size | exact B1.size | exact B2.size) _).setCell (by first | exact Nat.le_refl _ | exact B0.size | exact B1.size | exact B2.size) _)))
            (first
              | (go_at_call 19; (have hq1 := ht1); clear hq1; ((with_reducible refine (OO.out _ ?_).mono ?_); (exact TT.out _ (by (first | assumption | exact B0 | exact B0.drew | exact B0.alloc (by first | exact Nat.le_refl _ | exact B0.size) _ | exact (B0.drew).alloc (by first | exact Nat.le_refl _ | exact B0.size) _ | exact Below.alloc (by assumption) (Below.size (by assumption)) _)))); rintro e w2 ⟨v2, rfl, ht2, hb2, hk2⟩; have B2 := Below.chain (W := w8) (by (first | assumption | exact B0 | exact B0.drew | exact B0.alloc (by first | exact Nat.le_refl _ | exact B0.size) _ | exact (B0.drew).alloc (by first | exact Nat.le_refl _ | exact B0.size) _ | exact Below.alloc (by assumption) (Below.size (by assumption)) _)) hb2; have ht1 := (by first | exact ht1.below hb2 | exact (ht1.alloc _).below hb2); first | (have RX := RX.below hb2 RX.lt) | (have RX : Two w2 w1.heap.size (.int .i64 0) (.slice none 0 0) 24 := (Two.new w1 (.int .i64 0) (.slice none 0 0) 24).below hb2 (by simp)) | skip)
              | (go_at_call 19; ((with_reducible refine (OO.out _ ?_).mono ?_); (exact TT.out _ (by (first | assumption | exact B0 | exact B0.drew | exact B0.alloc (by first | exact Nat.le_refl _ | exact B0.size) _ | exact (B0.drew).alloc (by first | exact Nat.le_refl _ | exact B0.size) _ | exact Below.alloc (by assumption) (Below.size (by assumption)) _)))); rintro e w1 ⟨v1, rfl, ht1, hb1, hk1⟩; have B1 := Below.chain (W := w8) (by (first | assumption | exact B0 | exact B0.drew | exact B0.alloc (by first | exact Nat.le_refl _ | exact B0.size) _ | exact (B0.drew).alloc (by first | exact Nat.le_refl _ | exact B0.size) _ | exact Below.alloc (by assumption) (Below.size (by assumption)) _)) hb1; first | (have RX : Two w1 w8.heap.size (.int .i64 0) (.slice none 0 0) 24 := (Two.new w8.drew (.int .i64 0) (.slice none 0 0) 24).below hb1 (by simp)) | skip)
              | (go_at_call 27; ((with_reducible refine (hmul.out.call rr.1 rr.1 _ _ rr.2.1 rr.2.1 _ ?_ ?_).mono ?_); (first | exact ht1 | exact ht1.alloc _); (first | exact ht2 | exact ht2.alloc _)); rintro e w3 ⟨r, hP, v3, rfl, ht3, hb3, hk3⟩; obtain ⟨a3, c3, rfl, px3⟩ := ht3.placed; have B3 := Below.chain (W := w8) (by (first | assumption | exact B0 | exact B0.drew | exact B0.alloc (by first | exact Nat.le_refl _ | exact B0.size) _ | exact (B0.drew).alloc (by first | exact Nat.le_refl _ | exact B0.size) _ | exact Below.alloc (by assumption) (Below.size (by assumption)) _)) hb3; first | (have RX := RX.below hb3 RX.lt; have r0 := RX.c0; have r1 := RX.c1; have f0 := RX.fr (i := 0); have f1 := RX.fr (i := 1); have hr := RX.lt) | (have RX : Two w3 w2.heap.size (.int .i64 0) (.slice none 0 0) 24 := (Two.new w2 (.int .i64 0) (.slice none 0 0) 24).below hb3 (by simp); have r0 := RX.c0; have r1 := RX.c1; have f0 := RX.fr (i := 0); have f1 := RX.fr (i := 1); have hr := RX.lt) | skip))
          all_goals
            go_wp2_with fail
            go_meet
            first | exact mid_new hP ht3 (fun k hk => by have q1 := hk3 k hk; have q2 := B2.size; omega) B3 | exact mid_close RX hP ht3 (fun k hk => by have q1 := hb1.size; have q2 := hb2.size; have q3 := hk3 k hk; simp at q1 q2 q3; omega) (by first | exact Nat.le_refl _ | exact B0.size | exact B1.size | exact B2.size) B3
        case rest KK0 hKK0 =>
          obtain ⟨bS, rS, v, rfl, rfl, hp, t1, t2, hs, hb, hk'⟩ := hcut
          obtain ⟨aS, cS, rfl, px⟩ := t2.placed
          obtain ⟨wnS, hw⟩ : ∃ W, W = wc := ⟨wc, rfl⟩
          subst hw
          have HS : Hid (BoxW _ _ _ _ _) := Lib.hid ⟨t1, t2⟩
          have PS := Lib.hid hp
          replace HX := Lib.hid (HX.out.at hb)
          replace HR := Lib.hid (HR.out.at hb)
          replace HBW := Lib.hid (HBW.out.trans (hb.mono HBW.out.size))
          clear B0 KK TT OO zb hb hp t1 t2 hs hk' px
          have hs := root_back VX.out HP0.out PS.out
          subst hs
          have fR0 := HR.out.1.c0
          have fR1 := HR.out.1.c1
          have fRz := HR.out.1.lt
          go_wp2_with fail
          refine (own_any rr.1 _ rr.2.1 _ HR.out.2 (by have := VR.out.len; omega)).mono ?_
          rintro e w10 ⟨v10, rfl, ht, hb, _⟩
          have HT := Lib.hid ht
          clear fR0 fR1 fRz ht
          replace HX := Lib.hid (HX.out.at hb)
          replace HR := Lib.hid (HR.out.at hb)
          replace HS := Lib.hid (HS.out.at hb)
          replace HBW := Lib.hid (HBW.out.trans (hb.mono HBW.out.size))
          clear hb
          go_wp2_with fail
          refine (sign_call2 VR _ _ HT.out).mono ?_
          rintro e w11 ⟨rfl, hb⟩
          replace HX := Lib.hid (HX.out.at hb)
          replace HR := Lib.hid (HR.out.at hb)
          replace HS := Lib.hid (HS.out.at hb)
          replace HBW := Lib.hid (HBW.out.trans (hb.mono HBW.out.size))
          clear hb HT
          have hs0 := HS0.out
          obtain ⟨m, hm⟩ : ∃ m, sgnZ rr.2.1 = m := ⟨_, rfl⟩
          rw [hm] at hs0 ⊢
          have HM := Lib.hid hm
          clear hm
          have fS0 := HS.out.1.c0
          have fS1 := HS.out.1.c1
          have fSz := HS.out.1.lt
          have fX0 := HX.out.1.c0
          have fX1 := HX.out.1.c1
          have fXz := HX.out.1.lt
          go_wp2_with fail
          refine (same_any d d _ _ l l _ HS.out.2 HX.out.2).mono ?_
          rintro e w12 ⟨rfl, hb⟩
          rw [show decide (d = d ∧ l = l) = true by simp]
          have HB12 := Lib.hid (HBW.out.trans (hb.mono HBW.out.size))
          clear hb fS0 fS1 fSz fX0 fX1 fXz
          have hm0 : decide (m < 0) = false := decide_eq_false (by omega)
          go_wp2_with fail
          go_meet
          exact HB12.out
      case rest KK0 hKK0 =>
        obtain ⟨w13, hw⟩ : ∃ W, W = wc := ⟨wc, rfl⟩
        subst hw
        have hb := hcut
        clear hcut PR HF
        replace HX := Lib.hid (HX.out.at hb)
        replace HBW := Lib.hid (HBW.out.trans (hb.mono HBW.out.size))
        clear hb HR
        have KK : Hid (∀ w', Below w13.heap.size w13 w' → w'.cell? ⟨w.heap.size, 0, none⟩ = some (.int .i64 d) ∧ w'.cell? ⟨w.heap.size, 1, none⟩ = some (.slice ax l.length cx)) := Lib.hid fun w' hb => ⟨(HX.out.at hb).1.c0, (HX.out.at hb).1.c1⟩
        have TT := Lib.hid (fun w' (hb : Below w13.heap.size w13 w') => (HX.out.at hb).2)
        have OO := Lib.hid (fun w' h => own_any d (.slice ax l.length cx) l w' h (by have := VX.out.len; omega))
        have B0 := Below.refl w13.heap.size w13
        have zb := HX.out.1.lt
        go_upto_region 14 with fail
        go_cut [11, 12] (fun p q wx => Mid (mulF d l d l) w13 p q wx)
        case first =>
          go_region_held3 (fun w' => w'.cell? ⟨w.heap.size, 0, none⟩ = some (.int .i64 d) ∧ w'.cell? ⟨w.heap.size, 1, none⟩ = some (.slice ax l.length cx))
            (first | exact KK.out _ (by (first | assumption | exact B0 | exact B0.drew | exact B0.alloc (by first | exact Nat.le_refl _ | exact B0.size) _ | exact (B0.drew).alloc (by first | exact Nat.le_refl _ | exact B0.size) _ | exact Below.alloc (by assumption) (Below.size (by assumption)) _)) | exact KK.out _ (by (exact (B3.setCell (by first | exact Nat.le_refl _ | exact B0.size | exact B1.size | exact B2.size) _).setCell (by first | exact Nat.le_refl _ | exact B0.size | exact B1.size | exact B2.size) _)))
            (first
              | (go_at_call 19; (have hq1 := ht1); clear hq1; ((with_reducible refine (OO.out _ ?_).mono ?_); (exact TT.out _ (by (first | assumption | exact B0 | exact B0.drew | exact B0.alloc (by first | exact Nat.le_refl _ | exact B0.size) _ | exact (B0.drew).alloc (by first | exact Nat.le_refl _ | exact B0.size) _ | exact Below.alloc (by assumption) (Below.size (by assumption)) _)))); rintro e w2 ⟨v2, rfl, ht2, hb2, hk2⟩; have B2 := Below.chain (W := w13) (by (first | assumption | exact B0 | exact B0.drew | exact B0.alloc (by first | exact Nat.le_refl _ | exact B0.size) _ | exact (B0.drew).alloc (by first | exact Nat.le_refl _ | exact B0.size) _ | exact Below.alloc (by assumption) (Below.size (by assumption)) _)) hb2; have ht1 := (by first | exact ht1.below hb2 | exact (ht1.alloc _).below hb2); first | (have RX := RX.below hb2 RX.lt) | (have RX : Two w2 w1.heap.size (.int .i64 0) (.slice none 0 0) 24 := (Two.new w1 (.int .i64 0) (.slice none 0 0) 24).below hb2 (by simp)) | skip)
              | (go_at_call 19; ((with_reducible refine (OO.out _ ?_).mono ?_); (exact TT.out _ (by (first | assumption | exact B0 | exact B0.drew | exact B0.alloc (by first | exact Nat.le_refl _ | exact B0.size) _ | exact (B0.drew).alloc (by first | exact Nat.le_refl _ | exact B0.size) _ | exact Below.alloc (by assumption) (Below.size (by assumption)) _)))); rintro e w1 ⟨v1, rfl, ht1, hb1, hk1⟩; have B1 := Below.chain (W := w13) (by (first | assumption | exact B0 | exact B0.drew | exact B0.alloc (by first | exact Nat.le_refl _ | exact B0.size) _ | exact (B0.drew).alloc (by first | exact Nat.le_refl _ | exact B0.size) _ | exact Below.alloc (by assumption) (Below.size (by assumption)) _)) hb1; first | (have RX : Two w1 w13.heap.size (.int .i64 0) (.slice none 0 0) 24 := (Two.new w13.drew (.int .i64 0) (.slice none 0 0) 24).below hb1 (by simp)) | skip)
              | (go_at_call 27; ((with_reducible refine (hmul.out.call d d _ _ l l _ ?_ ?_).mono ?_); (first | exact ht1 | exact ht1.alloc _); (first | exact ht2 | exact ht2.alloc _)); rintro e w3 ⟨r, hP, v3, rfl, ht3, hb3, hk3⟩; obtain ⟨a3, c3, rfl, px3⟩ := ht3.placed; have B3 := Below.chain (W := w13) (by (first | assumption | exact B0 | exact B0.drew | exact B0.alloc (by first | exact Nat.le_refl _ | exact B0.size) _ | exact (B0.drew).alloc (by first | exact Nat.le_refl _ | exact B0.size) _ | exact Below.alloc (by assumption) (Below.size (by assumption)) _)) hb3; first | (have RX := RX.below hb3 RX.lt; have r0 := RX.c0; have r1 := RX.c1; have f0 := RX.fr (i := 0); have f1 := RX.fr (i := 1); have hr := RX.lt) | (have RX : Two w3 w2.heap.size (.int .i64 0) (.slice none 0 0) 24 := (Two.new w2 (.int .i64 0) (.slice none 0 0) 24).below hb3 (by simp); have r0 := RX.c0; have r1 := RX.c1; have f0 := RX.fr (i := 0); have f1 := RX.fr (i := 1); have hr := RX.lt) | skip))
          all_goals
            go_wp2_with fail
            go_meet
            first | exact mid_new hP ht3 (fun k hk => by have q1 := hk3 k hk; have q2 := B2.size; omega) B3 | exact mid_close RX hP ht3 (fun k hk => by have q1 := hb1.size; have q2 := hb2.size; have q3 := hk3 k hk; simp at q1 q2 q3; omega) (by first | exact Nat.le_refl _ | exact B0.size | exact B1.size | exact B2.size) B3
        case rest KK0 hKK0 =>
          obtain ⟨bQ, rQ, v, rfl, rfl, hp, t1, t2, hs, hb, hk'⟩ := hcut
          obtain ⟨aQ, cQ, rfl, px⟩ := t2.placed
          obtain ⟨wnQ, hw⟩ : ∃ W, W = wc := ⟨wc, rfl⟩
          subst hw
          have HQ : Hid (BoxW _ _ _ _ _) := Lib.hid ⟨t1, t2⟩
          have PQ := Lib.hid hp
          replace HX := Lib.hid (HX.out.at hb)
          replace HBW := Lib.hid (HBW.out.trans (hb.mono HBW.out.size))
          clear B0 KK TT OO zb hb hp t1 t2 hs hk' px
          obtain ⟨f2, hf2⟩ : ∃ f, rQ.2.2 = f := ⟨_, rfl⟩
          rw [hf2]
          have HF2 := Lib.hid hf2
          clear hf2
          go_upto_region 15 with fail
          go_cut [109] (fun s wx => s = .bool (decide (f2 = 0) && decide (l.length ≤ 2)) ∧ wx = wnQ)
          case first =>
            have fX0 := HX.out.1.c0
            have fX1 := HX.out.1.c1
            have fXz := HX.out.1.lt
            by_cases hf0 : f2 = 0
            · have hd4 : (f2 == 0) = true := by simpa using hf0
              by_cases hl2 : l.length ≤ 2
              · have hd2 : decide ((l.length : Int) ≤ 2) = true := decide_eq_true (by omega)
                have HD3 : Hid ((decide (f2 = 0) && decide (l.length ≤ 2)) = true) := Lib.hid (by simp [hf0, hl2])
                clear hf0
                go_wp2_with fail
                go_meet
                exact ⟨by rw [HD3.out], rfl⟩
              · have hd2 : decide ((l.length : Int) ≤ 2) = false := decide_eq_false (by omega)
                have HD3 : Hid ((decide (f2 = 0) && decide (l.length ≤ 2)) = false) := Lib.hid (by simp [hl2])
                clear hf0
                go_wp2_with fail
                go_meet
                exact ⟨by rw [HD3.out], rfl⟩
            · have HD3 : Hid ((decide (f2 = 0) && decide (l.length ≤ 2)) = false) := Lib.hid (by simp [hf0])
              have hd4 : (f2 == 0) = false := by simpa using hf0
              clear hf0
              go_wp2_with fail
              go_meet
              exact ⟨by rw [HD3.out], rfl⟩
          case rest KK0 hKK0 =>
            obtain ⟨rfl, rfl⟩ := hcut
            obtain ⟨wnQ, hw⟩ : ∃ W, W = wc := ⟨wc, rfl⟩
            subst hw
            obtain ⟨kk, hkk⟩ : ∃ k : Bool, (decide (f2 = 0) && decide (l.length ≤ 2)) = k := ⟨_, rfl⟩
            rw [hkk]
            have HKK := Lib.hid hkk
            clear hkk
            go_upto_if 109 with fail
            go_cut [13] (fun _ wx => Below wnQ.heap.size wnQ wx)
            case first =>
              cases kk
              · go_wp2_with fail
                go_meet
                exact Below.refl _ _
              have hq := HKK.out
              simp only [Bool.and_eq_true, decide_eq_true_eq] at hq
              obtain ⟨hf0, hl2⟩ := hq
              have hPQ : mulF d l d l (rQ.1, rQ.2.1, 0) := by
                have := PQ.out
                rw [show rQ = (rQ.1, rQ.2.1, f2) by rw [← HF2.out]] at this
                rw [hf0] at this
                exact this
              have HFIND := Lib.hid (fun r (h : RootP rQ.1 rQ.2.1 r) => root_find VX.out hl2 hPQ h)
              rw [HN.out] at HFIND
              clear hPQ hl2 hf0 HBW HKK
              have HBW : Hid (Below wnQ.heap.size wnQ wnQ) := Lib.hid (Below.refl _ _)
              have fQ0 := HQ.out.1.c0
              have fQ1 := HQ.out.1.c1
              have fQz := HQ.out.1.lt
              go_wp2_with fail
              refine (hroot.out.call rQ.1 _ rQ.2.1 _ HQ.out.2).mono ?_
              rintro e w14 ⟨rt, hP, v, rfl, ht, hb, _⟩
              have HFD := Lib.hid (HFIND.out rt hP)
              obtain ⟨at', ct', rfl, _⟩ := ht.placed
              clear fQ0 fQ1 fQz
              have hq : Below w14.heap.size w14 (w14.alloc (.cells #[.int .i64 rt.1, .slice at' rt.2.1.length ct'] 24)) := (Below.refl _ _).alloc (Nat.le_refl _) _
              have HT : Hid (BoxW (w14.alloc (.cells #[.int .i64 rt.1, .slice at' rt.2.1.length ct'] 24)) w14.heap.size rt.1 (.slice at' rt.2.1.length ct') rt.2.1) := Lib.hid ⟨Two.new _ _ _ _, ht.alloc _⟩
              replace HX := Lib.hid ((HX.out.at hb).at hq)
              replace HBW := Lib.hid ((HBW.out.trans (hb.mono HBW.out.size)).trans (hq.mono (Nat.le_trans HBW.out.size hb.size)))
              clear hb ht hq hP HQ
              have fX0 := HX.out.1.c0
              have fX1 := HX.out.1.c1
              have fXz := HX.out.1.lt
              go_wp2_with fail
              refine (own_any d _ l _ HX.out.2 (by have := VX.out.len; omega)).mono ?_
              rintro e w15 ⟨v15, rfl, ht, hb, _⟩
              have HO := Lib.hid ht
              clear fX0 fX1 fXz ht
              replace HX := Lib.hid (HX.out.at hb)
              replace HT := Lib.hid (HT.out.at hb)
              replace HBW := Lib.hid (HBW.out.trans (hb.mono HBW.out.size))
              clear hb
              go_wp2_with fail
              refine (hsub.out.call 1 d _ _ [] l _ (termsAt_nil _) HO.out).mono ?_
              rintro e w16 ⟨ro, hP, v, rfl, ht, hb, _⟩
              have hro := zero_less VX.out hP
              subst hro
              obtain ⟨ao, co, rfl, _⟩ := ht.placed
              have hq : Below w16.heap.size w16 (w16.alloc (.cells #[.int .i64 d, .slice ao (mulS (-1) l).length co] 24)) := (Below.refl _ _).alloc (Nat.le_refl _) _
              have HO2 : Hid (BoxW (w16.alloc (.cells #[.int .i64 d, .slice ao (mulS (-1) l).length co] 24)) w16.heap.size d (.slice ao (mulS (-1) l).length co) (mulS (-1) l)) := Lib.hid ⟨Two.new _ _ _ _, ht.alloc _⟩
              replace HX := Lib.hid ((HX.out.at hb).at hq)
              replace HT := Lib.hid ((HT.out.at hb).at hq)
              replace HBW := Lib.hid ((HBW.out.trans (hb.mono HBW.out.size)).trans (hq.mono (Nat.le_trans HBW.out.size hb.size)))
              clear hb ht hq hP HO
              by_cases hn0 : 0 ≤ n
              · have hrt := HFD.out.1 hn0
                subst hrt
                have fT0 := HT.out.1.c0
                have fT1 := HT.out.1.c1
                have fTz := HT.out.1.lt
                have fX0 := HX.out.1.c0
                have fX1 := HX.out.1.c1
                have fXz := HX.out.1.lt
                have hd3 : decide (0 ≤ n) = true := decide_eq_true hn0
                have hd4 : decide (n < 0) = false := decide_eq_false (by omega)
                go_wp2_with fail
                refine (same_any d d _ _ l l _ HT.out.2 HX.out.2).mono ?_
                rintro e w17 ⟨rfl, hb⟩
                rw [show decide (d = d ∧ l = l) = true by simp]
                have HB17 := Lib.hid (HBW.out.trans (hb.mono HBW.out.size))
                clear hb fT0 fT1 fTz fX0 fX1 fXz
                go_wp2_with fail
                go_meet
                exact HB17.out
              · have hrt := HFD.out.2 (by omega)
                subst hrt
                have ft0 := HT.out.1.c0
                have ft1 := HT.out.1.c1
                have ftz := HT.out.1.lt
                have fo0 := HO2.out.1.c0
                have fo1 := HO2.out.1.c1
                have foz := HO2.out.1.lt
                have hd3 : decide (0 ≤ n) = false := decide_eq_false hn0
                have hd4 : decide (n < 0) = true := decide_eq_true (by omega)
                go_wp2_with fail
                refine (same_any d d _ _ (mulS (-1) l) (mulS (-1) l) _ HT.out.2 HO2.out.2).mono ?_
                rintro e w17 ⟨rfl, hb⟩
                rw [show decide (d = d ∧ mulS (-1) l = mulS (-1) l) = true by simp]
                have HB17 := Lib.hid (HBW.out.trans (hb.mono HBW.out.size))
                clear hb ft0 ft1 ftz fo0 fo1 foz
                go_wp2_with fail
                go_meet
                exact HB17.out
            case rest KK0 hKK0 =>
              replace HBW := Lib.hid (HBW.out.trans (hcut.mono HBW.out.size))
              clear hcut
              go_wp2_with fail
              refine (hk.out _ (HW.out.below HBW.out)).mono ?_
              rintro e wk ⟨rfl, hb⟩
              have HBK := Lib.hid (HBW.out.trans (hb.mono HBW.out.size))
              clear hb
              go_wp2
              go_ret
              exact ⟨rfl, HBK.out⟩
end Go.Proofs.YtedpafdfecofnaaGreatDoor
