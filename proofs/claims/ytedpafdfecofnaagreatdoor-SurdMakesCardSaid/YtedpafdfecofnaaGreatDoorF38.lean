/-
  Contracts of the program's own functions (and their plain mathematics), on the way to the law: each for all arguments that its hypotheses let.
-/
import Derived.Test.YtedpafdfecofnaaGreatDoorF32
import Derived.Test.YtedpafdfecofnaaGreatDoorF35
import Derived.WalkKit
import Derived.WalkSpells
import Derived.WalkLawsBesides
import Derived.Deep.QuietTactic
import Derived.BigQuiet
import Derived.Lib.Hide
import Derived.WalkSmall
import Derived.Maps.OwnSet
import Derived.Maps.RangeWalk
import Derived.Deep.RegionWith
import Derived.Deep.RegionHeld3
import Derived.Deep.DrawnRows
import Derived.Deep.DeepCutAuto
import Derived.OneCell
import Derived.KernelRfl
import Derived.Laws.StructEq
import Derived.StillTailTactics
import Derived.Laws.Externs
import Derived.RangeFuncBox
import Derived.Test.YtedpafdfecofnaaGreatDoorPlain
set_option linter.unusedSimpArgs false
set_option linter.unusedVariables false

/-! ## S104 -/
namespace Go.Proofs.YtedpafdfecofnaaGreatDoor
open Go.RowKit Go.Maps Go.Shelf Go.Sort
attribute [local go_sem ↓] Go.wp_at_zero Go.wp_at_succ
set_option maxRecDepth 100000 in
set_option maxHeartbeats 40000000 in
theorem makes_walk (hk : Hid KnownT) (hsort : Hid SortC) (d den : Int) (vx vp : Value) (lx lp : List (Int × Int)) (w : World) (hx : TermsAt w vx lx) (hp : TermsAt w vp lp) (hw : WOk w) :
    Calls Tryz.prog 3 #[.agg #[.int .i64 d, vx], .int .i64 den, vp] w (AnsB true w) := by
  obtain ⟨ax, cx, rfl, _⟩ := hx.placed
  obtain ⟨ap, cp, rfl, pp⟩ := hp.placed
  have BA : Below w.heap.size w (w.alloc (.cells #[.int .i64 d, .slice ax lx.length cx] 24)) := (Below.refl _ w).alloc (Nat.le_refl _) _
  have HX := Lib.hid (show BoxQ (w.alloc (.cells #[.int .i64 d, .slice ax lx.length cx] 24)) w.heap.size d (.slice ax lx.length cx) lx from ⟨Two.new w _ _ 24, hx.below BA⟩)
  have HP := Lib.hid (hp.below BA)
  have HBW := Lib.hid BA
  have HW := Lib.hid hw
  have PP := Lib.hid pp
  clear hx hp hw BA pp
  go_enter Tryz.func3, Tryz.ntmps3
  go_wp2_with fail
  refine (long_any d _ lx _ HX.out.2).mono ?_
  rintro e w1 ⟨rfl, hb⟩
  replace HX := Lib.hid (HX.out.at hb)
  replace HP := Lib.hid (HP.out.below hb)
  replace HBW := Lib.hid (HBW.out.trans (hb.mono HBW.out.size))
  clear hb
  by_cases hlx : 8 < lx.length
  · rw [show decide (8 < lx.length) = true from decide_eq_true hlx]
    go_wp2_with fail
    refine (hk.out _ (HW.out.below HBW.out)).mono ?_
    rintro e w3 ⟨rfl, hb2⟩
    have HB2 := Lib.hid (HBW.out.trans (hb2.mono HBW.out.size))
    clear hb2
    go_wp2
    go_ret
    exact ⟨rfl, HB2.out⟩
  rw [show decide (8 < lx.length) = false from decide_eq_false hlx]
  by_cases hlp : 20 < lp.length
  · have hlq : decide (20 < (lp.length : Int)) = true := decide_eq_true (by omega)
    go_wp2_with fail
    refine (hk.out _ (HW.out.below HBW.out)).mono ?_
    rintro e w3 ⟨rfl, hb2⟩
    have HB2 := Lib.hid (HBW.out.trans (hb2.mono HBW.out.size))
    clear hb2
    go_wp2
    go_ret
    exact ⟨rfl, HB2.out⟩
  have x0 := HX.out.1.c0
  have x1 := HX.out.1.c1
  have xz := HX.out.1.lt
  go_wp2_with fail
  refine (terms_any _ lp _ HP.out (by omega)).mono ?_
  rintro e w2 ⟨vi, rfl, hO, hb⟩
  obtain ⟨ai, ci, rfl, hsh⟩ := hO.shape
  have HI := Lib.hid (hO.at (by omega))
  obtain ⟨_, _, hq, pin⟩ := HI.out.placed
  injection hq with hq1 hq2 hq3
  subst hq1 hq3
  have PI := Lib.hid pin
  replace HX := Lib.hid (HX.out.at hb)
  replace HP := Lib.hid (HP.out.below hb)
  replace HBW := Lib.hid (HBW.out.trans (hb.mono HBW.out.size))
  have HB2 : Hid (Below w2.heap.size w2 w2) := Lib.hid (Below.refl _ _)
  clear x0 x1 xz hO hb hsh hq2 pin
  have x0 := HX.out.1.c0
  have x1 := HX.out.1.c1
  have xz := HX.out.1.lt
  go_wp2_with fail
  refine (own_any d _ lx _ HX.out.2 (by omega)).mono ?_
  rintro e w3 ⟨v2, rfl, ht, hb, _⟩
  have HT := Lib.hid ht
  replace HX := Lib.hid (HX.out.at hb)
  replace HP := Lib.hid (HP.out.below hb)
  replace HI := Lib.hid (HI.out.below hb)
  replace HBW := Lib.hid (HBW.out.trans (hb.mono HBW.out.size))
  replace HB2 := Lib.hid (HB2.out.trans (hb.mono HB2.out.size))
  clear x0 x1 xz ht hb
  go_wp2_with fail
  refine (check_any d _ lx _ HT.out).mono ?_
  rintro e w4 ⟨rfl, hb⟩
  obtain ⟨ce, hce⟩ : ∃ c : Int, (if validF d lx then 0 else 2) = c := ⟨_, rfl⟩
  rw [hce]
  have HCE := Lib.hid hce
  replace HX := Lib.hid (HX.out.at hb)
  replace HP := Lib.hid (HP.out.below hb)
  replace HI := Lib.hid (HI.out.below hb)
  replace HBW := Lib.hid (HBW.out.trans (hb.mono HBW.out.size))
  replace HB2 := Lib.hid (HB2.out.trans (hb.mono HB2.out.size))
  clear hb hce HT
  go_wp2_with fail
  refine (make_any hsort den _ lp _ HI.out).mono ?_
  rintro e w5 ⟨r, hr, v, rfl, ht, hb, _⟩
  obtain ⟨ay, cy, rfl, _⟩ := ht.placed
  have HR := Lib.hid hr
  have hn : Below w5.heap.size w5 (w5.alloc (.cells #[.int .i64 r.1, .slice ay r.2.1.length cy] 24)) := (Below.refl _ _).alloc (Nat.le_refl _) _
  have HY : Hid (BoxQ (w5.alloc (.cells #[.int .i64 r.1, .slice ay r.2.1.length cy] 24)) w5.heap.size r.1 (.slice ay r.2.1.length cy) r.2.1) := Lib.hid ⟨Two.new _ _ _ _, ht.alloc _⟩
  replace HX := Lib.hid ((HX.out.at hb).at hn)
  replace HP := Lib.hid ((HP.out.below hb).below hn)
  replace HI := Lib.hid ((HI.out.below hb).below hn)
  replace HBW := Lib.hid ((HBW.out.trans (hb.mono HBW.out.size)).trans (hn.mono (Nat.le_trans HBW.out.size hb.size)))
  replace HB2 := Lib.hid ((HB2.out.trans (hb.mono HB2.out.size)).trans (hn.mono (Nat.le_trans HB2.out.size hb.size)))
  clear hb ht hn hr
  go_wp2_with fail
  refine (rmake_fn den _ lp _ HP.out).mono ?_
  rintro e w6 ⟨r', hr, v, rfl, ht, hb, _⟩
  obtain rfl : r = r' := (makeF_uniq hr HR.out).symm
  obtain ⟨az, cz, rfl, _⟩ := ht.placed
  have hn : Below w6.heap.size w6 (w6.alloc (.cells #[.int .i64 r.1, .slice az r.2.1.length cz] 24)) := (Below.refl _ _).alloc (Nat.le_refl _) _
  have HZ : Hid (BoxQ (w6.alloc (.cells #[.int .i64 r.1, .slice az r.2.1.length cz] 24)) w6.heap.size r.1 (.slice az r.2.1.length cz) r.2.1) := Lib.hid ⟨Two.new _ _ _ _, ht.alloc _⟩
  replace HX := Lib.hid ((HX.out.at hb).at hn)
  replace HY := Lib.hid ((HY.out.at hb).at hn)
  replace HBW := Lib.hid ((HBW.out.trans (hb.mono HBW.out.size)).trans (hn.mono (Nat.le_trans HBW.out.size hb.size)))
  replace HB2 := Lib.hid ((HB2.out.trans (hb.mono HB2.out.size)).trans (hn.mono (Nat.le_trans HB2.out.size hb.size)))
  clear hb ht hn hr HP HI
  obtain ⟨w7, hw7⟩ : ∃ W, w6.alloc (.cells #[.int .i64 r.1, .slice az r.2.1.length cz] 24) = W := ⟨_, rfl⟩
  rw [hw7] at HX HY HZ HBW HB2
  have HPW := Lib.hid (show Below w.heap.size w w7 from HBW.out)
  go_wp2
  try rw [hw7]
  clear hw7
  go_loopw [13] (fun i wr => ∃ k : Nat, k ≤ lp.length ∧ i = .int .i64 k ∧ Hid (Below w7.heap.size w7 wr)) (fun i _ => lp.length - (intOf i).toNat)
  case atStart => exact ⟨0, Nat.zero_le _, rfl, Lib.hid (Below.refl _ _)⟩
  case round =>
    obtain ⟨k, hk', rfl, HB⟩ := hrel
    by_cases hlt : k < lp.length
    · obtain ⟨b1, o1, rfl, hb1, k1, k2⟩ := PP.out k hlt
      obtain ⟨b2, o2, rfl, hb2, m1, m2⟩ := PI.out k hlt
      have hx1 : b1 < w7.heap.size := Nat.lt_of_lt_of_le hb1 HBW.out.size
      have hx2 : b2 < w7.heap.size := Nat.lt_of_lt_of_le hb2 HB2.out.size
      replace k1 := (HB.out.cell (p := ⟨b1, _, none⟩) hx1).trans ((HBW.out.cell (p := ⟨b1, _, none⟩) hb1).trans k1)
      replace k2 := (HB.out.cell (p := ⟨b1, _, none⟩) hx1).trans ((HBW.out.cell (p := ⟨b1, _, none⟩) hb1).trans k2)
      replace m1 := (HB.out.cell (p := ⟨b2, _, none⟩) hx2).trans ((HB2.out.cell (p := ⟨b2, _, none⟩) hb2).trans m1)
      replace m2 := (HB.out.cell (p := ⟨b2, _, none⟩) hx2).trans ((HB2.out.cell (p := ⟨b2, _, none⟩) hb2).trans m2)
      obtain ⟨⟨p1, p2⟩, hp⟩ : ∃ t, lp[k]?.getD (0, 0) = t := ⟨_, rfl⟩
      rw [hp] at k1 k2 m1 m2
      dsimp only at k1 k2 m1 m2
      have i1 : (0 : Int) ≤ (k : Int) := by omega
      have i2 : (k : Int) < (lp.length : Int) := by omega
      have hneq : ∀ w0, (binOp .neq 34 (.agg #[.int .i64 p1, .int .i64 p2]) (.agg #[.int .i64 p1, .int .i64 p2])).run Tryz.prog w0 = .ok (.bool false) w0 := fun w0 => by rw [neq34]; simp
      clear hp hb1 hb2 hx1 hx2
      go_wp2
      go_quiet (fail)
      go_wp2
      go_roundw
      case rel => exact ⟨k + 1, by omega, by go_num, Lib.hid (below_drewN HB.out _)⟩
      case measure => simp only [intOf]; omega
    · obtain ⟨w8, hw8⟩ : ∃ W, W = wr := ⟨wr, rfl⟩
      subst hw8
      replace HX := Lib.hid (HX.out.at HB.out)
      replace HY := Lib.hid (HY.out.at HB.out)
      replace HZ := Lib.hid (HZ.out.at HB.out)
      replace HBW := Lib.hid (HBW.out.trans (HB.out.mono HBW.out.size))
      have x0 := HX.out.1.c0
      have x1 := HX.out.1.c1
      have xz := HX.out.1.lt
      go_wp2_with fail
      refine (number_any d _ lx _ HX.out.2).mono ?_
      rintro e w9 ⟨rfl, hb⟩
      replace HY := Lib.hid (HY.out.at hb)
      replace HZ := Lib.hid (HZ.out.at hb)
      replace HBW := Lib.hid (HBW.out.trans (hb.mono HBW.out.size))
      clear x0 x1 xz hb
      have y0 := HY.out.1.c0
      have y1 := HY.out.1.c1
      have yz := HY.out.1.lt
      have z0 := HZ.out.1.c0
      have z1 := HZ.out.1.c1
      have zz := HZ.out.1.lt
      cases hv : validF d lx
      all_goals
        have h9 := HCE.out
        rw [hv] at h9
        simp at h9
        subst h9
        clear hv
        go_wp2_with fail
        refine (same_any r.1 r.1 _ _ r.2.1 r.2.1 _ HY.out.2 HZ.out.2).mono ?_
        rintro e w10 ⟨rfl, hb⟩
        rw [show decide (r.1 = r.1 ∧ r.2.1 = r.2.1) = true by simp]
        have HB10 := Lib.hid (HBW.out.trans (hb.mono HBW.out.size))
        clear y0 y1 yz z0 z1 zz hb
        go_wp2_with fail
        refine (hk.out _ (HW.out.below HB10.out)).mono ?_
        rintro e wk ⟨rfl, hb⟩
        have HBK := Lib.hid (HB10.out.trans (hb.mono HB10.out.size))
        clear hb
        go_wp2
        go_ret
        exact ⟨rfl, HBK.out⟩

end Go.Proofs.YtedpafdfecofnaaGreatDoor
