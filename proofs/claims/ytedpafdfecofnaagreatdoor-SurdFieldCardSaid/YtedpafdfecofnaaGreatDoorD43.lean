/-
  Contracts of the program's own functions (and their plain mathematics), on the way to the law: each for all arguments that its hypotheses let.
-/
import Derived.Test.YtedpafdfecofnaaGreatDoorD34
import Derived.WalkKit
import Derived.WalkSpells
import Derived.WalkLawsBesides
import Derived.Deep.QuietTactic
import Derived.BigQuiet
import Derived.Lib.Hide
import Derived.WalkSmall
import Derived.Maps.OwnSet
import Derived.Maps.RangeWalk
import Derived.Deep.RegionWith
import Derived.Deep.RegionHeld3
import Derived.Deep.DrawnRows
import Derived.Deep.DeepCutAuto
import Derived.OneCell
import Derived.KernelRfl
import Derived.Laws.StructEq
import Derived.StillTailTactics
import Derived.Laws.Externs
import Derived.RangeFuncBox
import Derived.Test.YtedpafdfecofnaaGreatDoorPlain
set_option linter.unusedSimpArgs false
set_option linter.unusedVariables false

/-! ## S72 -/
namespace Go.Proofs.YtedpafdfecofnaaGreatDoor
open Go.RowKit Go.Maps Go.Shelf Go.Sort
attribute [local go_sem ↓] Go.wp_at_zero Go.wp_at_succ
set_option maxRecDepth 100000 in
set_option maxHeartbeats 40000000 in
theorem field_walk (hk : Hid KnownT) (hadd : Hid (OpC 24 (addF 1))) (hmul : Hid (OpC 27 mulF)) (hsub : Hid (OpC 25 (addF (-1)))) (hquo : Hid (OpC 28 quoF)) (dx dy dz : Int) (vx vy vz : Value) (lx ly lz : List (Int × Int)) (w : World) (hx : TermsAt w vx lx) (hy : TermsAt w vy ly) (hz : TermsAt w vz lz) (hw : WOk w) (hnext : Seg3) :
    Calls Tryz.prog 10 #[.agg #[.int .i64 dx, vx, .int .i64 dy, vy, .int .i64 dz, vz]] w (AnsB true w) := by
  obtain ⟨ax, cx, rfl, _⟩ := hx.placed
  obtain ⟨ay, cy, rfl, _⟩ := hy.placed
  obtain ⟨az, cz, rfl, _⟩ := hz.placed
  have HB0 : Hid (Below w.heap.size w (w.alloc (.cells #[.int .i64 dx, .slice ax lx.length cx, .int .i64 dy, .slice ay ly.length cy, .int .i64 dz, .slice az lz.length cz] 58))) := Lib.hid ((Below.refl _ w).alloc (Nat.le_refl _) _)
  have HX0 := Lib.hid (hx.below HB0.out)
  have HY0 := Lib.hid (hy.below HB0.out)
  have HZ0 := Lib.hid (hz.below HB0.out)
  have X0 := Lib.hid (Six.new w (.int .i64 dx) (.slice ax lx.length cx) (.int .i64 dy) (.slice ay ly.length cy) (.int .i64 dz) (.slice az lz.length cz) 58)
  have HW := Lib.hid hw
  clear hx hy hz hw
  go_enter Tryz.func10, Tryz.ntmps10
  go_wp2_with fail
  refine (ok_any dx dy dz _ _ _ lx ly lz _ HX0.out HY0.out HZ0.out).mono ?_
  rintro e w1 ⟨rfl, hb⟩
  have HBW := Lib.hid (HB0.out.trans (hb.mono HB0.out.size))
  have HX := Lib.hid (HX0.out.below hb)
  have HY := Lib.hid (HY0.out.below hb)
  have HZ := Lib.hid (HZ0.out.below hb)
  have X1 := Lib.hid (X0.out.below hb (by simp))
  clear hb HX0 HY0 HZ0 HB0 X0
  cases hok : okF dx dy dz lx ly lz
  · clear hok
    go_wp2_with fail
    refine (hk.out _ (HW.out.below HBW.out)).mono ?_
    rintro e w2 ⟨rfl, hb2⟩
    have HB2 := Lib.hid (HBW.out.trans (hb2.mono HBW.out.size))
    clear hb2
    go_wp2
    go_ret
    exact ⟨rfl, HB2.out⟩
  obtain ⟨vx, vy, vz⟩ := okF_out hok
  have VX := Lib.hid vx
  have VY := Lib.hid vy
  have VZ := Lib.hid vz
  clear hok vx vy vz
  have c0 := X1.out.c0
  have c1 := X1.out.c1
  have c2 := X1.out.c2
  have c3 := X1.out.c3
  have c4 := X1.out.c4
  have c5 := X1.out.c5
  have hz1 : w.heap.size < w1.heap.size := X1.out.lt
  have KK : Hid (∀ w', Below w1.heap.size w1 w' → w'.cell? ⟨w.heap.size, 0, none⟩ = some (.int .i64 dx) ∧ w'.cell? ⟨w.heap.size, 1, none⟩ = some (.slice ax lx.length cx) ∧ w'.cell? ⟨w.heap.size, 2, none⟩ = some (.int .i64 dy) ∧ w'.cell? ⟨w.heap.size, 3, none⟩ = some (.slice ay ly.length cy) ∧ w'.cell? ⟨w.heap.size, 4, none⟩ = some (.int .i64 dz) ∧ w'.cell? ⟨w.heap.size, 5, none⟩ = some (.slice az lz.length cz)) := Lib.hid fun w' hb => by
    have a := X1.out.below hb X1.out.lt
    exact ⟨a.c0, a.c1, a.c2, a.c3, a.c4, a.c5⟩
  have B0 := Below.refl w1.heap.size w1
  go_upto_region 3 with fail
  go_cut [3, 4, 5] (fun p q s wx => Boxes w1 dx dy dz (.slice ax lx.length cx) (.slice ay ly.length cy) (.slice az lz.length cz) lx ly lz p q s wx)
  case first =>
    go_region_held3 (fun w' => w'.cell? ⟨w.heap.size, 0, none⟩ = some (.int .i64 dx) ∧ w'.cell? ⟨w.heap.size, 1, none⟩ = some (.slice ax lx.length cx) ∧ w'.cell? ⟨w.heap.size, 2, none⟩ = some (.int .i64 dy) ∧ w'.cell? ⟨w.heap.size, 3, none⟩ = some (.slice ay ly.length cy) ∧ w'.cell? ⟨w.heap.size, 4, none⟩ = some (.int .i64 dz) ∧ w'.cell? ⟨w.heap.size, 5, none⟩ = some (.slice az lz.length cz)) (exact KK.out _ (by (repeat (first | exact B0 | refine Below.drew ?_ | refine Below.alloc ?_ (by (try simp) <;> omega) _ | refine Below.setCell ?_ (by (try simp) <;> omega) _)))) (fail)
    all_goals
      go_wp2_with fail
      go_meet
      first
      | (obtain ⟨t1, t2, t3, hb⟩ := three_blocks w1 (.cells #[.int .i64 dx, .slice ax lx.length cx] 24 (0, 0)) (.cells #[.int .i64 dy, .slice ay ly.length cy] 24 (0, 0)) (.cells #[.int .i64 dz, .slice az lz.length cz] 24 (0, 0)); exact ⟨_, _, _, rfl, rfl, rfl, ⟨t1, HX.out.below hb⟩, ⟨t2, HY.out.below hb⟩, ⟨t3, HZ.out.below hb⟩, hb⟩)
      | (obtain ⟨t1, t2, t3, hb⟩ := three_blocks w1 (.cells #[.int .i64 dx, .slice ax lx.length cx] 24 (0, 0)) (.cells #[.int .i64 dz, .slice az lz.length cz] 24 (0, 0)) (.cells #[.int .i64 dy, .slice ay ly.length cy] 24 (0, 0)); exact ⟨_, _, _, rfl, rfl, rfl, ⟨t1, HX.out.below hb⟩, ⟨t3, HY.out.below hb⟩, ⟨t2, HZ.out.below hb⟩, hb⟩)
      | (obtain ⟨t1, t2, t3, hb⟩ := three_blocks w1 (.cells #[.int .i64 dy, .slice ay ly.length cy] 24 (0, 0)) (.cells #[.int .i64 dx, .slice ax lx.length cx] 24 (0, 0)) (.cells #[.int .i64 dz, .slice az lz.length cz] 24 (0, 0)); exact ⟨_, _, _, rfl, rfl, rfl, ⟨t2, HX.out.below hb⟩, ⟨t1, HY.out.below hb⟩, ⟨t3, HZ.out.below hb⟩, hb⟩)
      | (obtain ⟨t1, t2, t3, hb⟩ := three_blocks w1 (.cells #[.int .i64 dy, .slice ay ly.length cy] 24 (0, 0)) (.cells #[.int .i64 dz, .slice az lz.length cz] 24 (0, 0)) (.cells #[.int .i64 dx, .slice ax lx.length cx] 24 (0, 0)); exact ⟨_, _, _, rfl, rfl, rfl, ⟨t3, HX.out.below hb⟩, ⟨t1, HY.out.below hb⟩, ⟨t2, HZ.out.below hb⟩, hb⟩)
      | (obtain ⟨t1, t2, t3, hb⟩ := three_blocks w1 (.cells #[.int .i64 dz, .slice az lz.length cz] 24 (0, 0)) (.cells #[.int .i64 dx, .slice ax lx.length cx] 24 (0, 0)) (.cells #[.int .i64 dy, .slice ay ly.length cy] 24 (0, 0)); exact ⟨_, _, _, rfl, rfl, rfl, ⟨t2, HX.out.below hb⟩, ⟨t3, HY.out.below hb⟩, ⟨t1, HZ.out.below hb⟩, hb⟩)
      | (obtain ⟨t1, t2, t3, hb⟩ := three_blocks w1 (.cells #[.int .i64 dz, .slice az lz.length cz] 24 (0, 0)) (.cells #[.int .i64 dy, .slice ay ly.length cy] 24 (0, 0)) (.cells #[.int .i64 dx, .slice ax lx.length cx] 24 (0, 0)); exact ⟨_, _, _, rfl, rfl, rfl, ⟨t3, HX.out.below hb⟩, ⟨t2, HY.out.below hb⟩, ⟨t1, HZ.out.below hb⟩, hb⟩)
  case rest KK0 hKK0 =>
    obtain ⟨bx, bY, bz, rfl, rfl, rfl, BX, BY, BZ, hb⟩ := hcut
    have HBW := Lib.hid (HBW.out.trans (hb.mono HBW.out.size))
    have Hx := Lib.hid BX
    have Hy := Lib.hid BY
    have Hz := Lib.hid BZ
    exact hKK0 _ _ (hnext HW VX VY VZ HBW Hx Hy Hz)
end Go.Proofs.YtedpafdfecofnaaGreatDoor
