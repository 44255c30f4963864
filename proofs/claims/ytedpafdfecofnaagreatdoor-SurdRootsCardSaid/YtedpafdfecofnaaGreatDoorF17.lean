/-
  Contracts of the program's own functions (and their plain mathematics), on the way to the law: each for all arguments that its hypotheses let.
-/
import Derived.Test.YtedpafdfecofnaaGreatDoorF10
import Derived.WalkKit
import Derived.WalkSpells
import Derived.WalkLawsBesides
import Derived.Deep.QuietTactic
import Derived.BigQuiet
import Derived.Lib.Hide
import Derived.WalkSmall
import Derived.Maps.OwnSet
import Derived.Maps.RangeWalk
import Derived.Deep.RegionWith
import Derived.Deep.RegionHeld3
import Derived.OneCell
import Derived.KernelRfl
import Derived.Laws.StructEq
import Derived.StillTailTactics
import Derived.Laws.Externs
import Derived.RangeFuncBox
import Derived.Test.YtedpafdfecofnaaGreatDoorPlain
set_option linter.unusedSimpArgs false
set_option linter.unusedVariables false

/-! ## S40 -/
namespace Go.Proofs.YtedpafdfecofnaaGreatDoor
open Go.RowKit Go.Maps Go.Shelf Go.Sort

def OkTo (n : Int) (b : Bool) (w : World) (e : Ending) (w' : World) : Prop := e = .returned (.tuple #[.int .i64 n, .bool b]) ∧ Below w.heap.size w w'
set_option maxRecDepth 100000 in
set_option maxHeartbeats 2000000 in
theorem sign1_any (a b : Value) (A0 A1 B0 B1 : Nat) (dig : Int) (w : World) (ha : EncAt w a A0 A1) (hb : EncAt w b B0 B1)
    (lA0 : (toW A0).length ≤ 1000) (lA1 : (toW A1).length ≤ 1000) (lB0 : (toW B0).length ≤ 1000) (lB1 : (toW B1).length ≤ 1000) (hA : A0 ≤ A1) (hB : B0 ≤ B1) :
    Calls Tryz.prog 93 #[a, b, .int .i64 dig] w (OkTo (if B1 ≤ A0 then 1 else -1) (decide (B1 ≤ A0) || decide (A1 ≤ B0)) w) := by
  obtain ⟨a0, a1, rfl, ha0, ha1⟩ := ha
  obtain ⟨b0, b1, rfl, hb0, hb1⟩ := hb
  obtain ⟨pa0, ca0, rfl⟩ := ha0.shape
  obtain ⟨pa1, ca1, rfl⟩ := ha1.shape
  obtain ⟨pb0, cb0, rfl⟩ := hb0.shape
  obtain ⟨pb1, cb1, rfl⟩ := hb1.shape
  have HEA : Hid (EncAt w (.agg #[.slice pa0 (toW A0).length ca0, .slice pa1 (toW A1).length ca1]) A0 A1) := Lib.hid ⟨_, _, rfl, ha0, ha1⟩
  have HEB : Hid (EncAt w (.agg #[.slice pb0 (toW B0).length cb0, .slice pb1 (toW B1).length cb1]) B0 B1) := Lib.hid ⟨_, _, rfl, hb0, hb1⟩
  have X := (Two.new w (.slice pa0 (toW A0).length ca0) (.slice pa1 (toW A1).length ca1) 106).alloc (.cells #[.slice pb0 (toW B0).length cb0, .slice pb1 (toW B1).length cb1] 106)
  have Y := Two.new (w.alloc (.cells #[.slice pa0 (toW A0).length ca0, .slice pa1 (toW A1).length ca1] 106)) (.slice pb0 (toW B0).length cb0) (.slice pb1 (toW B1).length cb1) 106
  have eY : (w.alloc (.cells #[.slice pa0 (toW A0).length ca0, .slice pa1 (toW A1).length ca1] 106)).heap.size = w.heap.size + 1 := by simp
  rw [eY] at Y
  have hBW : Below w.heap.size w ((w.alloc (.cells #[.slice pa0 (toW A0).length ca0, .slice pa1 (toW A1).length ca1] 106)).alloc (.cells #[.slice pb0 (toW B0).length cb0, .slice pb1 (toW B1).length cb1] 106)) := ((Below.refl _ w).alloc (Nat.le_refl _) _).alloc (by simp) _
  have HL1 := Lib.hid (fun w0 h0 h1 => less_any (.agg #[.slice pa0 (toW A0).length ca0, .slice pa1 (toW A1).length ca1]) (.agg #[.slice pb0 (toW B0).length cb0, .slice pb1 (toW B1).length cb1]) A0 A1 B0 B1 w0 h0 h1 lA0 lA1 hA hB)
  have HL2 := Lib.hid (fun w0 h0 h1 => less_any (.agg #[.slice pb0 (toW B0).length cb0, .slice pb1 (toW B1).length cb1]) (.agg #[.slice pa0 (toW A0).length ca0, .slice pa1 (toW A1).length ca1]) B0 B1 A0 A1 w0 h0 h1 lB0 lB1 hB hA)
  obtain ⟨rn, hrn⟩ : ∃ r : Int, (if B1 ≤ A0 then 1 else -1) = r := ⟨_, rfl⟩
  obtain ⟨rb, hrb⟩ : ∃ r : Bool, (decide (B1 ≤ A0) || decide (A1 ≤ B0)) = r := ⟨_, rfl⟩
  rw [hrn, hrb]
  have HRN := Lib.hid hrn
  have HRB := Lib.hid hrb
  clear hrn hrb
  have XX := Lib.hid X
  have YY := Lib.hid Y
  have BB := Lib.hid hBW
  clear X Y hBW eY ha0 ha1 hb0 hb1 lA0 lA1 lB0 lB1 hA hB
  go_enter Tryz.func93, Tryz.ntmps93
  go_wp2_with fail
  refine (HL1.out _ (HEA.out.below BB.out) (HEB.out.below BB.out)).mono ?_
  rintro e w2 ⟨v2, rfl, henc, hb2⟩
  obtain ⟨z0, z1, rfl, hz0, hz1⟩ := henc
  obtain ⟨p0, k0, rfl⟩ := hz0.shape
  obtain ⟨p1, k1, rfl⟩ := hz1.shape
  have HB2 := Lib.hid (BB.out.trans (hb2.mono BB.out.size))
  have X2 := XX.out.below hb2 XX.out.lt
  have Y2 := YY.out.below hb2 YY.out.lt
  have XX2 := Lib.hid X2
  have YY2 := Lib.hid Y2
  clear hz0 hz1 hb2 X2 Y2 XX YY BB
  generalize (toW (if B1 ≤ A0 then A0 - B1 else 0)).length = n0 at *
  generalize (toW (if B1 ≤ A0 then A1 - B0 else 0)).length = n1 at *
  by_cases h1 : B1 ≤ A0
  · have e1 : decide (B1 ≤ A0) = true := decide_eq_true h1
    have hr1 : rn = 1 := by rw [← HRN.out, if_pos h1]
    have hr2 : rb = true := by rw [← HRB.out, e1]; rfl
    subst hr1 hr2
    rw [e1]
    clear h1 e1 HRN HRB HL2
    go_wp2
    go_ret2
    exact ⟨rfl, HB2.out.alloc HB2.out.size _⟩
  · have e1 : decide (B1 ≤ A0) = false := decide_eq_false h1
    have hr1 : rn = -1 := by rw [← HRN.out, if_neg h1]
    have hr2 : Hid (decide (A1 ≤ B0) = rb) := Lib.hid (by rw [← HRB.out, e1]; rfl)
    subst hr1
    rw [e1]
    clear h1 e1 HRN HRB HL1
    have hA := Lib.hid ((Below.refl _ w2).alloc (Nat.le_refl _) (.cells #[.slice p0 n0 k0, .slice p1 n1 k1] 106))
    have X3 := XX2.out.below hA.out XX2.out.lt
    have Y3 := YY2.out.below hA.out YY2.out.lt
    have HB3 := Lib.hid (HB2.out.trans (hA.out.mono HB2.out.size))
    have x0 := XX2.out.c0
    have x1 := XX2.out.c1
    have y0 := YY2.out.c0
    have y1 := YY2.out.c1
    have hz0 : w.heap.size < w2.heap.size := XX2.out.lt
    have hz1 : w.heap.size + 1 < w2.heap.size := YY2.out.lt
    clear X3 Y3
    go_wp2_with fail
    refine (HL2.out _ (HEB.out.below HB3.out) (HEA.out.below HB3.out)).mono ?_
    rintro e w4 ⟨v4, rfl, henc, hb4⟩
    rw [hr2.out]
    obtain ⟨u0, u1, rfl, hu0, hu1⟩ := henc
    obtain ⟨p2, k2, rfl⟩ := hu0.shape
    obtain ⟨p3, k3, rfl⟩ := hu1.shape
    have HB4 := Lib.hid (HB3.out.trans (hb4.mono HB3.out.size))
    generalize (toW (if A1 ≤ B0 then B0 - A1 else 0)).length = n2 at *
    generalize (toW (if A1 ≤ B0 then B1 - A0 else 0)).length = n3 at *
    clear hu0 hu1 hb4 x0 x1 y0 y1 hz0 hz1 HB3 hA HL2 HEA HEB
    go_wp2
    go_ret2
    exact ⟨rfl, HB4.out.alloc HB4.out.size _⟩
end Go.Proofs.YtedpafdfecofnaaGreatDoor
