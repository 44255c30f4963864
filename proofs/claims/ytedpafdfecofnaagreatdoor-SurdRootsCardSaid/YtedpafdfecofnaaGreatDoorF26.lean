/-
  Contracts of the program's own functions (and their plain mathematics), on the way to the law: each for all arguments that its hypotheses let.
-/
import Derived.Test.YtedpafdfecofnaaGreatDoorF3
import Derived.Test.YtedpafdfecofnaaGreatDoorF25
import Derived.WalkKit
import Derived.WalkSpells
import Derived.WalkLawsBesides
import Derived.Deep.QuietTactic
import Derived.BigQuiet
import Derived.Lib.Hide
import Derived.WalkSmall
import Derived.Maps.OwnSet
import Derived.Maps.RangeWalk
import Derived.Deep.RegionWith
import Derived.Deep.RegionHeld3
import Derived.OneCell
import Derived.KernelRfl
import Derived.Laws.StructEq
import Derived.StillTailTactics
import Derived.Laws.Externs
import Derived.RangeFuncBox
import Derived.Test.YtedpafdfecofnaaGreatDoorPlain
set_option linter.unusedSimpArgs false
set_option linter.unusedVariables false

/-! ## S55 -/
namespace Go.Proofs.YtedpafdfecofnaaGreatDoor
open Go.RowKit Go.Maps Go.Shelf Go.Sort

theorem wok_alloc {w : World} (h : WOk w) (o : Obj) : WOk (w.alloc o) := h.below ((Below.refl _ w).alloc (Nat.le_refl _) o)
set_option maxRecDepth 100000 in
set_option maxHeartbeats 4000000 in
theorem known_any (hsort : Hid SortC) (w : World) (hw : WOk w) : Calls Tryz.prog 16 #[] w (AnsB true w) := by
  have HW := Lib.hid hw
  clear hw
  have HT0 : Hid (TermsAt (w.alloc (.cells #[.int .i64 3, .int .i64 1, .int .i64 2, .int .i64 8, .int .i64 1, .int .i64 1] 34)) (.slice (some ⟨w.heap.size, 0, none⟩) 3 3) [(3, 1), (2, 8), (1, 1)]) := Lib.hid (by
    refine ⟨by simp, .inr ⟨w.heap.size, 0, 3, rfl, by simp, by simp, fun i hi => ?_⟩⟩
    have : i = 0 ∨ i = 1 ∨ i = 2 := by simp at hi; omega
    rcases this with rfl | rfl | rfl <;> (constructor <;> go_simp))
  have B0 := Lib.hid ((Below.refl _ w).alloc (Nat.le_refl _) (.cells #[.int .i64 3, .int .i64 1, .int .i64 2, .int .i64 8, .int .i64 1, .int .i64 1] 34))
  go_enter Tryz.func16, Tryz.ntmps16
  go_wp2_with fail
  refine (make_any hsort 6 _ [(3, 1), (2, 8), (1, 1)] _ HT0.out).mono ?_
  rintro e w1 ⟨r1, hr1, v1, rfl, ht1, hb1, _⟩
  obtain rfl := make_a r1 hr1
  obtain ⟨a1, c1, rfl, _⟩ := ht1.placed
  have HT1 := Lib.hid ht1
  have B1 := Lib.hid (B0.out.trans (hb1.mono B0.out.size))
  clear hr1 ht1 hb1 HT0 B0
  dsimp only
  have A1 := Lib.hid ((Below.refl _ w1).alloc (Nat.le_refl _) (.cells #[.int .i64 3, .slice a1 2 c1] 24))
  have BA1 := Lib.hid (B1.out.trans (A1.out.mono B1.out.size))
  go_wp2_with fail
  refine (format_any 3 _ [(2, 1), (2, 2)] _ (HT1.out.below A1.out) (HW.out.below BA1.out)).mono ?_
  rintro e w2 ⟨rfl, hb2⟩
  rw [if_pos val_a, if_pos val_a, text_a]
  have B2 := Lib.hid (BA1.out.trans (hb2.mono BA1.out.size))
  clear hb2 HT1 A1 BA1 B1
  go_wp2_with fail
  refine (parse_any [51, 43, 50, 114, 50] (by decide) _ (HW.out.below B2.out)).mono ?_
  rintro e w3 ⟨v3, rfl, ht3, hb3, _⟩
  rw [parse_b] at ht3 ⊢
  dsimp only at ht3 ⊢
  obtain ⟨a3, c3, rfl, _⟩ := ht3.placed
  have HT3 := Lib.hid ht3
  have B3 := Lib.hid (B2.out.trans (hb3.mono B2.out.size))
  have A3 := Lib.hid ((Below.refl _ w3).alloc (Nat.le_refl _) (.cells #[.int .i64 1, .slice a3 2 c3] 24))
  have BA3 := Lib.hid (B3.out.trans (A3.out.mono B3.out.size))
  clear ht3 hb3 B2
  go_wp2_with fail
  refine (root_any hsort 1 _ [(3, 1), (2, 2)] _ (HT3.out.below A3.out)).mono ?_
  rintro e w4 ⟨r4, hr4, v4, rfl, ht4, hb4, _⟩
  obtain rfl := root_b r4 hr4
  obtain ⟨a4, c4, rfl, _⟩ := ht4.placed
  have HT4 := Lib.hid ht4
  have B4 := Lib.hid (BA3.out.trans (hb4.mono BA3.out.size))
  have A4 := Lib.hid ((Below.refl _ w4).alloc (Nat.le_refl _) (.cells #[.int .i64 1, .slice a4 2 c4] 24))
  have BA4 := Lib.hid (B4.out.trans (A4.out.mono B4.out.size))
  have X4 := Lib.hid (Two.new w4 (.int .i64 1) (.slice a4 2 c4) 24)
  clear hr4 ht4 hb4 HT3 A3 BA3 B3
  dsimp only
  go_wp2_with fail
  refine (format_any 1 _ [(1, 1), (1, 2)] _ (HT4.out.below A4.out) (HW.out.below BA4.out)).mono ?_
  rintro e w5 ⟨rfl, hb5⟩
  rw [if_pos val_c, if_pos val_c, text_c]
  have B5 := Lib.hid (BA4.out.trans (hb5.mono BA4.out.size))
  have X5 := Lib.hid (X4.out.below hb5 X4.out.lt)
  have HT5 := Lib.hid ((HT4.out.below A4.out).below hb5)
  clear hb5 X4 HT4 A4 BA4 B4
  go_wp2_with fail
  refine (parse_any [40, 53, 55, 55, 45, 52, 48, 56, 114, 50, 41, 47, 52, 48, 56] (by decide) _ (HW.out.below B5.out)).mono ?_
  rintro e w6 ⟨v6, rfl, ht6, hb6, _⟩
  rw [parse_d] at ht6 ⊢
  dsimp only at ht6 ⊢
  obtain ⟨a6, c6, rfl, _⟩ := ht6.placed
  have HT6 := Lib.hid ht6
  have B6 := Lib.hid (B5.out.trans (hb6.mono B5.out.size))
  have A6 := Lib.hid ((Below.refl _ w6).alloc (Nat.le_refl _) (.cells #[.int .i64 408, .slice a6 2 c6] 24))
  have BA6 := Lib.hid (B6.out.trans (A6.out.mono B6.out.size))
  have X6 := Lib.hid ((X5.out.below hb6 X5.out.lt).alloc (.cells #[.int .i64 408, .slice a6 2 c6] 24))
  have HT46 := Lib.hid ((HT5.out.below hb6).below A6.out)
  clear ht6 hb6 X5 HT5 B5
  go_wp2_with fail
  refine (sign_any 408 _ [(577, 1), (-408, 2)] _ (HT6.out.below A6.out)).mono ?_
  rintro e w7 ⟨rfl, hb7⟩
  rw [if_pos val_d, if_pos val_d, sgn_d]
  have B7 := Lib.hid (BA6.out.trans (hb7.mono BA6.out.size))
  have X7 := Lib.hid (X6.out.below hb7 X6.out.lt)
  have HT7 := Lib.hid (HT46.out.below hb7)
  have A7 := Lib.hid ((Below.refl _ w7).alloc (Nat.le_refl _) (.cells #[.int .i64 1, .int .i64 1] 34))
  have BA7 := Lib.hid (B7.out.trans (A7.out.mono B7.out.size))
  have T7 := Lib.hid (Two.new w7 (.int .i64 1) (.int .i64 1) 34)
  have HTQ : Hid (TermsAt (w7.alloc (.cells #[.int .i64 1, .int .i64 1] 34)) (.slice (some ⟨w7.heap.size, 0, none⟩) 1 1) [(1, 1)]) := Lib.hid (termsAt_one _ _ 1 (1, 1) T7.out.lt (Nat.le_refl _) T7.out.c0 T7.out.c1)
  have x0 := X7.out.c0
  have x1 := X7.out.c1
  have hz := X7.out.lt
  clear hb7 X6 HT46 HT6 A6 BA6 B6 T7
  go_wp2_with fail
  refine (quo_any hsort 1 1 _ _ [(1, 1)] [(1, 1), (1, 2)] _ HTQ.out (HT7.out.below A7.out)).mono ?_
  rintro e w8 ⟨r8, hr8, v8, rfl, ht8, hb8, _⟩
  obtain rfl := quo_a r8 hr8
  obtain ⟨a8, c8, rfl, _⟩ := ht8.placed
  have HT8 := Lib.hid ht8
  have B8 := Lib.hid (BA7.out.trans (hb8.mono BA7.out.size))
  have A8 := Lib.hid ((Below.refl _ w8).alloc (Nat.le_refl _) (.cells #[.int .i64 1, .slice a8 2 c8] 24))
  have BA8 := Lib.hid (B8.out.trans (A8.out.mono B8.out.size))
  clear hr8 ht8 hb8 x0 x1 hz HTQ HT7 A7 BA7 B7 X7
  dsimp only
  go_wp2_with fail
  refine (format_any 1 _ [(-1, 1), (1, 2)] _ (HT8.out.below A8.out) (HW.out.below BA8.out)).mono ?_
  rintro e w9 ⟨rfl, hb9⟩
  rw [if_pos val_e, if_pos val_e, text_e]
  have B9 := Lib.hid (BA8.out.trans (hb9.mono BA8.out.size))
  have A9 := Lib.hid ((Below.refl _ w9).alloc (Nat.le_refl _) (.cells #[.int .i64 1, .int .i64 2] 34))
  have BA9 := Lib.hid (B9.out.trans (A9.out.mono B9.out.size))
  have T9 := Lib.hid (Two.new w9 (.int .i64 1) (.int .i64 2) 34)
  have HT9 : Hid (TermsAt (w9.alloc (.cells #[.int .i64 1, .int .i64 2] 34)) (.slice (some ⟨w9.heap.size, 0, none⟩) 1 1) [(1, 2)]) := Lib.hid (termsAt_one _ _ 1 (1, 2) T9.out.lt (Nat.le_refl _) T9.out.c0 T9.out.c1)
  clear hb9 HT8 A8 BA8 B8 T9
  go_wp2_with fail
  refine (bounds_irr 1 408 _ [(1, 2)] _ HT9.out (Lib.hid (by decide)) (Lib.hid divC_one) (Lib.hid (fun _ _ _ _ => bounds_g.2))).mono ?_
  rintro e w10 ⟨rfl, hb10⟩
  rw [bounds_g.1]
  have B10 := Lib.hid (BA9.out.trans (hb10.mono BA9.out.size))
  clear hb10 HT9 A9 BA9 B9
  go_wp2
  go_ret
  exact ⟨rfl, B10.out⟩
theorem knownT : KnownT := fun w hw => known_any (Lib.hid sort_any) w hw
end Go.Proofs.YtedpafdfecofnaaGreatDoor
