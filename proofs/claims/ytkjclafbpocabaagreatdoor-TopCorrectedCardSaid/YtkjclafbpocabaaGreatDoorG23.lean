/-
  Contracts of the program's own functions (and their plain mathematics), on the way to the law: each for all arguments that its hypotheses let.
-/
import Derived.Test.YtkjclafbpocabaaGreatDoorG22
import Derived.WalkKit
import Derived.WalkSpells
import Derived.WalkLawsBesides
import Derived.Deep.QuietTactic
import Derived.BigQuiet
import Derived.Lib.Hide
import Derived.WalkSmall
import Derived.Maps.OwnSet
import Derived.Maps.RangeWalk
import Derived.Deep.RegionWith
import Derived.Deep.RegionHeld3
import Derived.Deep.DrawnRows
import Derived.Deep.DeepCutAuto
import Derived.OneCell
import Derived.KernelRfl
import Derived.Laws.StructEq
import Derived.StillTailTactics
import Derived.Laws.Externs
import Derived.RangeFuncBox
import Derived.Test.YtkjclafbpocabaaGreatDoorG16
import Derived.Test.YtkjclafbpocabaaGreatDoorPlain
set_option linter.unusedSimpArgs false
set_option linter.unusedVariables false

/-! ## A7 -/
namespace Go.Proofs.YtkjclafbpocabaaGreatDoor
open Go.RowKit Go.Maps
theorem marks_lit {w : World} {b : Nat} (hb : w.heap.size = b) (y : Int) (T : TypeId) : MarksAt (w.alloc (.cells #[.int .i64 y] T)) (.slice (some ⟨b, 0, none⟩) 1 1) [y] := by
  subst hb
  refine ⟨by simp, .inr ⟨w.heap.size, 0, 1, rfl, by simp, by simp, fun i hi => ?_⟩⟩
  obtain rfl : i = 0 := by simp at hi; omega
  exact (cell_new1 w (.int .i64 y) T).1
theorem marks_lit2 {w : World} {b : Nat} (hb : w.heap.size = b) (y z : Int) (T : TypeId) : MarksAt (w.alloc (.cells #[.int .i64 y, .int .i64 z] T)) (.slice (some ⟨b, 0, none⟩) 2 2) [y, z] := by
  subst hb
  refine ⟨by simp, .inr ⟨w.heap.size, 0, 2, rfl, by simp, by simp, fun i hi => ?_⟩⟩
  have h := Two.new w (.int .i64 y) (.int .i64 z) T
  have hi' : i = 0 ∨ i = 1 := by simp at hi; omega
  rcases hi' with rfl | rfl
  · exact h.c0
  · exact h.c1
set_option maxRecDepth 100000 in
set_option maxHeartbeats 4000000 in
theorem grow_ok (hsort : Hid SortC) (d1 d2 Y : Int) (v1 v2 : Value) (l1 l2 : List (Int × Int)) (w : World) (h1 : TermsAt w v1 l1) (h2 : TermsAt w v2 l2)
    (k1 : Hid (validF d1 l1 = true)) (k2 : Hid (validF d2 l2 = true)) (k3 : Hid (sgnZ l1 = 1)) (k4 : Hid (0 ≤ sgnZ l2)) (k5 : Hid ([Y].all isYearF = true)) :
    Calls Tryz.prog 68 #[.agg #[.int .i64 d1, v1], .agg #[.int .i64 d2, v2], .int .i64 Y] w (NumP (GrownR d1 l1 d2 l2 Y) w) := by
  obtain ⟨a1, c1, rfl, _⟩ := h1.placed
  obtain ⟨a2, c2, rfl, _⟩ := h2.placed
  have b3 : Below w.heap.size w (((w.alloc (.cells #[.int .i64 d1, .slice a1 l1.length c1] 34)).alloc (.cells #[.int .i64 d2, .slice a2 l2.length c2] 34)).alloc (.cells #[.int .i64 0, .slice none 0 0] 34)) := (((Below.refl _ w).alloc (Nat.le_refl _) _).alloc (by simp) _).alloc (by simp; omega) _
  have X := ((Two.new w (.int .i64 d1) (.slice a1 l1.length c1) 34).alloc (.cells #[.int .i64 d2, .slice a2 l2.length c2] 34)).alloc (.cells #[.int .i64 0, .slice none 0 0] 34)
  have Y' : Two (((w.alloc (.cells #[.int .i64 d1, .slice a1 l1.length c1] 34)).alloc (.cells #[.int .i64 d2, .slice a2 l2.length c2] 34)).alloc (.cells #[.int .i64 0, .slice none 0 0] 34)) (w.heap.size + 1) (.int .i64 d2) (.slice a2 l2.length c2) 34 := by
    have := (Two.new (w.alloc (.cells #[.int .i64 d1, .slice a1 l1.length c1] 34)) (.int .i64 d2) (.slice a2 l2.length c2) 34).alloc (.cells #[.int .i64 0, .slice none 0 0] 34)
    simpa using this
  have R : Two (((w.alloc (.cells #[.int .i64 d1, .slice a1 l1.length c1] 34)).alloc (.cells #[.int .i64 d2, .slice a2 l2.length c2] 34)).alloc (.cells #[.int .i64 0, .slice none 0 0] 34)) (w.heap.size + 1 + 1) (.int .i64 0) (.slice none 0 0) 34 := by
    have := Two.new ((w.alloc (.cells #[.int .i64 d1, .slice a1 l1.length c1] 34)).alloc (.cells #[.int .i64 d2, .slice a2 l2.length c2] 34)) (.int .i64 0) (.slice none 0 0) 34
    simpa [Nat.add_assoc] using this
  have Z := marks_lit (w := ((w.alloc (.cells #[.int .i64 d1, .slice a1 l1.length c1] 34)).alloc (.cells #[.int .i64 d2, .slice a2 l2.length c2] 34)).alloc (.cells #[.int .i64 0, .slice none 0 0] 34)) (b := w.heap.size + 1 + 1 + 1) (by simp) Y 3
  obtain ⟨W1, hW1⟩ : ∃ W1, (((w.alloc (.cells #[.int .i64 d1, .slice a1 l1.length c1] 34)).alloc (.cells #[.int .i64 d2, .slice a2 l2.length c2] 34)).alloc (.cells #[.int .i64 0, .slice none 0 0] 34)) = W1 := ⟨_, rfl⟩
  rw [hW1] at b3 X Y' R Z
  have b4 := b3.alloc b3.size (.cells #[.int .i64 Y] 3)
  have HX := Lib.hid (X.alloc (.cells #[.int .i64 Y] 3))
  have HY := Lib.hid (Y'.alloc (.cells #[.int .i64 Y] 3))
  have HR := Lib.hid (R.alloc (.cells #[.int .i64 Y] 3))
  have HB := Lib.hid b4
  have HT1 := Lib.hid h1
  have HT2 := Lib.hid h2
  have HC := Lib.hid (checkGrowth_ok d1 d2 _ _ _ l1 l2 [Y] _ (h1.below b4) (h2.below b4) Z k1 k2 k3 k4 k5)
  have x0 := X.c0
  have x1 := X.c1
  have y0 := Y'.c0
  have y1 := Y'.c1
  have hsz : w.heap.size + 2 < W1.heap.size := R.lt
  have hsw : W1.heap.size = w.heap.size + 1 + 1 + 1 := by rw [← hW1]; simp
  clear h1 h2 b4 b3 X Y' R Z
  go_enter Tryz.func68, Tryz.ntmps68
  go_wp2_with fail
  try rw [hW1]
  refine HC.out.mono ?_
  rintro e w2 ⟨rfl, hb⟩
  have X2 := HX.out.below hb HX.out.lt
  have Y2 := HY.out.below hb HY.out.lt
  have R2 := HR.out.below hb HR.out.lt
  have HB2 := Lib.hid (HB.out.trans (hb.mono HB.out.size))
  clear x0 x1 y0 y1 hW1 hb HX HY HR HB HC hsz hsw
  have x0 := X2.c0
  have x1 := X2.c1
  have y0 := Y2.c0
  have y1 := Y2.c1
  have HX2 := Lib.hid X2
  have HY2 := Lib.hid Y2
  have HR2 := Lib.hid R2
  clear X2 Y2 R2
  go_wp2_with fail
  refine (grown_any hsort d1 d2 Y _ _ l1 l2 _ (HT1.out.below HB2.out) (HT2.out.below HB2.out)).mono ?_
  rintro e w3 ⟨r, hr, v, rfl, hta, hb, hfr⟩
  obtain ⟨a, cap, rfl, _⟩ := hta.placed
  have R3 := HR2.out.below hb HR2.out.lt
  have HB3 := Lib.hid (HB2.out.trans (hb.mono HB2.out.size))
  have r0 := R3.c0
  have r1 := R3.c1
  have f0 := R3.fr (i := 0)
  have f1 := R3.fr (i := 1)
  have HR3 := Lib.hid R3
  have HH := Lib.hid hr
  have HTA := Lib.hid hta
  have HFR := Lib.hid hfr
  have hsz : w.heap.size + 1 + 1 < w2.heap.size := HR2.out.lt
  clear x0 x1 y0 y1 hr hta hfr hb R3
  go_wp2
  obtain ⟨e0, e1, e2, hg⟩ := two_after HR3.out (.int .i64 r.1) (.slice a r.2.1.length cap) rfl
  refine bodyPost_ret (v := .tuple #[.agg #[.int .i64 r.1, .slice a r.2.1.length cap], .int .i64 r.2.2]) ?_ rfl ?_
  · simp [results, Tryz.results68, go_sem, e0, e1, e2]
  · refine ⟨r, HH.out, _, rfl, HTA.out.kept hg ?_, HB3.out.grown hg HB3.out.size (by intro k hk; cases hk; omega), fun k hk => ?_⟩
    · cases hv : (Value.slice a r.2.1.length cap).ownBlock with
      | none => exact .inl rfl
      | some k => right; have := HFR.out k hv; simp at this ⊢; omega
    · have := HFR.out k hk; omega
end Go.Proofs.YtkjclafbpocabaaGreatDoor

/-! ## A8 -/
namespace Go.Proofs.YtkjclafbpocabaaGreatDoor
open Go.RowKit Go.Maps
def FactorR (d1 : Int) (l1 : List (Int × Int)) (d2 : Int) (l2 : List (Int × Int)) (Y Z : Int) (r : Int × List (Int × Int) × Int) : Prop :=
  ∃ rb ra, GrownR d1 l1 d2 l2 Y rb ∧ GrownR d1 l1 d2 l2 Z ra ∧ Comp2 (fun d l => quoF d l rb.1 rb.2.1) RootP ra.1 ra.2.1 r
set_option maxRecDepth 100000 in
set_option maxHeartbeats 4000000 in
theorem factor_ok (hsort : Hid SortC) (d1 d2 Y Z : Int) (v1 v2 : Value) (l1 l2 : List (Int × Int)) (w : World) (h1 : TermsAt w v1 l1) (h2 : TermsAt w v2 l2)
    (k1 : Hid (validF d1 l1 = true)) (k2 : Hid (validF d2 l2 = true)) (k3 : Hid (sgnZ l1 = 1)) (k4 : Hid (0 ≤ sgnZ l2)) (k5 : Hid ([Y, Z].all isYearF = true))
    (g1 : Hid (∀ r, GrownR d1 l1 d2 l2 Y r → r.2.2 = 0)) (g2 : Hid (∀ r, GrownR d1 l1 d2 l2 Z r → r.2.2 = 0)) :
    Calls Tryz.prog 69 #[.agg #[.int .i64 d1, v1], .agg #[.int .i64 d2, v2], .int .i64 Y, .int .i64 Z] w (NumP (FactorR d1 l1 d2 l2 Y Z) w) := by
  obtain ⟨a1, c1, rfl, _⟩ := h1.placed
  obtain ⟨a2, c2, rfl, _⟩ := h2.placed
  have b3 : Below w.heap.size w (((w.alloc (.cells #[.int .i64 d1, .slice a1 l1.length c1] 34)).alloc (.cells #[.int .i64 d2, .slice a2 l2.length c2] 34)).alloc (.cells #[.int .i64 0, .slice none 0 0] 34)) := (((Below.refl _ w).alloc (Nat.le_refl _) _).alloc (by simp) _).alloc (by simp; omega) _
  have X := ((Two.new w (.int .i64 d1) (.slice a1 l1.length c1) 34).alloc (.cells #[.int .i64 d2, .slice a2 l2.length c2] 34)).alloc (.cells #[.int .i64 0, .slice none 0 0] 34)
  have Y' : Two (((w.alloc (.cells #[.int .i64 d1, .slice a1 l1.length c1] 34)).alloc (.cells #[.int .i64 d2, .slice a2 l2.length c2] 34)).alloc (.cells #[.int .i64 0, .slice none 0 0] 34)) (w.heap.size + 1) (.int .i64 d2) (.slice a2 l2.length c2) 34 := by
    have := (Two.new (w.alloc (.cells #[.int .i64 d1, .slice a1 l1.length c1] 34)) (.int .i64 d2) (.slice a2 l2.length c2) 34).alloc (.cells #[.int .i64 0, .slice none 0 0] 34)
    simpa using this
  have R : Two (((w.alloc (.cells #[.int .i64 d1, .slice a1 l1.length c1] 34)).alloc (.cells #[.int .i64 d2, .slice a2 l2.length c2] 34)).alloc (.cells #[.int .i64 0, .slice none 0 0] 34)) (w.heap.size + 1 + 1) (.int .i64 0) (.slice none 0 0) 34 := by
    have := Two.new ((w.alloc (.cells #[.int .i64 d1, .slice a1 l1.length c1] 34)).alloc (.cells #[.int .i64 d2, .slice a2 l2.length c2] 34)) (.int .i64 0) (.slice none 0 0) 34
    simpa [Nat.add_assoc] using this
  have ZM := marks_lit2 (w := ((w.alloc (.cells #[.int .i64 d1, .slice a1 l1.length c1] 34)).alloc (.cells #[.int .i64 d2, .slice a2 l2.length c2] 34)).alloc (.cells #[.int .i64 0, .slice none 0 0] 34)) (b := w.heap.size + 1 + 1 + 1) (by simp) Y Z 3
  obtain ⟨W1, hW1⟩ : ∃ W1, (((w.alloc (.cells #[.int .i64 d1, .slice a1 l1.length c1] 34)).alloc (.cells #[.int .i64 d2, .slice a2 l2.length c2] 34)).alloc (.cells #[.int .i64 0, .slice none 0 0] 34)) = W1 := ⟨_, rfl⟩
  rw [hW1] at b3 X Y' R ZM
  have b4 := b3.alloc b3.size (.cells #[.int .i64 Y, .int .i64 Z] 3)
  have HX := Lib.hid (X.alloc (.cells #[.int .i64 Y, .int .i64 Z] 3))
  have HY := Lib.hid (Y'.alloc (.cells #[.int .i64 Y, .int .i64 Z] 3))
  have HR := Lib.hid (R.alloc (.cells #[.int .i64 Y, .int .i64 Z] 3))
  have HB := Lib.hid b4
  have HT1 := Lib.hid h1
  have HT2 := Lib.hid h2
  have HC := Lib.hid (checkGrowth_ok d1 d2 _ _ _ l1 l2 [Y, Z] _ (h1.below b4) (h2.below b4) ZM k1 k2 k3 k4 k5)
  have x0 := X.c0
  have x1 := X.c1
  have y0 := Y'.c0
  have y1 := Y'.c1
  have hsz : w.heap.size + 2 < W1.heap.size := R.lt
  have hsw : W1.heap.size = w.heap.size + 1 + 1 + 1 := by rw [← hW1]; simp
  clear h1 h2 b4 b3 X Y' R ZM
  go_enter Tryz.func69, Tryz.ntmps69
  go_wp2_with fail
  try rw [hW1]
  refine HC.out.mono ?_
  rintro e w2 ⟨rfl, hb⟩
  have X2 := HX.out.below hb HX.out.lt
  have Y2 := HY.out.below hb HY.out.lt
  have R2 := HR.out.below hb HR.out.lt
  have HB2 := Lib.hid (HB.out.trans (hb.mono HB.out.size))
  clear x0 x1 y0 y1 hW1 hb HX HY HR HB HC hsz hsw
  have x0 := X2.c0
  have x1 := X2.c1
  have y0 := Y2.c0
  have y1 := Y2.c1
  have HX2 := Lib.hid X2
  have HY2 := Lib.hid Y2
  have HR2 := Lib.hid R2
  clear X2 Y2 R2
  go_wp2_with fail
  refine (grown_any hsort d1 d2 Y _ _ l1 l2 _ (HT1.out.below HB2.out) (HT2.out.below HB2.out)).mono ?_
  rintro e w3 ⟨rb, hrb, vb, rfl, htb, hb, hfb⟩
  obtain ⟨ab, cb, rfl, _⟩ := htb.placed
  have hsz : w.heap.size + 1 + 1 < w2.heap.size := HR2.out.lt
  have he := g1.out rb hrb
  rw [he]
  have R3 := HR2.out.below hb HR2.out.lt
  have X3 := HX2.out.below hb HX2.out.lt
  have Y3 := HY2.out.below hb HY2.out.lt
  have b3 := HB2.out.trans (hb.mono HB2.out.size)
  have hs3 := hb.size
  have N4 := Two.new w3 (.int .i64 rb.1) (.slice ab rb.2.1.length cb) 34
  have X4 := X3.alloc (.cells #[.int .i64 rb.1, .slice ab rb.2.1.length cb] 34)
  have Y4 := Y3.alloc (.cells #[.int .i64 rb.1, .slice ab rb.2.1.length cb] 34)
  have R4 := R3.alloc (.cells #[.int .i64 rb.1, .slice ab rb.2.1.length cb] 34)
  have b4 := b3.alloc b3.size (.cells #[.int .i64 rb.1, .slice ab rb.2.1.length cb] 34)
  have T4 := htb.alloc (.cells #[.int .i64 rb.1, .slice ab rb.2.1.length cb] 34)
  obtain ⟨W4, hW4⟩ : ∃ W4, w3.alloc (.cells #[.int .i64 rb.1, .slice ab rb.2.1.length cb] 34) = W4 := ⟨_, rfl⟩
  rw [hW4] at N4 X4 Y4 R4 b4 T4
  have HRB := Lib.hid hrb
  have HN4 := Lib.hid N4
  have HX4 := Lib.hid X4
  have HY4 := Lib.hid Y4
  have HR4 := Lib.hid R4
  have HB4 := Lib.hid b4
  have HT4 := Lib.hid T4
  clear x0 x1 y0 y1 hrb htb hb hfb he R3 X3 Y3 b3 HX2 HY2 HR2 HB2
  have x0 := X4.c0
  have x1 := X4.c1
  have y0 := Y4.c0
  have y1 := Y4.c1
  have hss : W4.heap.size = w3.heap.size + 1 := by rw [← hW4]; simp
  clear N4 X4 Y4 R4 b4 T4
  go_wp2_with fail
  try rw [hW4]
  refine (grown_any hsort d1 d2 Z _ _ l1 l2 _ (HT1.out.below HB4.out) (HT2.out.below HB4.out)).mono ?_
  rintro e w5 ⟨ra, hra, va, rfl, hta, hb, hfa⟩
  obtain ⟨aa, ca, rfl, _⟩ := hta.placed
  have he := g2.out ra hra
  rw [he]
  have N5 := HN4.out.below hb HN4.out.lt
  have R5 := HR4.out.below hb HR4.out.lt
  have T5 := HT4.out.below hb
  have b5 := HB4.out.trans (hb.mono HB4.out.size)
  have hs5 := hb.size
  have M6 := Two.new w5 (.int .i64 ra.1) (.slice aa ra.2.1.length ca) 34
  have N6 := N5.alloc (.cells #[.int .i64 ra.1, .slice aa ra.2.1.length ca] 34)
  have R6 := R5.alloc (.cells #[.int .i64 ra.1, .slice aa ra.2.1.length ca] 34)
  have b6 := b5.alloc b5.size (.cells #[.int .i64 ra.1, .slice aa ra.2.1.length ca] 34)
  have T6 := T5.alloc (.cells #[.int .i64 ra.1, .slice aa ra.2.1.length ca] 34)
  have S6 := hta.alloc (.cells #[.int .i64 ra.1, .slice aa ra.2.1.length ca] 34)
  obtain ⟨W6, hW6⟩ : ∃ W6, w5.alloc (.cells #[.int .i64 ra.1, .slice aa ra.2.1.length ca] 34) = W6 := ⟨_, rfl⟩
  rw [hW6] at M6 N6 R6 b6 T6 S6
  have HRA := Lib.hid hra
  have hss6 : W6.heap.size = w5.heap.size + 1 := by rw [← hW6]; simp
  clear x0 x1 y0 y1 hra hta hb hfa he N5 R5 T5 b5 HX4 HY4 HR4 HB4 HN4 HT4
  have m0 := M6.c0
  have m1 := M6.c1
  have n0 := N6.c0
  have n1 := N6.c1
  go_wp2_with fail
  try rw [hW6]
  clear hW4 hW6
  have hne1 : w3.heap.size ≠ w.heap.size + 1 + 1 := by omega
  have hne2 : w5.heap.size ≠ w.heap.size + 1 + 1 := by omega
  go_region_held3 (fun w' => w'.cell? ⟨w3.heap.size, 0, none⟩ = some (.int .i64 rb.1) ∧ w'.cell? ⟨w3.heap.size, 1, none⟩ = some (.slice ab rb.2.1.length cb) ∧ w'.cell? ⟨w5.heap.size, 0, none⟩ = some (.int .i64 ra.1) ∧ w'.cell? ⟨w5.heap.size, 1, none⟩ = some (.slice aa ra.2.1.length ca))
    (first | exact ⟨N6.c0, N6.c1, M6.c0, M6.c1⟩ | exact ⟨(N6.kept (two_after R6 _ _ rfl).2.2.2 (fun e => by have := Option.some.inj e; omega)).c0, (N6.kept (two_after R6 _ _ rfl).2.2.2 (fun e => by have := Option.some.inj e; omega)).c1, (M6.kept (two_after R6 _ _ rfl).2.2.2 (fun e => by have := Option.some.inj e; omega)).c0, (M6.kept (two_after R6 _ _ rfl).2.2.2 (fun e => by have := Option.some.inj e; omega)).c1⟩ | exact ⟨(N6.alloc _).c0, (N6.alloc _).c1, (M6.alloc _).c0, (M6.alloc _).c1⟩ | (go_keep; done))
    (first
      | (go_at_call 127; refine (gaover_box _ _ _).mono ?_; rintro e wb ⟨p1, rfl, P1, hp1, hbT⟩; replace b6 := (by first | exact b6.trans (hbT.mono b6.size) | exact b6.drew.trans (hbT.mono b6.drew.size) : Below w.heap.size w _); replace N6 := two_past N6 hbT rfl; replace M6 := two_past M6 hbT rfl; replace R6 := two_past R6 hbT rfl; replace T6 := terms_past T6 hbT rfl; replace S6 := terms_past S6 hbT rfl)
      | (go_at_call 126; refine (over_steps hsort ra.1 rb.1 _ _ ra.2.1 rb.2.1 _ p1 _ (S6.alloc _) (Two.new _ _ _ _).c0 (Two.new _ _ _ _).c1 (by simp) (P1.alloc _) (T6.alloc _)).mono ?_; rintro e wd ⟨r, hr, vr, rfl, htr, hbr, hfr⟩; obtain ⟨ar, cr, rfl, _⟩ := htr.placed; have b7 := b6.alloc b6.size (.cells #[.func (.func 185) #[] #[.pointer (some ⟨p1, 0, none⟩)], .func (.func 54) #[] #[]] 167); replace N6 := two_past (N6.alloc _) hbr rfl; replace M6 := two_past (M6.alloc _) hbr rfl; replace R6 := two_past (R6.alloc _) hbr rfl; have r0 := R6.c0; have r1 := R6.c1; have f0 := R6.fr (i := 0); have f1 := R6.fr (i := 1)))
  go_wp2
  have b8 : Below w.heap.size w wd := by first | exact b7.trans (hbr.mono b7.size) | exact b7.drew.trans (hbr.mono b7.drew.size)
  have s2 := hbT.size
  (try simp at s2)
  have hs7 := b7.size
  simp at hs7
  obtain ⟨e0, e1', e2', hg⟩ := two_after R6 (.int .i64 r.1) (.slice ar r.2.1.length cr) rfl
  refine bodyPost_ret (v := .tuple #[.agg #[.int .i64 r.1, .slice ar r.2.1.length cr], .int .i64 r.2.2]) ?_ rfl ?_
  · simp [results, Tryz.results69, go_sem, e0, e1', e2']
  · refine ⟨r, ⟨rb, ra, HRB.out, HRA.out, hr⟩, _, rfl, htr.kept hg ?_, b8.grown hg b8.size (by intro k hk; cases hk; omega), fun k hk => ?_⟩
    · cases hv : (Value.slice ar r.2.1.length cr).ownBlock with
      | none => exact .inl rfl
      | some k => right; have := hfr k hv; simp at this ⊢; omega
    · have := hfr k hk; simp at this; omega
end Go.Proofs.YtkjclafbpocabaaGreatDoor

/-! ## A9 -/
namespace Go.Proofs.YtkjclafbpocabaaGreatDoor
open Go.RowKit Go.Maps Go.Shelf Go.Sort
set_option maxRecDepth 100000 in
set_option maxHeartbeats 4000000 in
theorem equals_any (dx dy : Int) (vx vy : Value) (lx ly : List (Int × Int)) (w : World) (hx : TermsAt w vx lx) (hy : TermsAt w vy ly) :
    Calls Tryz.prog 67 #[.agg #[.int .i64 dx, vx], .agg #[.int .i64 dy, vy]] w (AnsB (decide (dx = dy ∧ lx = ly)) w) := by
  have hlx := hx.1
  obtain ⟨ax, cx, rfl, px⟩ := hx.placed
  obtain ⟨ay, cy, rfl, py⟩ := hy.placed
  have PX := Lib.hid px
  have PY := Lib.hid py
  have hBW : Below w.heap.size w ((w.alloc (.cells #[.int .i64 dx, .slice ax lx.length cx] 34)).alloc (.cells #[.int .i64 dy, .slice ay ly.length cy] 34)) := ((Below.refl _ w).alloc (Nat.le_refl _) _).alloc (by simp) _
  have BB := Lib.hid hBW
  clear hx hy px py hBW
  by_cases hd : dx = dy
  · subst hd
    by_cases hl : lx.length = ly.length
    · have HL := Lib.hid hl
      obtain ⟨r, hr⟩ : ∃ r, decide (dx = dx ∧ lx = ly) = r := ⟨_, rfl⟩
      have HR := Lib.hid hr
      rw [hr]
      rw [← hl] at BB ⊢
      have XX := Lib.hid ((Two.new w (.int .i64 dx) (.slice ax lx.length cx) 34).alloc (.cells #[.int .i64 dx, .slice ay lx.length cy] 34))
      have Y := Two.new (w.alloc (.cells #[.int .i64 dx, .slice ax lx.length cx] 34)) (.int .i64 dx) (.slice ay lx.length cy) 34
      have eY : (w.alloc (.cells #[.int .i64 dx, .slice ax lx.length cx] 34)).heap.size = w.heap.size + 1 := by simp
      rw [eY] at Y
      have YY := Lib.hid Y
      clear hl hr Y eY
      go_enter Tryz.func67, Tryz.ntmps67
      go_wp2_with fail
      go_loopw [5] (fun s wr => ∃ i : Nat, s = .int .i64 (i : Nat) ∧ i ≤ lx.length ∧ Hid (lx.take i = ly.take i) ∧ Hid (Below w.heap.size w wr) ∧ Hid (Two wr w.heap.size (.int .i64 dx) (.slice ax lx.length cx) 34) ∧ Hid (Two wr (w.heap.size + 1) (.int .i64 dx) (.slice ay lx.length cy) 34)) (fun s _ => lx.length - (intOf s).toNat)
      case atStart => exact ⟨0, rfl, Nat.zero_le _, Lib.hid (by simp), BB, XX, YY⟩
      case round =>
        obtain ⟨i, rfl, hi', HT, HB, HX, HY⟩ := hrel
        have c0 := HX.out.c0
        have c1 := HX.out.c1
        have y0 := HY.out.c0
        have y1 := HY.out.c1
        have hz1 : w.heap.size < wr.heap.size := HX.out.lt
        have hz2 : w.heap.size + 1 < wr.heap.size := HY.out.lt
        by_cases hlt : i < lx.length
        · obtain ⟨b1, o1, rfl, hb1, k1, k2⟩ := PX.out i hlt
          obtain ⟨b2, o2, rfl, hb2, m1, m2⟩ := PY.out i (by rw [← HL.out]; exact hlt)
          have k1 := (HB.out.cell (p := ⟨b1, _, none⟩) hb1).trans k1
          have k2 := (HB.out.cell (p := ⟨b1, _, none⟩) hb1).trans k2
          have m1 := (HB.out.cell (p := ⟨b2, _, none⟩) hb2).trans m1
          have m2 := (HB.out.cell (p := ⟨b2, _, none⟩) hb2).trans m2
          obtain ⟨⟨p1, p2⟩, hp⟩ : ∃ t, lx[i]?.getD (0, 0) = t := ⟨_, rfl⟩
          obtain ⟨⟨q1, q2⟩, hq⟩ : ∃ t, ly[i]?.getD (0, 0) = t := ⟨_, rfl⟩
          rw [hp] at k1 k2
          rw [hq] at m1 m2
          have HP := Lib.hid hp
          have HQ := Lib.hid hq
          have hij : (i : Int) < (lx.length : Int) := by omega
          have hij0 : (0 : Int) ≤ (i : Int) := by omega
          have hneq := fun w0 => neq34 p1 p2 q1 q2 w0
          obtain ⟨bb, hbb⟩ : ∃ bb, (!(p1 == q1 && p2 == q2)) = bb := ⟨_, rfl⟩
          rw [hbb] at hneq
          have hbe : bb = false → p1 = q1 ∧ p2 = q2 := by intro e; rw [e] at hbb; simpa using hbb
          have hbn : bb = true → ¬ (p1 = q1 ∧ p2 = q2) := by intro e; rw [e] at hbb; intro h; rw [h.1, h.2] at hbb; simp at hbb
          clear hp hq hbb
          cases bb
          · obtain ⟨e1, e2⟩ := hbe rfl
            have HT2 : Hid (lx.take (i + 1) = ly.take (i + 1)) := by
              have h1 := HP.out
              have h2 := HQ.out
              rw [← e1, ← e2] at h2
              have hly : i < ly.length := by rw [← HL.out]; exact hlt
              refine Lib.hid ?_
              rw [List.take_succ_eq_append_getElem hlt, List.take_succ_eq_append_getElem hly, HT.out]
              rw [List.getElem?_eq_getElem hlt] at h1
              rw [List.getElem?_eq_getElem hly] at h2
              simp at h1 h2
              rw [h1, h2]
            clear hbe hbn e1 e2
            go_wp2
            go_quiet (fail)
            go_wp2_with fail
            exact ⟨⟨i + 1, by simp, by omega, HT2, Lib.hid (below_drewN HB.out _), HX, HY⟩, by simp [intOf]; omega⟩
          · have hn := hbn rfl
            have HRF : Hid (r = false) := by
              refine Lib.hid ?_
              rw [← HR.out]
              apply decide_eq_false
              rintro ⟨_, e⟩
              subst e
              have h1 := HP.out
              rw [HQ.out] at h1
              injection h1 with h1 h2
              exact hn ⟨h1.symm, h2.symm⟩
            clear hbe hbn hn
            go_wp2
            go_quiet (fail)
            go_wp2_with fail
            go_ret
            exact ⟨by rw [HRF.out]; rfl, below_drewN HB.out _⟩
        · have hie : i = lx.length := by omega
          have HRT : Hid (r = true) := by
            refine Lib.hid ?_
            rw [← HR.out]
            apply decide_eq_true
            refine ⟨by trivial, ?_⟩
            have h1 := HT.out
            rwa [hie, List.take_of_length_le (Nat.le_refl _), List.take_of_length_le (by rw [← HL.out]; exact Nat.le_refl _)] at h1
          clear hie
          go_wp2
          go_ret
          exact ⟨by rw [HRT.out]; rfl, HB.out⟩
    · have hne : decide (dx = dx ∧ lx = ly) = false := decide_eq_false (fun h => hl (by rw [h.2]))
      have hli : ((lx.length : Int) != (ly.length : Int)) = true := by simp; omega
      rw [hne]
      clear hne
      go_enter Tryz.func67, Tryz.ntmps67
      go_wp2
      go_ret
      exact ⟨rfl, BB.out⟩
  · have hne : decide (dx = dy ∧ lx = ly) = false := decide_eq_false (fun h => hd h.1)
    have hdi : (dx != dy) = true := by simpa using hd
    rw [hne]
    clear hne
    go_enter Tryz.func67, Tryz.ntmps67
    go_wp2
    go_ret
    exact ⟨rfl, BB.out⟩
set_option maxRecDepth 100000 in
set_option maxHeartbeats 1000000 in
theorem tfraction_any (hsort : Hid SortC) (num den : Int) (w : World) (HG : Hid (∀ r, makeF den [(num, 1)] r → r.2.2 = 0)) :
    Calls Tryz.prog 65 #[.int .i64 num, .int .i64 den] w fun e w' => ∃ r, makeF den [(num, 1)] r ∧ OneN (r.1, r.2.1) w e w' := by
  have R := Two.new w (.int .i64 0) (.slice none 0 0) 34
  have BB : Below w.heap.size w ((w.alloc (.cells #[.int .i64 0, .slice none 0 0] 34)).alloc (.cells #[.int .i64 num, .int .i64 1] 85)) := ((Below.refl _ w).alloc (Nat.le_refl _) _).alloc (by simp) _
  have R1 := R.alloc (.cells #[.int .i64 num, .int .i64 1] 85)
  have HT := terms_lit' (w := w.alloc (.cells #[.int .i64 0, .slice none 0 0] 34)) (b := w.heap.size + 1) (by simp) num 1 85
  have HM := Lib.hid (make_any hsort den _ _ _ HT)
  have RR := Lib.hid R1
  have HB := Lib.hid BB
  clear R BB R1 HT
  go_enter Tryz.func65, Tryz.ntmps65
  go_wp2_with fail
  refine HM.out.mono ?_
  rintro e w2 ⟨r, hr, v, rfl, hta, hb, hfr⟩
  rw [HG.out r hr]
  obtain ⟨a, cap, rfl, _⟩ := hta.placed
  have R2 := RR.out.below hb RR.out.lt
  have B2 := HB.out.trans (hb.mono HB.out.size)
  have R3 := R2.alloc (.cells #[.int .i64 r.1, .slice a r.2.1.length cap] 34)
  have B3 := Lib.hid (B2.alloc B2.size (.cells #[.int .i64 r.1, .slice a r.2.1.length cap] 34))
  have RR2 := Lib.hid R2
  have hsz : w.heap.size < w2.heap.size := R2.lt
  have r0 := R3.c0
  have r1 := R3.c1
  have f0 := R3.fr (i := 0)
  have f1 := R3.fr (i := 1)
  have s0 := R2.c0
  have s1 := R2.c1
  have g0 := R2.fr (i := 0)
  have g1 := R2.fr (i := 1)
  have HR := Lib.hid hr
  have HTA := Lib.hid hta
  have HFR := Lib.hid hfr
  have HB2 := Lib.hid B2
  clear hr hta hfr hb R2 B2 HM R3
  go_wp2
  obtain ⟨_, _, _, hg⟩ := two_after RR2.out (.int .i64 r.1) (.slice a r.2.1.length cap) rfl
  have T4 := ((RR2.out.set0 (.int .i64 r.1)).set1 (.slice a r.2.1.length cap) rfl).alloc (.cells #[.int .i64 r.1, .slice a r.2.1.length cap] 34)
  have d0 := T4.c0
  have d1 := T4.c1
  refine bodyPost_ret (v := .agg #[.int .i64 r.1, .slice a r.2.1.length cap]) ?_ rfl ?_
  · simp [results, Tryz.results65, go_sem, d0, d1]
  · have hk := HTA.out.kept hg (by
      cases hv : (Value.slice a r.2.1.length cap).ownBlock with
      | none => exact .inl rfl
      | some k => right; have := HFR.out k hv; simp at this ⊢; omega)
    have B4 := HB2.out.grown hg HB2.out.size (by intro k hk; cases hk; omega)
    refine ⟨r, HR.out, _, rfl, hk.alloc _, B4.alloc B4.size _, fun k hk => ?_⟩
    have := HFR.out k hk; simp at this; omega
end Go.Proofs.YtkjclafbpocabaaGreatDoor

/-! ## A10 -/
namespace Go.Proofs.YtkjclafbpocabaaGreatDoor
open Go.RowKit Go.Maps Go.Shelf Go.Sort
def W3c (w : World) (d : Int) (v : Value) : World := ((w.alloc (.cells #[.int .i64 d, v] 34)).alloc (.cells #[.int .i64 0, .slice none 0 0] 34)).alloc (.cells #[] 85)
theorem W3c_below (w : World) (d : Int) (v : Value) : Below w.heap.size w (W3c w d v) := (((Below.refl _ w).alloc (Nat.le_refl _) _).alloc (by simp) _).alloc (by simp; omega) _
theorem W3c_size (w : World) (d : Int) (v : Value) : (W3c w d v).heap.size = w.heap.size + 1 + 1 + 1 := by simp [W3c]
theorem W3c_x (w : World) (d : Int) (v : Value) : Two (W3c w d v) w.heap.size (.int .i64 d) v 34 := ((Two.new w (.int .i64 d) v 34).alloc _).alloc _
theorem W3c_r (w : World) (d : Int) (v : Value) : Two (W3c w d v) (w.heap.size + 1) (.int .i64 0) (.slice none 0 0) 34 := by
  have := (Two.new (w.alloc (.cells #[.int .i64 d, v] 34)) (.int .i64 0) (.slice none 0 0) 34).alloc (.cells #[] 85)
  simpa [W3c] using this
theorem W3c_own (w : World) (d : Int) (v : Value) : OwnT (W3c w d v) (w.heap.size + 1 + 1) (.slice (some ⟨w.heap.size + 1 + 1, 0, none⟩) 0 0) [] := by
  have h := empty_own ((w.alloc (.cells #[.int .i64 d, v] 34)).alloc (.cells #[.int .i64 0, .slice none 0 0] 34))
  simpa [W3c] using h
/-- What 'copied' ends with, once the new row is there. -/
theorem copied_news (w : World) (d : Int) (v : Value) (l : List (Int × Int)) (b off : Nat) (hb : b < w.heap.size) (hc : TermsC w b off l) : ∀ j u, (flatT l)[j]? = some u → (W3c w d v).cell? ((⟨b, off, none⟩ : Addr).add j) = some u := by
  intro j u hj
  have hadd : (⟨b, off, none⟩ : Addr).add j = ⟨b, off + j, none⟩ := by unfold Addr.add; split <;> simp_all
  have hjl : j < (flatT l).length := (List.getElem?_eq_some_iff.1 hj).1
  rw [flatT_len] at hjl
  have hi : j / 2 < l.length := by omega
  have hb2 : ∀ k, (W3c w d v).cell? ⟨b, k, none⟩ = w.cell? ⟨b, k, none⟩ := fun k => (W3c_below w d v).cell (p := ⟨b, k, none⟩) hb
  rw [hadd, hb2]
  obtain ⟨c1, c2⟩ := hc (j / 2) hi
  obtain ⟨g1, g2⟩ := flatT_get l (j / 2) hi
  rcases Nat.mod_two_eq_zero_or_one j with h | h
  · have e : j = j / 2 * 2 := by omega
    rw [e] at hj
    rw [g1] at hj
    rw [e, c1, hj]
  · have e : j = j / 2 * 2 + 1 := by omega
    rw [e] at hj
    rw [g2] at hj
    rw [e, show off + (j / 2 * 2 + 1) = off + j / 2 * 2 + 1 by omega, c2, hj]
set_option maxRecDepth 100000 in
set_option maxHeartbeats 4000000 in
theorem copied_some (d : Int) (l : List (Int × Int)) (ad : Addr) (cap : Nat) (w : World) (hl : l.length ≤ 1000) (hn : Hid (∀ j u, (flatT l)[j]? = some u → (W3c w d (.slice (some ad) l.length cap)).cell? (ad.add j) = some u)) :
    Calls Tryz.prog 66 #[.agg #[.int .i64 d, .slice (some ad) l.length cap]] w (OneN (d, l) w) := by
  have HE := Lib.hid (W3c_own w d (.slice (some ad) l.length cap))
  have X := W3c_x w d (.slice (some ad) l.length cap)
  have R := W3c_r w d (.slice (some ad) l.length cap)
  have HB := Lib.hid (W3c_below w d (.slice (some ad) l.length cap))
  have hone : Hid (∀ u ∈ flatT l, u.oneCell' = true) := Lib.hid (by
    intro u hu
    unfold flatT at hu
    obtain ⟨t, _, ht⟩ := List.mem_flatMap.1 hu
    simp at ht
    rcases ht with rfl | rfl <;> rfl)
  obtain ⟨i0, hi, hz0, hz1, hz2⟩ := info_parts info34
  have hsz := W3c_size w d (.slice (some ad) l.length cap)
  obtain ⟨W3, hW3⟩ : ∃ W3, W3c w d (.slice (some ad) l.length cap) = W3 := ⟨_, rfl⟩
  have hW3' : ((w.alloc (.cells #[.int .i64 d, .slice (some ad) l.length cap] 34)).alloc (.cells #[.int .i64 0, .slice none 0 0] 34)).alloc (.cells #[] 85) = W3 := hW3
  rw [hW3] at HE X R HB hn hsz
  clear hW3
  have HX := Lib.hid X
  have HR := Lib.hid R
  have x0 := X.c0
  have x1 := X.c1
  have f0 := X.fr (i := 0)
  have f1 := X.fr (i := 1)
  clear X R
  go_enter Tryz.func66, Tryz.ntmps66
  go_wp2_with (first | (at_builtin; refine wpList_append_own _ rfl _ _ 32 rfl (w.heap.size + 1 + 1) 85 i0 (.agg #[.int .i64 0, .int .i64 0]) 2 16 und22 hi hz0 hz1 hz2 rfl (by decide) (.slice (some ⟨w.heap.size + 1 + 1, 0, none⟩) 0 0) 0 (flatT []) rfl HE.out ad l.length cap (flatT l) rfl (flatT_len l) hn.out hone.out (by unfold maxLen; omega) (by omega) (by first | omega | simp) ?_; intro v' w3 hown3 hgrow3 _; have HOW3 := Lib.hid hown3; have HGW3 := Lib.hid hgrow3; obtain ⟨pv, nv, cv, rfl⟩ := own_shape hown3; have X3 := HX.out.kept hgrow3 (by intro e; have h : w.heap.size = w.heap.size + 1 + 1 := Option.some.inj e; omega); have R3 := HR.out.kept hgrow3 (by intro e; have h : w.heap.size + 1 = w.heap.size + 1 + 1 := Option.some.inj e; omega); have s1 := X3.c1; have g1 := X3.fr (i := 1); have XS := X3.set1 (.slice pv nv cv) rfl; have RS := R3.kept (grownBy_setCell w3 ⟨w.heap.size, 1, none⟩ (.slice pv nv cv)) (by intro e; have h : w.heap.size + 1 = w.heap.size := Option.some.inj e; omega); have z0 := XS.c0; have z1 := XS.c1; have r0 := RS.c0; have r1 := RS.c1; have r2 := RS.fr (i := 0); have r3 := RS.fr (i := 1); have HX3 := Lib.hid X3; have HRS := Lib.hid RS; clear hown3 hgrow3 X3 XS R3 RS))
  have hO : OwnT w3 (w.heap.size + 1 + 1) (.slice pv nv cv) l := by simpa [OwnT, flatT] using HOW3.out
  have hAt := hO.at (by omega)
  have hfr : ∀ k, (Value.slice pv nv cv).ownBlock = some k → w.heap.size + 1 + 1 ≤ k := fun k hk => (hO.lt k hk).1
  have T1 := hAt.kept (grownBy_setCell w3 ⟨w.heap.size, 1, none⟩ (.slice pv nv cv)) (by
    cases hv : (Value.slice pv nv cv).ownBlock with
    | none => exact .inl rfl
    | some k => right; have := hfr k hv; simp; omega)
  obtain ⟨e0, e1, e2, hg⟩ := two_after HRS.out (.int .i64 d) (.slice pv nv cv) rfl
  have T2 := T1.kept hg (by
    cases hv : (Value.slice pv nv cv).ownBlock with
    | none => exact .inl rfl
    | some k => right; have := hfr k hv; simp; omega)
  have B1 : Below w.heap.size w w3 := HB.out.grown HGW3.out HB.out.size (by intro q hq; have h : w.heap.size + 1 + 1 = q := Option.some.inj hq; omega)
  have B2 := B1.setCell (p := ⟨w.heap.size, 1, none⟩) (Nat.le_refl _) (.slice pv nv cv)
  have B3 := B2.grown hg B2.size (by intro k hk; cases hk; omega)
  refine bodyPost_ret (v := .agg #[.int .i64 d, .slice pv nv cv]) ?_ rfl ?_
  · simp [results, Tryz.results66, go_sem, e0, e1, e2]
  · exact ⟨_, rfl, T2, B3, fun k hk => by have := hfr k hk; omega⟩
set_option maxRecDepth 100000 in
set_option maxHeartbeats 4000000 in
theorem copied_nil (d : Int) (cap : Nat) (w : World) : Calls Tryz.prog 66 #[.agg #[.int .i64 d, .slice none 0 cap]] w (OneN (d, []) w) := by
  have X := W3c_x w d (.slice none 0 cap)
  have R := W3c_r w d (.slice none 0 cap)
  have HB := Lib.hid (W3c_below w d (.slice none 0 cap))
  have hsz := W3c_size w d (.slice none 0 cap)
  obtain ⟨W3, hW3⟩ : ∃ W3, W3c w d (.slice none 0 cap) = W3 := ⟨_, rfl⟩
  have hW3' : ((w.alloc (.cells #[.int .i64 d, .slice none 0 cap] 34)).alloc (.cells #[.int .i64 0, .slice none 0 0] 34)).alloc (.cells #[] 85) = W3 := hW3
  rw [hW3] at X R HB hsz
  clear hW3
  have hst : ∀ w1 : World, (storeCells ⟨w.heap.size + 1 + 1, 0, none⟩ []).run Tryz.prog w1 = .ok () w1 := fun w1 => rfl
  have XS := X.set1 (.slice (some ⟨w.heap.size + 1 + 1, 0, none⟩) 0 0) rfl
  have RS := R.kept (grownBy_setCell W3 ⟨w.heap.size, 1, none⟩ (.slice (some ⟨w.heap.size + 1 + 1, 0, none⟩) 0 0)) (by intro e; have h : w.heap.size + 1 = w.heap.size := Option.some.inj e; omega)
  have HRS := Lib.hid RS
  have x0 := X.c0
  have x1 := X.c1
  have f0 := X.fr (i := 0)
  have f1 := X.fr (i := 1)
  have z0 := XS.c0
  have z1 := XS.c1
  have r0 := RS.c0
  have r1 := RS.c1
  have r2 := RS.fr (i := 0)
  have r3 := RS.fr (i := 1)
  clear X XS R RS
  go_enter Tryz.func66, Tryz.ntmps66
  go_wp2
  obtain ⟨e0, e1, e2, hg⟩ := two_after HRS.out (.int .i64 d) (.slice (some ⟨w.heap.size + 1 + 1, 0, none⟩) 0 0) rfl
  have B2 := HB.out.setCell (p := ⟨w.heap.size, 1, none⟩) (Nat.le_refl _) (.slice (some ⟨w.heap.size + 1 + 1, 0, none⟩) 0 0)
  have B3 := B2.grown hg B2.size (by intro k hk; cases hk; omega)
  refine bodyPost_ret (v := .agg #[.int .i64 d, .slice (some ⟨w.heap.size + 1 + 1, 0, none⟩) 0 0]) ?_ rfl ?_
  · simp [results, Tryz.results66, go_sem, e0, e1, e2]
  · exact ⟨_, rfl, ⟨by simp, .inl ⟨rfl, _, _, rfl⟩⟩, B3, fun k hk => by cases hk; show w.heap.size ≤ w.heap.size + 1 + 1; omega⟩
theorem copied_any (d : Int) (v : Value) (l : List (Int × Int)) (w : World) (h : TermsAt w v l) (hl : l.length ≤ 1000) : Calls Tryz.prog 66 #[.agg #[.int .i64 d, v]] w (OneN (d, l) w) := by
  obtain ⟨_, ⟨rfl, a, cap, rfl⟩ | ⟨b, off, cap, rfl, hcap, hb, hc⟩⟩ := h
  · cases a with
    | none => exact copied_nil d cap w
    | some ad => exact copied_some d [] ad cap w (by simp) (Lib.hid (by intro j u h; simp [flatT] at h))
  · exact copied_some d l ⟨b, off, none⟩ cap w hl (Lib.hid (copied_news w d _ l b off hb hc))
end Go.Proofs.YtkjclafbpocabaaGreatDoor
