/-
  Contracts of the program's own functions (and their plain mathematics), on the way to the law: each for all arguments that its hypotheses let.
-/
import Derived.Test.YtkjclafbpocabaaGreatDoorG17
import Derived.Test.YtkjclafbpocabaaGreatDoorG21
import Derived.WalkKit
import Derived.WalkSpells
import Derived.WalkLawsBesides
import Derived.Deep.QuietTactic
import Derived.BigQuiet
import Derived.Lib.Hide
import Derived.WalkSmall
import Derived.Maps.OwnSet
import Derived.Maps.RangeWalk
import Derived.Deep.RegionWith
import Derived.Deep.RegionHeld3
import Derived.Deep.DrawnRows
import Derived.Deep.DeepCutAuto
import Derived.OneCell
import Derived.KernelRfl
import Derived.Laws.StructEq
import Derived.StillTailTactics
import Derived.Laws.Externs
import Derived.RangeFuncBox
set_option linter.unusedSimpArgs false
set_option linter.unusedVariables false

/-! ## A4 -/
namespace Go.Proofs.YtkjclafbpocabaaGreatDoor
open Go.RowKit Go.Maps
/-- Two steps, each on what the one before it made, up to the first error. -/
def Comp2 (P1 P2 : Int → List (Int × Int) → Int × List (Int × Int) × Int → Prop) (d : Int) (l : List (Int × Int)) (r : Int × List (Int × Int) × Int) : Prop :=
  ∃ m, P1 d l m ∧ (m.2.2 ≠ 0 → r = (0, [], m.2.2)) ∧ (m.2.2 = 0 → ∃ q, P2 m.1 m.2.1 q ∧ (q.2.2 ≠ 0 → r = (0, [], q.2.2)) ∧ (q.2.2 = 0 → r = q))
theorem Comp2.e1 {P1 P2 : Int → List (Int × Int) → Int × List (Int × Int) × Int → Prop} {d : Int} {l : List (Int × Int)} {m : Int × List (Int × Int) × Int} {e : Int} (h : P1 d l m) (he : m.2.2 = e) (h0 : e ≠ 0) : Comp2 P1 P2 d l (0, [], e) :=
  ⟨m, h, fun _ => by rw [he], fun g => absurd (he.symm.trans g) h0⟩
theorem Comp2.e2 {P1 P2 : Int → List (Int × Int) → Int × List (Int × Int) × Int → Prop} {d : Int} {l : List (Int × Int)} {m q : Int × List (Int × Int) × Int} {e : Int} (h : P1 d l m) (he : m.2.2 = 0) (h2 : P2 m.1 m.2.1 q) (hq : q.2.2 = e) (h0 : e ≠ 0) : Comp2 P1 P2 d l (0, [], e) :=
  ⟨m, h, fun g => absurd he g, fun _ => ⟨q, h2, fun _ => by rw [hq], fun g => absurd (hq.symm.trans g) h0⟩⟩
theorem Comp2.ok {P1 P2 : Int → List (Int × Int) → Int × List (Int × Int) × Int → Prop} {d : Int} {l : List (Int × Int)} {m q : Int × List (Int × Int) × Int} (h : P1 d l m) (he : m.2.2 = 0) (h2 : P2 m.1 m.2.1 q) (hq : q.2.2 = 0) : Comp2 P1 P2 d l q :=
  ⟨m, h, fun g => absurd he g, fun _ => ⟨q, h2, fun g => absurd hq g, fun _ => rfl⟩⟩
set_option maxRecDepth 100000 in
set_option maxHeartbeats 4000000 in
theorem computed_grow (P1 P2 : Int → List (Int × Int) → Int × List (Int × Int) × Int → Prop) (d : Int) (v : Value) (l : List (Int × Int)) (bs p1 p2 : Nat) (w : World) (ht : TermsAt w v l)
    (hs0 : w.cell? ⟨bs, 0, none⟩ = some (.func (.func 220) #[] #[.pointer (some ⟨p1, 0, none⟩)])) (hs1 : w.cell? ⟨bs, 1, none⟩ = some (.func (.func 222) #[] #[.pointer (some ⟨p2, 0, none⟩)])) (hbs : bs < w.heap.size)
    (hf1 : Hid (∀ (d : Int) (v : Value) (l : List (Int × Int)) (W : World), Below w.heap.size w W → TermsAt W v l → Calls Tryz.prog 220 #[.agg #[.int .i64 d, v], .pointer (some ⟨p1, 0, none⟩)] W (NumP (P1 d l) W)))
    (hf2 : Hid (∀ (d : Int) (v : Value) (l : List (Int × Int)) (W : World), Below w.heap.size w W → TermsAt W v l → Calls Tryz.prog 222 #[.agg #[.int .i64 d, v], .pointer (some ⟨p2, 0, none⟩)] W (NumP (P2 d l) W))) :
    Calls Tryz.prog 126 #[.agg #[.int .i64 d, v], .slice (some ⟨bs, 0, none⟩) 2 2] w (NumP (Comp2 P1 P2 d l) w) := by
  obtain ⟨a, cap, rfl, _⟩ := ht.placed
  have X := (Two.new w (.int .i64 d) (.slice a l.length cap) 34).alloc (.cells #[.int .i64 0, .slice none 0 0] 34)
  have R : Two ((w.alloc (.cells #[.int .i64 d, .slice a l.length cap] 34)).alloc (.cells #[.int .i64 0, .slice none 0 0] 34)) (w.heap.size + 1) (.int .i64 0) (.slice none 0 0) 34 := by
    have := Two.new (w.alloc (.cells #[.int .i64 d, .slice a l.length cap] 34)) (.int .i64 0) (.slice none 0 0) 34
    simpa using this
  have BB : Below w.heap.size w ((w.alloc (.cells #[.int .i64 d, .slice a l.length cap] 34)).alloc (.cells #[.int .i64 0, .slice none 0 0] 34)) := ((Below.refl _ w).alloc (Nat.le_refl _) _).alloc (by simp) _
  have HC1 := Lib.hid (hf1.out d _ l _ BB (ht.below BB))
  have k0 := (BB.cell (p := ⟨bs, 0, none⟩) hbs).trans hs0
  have x0 := X.c0
  have x1 := X.c1
  have HX := Lib.hid X
  have HR := Lib.hid R
  have HB := Lib.hid BB
  have HS0 := Lib.hid hs0
  have HS1 := Lib.hid hs1
  clear X R BB hs0 hs1 ht
  go_enter Tryz.func126, Tryz.ntmps126
  go_wp2
  refine wp_loop_rounds 3 ?_
  rw [rounds_succ]
  go_wp2_with fail
  refine HC1.out.mono ?_
  rintro e w2 ⟨m, hm, v2, rfl, ht2, hb2, hf2'⟩
  obtain ⟨a2, c2, rfl, _⟩ := ht2.placed
  have HM := Lib.hid hm
  have X2 := HX.out.below hb2 HX.out.lt
  have R2 := HR.out.below hb2 HR.out.lt
  have B2 := HB.out.trans (hb2.mono HB.out.size)
  obtain ⟨e1, he1⟩ : ∃ e1, m.2.2 = e1 := ⟨_, rfl⟩
  rw [he1]
  have HE1 := Lib.hid he1
  have hsz : w.heap.size + 1 < w2.heap.size := R2.lt
  have HX2 := Lib.hid X2
  have HR2 := Lib.hid R2
  have HB2 := Lib.hid B2
  have HT2 := Lib.hid ht2
  have HF2 := Lib.hid hf2'
  clear he1 hm ht2 hb2 hf2' HC1 x0 x1 k0 B2
  by_cases h1 : e1 = 0
  · subst h1
    have x0 := X2.c0
    have x1 := X2.c1
    have g0 := X2.fr (i := 0)
    have g1 := X2.fr (i := 1)
    have X3 := X2.alloc (.cells #[.int .i64 m.1, .slice a2 m.2.1.length c2] 34)
    have xx0 := X3.c0
    have xx1 := X3.c1
    have gg0 := X3.fr (i := 0)
    have gg1 := X3.fr (i := 1)
    clear X2 R2 X3
    go_wp2
    obtain ⟨_, _, _, hg⟩ := two_after (HX2.out.alloc (.cells #[.int .i64 m.1, .slice a2 m.2.1.length c2] 34)) (.int .i64 m.1) (.slice a2 m.2.1.length c2) rfl
    have X3 := (((HX2.out.alloc (.cells #[.int .i64 m.1, .slice a2 m.2.1.length c2] 34)).set0 (.int .i64 m.1)).set1 (.slice a2 m.2.1.length c2) rfl)
    have R3 := ((HR2.out.alloc (.cells #[.int .i64 m.1, .slice a2 m.2.1.length c2] 34)).kept hg (by intro e; have := Option.some.inj e; omega))
    have B3' := HB2.out.alloc HB2.out.size (.cells #[.int .i64 m.1, .slice a2 m.2.1.length c2] 34)
    have B3 := B3'.grown hg B3'.size (by intro k hk; cases hk; omega)
    have T3 := (HT2.out.alloc (.cells #[.int .i64 m.1, .slice a2 m.2.1.length c2] 34)).kept hg (by
      cases hv : (Value.slice a2 m.2.1.length c2).ownBlock with
      | none => exact .inl rfl
      | some k => right; have := HF2.out k hv; simp at this ⊢; omega)
    obtain ⟨W3, hW3⟩ : ∃ W3, (((w2.alloc (.cells #[.int .i64 m.1, .slice a2 m.2.1.length c2] 34)).setCell ⟨w.heap.size, 0, none⟩ (.int .i64 m.1)).setCell ⟨w.heap.size, 1, none⟩ (.slice a2 m.2.1.length c2)) = W3 := ⟨_, rfl⟩
    rw [hW3] at X3 R3 B3 T3 ⊢
    have k1 := (B3.cell (p := ⟨bs, 1, none⟩) hbs).trans HS1.out
    have HC2 := Lib.hid (hf2.out m.1 _ m.2.1 W3 B3 T3)
    have HX3 := Lib.hid X3
    have HR3 := Lib.hid R3
    have HB3 := Lib.hid B3
    clear x0 x1 g0 g1 xx0 xx1 gg0 gg1 hg B3' T3 B3 hW3 HX2 HR2 HB2 HT2 HF2 hsz HX HR HB
    have x0 := X3.c0
    have x1 := X3.c1
    clear X3 R3
    rw [rounds_succ]
    go_wp2_with fail
    refine HC2.out.mono ?_
    rintro e w4 ⟨q, hq, v4, rfl, ht4, hb4, hf4⟩
    obtain ⟨a4, c4, rfl, _⟩ := ht4.placed
    have HQ := Lib.hid hq
    have X4 := HX3.out.below hb4 HX3.out.lt
    have R4 := HR3.out.below hb4 HR3.out.lt
    have B4 := HB3.out.trans (hb4.mono HB3.out.size)
    obtain ⟨e2, he2⟩ : ∃ e2, q.2.2 = e2 := ⟨_, rfl⟩
    rw [he2]
    have HE2 := Lib.hid he2
    have hsz : w.heap.size + 1 < w4.heap.size := R4.lt
    have hsz3 : w.heap.size + 1 < W3.heap.size := HR3.out.lt
    have HX4 := Lib.hid X4
    have HR4 := Lib.hid R4
    have HB4 := Lib.hid B4
    have HT4 := Lib.hid ht4
    have HF4 := Lib.hid hf4
    clear he2 hq ht4 hb4 hf4 HC2 x0 x1 k1 B4
    by_cases h2 : e2 = 0
    · subst h2
      have x0 := X4.c0
      have x1 := X4.c1
      have g0 := X4.fr (i := 0)
      have g1 := X4.fr (i := 1)
      have X5 := X4.alloc (.cells #[.int .i64 q.1, .slice a4 q.2.1.length c4] 34)
      have xx0 := X5.c0
      have xx1 := X5.c1
      have gg0 := X5.fr (i := 0)
      have gg1 := X5.fr (i := 1)
      clear X4 R4 X5
      go_wp2
      obtain ⟨_, _, _, hg⟩ := two_after (HX4.out.alloc (.cells #[.int .i64 q.1, .slice a4 q.2.1.length c4] 34)) (.int .i64 q.1) (.slice a4 q.2.1.length c4) rfl
      have X5 := (((HX4.out.alloc (.cells #[.int .i64 q.1, .slice a4 q.2.1.length c4] 34)).set0 (.int .i64 q.1)).set1 (.slice a4 q.2.1.length c4) rfl)
      have R5 := ((HR4.out.alloc (.cells #[.int .i64 q.1, .slice a4 q.2.1.length c4] 34)).kept hg (by intro e; have := Option.some.inj e; omega))
      have B5' := HB4.out.alloc HB4.out.size (.cells #[.int .i64 q.1, .slice a4 q.2.1.length c4] 34)
      have B5 := B5'.grown hg B5'.size (by intro k hk; cases hk; omega)
      have T5 := (HT4.out.alloc (.cells #[.int .i64 q.1, .slice a4 q.2.1.length c4] 34)).kept hg (by
        cases hv : (Value.slice a4 q.2.1.length c4).ownBlock with
        | none => exact .inl rfl
        | some k => right; have := HF4.out k hv; simp at this ⊢; omega)
      obtain ⟨W5, hW5⟩ : ∃ W5, (((w4.alloc (.cells #[.int .i64 q.1, .slice a4 q.2.1.length c4] 34)).setCell ⟨w.heap.size, 0, none⟩ (.int .i64 q.1)).setCell ⟨w.heap.size, 1, none⟩ (.slice a4 q.2.1.length c4)) = W5 := ⟨_, rfl⟩
      rw [hW5] at X5 R5 B5 T5 ⊢
      have HX5 := Lib.hid X5
      have HR5 := Lib.hid R5
      have HB5 := Lib.hid B5
      have HT5 := Lib.hid T5
      clear x0 x1 g0 g1 xx0 xx1 gg0 gg1 hg B5' T5 B5 hW5
      have x0 := X5.c0
      have x1 := X5.c1
      have r0 := R5.c0
      have r1 := R5.c1
      have f0 := R5.fr (i := 0)
      have f1 := R5.fr (i := 1)
      clear X5 R5
      rw [rounds_succ]
      go_wp2
      obtain ⟨d0, d1, d2, hg⟩ := two_after HR5.out (.int .i64 q.1) (.slice a4 q.2.1.length c4) rfl
      refine bodyPost_ret (v := .tuple #[.agg #[.int .i64 q.1, .slice a4 q.2.1.length c4], .int .i64 0]) ?_ rfl ?_
      · simp [results, Tryz.results126, go_sem, d0, d1, d2]
      · refine ⟨q, Comp2.ok HM.out HE1.out HQ.out HE2.out, _, by rw [HE2.out], HT5.out.kept hg ?_, HB5.out.grown hg HB5.out.size (by intro k hk; cases hk; omega), fun k hk => ?_⟩
        · cases hv : (Value.slice a4 q.2.1.length c4).ownBlock with
          | none => exact .inl rfl
          | some k => right; have := HF4.out k hv; simp at this ⊢; omega
        · have := HF4.out k hk; omega
    · have H2 := Lib.hid h2
      clear X4 R4
      have R4 := HR4.out.alloc (.cells #[.int .i64 q.1, .slice a4 q.2.1.length c4] 34)
      have r0 := R4.c0
      have r1 := R4.c1
      have f0 := R4.fr (i := 0)
      have f1 := R4.fr (i := 1)
      have q0 := HR4.out.c0
      have q1 := HR4.out.c1
      have q2 := HR4.out.fr (i := 0)
      have q3 := HR4.out.fr (i := 1)
      clear R4
      go_wp2
      obtain ⟨_, _, _, hg⟩ := two_after HR4.out (.int .i64 0) (.slice none 0 0) rfl
      have T4 := ((HR4.out.set0 (.int .i64 0)).set1 (.slice none 0 0) rfl).alloc (.cells #[.int .i64 q.1, .slice a4 q.2.1.length c4] 34)
      have d0 := T4.c0
      have d1 := T4.c1
      refine bodyPost_ret (v := .tuple #[.agg #[.int .i64 0, .slice none 0 0], .int .i64 e2]) ?_ rfl ?_
      · simp [results, Tryz.results126, go_sem, d0, d1]
      · have B4 := HB4.out.grown hg HB4.out.size (by intro k hk; cases hk; omega)
        exact ⟨(0, [], e2), Comp2.e2 HM.out HE1.out HQ.out HE2.out H2.out, _, rfl, termsAt_nil _, B4.alloc B4.size _, fun k hk => by cases hk⟩
  · have H1 := Lib.hid h1
    clear X2 R2
    have R4 := HR2.out.alloc (.cells #[.int .i64 m.1, .slice a2 m.2.1.length c2] 34)
    have r0 := R4.c0
    have r1 := R4.c1
    have f0 := R4.fr (i := 0)
    have f1 := R4.fr (i := 1)
    have q0 := HR2.out.c0
    have q1 := HR2.out.c1
    have q2 := HR2.out.fr (i := 0)
    have q3 := HR2.out.fr (i := 1)
    clear R4
    go_wp2
    obtain ⟨_, _, _, hg⟩ := two_after HR2.out (.int .i64 0) (.slice none 0 0) rfl
    have T4 := ((HR2.out.set0 (.int .i64 0)).set1 (.slice none 0 0) rfl).alloc (.cells #[.int .i64 m.1, .slice a2 m.2.1.length c2] 34)
    have d0 := T4.c0
    have d1 := T4.c1
    refine bodyPost_ret (v := .tuple #[.agg #[.int .i64 0, .slice none 0 0], .int .i64 e1]) ?_ rfl ?_
    · simp [results, Tryz.results126, go_sem, d0, d1]
    · have B4 := HB2.out.grown hg HB2.out.size (by intro k hk; cases hk; omega)
      exact ⟨(0, [], e1), Comp2.e1 HM.out HE1.out H1.out, _, rfl, termsAt_nil _, B4.alloc B4.size _, fun k hk => by cases hk⟩
end Go.Proofs.YtkjclafbpocabaaGreatDoor

/-! ## A5 -/
namespace Go.Proofs.YtkjclafbpocabaaGreatDoor
open Go.RowKit Go.Maps
set_option maxRecDepth 100000 in
set_option maxHeartbeats 4000000 in
theorem computed_over (P1 P2 : Int → List (Int × Int) → Int × List (Int × Int) × Int → Prop) (d : Int) (v : Value) (l : List (Int × Int)) (bs p1 : Nat) (w : World) (ht : TermsAt w v l)
    (hs0 : w.cell? ⟨bs, 0, none⟩ = some (.func (.func 185) #[] #[.pointer (some ⟨p1, 0, none⟩)])) (hs1 : w.cell? ⟨bs, 1, none⟩ = some (.func (.func 54) #[] #[])) (hbs : bs < w.heap.size)
    (hf1 : Hid (∀ (d : Int) (v : Value) (l : List (Int × Int)) (W : World), Below w.heap.size w W → TermsAt W v l → Calls Tryz.prog 185 #[.agg #[.int .i64 d, v], .pointer (some ⟨p1, 0, none⟩)] W (NumP (P1 d l) W)))
    (hf2 : Hid (∀ (d : Int) (v : Value) (l : List (Int × Int)) (W : World), Below w.heap.size w W → TermsAt W v l → Calls Tryz.prog 54 #[.agg #[.int .i64 d, v]] W (NumP (P2 d l) W))) :
    Calls Tryz.prog 126 #[.agg #[.int .i64 d, v], .slice (some ⟨bs, 0, none⟩) 2 2] w (NumP (Comp2 P1 P2 d l) w) := by
  obtain ⟨a, cap, rfl, _⟩ := ht.placed
  have X := (Two.new w (.int .i64 d) (.slice a l.length cap) 34).alloc (.cells #[.int .i64 0, .slice none 0 0] 34)
  have R : Two ((w.alloc (.cells #[.int .i64 d, .slice a l.length cap] 34)).alloc (.cells #[.int .i64 0, .slice none 0 0] 34)) (w.heap.size + 1) (.int .i64 0) (.slice none 0 0) 34 := by
    have := Two.new (w.alloc (.cells #[.int .i64 d, .slice a l.length cap] 34)) (.int .i64 0) (.slice none 0 0) 34
    simpa using this
  have BB : Below w.heap.size w ((w.alloc (.cells #[.int .i64 d, .slice a l.length cap] 34)).alloc (.cells #[.int .i64 0, .slice none 0 0] 34)) := ((Below.refl _ w).alloc (Nat.le_refl _) _).alloc (by simp) _
  have HC1 := Lib.hid (hf1.out d _ l _ BB (ht.below BB))
  have k0 := (BB.cell (p := ⟨bs, 0, none⟩) hbs).trans hs0
  have x0 := X.c0
  have x1 := X.c1
  have HX := Lib.hid X
  have HR := Lib.hid R
  have HB := Lib.hid BB
  have HS0 := Lib.hid hs0
  have HS1 := Lib.hid hs1
  clear X R BB hs0 hs1 ht
  go_enter Tryz.func126, Tryz.ntmps126
  go_wp2
  refine wp_loop_rounds 3 ?_
  rw [rounds_succ]
  go_wp2_with fail
  refine HC1.out.mono ?_
  rintro e w2 ⟨m, hm, v2, rfl, ht2, hb2, hf2'⟩
  obtain ⟨a2, c2, rfl, _⟩ := ht2.placed
  have HM := Lib.hid hm
  have X2 := HX.out.below hb2 HX.out.lt
  have R2 := HR.out.below hb2 HR.out.lt
  have B2 := HB.out.trans (hb2.mono HB.out.size)
  obtain ⟨e1, he1⟩ : ∃ e1, m.2.2 = e1 := ⟨_, rfl⟩
  rw [he1]
  have HE1 := Lib.hid he1
  have hsz : w.heap.size + 1 < w2.heap.size := R2.lt
  have HX2 := Lib.hid X2
  have HR2 := Lib.hid R2
  have HB2 := Lib.hid B2
  have HT2 := Lib.hid ht2
  have HF2 := Lib.hid hf2'
  clear he1 hm ht2 hb2 hf2' HC1 x0 x1 k0 B2
  by_cases h1 : e1 = 0
  · subst h1
    have x0 := X2.c0
    have x1 := X2.c1
    have g0 := X2.fr (i := 0)
    have g1 := X2.fr (i := 1)
    have X3 := X2.alloc (.cells #[.int .i64 m.1, .slice a2 m.2.1.length c2] 34)
    have xx0 := X3.c0
    have xx1 := X3.c1
    have gg0 := X3.fr (i := 0)
    have gg1 := X3.fr (i := 1)
    clear X2 R2 X3
    go_wp2
    obtain ⟨_, _, _, hg⟩ := two_after (HX2.out.alloc (.cells #[.int .i64 m.1, .slice a2 m.2.1.length c2] 34)) (.int .i64 m.1) (.slice a2 m.2.1.length c2) rfl
    have X3 := (((HX2.out.alloc (.cells #[.int .i64 m.1, .slice a2 m.2.1.length c2] 34)).set0 (.int .i64 m.1)).set1 (.slice a2 m.2.1.length c2) rfl)
    have R3 := ((HR2.out.alloc (.cells #[.int .i64 m.1, .slice a2 m.2.1.length c2] 34)).kept hg (by intro e; have := Option.some.inj e; omega))
    have B3' := HB2.out.alloc HB2.out.size (.cells #[.int .i64 m.1, .slice a2 m.2.1.length c2] 34)
    have B3 := B3'.grown hg B3'.size (by intro k hk; cases hk; omega)
    have T3 := (HT2.out.alloc (.cells #[.int .i64 m.1, .slice a2 m.2.1.length c2] 34)).kept hg (by
      cases hv : (Value.slice a2 m.2.1.length c2).ownBlock with
      | none => exact .inl rfl
      | some k => right; have := HF2.out k hv; simp at this ⊢; omega)
    obtain ⟨W3, hW3⟩ : ∃ W3, (((w2.alloc (.cells #[.int .i64 m.1, .slice a2 m.2.1.length c2] 34)).setCell ⟨w.heap.size, 0, none⟩ (.int .i64 m.1)).setCell ⟨w.heap.size, 1, none⟩ (.slice a2 m.2.1.length c2)) = W3 := ⟨_, rfl⟩
    rw [hW3] at X3 R3 B3 T3 ⊢
    have k1 := (B3.cell (p := ⟨bs, 1, none⟩) hbs).trans HS1.out
    have HC2 := Lib.hid (hf2.out m.1 _ m.2.1 W3 B3 T3)
    have HX3 := Lib.hid X3
    have HR3 := Lib.hid R3
    have HB3 := Lib.hid B3
    clear x0 x1 g0 g1 xx0 xx1 gg0 gg1 hg B3' T3 B3 hW3 HX2 HR2 HB2 HT2 HF2 hsz HX HR HB
    have x0 := X3.c0
    have x1 := X3.c1
    clear X3 R3
    rw [rounds_succ]
    go_wp2_with fail
    refine HC2.out.mono ?_
    rintro e w4 ⟨q, hq, v4, rfl, ht4, hb4, hf4⟩
    obtain ⟨a4, c4, rfl, _⟩ := ht4.placed
    have HQ := Lib.hid hq
    have X4 := HX3.out.below hb4 HX3.out.lt
    have R4 := HR3.out.below hb4 HR3.out.lt
    have B4 := HB3.out.trans (hb4.mono HB3.out.size)
    obtain ⟨e2, he2⟩ : ∃ e2, q.2.2 = e2 := ⟨_, rfl⟩
    rw [he2]
    have HE2 := Lib.hid he2
    have hsz : w.heap.size + 1 < w4.heap.size := R4.lt
    have hsz3 : w.heap.size + 1 < W3.heap.size := HR3.out.lt
    have HX4 := Lib.hid X4
    have HR4 := Lib.hid R4
    have HB4 := Lib.hid B4
    have HT4 := Lib.hid ht4
    have HF4 := Lib.hid hf4
    clear he2 hq ht4 hb4 hf4 HC2 x0 x1 k1 B4
    by_cases h2 : e2 = 0
    · subst h2
      have x0 := X4.c0
      have x1 := X4.c1
      have g0 := X4.fr (i := 0)
      have g1 := X4.fr (i := 1)
      have X5 := X4.alloc (.cells #[.int .i64 q.1, .slice a4 q.2.1.length c4] 34)
      have xx0 := X5.c0
      have xx1 := X5.c1
      have gg0 := X5.fr (i := 0)
      have gg1 := X5.fr (i := 1)
      clear X4 R4 X5
      go_wp2
      obtain ⟨_, _, _, hg⟩ := two_after (HX4.out.alloc (.cells #[.int .i64 q.1, .slice a4 q.2.1.length c4] 34)) (.int .i64 q.1) (.slice a4 q.2.1.length c4) rfl
      have X5 := (((HX4.out.alloc (.cells #[.int .i64 q.1, .slice a4 q.2.1.length c4] 34)).set0 (.int .i64 q.1)).set1 (.slice a4 q.2.1.length c4) rfl)
      have R5 := ((HR4.out.alloc (.cells #[.int .i64 q.1, .slice a4 q.2.1.length c4] 34)).kept hg (by intro e; have := Option.some.inj e; omega))
      have B5' := HB4.out.alloc HB4.out.size (.cells #[.int .i64 q.1, .slice a4 q.2.1.length c4] 34)
      have B5 := B5'.grown hg B5'.size (by intro k hk; cases hk; omega)
      have T5 := (HT4.out.alloc (.cells #[.int .i64 q.1, .slice a4 q.2.1.length c4] 34)).kept hg (by
        cases hv : (Value.slice a4 q.2.1.length c4).ownBlock with
        | none => exact .inl rfl
        | some k => right; have := HF4.out k hv; simp at this ⊢; omega)
      obtain ⟨W5, hW5⟩ : ∃ W5, (((w4.alloc (.cells #[.int .i64 q.1, .slice a4 q.2.1.length c4] 34)).setCell ⟨w.heap.size, 0, none⟩ (.int .i64 q.1)).setCell ⟨w.heap.size, 1, none⟩ (.slice a4 q.2.1.length c4)) = W5 := ⟨_, rfl⟩
      rw [hW5] at X5 R5 B5 T5 ⊢
      have HX5 := Lib.hid X5
      have HR5 := Lib.hid R5
      have HB5 := Lib.hid B5
      have HT5 := Lib.hid T5
      clear x0 x1 g0 g1 xx0 xx1 gg0 gg1 hg B5' T5 B5 hW5
      have x0 := X5.c0
      have x1 := X5.c1
      have r0 := R5.c0
      have r1 := R5.c1
      have f0 := R5.fr (i := 0)
      have f1 := R5.fr (i := 1)
      clear X5 R5
      rw [rounds_succ]
      go_wp2
      obtain ⟨d0, d1, d2, hg⟩ := two_after HR5.out (.int .i64 q.1) (.slice a4 q.2.1.length c4) rfl
      refine bodyPost_ret (v := .tuple #[.agg #[.int .i64 q.1, .slice a4 q.2.1.length c4], .int .i64 0]) ?_ rfl ?_
      · simp [results, Tryz.results126, go_sem, d0, d1, d2]
      · refine ⟨q, Comp2.ok HM.out HE1.out HQ.out HE2.out, _, by rw [HE2.out], HT5.out.kept hg ?_, HB5.out.grown hg HB5.out.size (by intro k hk; cases hk; omega), fun k hk => ?_⟩
        · cases hv : (Value.slice a4 q.2.1.length c4).ownBlock with
          | none => exact .inl rfl
          | some k => right; have := HF4.out k hv; simp at this ⊢; omega
        · have := HF4.out k hk; omega
    · have H2 := Lib.hid h2
      clear X4 R4
      have R4 := HR4.out.alloc (.cells #[.int .i64 q.1, .slice a4 q.2.1.length c4] 34)
      have r0 := R4.c0
      have r1 := R4.c1
      have f0 := R4.fr (i := 0)
      have f1 := R4.fr (i := 1)
      have q0 := HR4.out.c0
      have q1 := HR4.out.c1
      have q2 := HR4.out.fr (i := 0)
      have q3 := HR4.out.fr (i := 1)
      clear R4
      go_wp2
      obtain ⟨_, _, _, hg⟩ := two_after HR4.out (.int .i64 0) (.slice none 0 0) rfl
      have T4 := ((HR4.out.set0 (.int .i64 0)).set1 (.slice none 0 0) rfl).alloc (.cells #[.int .i64 q.1, .slice a4 q.2.1.length c4] 34)
      have d0 := T4.c0
      have d1 := T4.c1
      refine bodyPost_ret (v := .tuple #[.agg #[.int .i64 0, .slice none 0 0], .int .i64 e2]) ?_ rfl ?_
      · simp [results, Tryz.results126, go_sem, d0, d1]
      · have B4 := HB4.out.grown hg HB4.out.size (by intro k hk; cases hk; omega)
        exact ⟨(0, [], e2), Comp2.e2 HM.out HE1.out HQ.out HE2.out H2.out, _, rfl, termsAt_nil _, B4.alloc B4.size _, fun k hk => by cases hk⟩
  · have H1 := Lib.hid h1
    clear X2 R2
    have R4 := HR2.out.alloc (.cells #[.int .i64 m.1, .slice a2 m.2.1.length c2] 34)
    have r0 := R4.c0
    have r1 := R4.c1
    have f0 := R4.fr (i := 0)
    have f1 := R4.fr (i := 1)
    have q0 := HR2.out.c0
    have q1 := HR2.out.c1
    have q2 := HR2.out.fr (i := 0)
    have q3 := HR2.out.fr (i := 1)
    clear R4
    go_wp2
    obtain ⟨_, _, _, hg⟩ := two_after HR2.out (.int .i64 0) (.slice none 0 0) rfl
    have T4 := ((HR2.out.set0 (.int .i64 0)).set1 (.slice none 0 0) rfl).alloc (.cells #[.int .i64 m.1, .slice a2 m.2.1.length c2] 34)
    have d0 := T4.c0
    have d1 := T4.c1
    refine bodyPost_ret (v := .tuple #[.agg #[.int .i64 0, .slice none 0 0], .int .i64 e1]) ?_ rfl ?_
    · simp [results, Tryz.results126, go_sem, d0, d1]
    · have B4 := HB2.out.grown hg HB2.out.size (by intro k hk; cases hk; omega)
      exact ⟨(0, [], e1), Comp2.e1 HM.out HE1.out H1.out, _, rfl, termsAt_nil _, B4.alloc B4.size _, fun k hk => by cases hk⟩
end Go.Proofs.YtkjclafbpocabaaGreatDoor

/-! ## A6 -/
namespace Go.Proofs.YtkjclafbpocabaaGreatDoor
open Go.RowKit Go.Maps
theorem two_past {w P w' : World} {b : Nat} {x y : Value} {T : TypeId} (h : Two w b x y T) (hb : Below P.heap.size P w') (hP : P.heap = w.heap) : Two w' b x y T := by
  have h2 : Two P b x y T := by unfold Two at h ⊢; rw [hP]; exact h
  exact h2.below hb h2.lt
theorem terms_past {w P w' : World} {v : Value} {l : List (Int × Int)} (h : TermsAt w v l) (hb : Below P.heap.size P w') (hP : P.heap = w.heap) : TermsAt w' v l := by
  have hc : ∀ a, P.cell? a = w.cell? a := fun a => by unfold World.cell?; rw [hP]
  have h2 : TermsAt P v l := by
    obtain ⟨hl, h | ⟨b, off, cap, hv, hcap, hbb, ht⟩⟩ := h
    · exact ⟨hl, .inl h⟩
    · exact ⟨hl, .inr ⟨b, off, cap, hv, hcap, by rw [hP]; exact hbb, fun i hi => ⟨(hc _).trans (ht i hi).1, (hc _).trans (ht i hi).2⟩⟩⟩
  exact h2.below hb
/-- A closure that holds a number. -/
def BoxTo (f : Nat) (d : Int) (v : Value) (w : World) (e : Ending) (w' : World) : Prop :=
  ∃ p, e = .returned (.func (.func f) #[] #[.pointer (some ⟨p, 0, none⟩)]) ∧ Two w' p (.int .i64 d) v 34 ∧ w.heap.size ≤ p ∧ Below w.heap.size w w'
theorem gatimes_box (d : Int) (v : Value) (w : World) : Calls Tryz.prog 182 #[.agg #[.int .i64 d, v]] w (BoxTo 220 d v w) :=
  (gatimes_any d v w).mono (by rintro e w' ⟨rfl, rfl⟩; exact ⟨_, rfl, Two.new w _ _ _, Nat.le_refl _, (Below.refl _ w).alloc (Nat.le_refl _) _⟩)
theorem gaplus_box (d : Int) (v : Value) (w : World) : Calls Tryz.prog 184 #[.agg #[.int .i64 d, v]] w (BoxTo 222 d v w) :=
  (gaplus_any d v w).mono (by rintro e w' ⟨rfl, rfl⟩; exact ⟨_, rfl, Two.new w _ _ _, Nat.le_refl _, (Below.refl _ w).alloc (Nat.le_refl _) _⟩)
theorem gaover_box (d : Int) (v : Value) (w : World) : Calls Tryz.prog 127 #[.agg #[.int .i64 d, v]] w (BoxTo 185 d v w) :=
  (gaover_any d v w).mono (by rintro e w' ⟨rfl, rfl⟩; exact ⟨_, rfl, Two.new w _ _ _, Nat.le_refl _, (Below.refl _ w).alloc (Nat.le_refl _) _⟩)
/-- The two steps of growing, at once: what 'computed' gives where its steps hold these numbers. -/
theorem grow_steps (hsort : Hid SortC) (d dW dF : Int) (v vW vF : Value) (l lW lF : List (Int × Int)) (bs p1 p2 : Nat) (w : World) (ht : TermsAt w v l)
    (hs0 : w.cell? ⟨bs, 0, none⟩ = some (.func (.func 220) #[] #[.pointer (some ⟨p1, 0, none⟩)])) (hs1 : w.cell? ⟨bs, 1, none⟩ = some (.func (.func 222) #[] #[.pointer (some ⟨p2, 0, none⟩)])) (hbs : bs < w.heap.size)
    (h1 : Two w p1 (.int .i64 dW) vW 34) (t1 : TermsAt w vW lW) (h2 : Two w p2 (.int .i64 dF) vF 34) (t2 : TermsAt w vF lF) :
    Calls Tryz.prog 126 #[.agg #[.int .i64 d, v], .slice (some ⟨bs, 0, none⟩) 2 2] w (NumP (Comp2 (fun d l => mulF d l dW lW) (fun d l => addF 1 d l dF lF) d l) w) :=
  computed_grow _ _ d v l bs p1 p2 w ht hs0 hs1 hbs
    (Lib.hid fun d v l W hb ht => gatimes1_any hsort d dW v vW l lW p1 W ht (h1.below hb h1.lt) (t1.below hb))
    (Lib.hid fun d v l W hb ht => gaplus1_any hsort d dF v vF l lF p2 W ht (h2.below hb h2.lt) (t2.below hb))
theorem over_steps (hsort : Hid SortC) (d dW : Int) (v vW : Value) (l lW : List (Int × Int)) (bs p1 : Nat) (w : World) (ht : TermsAt w v l)
    (hs0 : w.cell? ⟨bs, 0, none⟩ = some (.func (.func 185) #[] #[.pointer (some ⟨p1, 0, none⟩)])) (hs1 : w.cell? ⟨bs, 1, none⟩ = some (.func (.func 54) #[] #[])) (hbs : bs < w.heap.size)
    (h1 : Two w p1 (.int .i64 dW) vW 34) (t1 : TermsAt w vW lW) :
    Calls Tryz.prog 126 #[.agg #[.int .i64 d, v], .slice (some ⟨bs, 0, none⟩) 2 2] w (NumP (Comp2 (fun d l => quoF d l dW lW) RootP d l) w) :=
  computed_over _ _ d v l bs p1 w ht hs0 hs1 hbs
    (Lib.hid fun d v l W hb ht => gaover1_any hsort d dW v vW l lW p1 W ht (h1.below hb h1.lt) (t1.below hb))
    (Lib.hid fun d v l W _ ht => root_any hsort d v l W ht)
def GrownR (d1 : Int) (l1 : List (Int × Int)) (d2 : Int) (l2 : List (Int × Int)) (Y : Int) (r : Int × List (Int × Int) × Int) : Prop :=
  ∃ y, makeF 1 [(Y, 1)] y ∧ Comp2 (fun d l => mulF d l y.1 y.2.1) (fun d l => addF 1 d l d1 l1) d2 l2 r
set_option maxRecDepth 100000 in
set_option maxHeartbeats 4000000 in
theorem grown_any (hsort : Hid SortC) (d1 d2 Y : Int) (v1 v2 : Value) (l1 l2 : List (Int × Int)) (w : World) (h1 : TermsAt w v1 l1) (h2 : TermsAt w v2 l2) :
    Calls Tryz.prog 125 #[.agg #[.int .i64 d1, v1], .agg #[.int .i64 d2, v2], .int .i64 Y] w (NumP (GrownR d1 l1 d2 l2 Y) w) := by
  obtain ⟨a1, c1, rfl, _⟩ := h1.placed
  obtain ⟨a2, c2, rfl, _⟩ := h2.placed
  have b3 : Below w.heap.size w (((w.alloc (.cells #[.int .i64 d1, .slice a1 l1.length c1] 34)).alloc (.cells #[.int .i64 d2, .slice a2 l2.length c2] 34)).alloc (.cells #[.int .i64 0, .slice none 0 0] 34)) := (((Below.refl _ w).alloc (Nat.le_refl _) _).alloc (by simp) _).alloc (by simp; omega) _
  have X := ((Two.new w (.int .i64 d1) (.slice a1 l1.length c1) 34).alloc (.cells #[.int .i64 d2, .slice a2 l2.length c2] 34)).alloc (.cells #[.int .i64 0, .slice none 0 0] 34)
  have Y' : Two (((w.alloc (.cells #[.int .i64 d1, .slice a1 l1.length c1] 34)).alloc (.cells #[.int .i64 d2, .slice a2 l2.length c2] 34)).alloc (.cells #[.int .i64 0, .slice none 0 0] 34)) (w.heap.size + 1) (.int .i64 d2) (.slice a2 l2.length c2) 34 := by
    have := (Two.new (w.alloc (.cells #[.int .i64 d1, .slice a1 l1.length c1] 34)) (.int .i64 d2) (.slice a2 l2.length c2) 34).alloc (.cells #[.int .i64 0, .slice none 0 0] 34)
    simpa using this
  have R : Two (((w.alloc (.cells #[.int .i64 d1, .slice a1 l1.length c1] 34)).alloc (.cells #[.int .i64 d2, .slice a2 l2.length c2] 34)).alloc (.cells #[.int .i64 0, .slice none 0 0] 34)) (w.heap.size + 1 + 1) (.int .i64 0) (.slice none 0 0) 34 := by
    have := Two.new ((w.alloc (.cells #[.int .i64 d1, .slice a1 l1.length c1] 34)).alloc (.cells #[.int .i64 d2, .slice a2 l2.length c2] 34)) (.int .i64 0) (.slice none 0 0) 34
    simpa [Nat.add_assoc] using this
  obtain ⟨W1, hW1⟩ : ∃ W1, (((w.alloc (.cells #[.int .i64 d1, .slice a1 l1.length c1] 34)).alloc (.cells #[.int .i64 d2, .slice a2 l2.length c2] 34)).alloc (.cells #[.int .i64 0, .slice none 0 0] 34)) = W1 := ⟨_, rfl⟩
  rw [hW1] at b3 X Y' R
  have x0 := X.c0
  have x1 := X.c1
  have y0 := Y'.c0
  have y1 := Y'.c1
  have T1 := h1.below b3
  have T2 := h2.below b3
  have hsz : w.heap.size + 2 < W1.heap.size := R.lt
  clear h1 h2
  go_enter Tryz.func125, Tryz.ntmps125
  go_wp2_with fail
  clear hW1
  go_region_held3 (fun w' => w'.cell? ⟨w.heap.size, 0, none⟩ = some (.int .i64 d1) ∧ w'.cell? ⟨w.heap.size, 1, none⟩ = some (.slice a1 l1.length c1) ∧ w'.cell? ⟨w.heap.size + 1, 0, none⟩ = some (.int .i64 d2) ∧ w'.cell? ⟨w.heap.size + 1, 1, none⟩ = some (.slice a2 l2.length c2))
    (first | exact ⟨X.c0, X.c1, Y'.c0, Y'.c1⟩ | exact ⟨(X.kept (two_after R _ _ rfl).2.2.2 (fun e => by have := Option.some.inj e; omega)).c0, (X.kept (two_after R _ _ rfl).2.2.2 (fun e => by have := Option.some.inj e; omega)).c1, (Y'.kept (two_after R _ _ rfl).2.2.2 (fun e => by have := Option.some.inj e; omega)).c0, (Y'.kept (two_after R _ _ rfl).2.2.2 (fun e => by have := Option.some.inj e; omega)).c1⟩ | exact ⟨(X.alloc _).c0, (X.alloc _).c1, (Y'.alloc _).c0, (Y'.alloc _).c1⟩ | (go_keep; done))
    (first
      | (go_at_call 183; refine (awhole_any hsort Y _).mono ?_; rintro e wa ⟨ry, hry, vW, rfl, htW, hbW, hfW⟩; obtain ⟨aW, cW, rfl, _⟩ := htW.placed; replace b3 := (by first | exact b3.trans (hbW.mono b3.size) | exact b3.drew.trans (hbW.mono b3.drew.size) : Below w.heap.size w _); replace X := two_past (X) hbW rfl; replace Y' := two_past (Y') hbW rfl; replace R := two_past (R) hbW rfl; replace T1 := terms_past (T1) hbW rfl; replace T2 := terms_past (T2) hbW rfl; (try (replace P2 := two_past P2 hbW rfl)))
      | (go_at_call 182; refine (gatimes_box _ _ _).mono ?_; rintro e wb ⟨p1, rfl, P1, hp1, hbT⟩; replace b3 := (by first | exact b3.trans (hbT.mono b3.size) | exact b3.drew.trans (hbT.mono b3.drew.size) : Below w.heap.size w _); replace X := two_past (X) hbT rfl; replace Y' := two_past (Y') hbT rfl; replace R := two_past (R) hbT rfl; replace T1 := terms_past (T1) hbT rfl; replace T2 := terms_past (T2) hbT rfl; replace htW := terms_past htW hbT rfl; (try (replace P2 := two_past P2 hbT rfl)))
      | (go_at_call 184; refine (gaplus_box _ _ _).mono ?_; rintro e wc ⟨p2, rfl, P2, hp2, hbP⟩; replace b3 := (by first | exact b3.trans (hbP.mono b3.size) | exact b3.drew.trans (hbP.mono b3.drew.size) : Below w.heap.size w _); replace X := two_past (X) hbP rfl; replace Y' := two_past (Y') hbP rfl; replace R := two_past (R) hbP rfl; replace T1 := terms_past (T1) hbP rfl; replace T2 := terms_past (T2) hbP rfl; (try (replace htW := terms_past htW hbP rfl)); (try (replace P1 := two_past P1 hbP rfl)))
      | (go_at_call 126; refine (grow_steps hsort d2 ry.1 d1 _ _ _ l2 ry.2.1 l1 _ p1 p2 _ (T2.alloc _) (Two.new _ _ _ _).c0 (Two.new _ _ _ _).c1 (by simp) (P1.alloc _) (htW.alloc _) (P2.alloc _) (T1.alloc _)).mono ?_; rintro e wd ⟨r, hr, vr, rfl, htr, hbr, hfr⟩; obtain ⟨ar, cr, rfl, _⟩ := htr.placed; have b4 := b3.alloc b3.size (.cells #[.func (.func 220) #[] #[.pointer (some ⟨p1, 0, none⟩)], .func (.func 222) #[] #[.pointer (some ⟨p2, 0, none⟩)]] 167); replace X := two_past (X.alloc _) hbr rfl; replace Y' := two_past (Y'.alloc _) hbr rfl; replace R := two_past (R.alloc _) hbr rfl; have r0 := R.c0; have r1 := R.c1; have f0 := R.fr (i := 0); have f1 := R.fr (i := 1)))
  go_wp2
  have b5 : Below w.heap.size w wd := by first | exact b4.trans (hbr.mono b4.size) | exact b4.drew.trans (hbr.mono b4.drew.size)
  have s1 := hbW.size
  have s2 := hbT.size
  have s3 := hbP.size
  (try simp at s1 s2 s3)
  have hs4 := b4.size
  have hs3 := b3.size
  simp at hs4
  obtain ⟨d0, d1', d2', hg⟩ := two_after R (.int .i64 r.1) (.slice ar r.2.1.length cr) rfl
  refine bodyPost_ret (v := .tuple #[.agg #[.int .i64 r.1, .slice ar r.2.1.length cr], .int .i64 r.2.2]) ?_ rfl ?_
  · simp [results, Tryz.results125, go_sem, d0, d1', d2']
  · refine ⟨r, ⟨ry, hry, hr⟩, _, rfl, htr.kept hg ?_, b5.grown hg b5.size (by intro k hk; cases hk; omega), fun k hk => ?_⟩
    · cases hv : (Value.slice ar r.2.1.length cr).ownBlock with
      | none => exact .inl rfl
      | some k => right; have := hfr k hv; simp at this ⊢; omega
    · have := hfr k hk; simp at this; omega
end Go.Proofs.YtkjclafbpocabaaGreatDoor
