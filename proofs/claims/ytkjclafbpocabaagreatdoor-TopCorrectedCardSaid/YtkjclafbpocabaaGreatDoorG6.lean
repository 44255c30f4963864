/-
  Contracts of the program's own functions (and their plain mathematics), on the way to the law: each for all arguments that its hypotheses let.
-/
import Derived.Test.YtkjclafbpocabaaGreatDoorG5
import Derived.WalkKit
import Derived.WalkSpells
import Derived.WalkLawsBesides
import Derived.Deep.QuietTactic
import Derived.BigQuiet
import Derived.Lib.Hide
import Derived.WalkSmall
import Derived.Maps.OwnSet
import Derived.Maps.RangeWalk
import Derived.Deep.RegionWith
import Derived.Deep.RegionHeld3
import Derived.OneCell
import Derived.RangeFuncBox
set_option linter.unusedSimpArgs false
set_option linter.unusedVariables false

/-! ## S11 -/
namespace Go.Proofs.YtkjclafbpocabaaGreatDoor
open Go.RowKit Go.Maps
theorem TermsAt.drew {w : World} {v : Value} {l : List (Int × Int)} (h : TermsAt w v l) : TermsAt w.drew v l := h.below (Below.refl _ _).drew

/-- The sum and the difference. -/
def addF (s : Int) (dx : Int) (lx : List (Int × Int)) (dy : Int) (ly : List (Int × Int)) (r : Int × List (Int × Int) × Int) : Prop :=
  if validF dx lx = true ∧ validF dy ly = true then ∃ l, IsTerms (combC dx lx dy ly s) l ∧ r = finF (dx * dy) l else r = (0, [], 2)
def NumP (P : Int × List (Int × Int) × Int → Prop) (w : World) (e : Ending) (w' : World) : Prop := ∃ r, P r ∧ NumTo r w e w'

theorem combC_bd {dx dy s : Int} {lx ly : List (Int × Int)} (vldx : Vld dx lx) (vldy : Vld dy ly) (hs : s = 1 ∨ s = -1) :
    (∀ r, combC dx lx dy ly s r ≠ 0 → 0 ≤ r ∧ r ≤ 1000000000000) ∧ ∀ r, -9000000000000000000 ≤ combC dx lx dy ly s r ∧ combC dx lx dy ly s r ≤ 9000000000000000000 := by
  have hd1 := vldx.d1
  have hd2 := vldx.d2
  have hd3 := vldy.d1
  have hd4 := vldy.d2
  have hs1 : -100000 ≤ s * dx := by rcases hs with rfl | rfl <;> omega
  have hs2 : s * dx ≤ 100000 := by rcases hs with rfl | rfl <;> omega
  have hB1 := plus_bd zeroC dy lx 0 100000 100000 (fun r => by simp [zeroC]) (by omega) (by omega) (by omega) (fun t ht => ⟨(vldx.cf t ht).1, (vldx.cf t ht).2.1⟩) (by omega) 4 vldx.len
  have hB1f : ∀ r, -40000000000 ≤ plusC zeroC dy lx r ∧ plusC zeroC dy lx r ≤ 40000000000 := fun r => by have := hB1 lx.length (Nat.le_refl _) r; rw [List.take_length] at this; omega
  have hB2 := plus_bd (plusC zeroC dy lx) (s * dx) ly 40000000000 100000 100000 hB1f (by omega) (by omega) (by omega) (fun t ht => ⟨(vldy.cf t ht).1, (vldy.cf t ht).2.1⟩) (by omega) 4 vldy.len
  have hc0 : ∀ (l : List (Int × Int)) r, (∀ t ∈ l, 0 ≤ t.2 ∧ t.2 ≤ 1000000000000) → coefOf l r ≠ 0 → 0 ≤ r ∧ r ≤ 1000000000000 := by
    intro l r h hn
    have key : ∀ (l : List (Int × Int)) (s : Int), (∀ t ∈ l, t.2 ≠ r) → l.foldl (fun s t => if t.2 = r then s + t.1 else s) s = s := by
      intro l
      induction l with
      | nil => intro s _; rfl
      | cons t l ih => intro s h; simp only [List.foldl_cons]; rw [if_neg (h t (by simp))]; exact ih s (fun u hu => h u (by simp [hu]))
    by_cases hex : ∀ t ∈ l, t.2 ≠ r
    · exact absurd (key l 0 hex) hn
    · simp only [Classical.not_forall] at hex
      obtain ⟨t, ht, he⟩ := hex
      have : t.2 = r := Decidable.not_not.1 he
      rw [← this]; exact h t ht
  constructor
  · intro r hr
    unfold combC plusC at hr
    by_cases h1 : coefOf lx r = 0
    · by_cases h2 : coefOf ly r = 0
      · rw [h1, h2] at hr; simp [zeroC] at hr
      · exact hc0 ly r (fun t ht => by have := vldy.rt t ht; omega) h2
    · exact hc0 lx r (fun t ht => by have := vldx.rt t ht; omega) h1
  · intro r
    have := hB2 ly.length (Nat.le_refl _) r
    rw [List.take_length] at this
    unfold combC
    omega

theorem mul_den (dx dy : Int) (h1 : 1 ≤ dx) (h2 : dx ≤ 100000) (h3 : 1 ≤ dy) (h4 : dy ≤ 100000) : 1 ≤ dx * dy ∧ dx * dy ≤ 10000000000 := by
  constructor
  · have := Int.mul_le_mul h1 h3 (by omega) (by omega); omega
  · have := Int.mul_le_mul h2 h4 (by omega) (by omega); omega

set_option maxRecDepth 100000 in
set_option maxHeartbeats 2000000 in
theorem add_any (hsort : Hid SortC) (dx dy : Int) (vx vy : Value) (lx ly : List (Int × Int)) (w : World) (hx : TermsAt w vx lx) (hy : TermsAt w vy ly) :
    Calls Tryz.prog 59 #[.agg #[.int .i64 dx, vx], .agg #[.int .i64 dy, vy]] w (NumP (addF 1 dx lx dy ly) w) := by
  have HX := Lib.hid hx
  have HY := Lib.hid hy
  clear hx hy
  go_enter Tryz.func59, Tryz.ntmps59
  go_wp2_with fail
  refine (valid_any dx vx lx _ (((HX.out.alloc _).alloc _).alloc _)).mono ?_
  rintro e w1 ⟨rfl, hb⟩
  have X1 : Two w1 w.heap.size (.int .i64 dx) vx 34 := (((Two.new w (.int .i64 dx) vx 34).alloc _).alloc _).below hb (by simp; omega)
  have Y1 : Two w1 (w.heap.size + 1) (.int .i64 dy) vy 34 := by
    have := ((Two.new (w.alloc (.cells #[.int .i64 dx, vx] 34)) (.int .i64 dy) vy 34).alloc (.cells #[.int .i64 0, .slice none 0 0] 34)).below hb (by simp)
    simpa using this
  have R1 : Two w1 (w.heap.size + 1 + 1) (.int .i64 0) (.slice none 0 0) 34 := by
    have := (Two.new ((w.alloc (.cells #[.int .i64 dx, vx] 34)).alloc (.cells #[.int .i64 dy, vy] 34)) (.int .i64 0) (.slice none 0 0) 34).below hb (by simp)
    simpa [Nat.add_assoc] using this
  have B1 : Below w.heap.size w w1 := ((((Below.refl _ _).alloc (Nat.le_refl _) _).alloc (by simp) _).alloc (by simp; omega) _).trans (hb.mono (by simp; omega))
  have XX := Lib.hid X1
  have YY := Lib.hid Y1
  have RR := Lib.hid R1
  have BB := Lib.hid B1
  have x0 := X1.c0
  have x1 := X1.c1
  have y0 := Y1.c0
  have y1 := Y1.c1
  have r0 := R1.c0
  have r1 := R1.c1
  have f0 := R1.fr (i := 0)
  have f1 := R1.fr (i := 1)
  clear hb X1 Y1 R1 B1
  cases hvx : validF dx lx
  · have HP : Hid (addF 1 dx lx dy ly (0, [], 2)) := Lib.hid (by simp [addF, hvx])
    clear hvx
    go_wp2
    obtain ⟨d0, d1, d2, hg⟩ := two_after RR.out (.int .i64 0) (.slice none 0 0) rfl
    refine bodyPost_ret (v := .tuple #[.agg #[.int .i64 0, .slice none 0 0], .int .i64 2]) ?_ rfl ?_
    · simp [results, Tryz.results59, go_sem, d0, d1, d2]
    · exact ⟨_, HP.out, _, rfl, termsAt_nil _, BB.out.grown hg BB.out.size (by intro k hk; cases hk; omega), fun k hk => by cases hk⟩
  · have HVX := Lib.hid hvx
    clear hvx
    go_wp2_with fail
    refine (valid_any dy vy ly _ (HY.out.below BB.out)).mono ?_
    rintro e w2 ⟨rfl, hb⟩
    have X2 := XX.out.below hb XX.out.lt
    have Y2 := YY.out.below hb YY.out.lt
    have R2 := RR.out.below hb RR.out.lt
    have B2 := BB.out.trans (hb.mono BB.out.size)
    have XX2 := Lib.hid X2
    have YY2 := Lib.hid Y2
    have RR2 := Lib.hid R2
    have BB2 := Lib.hid B2
    clear x0 x1 y0 y1 r0 r1 f0 f1 XX YY RR
    have x0 := X2.c0
    have x1 := X2.c1
    have y0 := Y2.c0
    have y1 := Y2.c1
    have r0 := R2.c0
    have r1 := R2.c1
    have f0 := R2.fr (i := 0)
    have f1 := R2.fr (i := 1)
    clear hb X2 Y2 R2 B2
    cases hvy : validF dy ly
    · have HP : Hid (addF 1 dx lx dy ly (0, [], 2)) := Lib.hid (by simp [addF, hvy])
      clear hvy
      go_wp2
      obtain ⟨d0, d1, d2, hg⟩ := two_after RR2.out (.int .i64 0) (.slice none 0 0) rfl
      refine bodyPost_ret (v := .tuple #[.agg #[.int .i64 0, .slice none 0 0], .int .i64 2]) ?_ rfl ?_
      · simp [results, Tryz.results59, go_sem, d0, d1, d2]
      · exact ⟨_, HP.out, _, rfl, termsAt_nil _, BB2.out.grown hg BB2.out.size (by intro k hk; cases hk; omega), fun k hk => by cases hk⟩
    · have HP : Hid (∀ l, IsTerms (combC dx lx dy ly 1) l → addF 1 dx lx dy ly (finF (dx * dy) l)) := Lib.hid (fun l hl => by simp only [addF]; rw [if_pos ⟨HVX.out, hvy⟩]; exact ⟨l, hl, rfl⟩)
      have VX := vld_of HVX.out
      have VY := vld_of hvy
      have hmd := mul_den dx dy VX.d1 VX.d2 VY.d1 VY.d2
      have hcb := combC_bd VX VY (s := 1) (.inl rfl)
      obtain ⟨hmd1, hmd2⟩ := hmd
      have dm : DomM dx dy := by unfold DomM; omega
      have hp := domM_wrap
      have HVX2 := Lib.hid VX
      have HVY2 := Lib.hid VY
      have HCB1 := Lib.hid hcb.1
      have HCB2 := Lib.hid hcb.2
      have hsz2 : w.heap.size + 2 < w2.heap.size := RR2.out.lt
      clear hcb hvy VX VY HVX BB
      go_wp2_with fail
      go_region_held3 (fun w' => w'.cell? ⟨w.heap.size, 0, none⟩ = some (.int .i64 dx) ∧ w'.cell? ⟨w.heap.size, 1, none⟩ = some vx ∧ w'.cell? ⟨w.heap.size + 1, 0, none⟩ = some (.int .i64 dy) ∧ w'.cell? ⟨w.heap.size + 1, 1, none⟩ = some vy)
        (first | exact ⟨(X4.kept (two_after R4 _ _ rfl).2.2.2 (fun e => by have := Option.some.inj e; omega)).c0, (X4.kept (two_after R4 _ _ rfl).2.2.2 (fun e => by have := Option.some.inj e; omega)).c1, (Y4.kept (two_after R4 _ _ rfl).2.2.2 (fun e => by have := Option.some.inj e; omega)).c0, (Y4.kept (two_after R4 _ _ rfl).2.2.2 (fun e => by have := Option.some.inj e; omega)).c1⟩ | exact ⟨X4.c0, X4.c1, Y4.c0, Y4.c1⟩ | exact ⟨X3.c0, X3.c1, Y3.c0, Y3.c1⟩ | (go_keep; done))
        (first
          | (go_at_call 115; refine (combined_any dx dy 1 vx vy lx ly _ (HX.out.below BB2.out).drew (HY.out.below BB2.out).drew HVX2.out HVY2.out (.inl rfl)).mono ?_; rintro e w3 ⟨B, rfl, ho3, hb3⟩; have X3 := Two.below (w := w2.drew) XX2.out hb3 XX2.out.lt; have Y3 := Two.below (w := w2.drew) YY2.out hb3 YY2.out.lt; have R3 := Two.below (w := w2.drew) RR2.out hb3 RR2.out.lt; have B3 := BB2.out.drew.trans (hb3.mono BB2.out.size))
          | (go_at_call 114; refine (finish_any hsort (dx * dy) B 1000 _ _ ho3 (Nat.le_refl _) (by omega) (by omega) (by omega) HCB1 HCB2).mono ?_; rintro e w4 ⟨l, hit, hlen, v, rfl, hta, hb4, hfr⟩; obtain ⟨a4, cap4, rfl, _⟩ := hta.placed; have X4 := X3.below hb4 X3.lt; have Y4 := Y3.below hb4 Y3.lt; have R4 := R3.below hb4 R3.lt; have B4 := B3.trans (hb4.mono B3.size); have r0 := R4.c0; have r1 := R4.c1; have f0 := R4.fr (i := 0); have f1 := R4.fr (i := 1)))
      go_wp2
      obtain ⟨d0, d1, d2, hg⟩ := two_after R4 (.int .i64 (finF (dx * dy) l).1) (.slice a4 (finF (dx * dy) l).2.1.length cap4) rfl
      refine bodyPost_ret (v := .tuple #[.agg #[.int .i64 (finF (dx * dy) l).1, .slice a4 (finF (dx * dy) l).2.1.length cap4], .int .i64 (finF (dx * dy) l).2.2]) ?_ rfl ?_
      · simp [results, Tryz.results59, go_sem, d0, d1, d2]
      · refine ⟨_, HP.out l hit, _, rfl, hta.kept hg ?_, B4.grown hg B4.size (by intro k hk; cases hk; omega), fun k hk => ?_⟩
        · cases hv : (Value.slice a4 (finF (dx * dy) l).2.1.length cap4).ownBlock with
          | none => exact .inl rfl
          | some k => right; have := hfr k hv; have := R3.lt; simp; omega
        · have := hfr k hk; have := R3.lt; omega

set_option maxRecDepth 100000 in
set_option maxHeartbeats 2000000 in
theorem sub_any (hsort : Hid SortC) (dx dy : Int) (vx vy : Value) (lx ly : List (Int × Int)) (w : World) (hx : TermsAt w vx lx) (hy : TermsAt w vy ly) :
    Calls Tryz.prog 56 #[.agg #[.int .i64 dx, vx], .agg #[.int .i64 dy, vy]] w (NumP (addF (-1) dx lx dy ly) w) := by
  have HX := Lib.hid hx
  have HY := Lib.hid hy
  clear hx hy
  go_enter Tryz.func56, Tryz.ntmps56
  go_wp2_with fail
  refine (valid_any dx vx lx _ (((HX.out.alloc _).alloc _).alloc _)).mono ?_
  rintro e w1 ⟨rfl, hb⟩
  have X1 : Two w1 w.heap.size (.int .i64 dx) vx 34 := (((Two.new w (.int .i64 dx) vx 34).alloc _).alloc _).below hb (by simp; omega)
  have Y1 : Two w1 (w.heap.size + 1) (.int .i64 dy) vy 34 := by
    have := ((Two.new (w.alloc (.cells #[.int .i64 dx, vx] 34)) (.int .i64 dy) vy 34).alloc (.cells #[.int .i64 0, .slice none 0 0] 34)).below hb (by simp)
    simpa using this
  have R1 : Two w1 (w.heap.size + 1 + 1) (.int .i64 0) (.slice none 0 0) 34 := by
    have := (Two.new ((w.alloc (.cells #[.int .i64 dx, vx] 34)).alloc (.cells #[.int .i64 dy, vy] 34)) (.int .i64 0) (.slice none 0 0) 34).below hb (by simp)
    simpa [Nat.add_assoc] using this
  have B1 : Below w.heap.size w w1 := ((((Below.refl _ _).alloc (Nat.le_refl _) _).alloc (by simp) _).alloc (by simp; omega) _).trans (hb.mono (by simp; omega))
  have XX := Lib.hid X1
  have YY := Lib.hid Y1
  have RR := Lib.hid R1
  have BB := Lib.hid B1
  have x0 := X1.c0
  have x1 := X1.c1
  have y0 := Y1.c0
  have y1 := Y1.c1
  have r0 := R1.c0
  have r1 := R1.c1
  have f0 := R1.fr (i := 0)
  have f1 := R1.fr (i := 1)
  clear hb X1 Y1 R1 B1
  cases hvx : validF dx lx
  · have HP : Hid (addF (-1) dx lx dy ly (0, [], 2)) := Lib.hid (by simp [addF, hvx])
    clear hvx
    go_wp2
    obtain ⟨d0, d1, d2, hg⟩ := two_after RR.out (.int .i64 0) (.slice none 0 0) rfl
    refine bodyPost_ret (v := .tuple #[.agg #[.int .i64 0, .slice none 0 0], .int .i64 2]) ?_ rfl ?_
    · simp [results, Tryz.results56, go_sem, d0, d1, d2]
    · exact ⟨_, HP.out, _, rfl, termsAt_nil _, BB.out.grown hg BB.out.size (by intro k hk; cases hk; omega), fun k hk => by cases hk⟩
  · have HVX := Lib.hid hvx
    clear hvx
    go_wp2_with fail
    refine (valid_any dy vy ly _ (HY.out.below BB.out)).mono ?_
    rintro e w2 ⟨rfl, hb⟩
    have X2 := XX.out.below hb XX.out.lt
    have Y2 := YY.out.below hb YY.out.lt
    have R2 := RR.out.below hb RR.out.lt
    have B2 := BB.out.trans (hb.mono BB.out.size)
    have XX2 := Lib.hid X2
    have YY2 := Lib.hid Y2
    have RR2 := Lib.hid R2
    have BB2 := Lib.hid B2
    clear x0 x1 y0 y1 r0 r1 f0 f1 XX YY RR
    have x0 := X2.c0
    have x1 := X2.c1
    have y0 := Y2.c0
    have y1 := Y2.c1
    have r0 := R2.c0
    have r1 := R2.c1
    have f0 := R2.fr (i := 0)
    have f1 := R2.fr (i := 1)
    clear hb X2 Y2 R2 B2
    cases hvy : validF dy ly
    · have HP : Hid (addF (-1) dx lx dy ly (0, [], 2)) := Lib.hid (by simp [addF, hvy])
      clear hvy
      go_wp2
      obtain ⟨d0, d1, d2, hg⟩ := two_after RR2.out (.int .i64 0) (.slice none 0 0) rfl
      refine bodyPost_ret (v := .tuple #[.agg #[.int .i64 0, .slice none 0 0], .int .i64 2]) ?_ rfl ?_
      · simp [results, Tryz.results56, go_sem, d0, d1, d2]
      · exact ⟨_, HP.out, _, rfl, termsAt_nil _, BB2.out.grown hg BB2.out.size (by intro k hk; cases hk; omega), fun k hk => by cases hk⟩
    · have HP : Hid (∀ l, IsTerms (combC dx lx dy ly (-1)) l → addF (-1) dx lx dy ly (finF (dx * dy) l)) := Lib.hid (fun l hl => by simp only [addF]; rw [if_pos ⟨HVX.out, hvy⟩]; exact ⟨l, hl, rfl⟩)
      have VX := vld_of HVX.out
      have VY := vld_of hvy
      have hmd := mul_den dx dy VX.d1 VX.d2 VY.d1 VY.d2
      have hcb := combC_bd VX VY (s := -1) (.inr rfl)
      obtain ⟨hmd1, hmd2⟩ := hmd
      have dm : DomM dx dy := by unfold DomM; omega
      have hp := domM_wrap
      have HVX2 := Lib.hid VX
      have HVY2 := Lib.hid VY
      have HCB1 := Lib.hid hcb.1
      have HCB2 := Lib.hid hcb.2
      have hsz2 : w.heap.size + 2 < w2.heap.size := RR2.out.lt
      clear hcb hvy VX VY HVX BB
      go_wp2_with fail
      go_region_held3 (fun w' => w'.cell? ⟨w.heap.size, 0, none⟩ = some (.int .i64 dx) ∧ w'.cell? ⟨w.heap.size, 1, none⟩ = some vx ∧ w'.cell? ⟨w.heap.size + 1, 0, none⟩ = some (.int .i64 dy) ∧ w'.cell? ⟨w.heap.size + 1, 1, none⟩ = some vy)
        (first | exact ⟨(X4.kept (two_after R4 _ _ rfl).2.2.2 (fun e => by have := Option.some.inj e; omega)).c0, (X4.kept (two_after R4 _ _ rfl).2.2.2 (fun e => by have := Option.some.inj e; omega)).c1, (Y4.kept (two_after R4 _ _ rfl).2.2.2 (fun e => by have := Option.some.inj e; omega)).c0, (Y4.kept (two_after R4 _ _ rfl).2.2.2 (fun e => by have := Option.some.inj e; omega)).c1⟩ | exact ⟨X4.c0, X4.c1, Y4.c0, Y4.c1⟩ | exact ⟨X3.c0, X3.c1, Y3.c0, Y3.c1⟩ | (go_keep; done))
        (first
          | (go_at_call 115; refine (combined_any dx dy (-1) vx vy lx ly _ (HX.out.below BB2.out).drew (HY.out.below BB2.out).drew HVX2.out HVY2.out (.inr rfl)).mono ?_; rintro e w3 ⟨B, rfl, ho3, hb3⟩; have X3 := Two.below (w := w2.drew) XX2.out hb3 XX2.out.lt; have Y3 := Two.below (w := w2.drew) YY2.out hb3 YY2.out.lt; have R3 := Two.below (w := w2.drew) RR2.out hb3 RR2.out.lt; have B3 := BB2.out.drew.trans (hb3.mono BB2.out.size))
          | (go_at_call 114; refine (finish_any hsort (dx * dy) B 1000 _ _ ho3 (Nat.le_refl _) (by omega) (by omega) (by omega) HCB1 HCB2).mono ?_; rintro e w4 ⟨l, hit, hlen, v, rfl, hta, hb4, hfr⟩; obtain ⟨a4, cap4, rfl, _⟩ := hta.placed; have X4 := X3.below hb4 X3.lt; have Y4 := Y3.below hb4 Y3.lt; have R4 := R3.below hb4 R3.lt; have B4 := B3.trans (hb4.mono B3.size); have r0 := R4.c0; have r1 := R4.c1; have f0 := R4.fr (i := 0); have f1 := R4.fr (i := 1)))
      go_wp2
      obtain ⟨d0, d1, d2, hg⟩ := two_after R4 (.int .i64 (finF (dx * dy) l).1) (.slice a4 (finF (dx * dy) l).2.1.length cap4) rfl
      refine bodyPost_ret (v := .tuple #[.agg #[.int .i64 (finF (dx * dy) l).1, .slice a4 (finF (dx * dy) l).2.1.length cap4], .int .i64 (finF (dx * dy) l).2.2]) ?_ rfl ?_
      · simp [results, Tryz.results56, go_sem, d0, d1, d2]
      · refine ⟨_, HP.out l hit, _, rfl, hta.kept hg ?_, B4.grown hg B4.size (by intro k hk; cases hk; omega), fun k hk => ?_⟩
        · cases hv : (Value.slice a4 (finF (dx * dy) l).2.1.length cap4).ownBlock with
          | none => exact .inl rfl
          | some k => right; have := hfr k hv; have := R3.lt; simp; omega
        · have := hfr k hk; have := R3.lt; omega

end Go.Proofs.YtkjclafbpocabaaGreatDoor

/-! ## S12 -/
namespace Go.Proofs.YtkjclafbpocabaaGreatDoor
open Go.RowKit Go.Maps
def mulF (dx : Int) (lx : List (Int × Int)) (dy : Int) (ly : List (Int × Int)) (r : Int × List (Int × Int) × Int) : Prop :=
  if validF dx lx = true ∧ validF dy ly = true then ∃ l, IsTerms (plusC zeroC 1 (prodL lx ly)) l ∧ r = finF (dx * dy) l else r = (0, [], 2)
theorem vld_pt {d : Int} {l : List (Int × Int)} (h : Vld d l) : ∀ t ∈ l, (-100000 ≤ t.1 ∧ t.1 ≤ 100000) ∧ (1 ≤ t.2 ∧ t.2 ≤ 1000) := fun t ht => ⟨⟨(h.cf t ht).1, (h.cf t ht).2.1⟩, h.rt t ht⟩
theorem coefOf_ne {l : List (Int × Int)} {r : Int} (hn : coefOf l r ≠ 0) : ∃ t ∈ l, t.2 = r := by
  have key : ∀ (l : List (Int × Int)) (s : Int), (∀ t ∈ l, t.2 ≠ r) → l.foldl (fun s t => if t.2 = r then s + t.1 else s) s = s := by
    intro l
    induction l with
    | nil => intro s _; rfl
    | cons t l ih => intro s h; simp only [List.foldl_cons]; rw [if_neg (h t (by simp))]; exact ih s (fun u hu => h u (by simp [hu]))
  by_cases hex : ∀ t ∈ l, t.2 ≠ r
  · exact absurd (key l 0 hex) hn
  · simp only [Classical.not_forall] at hex
    obtain ⟨t, ht, he⟩ := hex
    exact ⟨t, ht, Decidable.not_not.1 he⟩
theorem prodC_bd {m M : Int} {lx ly : List (Int × Int)} (hm1 : -M ≤ m) (hm2 : m ≤ M) (hM : M ≤ 100000) (hM0 : 0 ≤ M) (hML : M * (10000000000000 * ((lx.length * ly.length : Nat) : Int)) ≤ 9000000000000000000)
    (hcx : ∀ t ∈ lx, (-100000 ≤ t.1 ∧ t.1 ≤ 100000) ∧ (1 ≤ t.2 ∧ t.2 ≤ 1000)) (hcy : ∀ t ∈ ly, (-100000 ≤ t.1 ∧ t.1 ≤ 100000) ∧ (1 ≤ t.2 ∧ t.2 ≤ 1000)) :
    (∀ r, plusC zeroC m (prodL lx ly) r ≠ 0 → 0 ≤ r ∧ r ≤ 1000000000000) ∧ ∀ r, -9000000000000000000 ≤ plusC zeroC m (prodL lx ly) r ∧ plusC zeroC m (prodL lx ly) r ≤ 9000000000000000000 := by
  have hb : ∀ t ∈ prodL lx ly, (-10000000000000 ≤ t.1 ∧ t.1 ≤ 10000000000000) ∧ 0 ≤ t.2 ∧ t.2 ≤ 1000000 := by
    intro t ht
    unfold prodL at ht
    obtain ⟨t1, h1, ht⟩ := List.mem_flatMap.1 ht
    obtain ⟨t2, h2, rfl⟩ := List.mem_map.1 ht
    have a1 := hcx t1 h1
    have a2 := hcy t2 h2
    have := mulT_bd t1 t2 a1.1 a2.1 a1.2 a2.2
    omega
  constructor
  · intro r hr
    have : coefOf (prodL lx ly) r ≠ 0 := by intro h; unfold plusC at hr; rw [h] at hr; simp [zeroC] at hr
    obtain ⟨t, ht, rfl⟩ := coefOf_ne this
    have := hb t ht
    omega
  · intro r
    exact zero_plus_bd m M _ _ hm1 hm2 hM0 (by rw [prodL_len]; exact Nat.le_refl _) hML (fun t ht => (hb t ht).1) r

set_option maxRecDepth 100000 in
set_option maxHeartbeats 2000000 in
theorem mul_any (hsort : Hid SortC) (dx dy : Int) (vx vy : Value) (lx ly : List (Int × Int)) (w : World) (hx : TermsAt w vx lx) (hy : TermsAt w vy ly) :
    Calls Tryz.prog 58 #[.agg #[.int .i64 dx, vx], .agg #[.int .i64 dy, vy]] w (NumP (mulF dx lx dy ly) w) := by
  have HX := Lib.hid hx
  have HY := Lib.hid hy
  clear hx hy
  go_enter Tryz.func58, Tryz.ntmps58
  go_wp2_with fail
  refine (valid_any dx vx lx _ (((HX.out.alloc _).alloc _).alloc _)).mono ?_
  rintro e w1 ⟨rfl, hb⟩
  have X1 : Two w1 w.heap.size (.int .i64 dx) vx 34 := (((Two.new w (.int .i64 dx) vx 34).alloc _).alloc _).below hb (by simp; omega)
  have Y1 : Two w1 (w.heap.size + 1) (.int .i64 dy) vy 34 := by
    have := ((Two.new (w.alloc (.cells #[.int .i64 dx, vx] 34)) (.int .i64 dy) vy 34).alloc (.cells #[.int .i64 0, .slice none 0 0] 34)).below hb (by simp)
    simpa using this
  have R1 : Two w1 (w.heap.size + 1 + 1) (.int .i64 0) (.slice none 0 0) 34 := by
    have := (Two.new ((w.alloc (.cells #[.int .i64 dx, vx] 34)).alloc (.cells #[.int .i64 dy, vy] 34)) (.int .i64 0) (.slice none 0 0) 34).below hb (by simp)
    simpa [Nat.add_assoc] using this
  have B1 : Below w.heap.size w w1 := ((((Below.refl _ _).alloc (Nat.le_refl _) _).alloc (by simp) _).alloc (by simp; omega) _).trans (hb.mono (by simp; omega))
  have XX := Lib.hid X1
  have YY := Lib.hid Y1
  have RR := Lib.hid R1
  have BB := Lib.hid B1
  have x0 := X1.c0
  have x1 := X1.c1
  have y0 := Y1.c0
  have y1 := Y1.c1
  have r0 := R1.c0
  have r1 := R1.c1
  have f0 := R1.fr (i := 0)
  have f1 := R1.fr (i := 1)
  clear hb X1 Y1 R1 B1
  cases hvx : validF dx lx
  · have HP : Hid (mulF dx lx dy ly (0, [], 2)) := Lib.hid (by simp [mulF, hvx])
    clear hvx
    go_wp2
    obtain ⟨d0, d1, d2, hg⟩ := two_after RR.out (.int .i64 0) (.slice none 0 0) rfl
    refine bodyPost_ret (v := .tuple #[.agg #[.int .i64 0, .slice none 0 0], .int .i64 2]) ?_ rfl ?_
    · simp [results, Tryz.results58, go_sem, d0, d1, d2]
    · exact ⟨_, HP.out, _, rfl, termsAt_nil _, BB.out.grown hg BB.out.size (by intro k hk; cases hk; omega), fun k hk => by cases hk⟩
  · have HVX := Lib.hid hvx
    clear hvx
    go_wp2_with fail
    refine (valid_any dy vy ly _ (HY.out.below BB.out)).mono ?_
    rintro e w2 ⟨rfl, hb⟩
    have X2 := XX.out.below hb XX.out.lt
    have Y2 := YY.out.below hb YY.out.lt
    have R2 := RR.out.below hb RR.out.lt
    have B2 := BB.out.trans (hb.mono BB.out.size)
    have XX2 := Lib.hid X2
    have YY2 := Lib.hid Y2
    have RR2 := Lib.hid R2
    have BB2 := Lib.hid B2
    clear x0 x1 y0 y1 r0 r1 f0 f1 XX YY RR
    have x0 := X2.c0
    have x1 := X2.c1
    have y0 := Y2.c0
    have y1 := Y2.c1
    have r0 := R2.c0
    have r1 := R2.c1
    have f0 := R2.fr (i := 0)
    have f1 := R2.fr (i := 1)
    clear hb X2 Y2 R2 B2
    cases hvy : validF dy ly
    · have HP : Hid (mulF dx lx dy ly (0, [], 2)) := Lib.hid (by simp [mulF, hvy])
      clear hvy
      go_wp2
      obtain ⟨d0, d1, d2, hg⟩ := two_after RR2.out (.int .i64 0) (.slice none 0 0) rfl
      refine bodyPost_ret (v := .tuple #[.agg #[.int .i64 0, .slice none 0 0], .int .i64 2]) ?_ rfl ?_
      · simp [results, Tryz.results58, go_sem, d0, d1, d2]
      · exact ⟨_, HP.out, _, rfl, termsAt_nil _, BB2.out.grown hg BB2.out.size (by intro k hk; cases hk; omega), fun k hk => by cases hk⟩
    · have HP : Hid (∀ l, IsTerms (plusC zeroC 1 (prodL lx ly)) l → mulF dx lx dy ly (finF (dx * dy) l)) := Lib.hid (fun l hl => by simp only [mulF]; rw [if_pos ⟨HVX.out, hvy⟩]; exact ⟨l, hl, rfl⟩)
      have VX := vld_of HVX.out
      have VY := vld_of hvy
      have HML : Hid ((1 : Int) * (10000000000000 * ((lx.length * ly.length : Nat) : Int)) ≤ 9000000000000000000) := Lib.hid (by have : lx.length * ly.length ≤ 4 * 4 := Nat.mul_le_mul VX.len VY.len; omega)
      have hmd := mul_den dx dy VX.d1 VX.d2 VY.d1 VY.d2
      have hcb := prodC_bd (m := 1) (M := 1) (lx := lx) (ly := ly) (by omega) (by omega) (by omega) (by omega) HML.out (fun t ht => vld_pt VX t ht) (fun t ht => vld_pt VY t ht)
      have HCX := Lib.hid (fun t ht => vld_pt VX t ht)
      have HCY := Lib.hid (fun t ht => vld_pt VY t ht)
      obtain ⟨hmd1, hmd2⟩ := hmd
      have dm : DomM dx dy := by unfold DomM; omega
      have hp := domM_wrap
      have HVX2 := Lib.hid VX
      have HVY2 := Lib.hid VY
      have HCB1 := Lib.hid hcb.1
      have HCB2 := Lib.hid hcb.2
      have hsz2 : w.heap.size + 2 < w2.heap.size := RR2.out.lt
      clear hcb hvy VX VY HVX BB
      go_wp2_with fail
      go_region_held3 (fun w' => w'.cell? ⟨w.heap.size, 0, none⟩ = some (.int .i64 dx) ∧ w'.cell? ⟨w.heap.size, 1, none⟩ = some vx ∧ w'.cell? ⟨w.heap.size + 1, 0, none⟩ = some (.int .i64 dy) ∧ w'.cell? ⟨w.heap.size + 1, 1, none⟩ = some vy)
        (first | exact ⟨(X4.kept (two_after R4 _ _ rfl).2.2.2 (fun e => by have := Option.some.inj e; omega)).c0, (X4.kept (two_after R4 _ _ rfl).2.2.2 (fun e => by have := Option.some.inj e; omega)).c1, (Y4.kept (two_after R4 _ _ rfl).2.2.2 (fun e => by have := Option.some.inj e; omega)).c0, (Y4.kept (two_after R4 _ _ rfl).2.2.2 (fun e => by have := Option.some.inj e; omega)).c1⟩ | exact ⟨X4.c0, X4.c1, Y4.c0, Y4.c1⟩ | exact ⟨X3.c0, X3.c1, Y3.c0, Y3.c1⟩ | (go_keep; done))
        (first
          | (go_at_call 116; refine (product_any 1 1 vx vy lx ly _ (HX.out.below BB2.out).drew (HY.out.below BB2.out).drew HVX2.out.len HVY2.out.len (by omega) (by omega) (by omega) (by omega) HML.out HCX HCY).mono ?_; rintro e w3 ⟨B, rfl, ho3, hb3⟩; have X3 := Two.below (w := w2.drew) XX2.out hb3 XX2.out.lt; have Y3 := Two.below (w := w2.drew) YY2.out hb3 YY2.out.lt; have R3 := Two.below (w := w2.drew) RR2.out hb3 RR2.out.lt; have B3 := BB2.out.drew.trans (hb3.mono BB2.out.size))
          | (go_at_call 114; refine (finish_any hsort (dx * dy) B 1000 _ _ ho3 (Nat.le_refl _) (by omega) (by omega) (by omega) HCB1 HCB2).mono ?_; rintro e w4 ⟨l, hit, hlen, v, rfl, hta, hb4, hfr⟩; obtain ⟨a4, cap4, rfl, _⟩ := hta.placed; have X4 := X3.below hb4 X3.lt; have Y4 := Y3.below hb4 Y3.lt; have R4 := R3.below hb4 R3.lt; have B4 := B3.trans (hb4.mono B3.size); have r0 := R4.c0; have r1 := R4.c1; have f0 := R4.fr (i := 0); have f1 := R4.fr (i := 1)))
      go_wp2
      obtain ⟨d0, d1, d2, hg⟩ := two_after R4 (.int .i64 (finF (dx * dy) l).1) (.slice a4 (finF (dx * dy) l).2.1.length cap4) rfl
      refine bodyPost_ret (v := .tuple #[.agg #[.int .i64 (finF (dx * dy) l).1, .slice a4 (finF (dx * dy) l).2.1.length cap4], .int .i64 (finF (dx * dy) l).2.2]) ?_ rfl ?_
      · simp [results, Tryz.results58, go_sem, d0, d1, d2]
      · refine ⟨_, HP.out l hit, _, rfl, hta.kept hg ?_, B4.grown hg B4.size (by intro k hk; cases hk; omega), fun k hk => ?_⟩
        · cases hv : (Value.slice a4 (finF (dx * dy) l).2.1.length cap4).ownBlock with
          | none => exact .inl rfl
          | some k => right; have := hfr k hv; have := R3.lt; simp; omega
        · have := hfr k hk; have := R3.lt; omega


end Go.Proofs.YtkjclafbpocabaaGreatDoor

/-! ## S13 -/
namespace Go.Proofs.YtkjclafbpocabaaGreatDoor
open Go.RowKit Go.Maps
def conjAt (i : Nat) (t : Int × Int) : Int × Int := if i = 0 then t else (-t.1, t.2)
def sqAt (i : Nat) (t : Int × Int) : Int := if i = 0 then t.1 * t.1 * t.2 else -(t.1 * t.1 * t.2)
def conjL (l : List (Int × Int)) : List (Int × Int) := l.mapIdx conjAt
def normL (l : List (Int × Int)) : Int := (l.mapIdx sqAt).sum
theorem conjL_len (l : List (Int × Int)) : (conjL l).length = l.length := by simp [conjL]
theorem conjL_succ (l : List (Int × Int)) (k : Nat) (h : k < l.length) : conjL (l.take (k + 1)) = conjL (l.take k) ++ [conjAt k (l[k]?.getD (0, 0))] := by
  unfold conjL
  rw [List.take_succ_eq_append_getElem h, List.mapIdx_concat]
  simp [Nat.min_eq_left (Nat.le_of_lt h), h]
theorem normL_succ (l : List (Int × Int)) (k : Nat) (h : k < l.length) : normL (l.take (k + 1)) = normL (l.take k) + sqAt k (l[k]?.getD (0, 0)) := by
  unfold normL
  rw [List.take_succ_eq_append_getElem h, List.mapIdx_concat, List.sum_append]
  simp [Nat.min_eq_left (Nat.le_of_lt h), h]
theorem sq_bd2 (t : Int × Int) (h : (-100000 ≤ t.1 ∧ t.1 ≤ 100000) ∧ (1 ≤ t.2 ∧ t.2 ≤ 1000)) : 0 ≤ t.1 * t.1 ∧ t.1 * t.1 ≤ 10000000000 ∧ 0 ≤ t.1 * t.1 * t.2 ∧ t.1 * t.1 * t.2 ≤ 10000000000000 := by
  have a := mul_abs_le t.1 t.1 100000 100000 h.1.1 h.1.2 h.1.1 h.1.2
  have b : 0 ≤ t.1 * t.1 := by rcases Int.le_total 0 t.1 with h1 | h1
                               · exact Int.mul_nonneg h1 h1
                               · exact Int.mul_nonneg_of_nonpos_of_nonpos h1 h1
  have c := mul_abs_le (t.1 * t.1) t.2 10000000000 1000 (by omega) (by omega) (by omega) (by omega)
  have d := Int.mul_nonneg b (show 0 ≤ t.2 by omega)
  omega

theorem news2 (W : World) (o : Obj) (x y : Value) (T : TypeId) : ∀ j u, [x, y][j]? = some u → ((W.alloc o).alloc (.cells #[x, y] T)).cell? ((⟨W.heap.size + 1, 0, none⟩ : Addr).add j) = some u := by
  have := cell_two_new (W.alloc o) x y T
  simpa using this
def ConjTo (l : List (Int × Int)) (w : World) (e : Ending) (w' : World) : Prop :=
  ∃ v, e = .returned (.tuple #[v, .int .i64 (normL l)]) ∧ OwnT w' w.heap.size v (conjL l) ∧ Below w.heap.size w w'

set_option maxRecDepth 100000 in
set_option maxHeartbeats 2000000 in
theorem conjugate_any (v0 : Value) (l : List (Int × Int)) (w : World) (ht : TermsAt w v0 l) (hl : l.length ≤ 2) (hb : Hid (∀ t ∈ l, (-100000 ≤ t.1 ∧ t.1 ≤ 100000) ∧ (1 ≤ t.2 ∧ t.2 ≤ 1000))) :
    Calls Tryz.prog 117 #[v0] w (ConjTo l w) := by
  obtain ⟨ax, cx, rfl, px⟩ := ht.placed
  have PX := Lib.hid px
  clear ht px
  obtain ⟨i0, hi, hz0, hz1, hz2⟩ := info_parts info34
  go_enter Tryz.func117, Tryz.ntmps117
  go_wp2
  go_loopw [2, 3, 9] (fun v n i wr => ∃ k : Nat, k ≤ l.length ∧ i = .int .i64 k ∧ (∃ x, n = .int .i64 x ∧ -10000000000000 * (k : Int) ≤ x ∧ x ≤ 10000000000000 * (k : Int) ∧ Hid (x = normL (l.take k))) ∧ Hid (OwnT wr w.heap.size v (conjL (l.take k))) ∧ Hid (Below w.heap.size w wr)) (fun _ _ i _ => l.length - (intOf i).toNat)
  case atStart => exact ⟨0, Nat.zero_le _, rfl, ⟨0, rfl, by omega, by omega, Lib.hid rfl⟩, Lib.hid (World.ownsRow_nil _ _ _ _), Lib.hid (Below.refl _ _)⟩
  case round =>
    obtain ⟨k, hk, rfl, ⟨x, rfl, hx1, hx2, HX⟩, HO, HB⟩ := hrel
    by_cases hlt : k < l.length
    · obtain ⟨b, off, rfl, hbl, hc1, hc2⟩ := PX.out k hlt
      replace hc1 := (HB.out.cell (p := ⟨b, _, none⟩) hbl).trans hc1
      replace hc2 := (HB.out.cell (p := ⟨b, _, none⟩) hbl).trans hc2
      have hbd := hb.out (l[k]?.getD (0, 0)) (by simp [hlt])
      have hcs := conjL_succ l k hlt
      have hns := normL_succ l k hlt
      obtain ⟨c, r, hel⟩ : ∃ c r, l[k]?.getD (0, 0) = (c, r) := ⟨_, _, rfl⟩
      rw [hel] at hc1 hc2 hbd hcs hns
      have hsq := sq_bd2 (c, r) hbd
      dsimp only at hc1 hc2 hbd hsq
      obtain ⟨⟨hb1, hb2⟩, hb3, hb4⟩ := hbd
      obtain ⟨hs1, hs2, hs3, hs4⟩ := hsq
      have HCS := Lib.hid hcs
      have HNS := Lib.hid hns
      have hwsz := HB.out.size
      clear hel hcs hns
      have hcl : (conjL (l.take k)).length = k := by rw [conjL_len, List.length_take]; omega
      have hlenr : ∀ q, u2.ownBlock = some q → w.heap.size ≤ q := fun q hq => (HO.out.lt q hq).1
      have HLR := Lib.hid hlenr
      clear hlenr
      by_cases hk0 : k = 0
      · have hnk : (k : Int) ≤ 0 := by omega
        have HF : Hid (conjL (l.take (k + 1)) = conjL (l.take k) ++ [(c, r)] ∧ normL (l.take (k + 1)) = x + c * c * r) := Lib.hid (by rw [HCS.out, HNS.out, HX.out]; simp [conjAt, sqAt, hk0])
        have HOWN : Hid (∀ o1 o2, ((wr.alloc o1).alloc o2).ownsRow w.heap.size 85 2 u2 (conjL (l.take k)).length (flatT (conjL (l.take k)))) := Lib.hid (fun o1 o2 => World.ownsRow.alloc (World.ownsRow.alloc HO.out _) _)
        have hk9 := Lib.hid hk0
        clear hk0
        go_wp2_with (first | (at_builtin; refine wpList_append_own _ rfl _ _ 32 rfl w.heap.size 85 i0 (.agg #[.int .i64 0, .int .i64 0]) 2 16 und22 hi hz0 hz1 hz2 rfl (by decide) u2 (conjL (l.take k)).length (flatT (conjL (l.take k))) rfl (HOWN.out _ _) ⟨wr.heap.size + 1, 0, none⟩ 1 1 [.int .i64 c, .int .i64 r] rfl rfl (news2 _ _ _ _ _) (by simp [Value.oneCell']) (by unfold maxLen; omega) (by omega) (by simp; omega) ?_; intro v' w2 hown2 hgrow2 _; obtain ⟨g', cap', rfl⟩ := ownsRow_succ hown2; have HOW2 := Lib.hid hown2; have HGW2 := Lib.hid hgrow2; clear hown2 hgrow2))
        go_roundw
        case rel =>
          refine ⟨k + 1, by omega, by go_num, ⟨_, rfl, by omega, by omega, Lib.hid HF.out.2.symm⟩, Lib.hid ?_, Lib.hid ?_⟩
          · rw [HF.out.1]
            unfold OwnT
            have h2 := HOW2.out
            rw [flatT_snoc, List.length_append]
            rw [hcl] at h2 ⊢
            exact h2
          · exact ((HB.out.alloc HB.out.size _).alloc (by have := HB.out.size; simp; omega) _).grown HGW2.out (by have := HB.out.size; simp; omega) (fun q hq => HLR.out q hq)
        case measure => simp [intOf]; omega
      · have hnk : 0 < (k : Int) := by omega
        have hdk : decide (0 < (k : Int)) = true := by simpa using hnk
        have hk9 : Hid (k = 1) := Lib.hid (by omega)
        have HF : Hid (conjL (l.take (k + 1)) = conjL (l.take k) ++ [(-c, r)] ∧ normL (l.take (k + 1)) = x + -(c * c * r)) := Lib.hid (by rw [HCS.out, HNS.out, HX.out]; simp [conjAt, sqAt, hk0])
        have HOWN : Hid (∀ o1 o2, ((wr.alloc o1).alloc o2).ownsRow w.heap.size 85 2 u2 (conjL (l.take k)).length (flatT (conjL (l.take k)))) := Lib.hid (fun o1 o2 => World.ownsRow.alloc (World.ownsRow.alloc HO.out _) _)
        clear hk0
        go_wp2_with (first | (at_builtin; refine wpList_append_own _ rfl _ _ 32 rfl w.heap.size 85 i0 (.agg #[.int .i64 0, .int .i64 0]) 2 16 und22 hi hz0 hz1 hz2 rfl (by decide) u2 (conjL (l.take k)).length (flatT (conjL (l.take k))) rfl (HOWN.out _ _) ⟨wr.heap.size + 1, 0, none⟩ 1 1 [.int .i64 (-c), .int .i64 r] rfl rfl (news2 _ _ _ _ _) (by simp [Value.oneCell']) (by unfold maxLen; omega) (by omega) (by simp; omega) ?_; intro v' w2 hown2 hgrow2 _; obtain ⟨g', cap', rfl⟩ := ownsRow_succ hown2; have HOW2 := Lib.hid hown2; have HGW2 := Lib.hid hgrow2; clear hown2 hgrow2))
        go_roundw
        case rel =>
          refine ⟨k + 1, by omega, by go_num, ⟨_, rfl, by omega, by omega, Lib.hid HF.out.2.symm⟩, Lib.hid ?_, Lib.hid ?_⟩
          · rw [HF.out.1]
            unfold OwnT
            have h2 := HOW2.out
            rw [flatT_snoc, List.length_append]
            rw [hcl] at h2 ⊢
            exact h2
          · exact ((HB.out.alloc HB.out.size _).alloc (by have := HB.out.size; simp; omega) _).grown HGW2.out (by have := HB.out.size; simp; omega) (fun q hq => HLR.out q hq)
        case measure => simp [intOf]; omega
    · have hk : k = l.length := by omega
      have HE : Hid (OwnT wr w.heap.size u2 (conjL l) ∧ x = normL l) := Lib.hid (by
        have h1 := HO.out
        have h2 := HX.out
        rw [hk, List.take_length] at h1 h2
        exact ⟨h1, h2⟩)
      clear hk
      go_wp2
      go_ret2
      exact ⟨u2, congrArg (fun z => Ending.returned (.tuple #[u2, .int .i64 z])) HE.out.2, HE.out.1, HB.out⟩
end Go.Proofs.YtkjclafbpocabaaGreatDoor
