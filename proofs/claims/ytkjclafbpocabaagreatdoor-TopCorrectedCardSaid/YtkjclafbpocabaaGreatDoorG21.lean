/-
  Contracts of the program's own functions (and their plain mathematics), on the way to the law: each for all arguments that its hypotheses let.
-/
import Derived.Test.YtkjclafbpocabaaGreatDoorG20
import Derived.WalkKit
import Derived.WalkSpells
import Derived.WalkLawsBesides
import Derived.Deep.QuietTactic
import Derived.BigQuiet
import Derived.Lib.Hide
import Derived.WalkSmall
import Derived.Maps.OwnSet
import Derived.Maps.RangeWalk
import Derived.Deep.RegionWith
import Derived.Deep.RegionHeld3
import Derived.OneCell
import Derived.KernelRfl
import Derived.Laws.StructEq
import Derived.StillTailTactics
import Derived.Laws.Externs
import Derived.RangeFuncBox
import Derived.Test.YtkjclafbpocabaaGreatDoorPlain
set_option linter.unusedSimpArgs false
set_option linter.unusedVariables false

/-! ## S52 -/
namespace Go.Proofs.YtkjclafbpocabaaGreatDoor
open Go.RowKit Go.Maps Go.Shelf Go.Sort

def rootM (l : List (Int × Int)) : Int := (binF l).1 * (binF l).1 - (binF l).2.1.1 * (binF l).2.1.1 * (binF l).2.1.2
/-- What Root gives. -/
def RootP (d : Int) (l : List (Int × Int)) (r : Int × List (Int × Int) × Int) : Prop :=
  if validF d l = true then
    if sgnZ l < 0 then r = (0, [], 3)
    else if (binF l).2.2 = false then r = (0, [], 11)
    else if rootM l < 0 ∨ isq (rootM l).toNat * isq (rootM l).toNat ≠ (rootM l).toNat then r = (0, [], 11)
    else ∃ f1 d1 f2 d2, FracR ((binF l).1 + (isq (rootM l).toNat : Nat)) (2 * d) f1 d1 ∧ FracR ((binF l).1 - (isq (rootM l).toNat : Nat)) (2 * d) f2 d2 ∧
      ∃ t, IsTerms (plusC (plusC zeroC d2 [f1]) d1 [(if (binF l).2.1.1 < 0 then -f2.1 else f2.1, f2.2)]) t ∧ r = finF (d1 * d2) t
  else r = (0, [], 2)
theorem bin_bd {d : Int} {l : List (Int × Int)} (h : Vld d l) : (-100000 ≤ (binF l).1 ∧ (binF l).1 ≤ 100000) ∧ (-100000 ≤ (binF l).2.1.1 ∧ (binF l).2.1.1 ≤ 100000) ∧ 0 ≤ (binF l).2.1.2 ∧ (binF l).2.1.2 ≤ 1000 := by
  match l, h with
  | [], _ => simp [binF]
  | [t], h =>
    have h1 := h.cf t (by simp)
    have h2 := h.rt t (by simp)
    by_cases ht : t.2 = 1
    · simp [binF, ht]; omega
    · simp [binF, ht]; omega
  | t :: u :: us, h =>
    have h1 := h.cf t (by simp)
    have h2 := h.rt t (by simp)
    have h3 := h.cf u (by simp)
    have h4 := h.rt u (by simp)
    by_cases ht : t.2 = 1
    · simp [binF, ht]; omega
    · simp [binF, ht]; omega
theorem one_q (D : Nat) : fQ1 D 1 = 2 ^ D + 1 := by
  unfold fQ1
  have e : isq ((1 : Int).toNat * 4 ^ D) = 2 ^ D := by
    apply (isq_uniq _ _).symm
    · rw [← Nat.mul_pow]; show (2 * 2) ^ D ≤ 1 * 4 ^ D; rw [Nat.one_mul]; exact Nat.le_refl _
    · rw [Nat.add_mul, Nat.mul_add, ← Nat.mul_pow]; show 1 * (2 * 2) ^ D < _; rw [Nat.one_mul]; omega
  rw [e]
theorem sgn_two (D : Nat) (c ρ : Int) (a : Int) (hρ : 1 ≤ ρ) (ha : a < 0) (hm : 0 ≤ a * a - c * c * ρ) : ¬ ((-a).toNat * fQ1 D 1 ≤ c.toNat * fQ D ρ) := by
  intro h
  have hq1 := one_q D
  have hq := (isq_spec (ρ.toNat * 4 ^ D)).1
  have e2 : fQ D ρ = isq (ρ.toNat * 4 ^ D) := rfl
  rw [hq1, e2] at h
  generalize isq (ρ.toNat * 4 ^ D) = q at h hq
  have e4 : (4 : Nat) ^ D = 2 ^ D * 2 ^ D := by rw [← Nat.mul_pow]
  rw [e4] at hq
  generalize (2 : Nat) ^ D = X at h hq
  have h1 := Nat.mul_le_mul h h
  have hA : ((-a).toNat : Int) = -a := by omega
  rcases Int.lt_or_le c 0 with hc | hc
  · have : c.toNat = 0 := by omega
    rw [this, Nat.zero_mul] at h
    have h2 : 1 ≤ (-a).toNat * (X + 1) := Nat.mul_le_mul (show 1 ≤ (-a).toNat by omega) (show 1 ≤ X + 1 by omega)
    omega
  · have hC : (c.toNat : Int) = c := by omega
    have hR : (ρ.toNat : Int) = ρ := by omega
    have h3 : ((-a).toNat * (X + 1) * ((-a).toNat * (X + 1)) : Nat) ≤ c.toNat * c.toNat * (ρ.toNat * (X * X)) := by
      refine Nat.le_trans h1 ?_
      have e : c.toNat * q * (c.toNat * q) = c.toNat * c.toNat * (q * q) := Nat.mul_mul_mul_comm _ _ _ _
      rw [e]; exact Nat.mul_le_mul_left _ hq
    have h4 : c.toNat * c.toNat * ρ.toNat ≤ (-a).toNat * (-a).toNat := by
      have : c * c * ρ ≤ a * a := by omega
      have e1 : ((c.toNat * c.toNat * ρ.toNat : Nat) : Int) = c * c * ρ := by rw [Int.natCast_mul, Int.natCast_mul, hC, hR]
      have e2 : (((-a).toNat * (-a).toNat : Nat) : Int) = a * a := by rw [Int.natCast_mul, hA, Int.neg_mul_neg]
      omega
    have h5 : c.toNat * c.toNat * (ρ.toNat * (X * X)) ≤ (-a).toNat * (-a).toNat * (X * X) := by
      rw [← Nat.mul_assoc]; exact Nat.mul_le_mul_right _ h4
    have e6 : (-a).toNat * (X + 1) * ((-a).toNat * (X + 1)) = (-a).toNat * (-a).toNat * ((X + 1) * (X + 1)) := Nat.mul_mul_mul_comm _ _ _ _
    have h7 : (-a).toNat * (-a).toNat * (X * X) < (-a).toNat * (-a).toNat * ((X + 1) * (X + 1)) := by
      refine Nat.mul_lt_mul_of_pos_left ?_ (Nat.mul_pos (by omega) (by omega))
      rw [Nat.add_mul, Nat.mul_add]; omega
    omega
/-- A number that is not below 0, and whose norm is not, has no coefficient below 0 at the root 1. -/
theorem bin_pos {d : Int} {l : List (Int × Int)} (h : Vld d l) (hs : ¬ sgnZ l < 0) (hb : (binF l).2.2 = true) (hm : 0 ≤ rootM l) : 0 ≤ (binF l).1 := by
  apply Classical.byContradiction
  intro ha
  have hl : l ≠ [] := by intro e; subst e; exact ha (by simp [binF])
  have hpos : ∃ D, encN (fQ1 D) l ≤ encP (fQ D) l := by
    refine ⟨6656, ?_⟩
    apply Classical.byContradiction
    intro hc
    apply hs
    unfold sgnZ sgnL
    rw [if_neg hl, if_neg hc]; decide
  obtain ⟨D, hpos⟩ := hpos
  match l, h, hl with
  | [t], h, _ =>
    have h1 := h.cf t (by simp)
    by_cases ht : t.2 = 1
    · have e : (binF [t]).1 = t.1 := by simp [binF, ht]
      rw [e] at ha
      have e1 : encP (fQ D) [t] = t.1.toNat * fQ D t.2 + 0 := rfl
      have e2 : encN (fQ1 D) [t] = (-t.1).toNat * fQ1 D t.2 + 0 := rfl
      rw [e1, e2, show t.1.toNat = 0 by omega, Nat.zero_mul] at hpos
      have h2 : 1 ≤ (-t.1).toNat * fQ1 D t.2 := Nat.mul_le_mul (show 1 ≤ (-t.1).toNat by omega) (show 1 ≤ fQ1 D t.2 from Nat.le_add_left _ _)
      omega
    · exact ha (by simp [binF, ht])
  | t :: u :: us, h, _ =>
    have h3 := h.cf u (by simp)
    have h4 := h.rt u (by simp)
    by_cases ht : t.2 = 1
    · have hus : us = [] := by simpa [binF, ht] using hb
      subst hus
      have e : (binF [t, u]).1 = t.1 := by simp [binF, ht]
      have em : rootM [t, u] = t.1 * t.1 - u.1 * u.1 * u.2 := by simp [rootM, binF, ht]
      rw [e] at ha
      rw [em] at hm
      have e1 : encP (fQ D) [t, u] = t.1.toNat * fQ D t.2 + (u.1.toNat * fQ D u.2 + 0) := rfl
      have e2 : encN (fQ1 D) [t, u] = (-t.1).toNat * fQ1 D t.2 + ((-u.1).toNat * fQ1 D u.2 + 0) := rfl
      rw [e1, e2, show t.1.toNat = 0 by omega, Nat.zero_mul, ht] at hpos
      exact sgn_two D u.1 u.2 t.1 h4.1 (by omega) hm (by omega)
    · exact ha (by simp [binF, ht])

theorem root_bd {a w : Int} (ha0 : 0 ≤ a) (ha : a ≤ 100000) (hw : 0 ≤ w) (hwa : w ≤ a) : 0 ≤ a + w ∧ a + w ≤ 200000 ∧ 0 ≤ a - w ∧ a - w ≤ 200000 := by omega
theorem frac_bd {num den : Int} {f : Int × Int} {d : Int} (h : FracR num den f d) (hn0 : 0 ≤ num) (hn : num ≤ 200000) (hd0 : 1 ≤ den) (hd : den ≤ 200000) : 0 ≤ f.1 ∧ f.1 ≤ 200000 ∧ 1 ≤ f.2 ∧ f.2 ≤ 40000000000 ∧ 1 ≤ d ∧ d ≤ 200000 := by
  obtain ⟨s1, q1, s2, q2, h1, h2, rfl, rfl⟩ := h
  have hg : 0 < (Int.gcd num den : Int) := by
    have : Int.gcd num den ≠ 0 := by
      intro e
      have hgd2 : (Int.gcd num den : Int) ∣ den := Int.gcd_dvd_right _ _
      rw [e] at hgd2
      have := Int.zero_dvd.1 hgd2
      omega
    omega
  have b1 := splitR_bd h1 (Int.le_trans (Int.ediv_le_self _ hn0) hn) (by decide)
  have b2 := splitR_bd h2 (Int.le_trans (Int.ediv_le_self _ (by omega)) hd) (by decide)
  have hs2 : 1 ≤ s2 := by
    rcases h2 with ⟨h, _⟩ | ⟨_, h, _⟩
    · exfalso
      have : 1 ≤ den / (Int.gcd num den : Int) := Int.le_ediv_of_mul_le hg (by have := Int.le_of_dvd (by omega) (Int.gcd_dvd_right num den); omega)
      omega
    · exact h
  have m1 := mul_abs_le q1 q2 200000 200000 (by omega) (by omega) (by omega) (by omega)
  have m2 := Int.mul_le_mul (show 1 ≤ q1 by omega) (show 1 ≤ q2 by omega) (by omega) (by omega)
  have m3 := Int.mul_le_mul hs2 (show 1 ≤ q2 by omega) (by omega) (by omega)
  refine ⟨by omega, by omega, by show 1 ≤ q1 * q2; omega, by show q1 * q2 ≤ _; omega, by omega, by omega⟩
theorem sing {P : Int × Int → Prop} {t : Int × Int} (h : P t) : ∀ u ∈ [t], P u := fun u hu => by
  have e : u = t := by simpa using hu
  rw [e]; exact h

set_option maxRecDepth 100000 in
set_option maxHeartbeats 4000000 in
theorem root_any (hsort : Hid SortC) (d : Int) (v : Value) (l : List (Int × Int)) (w : World) (hx : TermsAt w v l) :
    Calls Tryz.prog 54 #[.agg #[.int .i64 d, v]] w (NumP (RootP d l) w) := by
  have hmm := @run_makeMap Tryz.prog
  have HX := Lib.hid hx
  obtain ⟨av, cv, rfl, _⟩ := hx.placed
  have XX := Lib.hid ((Two.new w (.int .i64 d) (.slice av l.length cv) 34).alloc (.cells #[.int .i64 0, .slice none 0 0] 34))
  have RR : Hid (Two ((w.alloc (.cells #[.int .i64 d, .slice av l.length cv] 34)).alloc (.cells #[.int .i64 0, .slice none 0 0] 34)) (w.heap.size + 1) (.int .i64 0) (.slice none 0 0) 34) := Lib.hid (by
    have := Two.new (w.alloc (.cells #[.int .i64 d, .slice av l.length cv] 34)) (.int .i64 0) (.slice none 0 0) 34
    simpa using this)
  have BB : Hid (Below w.heap.size w ((w.alloc (.cells #[.int .i64 d, .slice av l.length cv] 34)).alloc (.cells #[.int .i64 0, .slice none 0 0] 34))) := Lib.hid (((Below.refl _ _).alloc (Nat.le_refl _) _).alloc (by simp) _)
  clear hx
  generalize l.length = n at *
  go_enter Tryz.func54, Tryz.ntmps54
  go_wp2_with fail
  refine (valid_any d _ l _ (HX.out.below BB.out)).mono ?_
  rintro e w1 ⟨rfl, hb⟩
  have X1 := XX.out.below hb XX.out.lt
  have R1 := RR.out.below hb RR.out.lt
  have XX1 := Lib.hid X1
  have RR1 := Lib.hid R1
  have BB1 := Lib.hid (BB.out.trans (hb.mono BB.out.size))
  have x0 := X1.c0
  have x1 := X1.c1
  have r0 := R1.c0
  have r1 := R1.c1
  have f0 := R1.fr (i := 0)
  have f1 := R1.fr (i := 1)
  clear hb X1 R1 XX RR BB
  cases hv : validF d l
  · have HP : Hid (RootP d l (0, [], 2)) := Lib.hid (by unfold RootP; rw [hv]; rfl)
    clear hv
    go_wp2
    obtain ⟨d0, d1, d2, hg⟩ := two_after RR1.out (.int .i64 0) (.slice none 0 0) rfl
    refine bodyPost_ret (v := .tuple #[.agg #[.int .i64 0, .slice none 0 0], .int .i64 2]) ?_ rfl ?_
    · simp [results, Tryz.results54, go_sem, d1, d2]
    · exact ⟨_, HP.out, _, rfl, termsAt_nil _, BB1.out.grown hg BB1.out.size (by intro k hk; cases hk; omega), fun k hk => by cases hk⟩

  · have HV := Lib.hid hv
    have VL := Lib.hid (vld_of hv)
    clear hv
    go_wp2_with fail
    refine (signOf_any d _ l _ (HX.out.below BB1.out) VL.out).mono ?_
    rintro e w2 ⟨rfl, hb⟩
    have X2 := XX1.out.below hb XX1.out.lt
    have R2 := RR1.out.below hb RR1.out.lt
    have XX2 := Lib.hid X2
    have RR2 := Lib.hid R2
    have BB2 := Lib.hid (BB1.out.trans (hb.mono BB1.out.size))
    clear x0 x1 r0 r1 f0 f1 XX1 RR1
    have x0 := X2.c0
    have x1 := X2.c1
    have r0 := R2.c0
    have r1 := R2.c1
    have f0 := R2.fr (i := 0)
    have f1 := R2.fr (i := 1)
    clear hb X2 R2
    obtain ⟨sg, hsg⟩ : ∃ sg, sgnZ l = sg := ⟨_, rfl⟩
    rw [hsg]
    by_cases hneg : sg < 0
    · have HP : Hid (RootP d l (0, [], 3)) := Lib.hid (by unfold RootP; rw [if_pos HV.out, hsg, if_pos hneg])
      clear hsg
      go_wp2
      obtain ⟨d0, d1, d2, hg⟩ := two_after RR2.out (.int .i64 0) (.slice none 0 0) rfl
      refine bodyPost_ret (v := .tuple #[.agg #[.int .i64 0, .slice none 0 0], .int .i64 3]) ?_ rfl ?_
      · simp [results, Tryz.results54, go_sem, d1, d2]
      · exact ⟨_, HP.out, _, rfl, termsAt_nil _, BB2.out.grown hg BB2.out.size (by intro k hk; cases hk; omega), fun k hk => by cases hk⟩

    · have HSG := Lib.hid hsg
      have HNEG : Hid (0 ≤ sg) := Lib.hid (by omega)
      clear hsg
      go_wp2_with fail
      refine (bin_any _ l _ (HX.out.below BB2.out)).mono ?_
      rintro e w3 ⟨rfl, hb⟩
      have X3 := XX2.out.below hb XX2.out.lt
      have R3 := RR2.out.below hb RR2.out.lt
      have BB3 := Lib.hid (BB2.out.trans (hb.mono BB2.out.size))
      have hz3 : w.heap.size + 1 < w3.heap.size := R3.lt
      have hbd := bin_bd VL.out
      obtain ⟨a, ha⟩ : ∃ a, (binF l).1 = a := ⟨_, rfl⟩
      obtain ⟨c, hc⟩ : ∃ c, (binF l).2.1.1 = c := ⟨_, rfl⟩
      obtain ⟨ρ, hρ⟩ : ∃ ρ, (binF l).2.1.2 = ρ := ⟨_, rfl⟩
      obtain ⟨ok, hok⟩ : ∃ ok, (binF l).2.2 = ok := ⟨_, rfl⟩
      rw [ha, hc, hρ] at hbd
      rw [ha, hc, hρ, hok]
      have HA := Lib.hid ha
      have HC := Lib.hid hc
      have HR := Lib.hid hρ
      have HO := Lib.hid hok
      have XX3 := Lib.hid (X3.alloc (.cells #[.int .i64 c, .int .i64 ρ] 85))
      have RH3 := Lib.hid R3
      have RR3 := Lib.hid (R3.alloc (.cells #[.int .i64 c, .int .i64 ρ] 85))
      have PP3 := Lib.hid (Two.new w3 (.int .i64 c) (.int .i64 ρ) 85)
      have BA3 := Lib.hid (BB3.out.alloc BB3.out.size (.cells #[.int .i64 c, .int .i64 ρ] 85))
      clear x0 x1 r0 r1 f0 f1 XX2 RR2 hb ha hc hρ hok
      have x0 := X3.c0
      have x1 := X3.c1
      have r0 := R3.c0
      have r1 := R3.c1
      have f0 := R3.fr (i := 0)
      have f1 := R3.fr (i := 1)
      clear X3 R3
      cases ok
      · have HP : Hid (RootP d l (0, [], 11)) := Lib.hid (by unfold RootP; rw [if_pos HV.out, HSG.out, if_neg (Int.not_lt.2 HNEG.out), if_pos HO.out])
        clear hbd
        go_wp2
        obtain ⟨d1, d2, hg⟩ := two_after_alloc RH3.out (.int .i64 0) (.slice none 0 0) rfl (.cells #[.int .i64 c, .int .i64 ρ] 85)
        refine bodyPost_ret (v := .tuple #[.agg #[.int .i64 0, .slice none 0 0], .int .i64 11]) ?_ rfl ?_
        · simp [results, Tryz.results54, go_sem, d1, d2]
        · exact ⟨_, HP.out, _, rfl, termsAt_nil _, BB3.out.grown hg BB3.out.size (by intro k hk; cases hk; omega), fun k hk => by cases hk⟩

      · obtain ⟨⟨a1, a2⟩, ⟨c1, c2⟩, p1, p2⟩ := hbd
        have hcb1 := mul_abs_le a a 100000 100000 a1 a2 a1 a2
        have hcb2 := mul_abs_le c c 100000 100000 c1 c2 c1 c2
        have hcb3 := mul_abs_le (c * c) ρ 10000000000 1000 (by omega) (by omega) (by omega) (by omega)
        have hMr : rootM l = a * a - c * c * ρ := by unfold rootM; rw [HA.out, HC.out, HR.out]
        obtain ⟨aa, haa⟩ : ∃ aa, a * a = aa := ⟨_, rfl⟩
        obtain ⟨cc, hcc⟩ : ∃ cc, c * c = cc := ⟨_, rfl⟩
        rw [haa] at hcb1 hMr
        rw [hcc] at hcb2 hcb3 hMr
        obtain ⟨cr, hcr⟩ : ∃ cr, cc * ρ = cr := ⟨_, rfl⟩
        rw [hcr] at hcb3 hMr
        obtain ⟨m, hm⟩ : ∃ m, aa - cr = m := ⟨_, rfl⟩
        rw [hm] at hMr
        have hcr0 : 0 ≤ cr := by
          rw [← hcr, ← hcc]
          refine Int.mul_nonneg ?_ p1
          rcases Int.le_total 0 c with h | h
          · exact Int.mul_nonneg h h
          · exact Int.mul_nonneg_of_nonpos_of_nonpos h h
        have HM := Lib.hid hMr
        have hm1 : -20000000000000 ≤ m ∧ m ≤ 20000000000000 := by omega
        have HMM := Lib.hid (And.intro haa (And.intro hcc (And.intro hcr hm)))
        obtain ⟨hm11, hm12⟩ := hm1
        obtain ⟨hb11, hb12⟩ := hcb1
        obtain ⟨hb21, hb22⟩ := hcb2
        obtain ⟨hb31, hb32⟩ := hcb3
        clear hMr
        by_cases hm0 : m < 0
        · have HP : Hid (RootP d l (0, [], 11)) := Lib.hid (by unfold RootP; rw [if_pos HV.out, HSG.out, if_neg (Int.not_lt.2 HNEG.out), HO.out, if_neg (by decide), if_pos (.inl (by rw [HM.out]; exact hm0))])
          have HE := Lib.hid (fun w0 => exactRoot_neg m w0 hm0)
          clear hm0
          go_wp2_with fail
          refine (HE.out _).mono ?_
          rintro e w4 ⟨rfl, rfl⟩
          go_wp2
          obtain ⟨d1, d2, hg⟩ := two_after_alloc RH3.out (.int .i64 0) (.slice none 0 0) rfl (.cells #[.int .i64 c, .int .i64 ρ] 85)
          refine bodyPost_ret (v := .tuple #[.agg #[.int .i64 0, .slice none 0 0], .int .i64 11]) ?_ rfl ?_
          · simp [results, Tryz.results54, go_sem, d1, d2]
          · exact ⟨_, HP.out, _, rfl, termsAt_nil _, BB3.out.grown hg BB3.out.size (by intro k hk; cases hk; omega), fun k hk => by cases hk⟩

        · obtain ⟨k, rfl⟩ : ∃ k : Nat, m = (k : Int) := ⟨m.toNat, by omega⟩
          have HE := Lib.hid (fun w0 => exactRoot_any k w0 (by omega))
          obtain ⟨W, hW⟩ : ∃ W, isq k = W := ⟨_, rfl⟩
          rw [hW] at HE
          clear hm0
          by_cases hsq : W * W = k
          · have HSQ := Lib.hid hsq
            have hd : decide (W * W = k) = true := decide_eq_true hsq
            rw [hd] at HE
            clear hd hsq
            go_wp2_with fail
            refine (HE.out _).mono ?_
            rintro e w4 ⟨rfl, hb⟩
            have XX4 := Lib.hid (XX3.out.below hb XX3.out.lt)
            have RR4 := Lib.hid (RR3.out.below hb RR3.out.lt)
            have PP4 := Lib.hid (PP3.out.below hb PP3.out.lt)
            have BA4 := Lib.hid (BA3.out.trans (hb.mono BA3.out.size))
            have ha0 : 0 ≤ a := by
              have := bin_pos VL.out (by rw [HSG.out]; exact Int.not_lt.2 HNEG.out) HO.out (by rw [HM.out]; omega)
              rwa [HA.out] at this
            have hWW : ((W * W : Nat) : Int) ≤ a * a := by rw [HSQ.out, HMM.out.1]; have := HMM.out; omega
            have hWa : (W : Int) ≤ a := by
              apply Classical.byContradiction
              intro hc
              have h1 : (a.toNat + 1) ≤ W := by omega
              have h2 := Nat.mul_le_mul h1 h1
              have e : ((a.toNat * a.toNat : Nat) : Int) = a * a := by rw [Int.natCast_mul]; congr 1 <;> omega
              have e2 : (a.toNat + 1) * (a.toNat + 1) = a.toNat * a.toNat + 2 * a.toNat + 1 := by rw [Nat.add_mul, Nat.mul_add]; omega
              omega
            obtain ⟨b1, b2, b3, b4⟩ := root_bd ha0 a2 (show (0 : Int) ≤ (W : Int) by omega) hWa
            have hd1 := VL.out.d1
            have hd2 := VL.out.d2
            have HP : Hid (∀ f1 d1 f2 d2 t, FracR (a + (W : Int)) (2 * d) f1 d1 → FracR (a - (W : Int)) (2 * d) f2 d2 → IsTerms (plusC (plusC zeroC d2 [f1]) d1 [(if c < 0 then -f2.1 else f2.1, f2.2)]) t → RootP d l (finF (d1 * d2) t)) := Lib.hid (fun f1 d1 f2 d2 t h1 h2 h3 => by
              unfold RootP
              rw [if_pos HV.out, HSG.out, if_neg (Int.not_lt.2 HNEG.out), HO.out, if_neg (by decide), HM.out]
              have e : ((k : Int)).toNat = k := by omega
              rw [e, hW, if_neg (by
                intro h
                rcases h with h | h
                · omega
                · exact h HSQ.out), HA.out, HC.out]
              exact ⟨f1, d1, f2, d2, h1, h2, t, h3, rfl⟩)
            obtain ⟨s, hs⟩ : ∃ s, a + (W : Int) = s := ⟨_, rfl⟩
            obtain ⟨u, hu⟩ : ∃ u, a - (W : Int) = u := ⟨_, rfl⟩
            rw [hs] at b1 b2 HP
            rw [hu] at b3 b4 HP
            have R1 := Lib.hid (fun w0 h1 h2 => rootHalf_any s d w.heap.size w0 h1 h2 b1 b2 hd1 hd2)
            have R2 := Lib.hid (fun w0 h1 h2 => rootHalf_any u d w.heap.size w0 h1 h2 b3 b4 hd1 hd2)
            have FB1 := Lib.hid (fun f d0 h => @frac_bd s (2 * d) f d0 h b1 b2 (by omega) (by omega))
            have FB2 := Lib.hid (fun f d0 h => @frac_bd u (2 * d) f d0 h b3 b4 (by omega) (by omega))
            clear hb x0 x1 r0 r1 f0 f1 HE hW hWW ha0 hWa a1 a2 c1 c2 p1 p2 HSQ hb11 hb12 hb21 hb22 hb31 hb32 hm11 hm12 HM HMM hd1 hd2
            go_wp2_with fail
            refine (R1.out _ XX4.out.c0 XX4.out.lt).mono ?_
            rintro e w5 ⟨f1, d1, hf1, rfl, hb5⟩
            have XX5 := Lib.hid (XX4.out.below hb5 XX4.out.lt)
            have RR5 := Lib.hid (RR4.out.below hb5 RR4.out.lt)
            have PP5 := Lib.hid (PP4.out.below hb5 PP4.out.lt)
            have BB5 := Lib.hid (BA4.out.trans (hb5.mono BA4.out.size))
            have HF1 := Lib.hid hf1
            have HA5 := Lib.hid ((Below.refl _ w5).alloc (Nat.le_refl _) (.cells #[.int .i64 f1.1, .int .i64 f1.2] 85))
            have F5 := Lib.hid (Two.new w5 (.int .i64 f1.1) (.int .i64 f1.2) 85)
            clear hf1 hb5 R1
            go_wp2_with fail
            refine (R2.out _ (XX5.out.below HA5.out XX5.out.lt).c0 (XX5.out.below HA5.out XX5.out.lt).lt).mono ?_
            rintro e w6 ⟨f2, d2, hf2, rfl, hb6⟩
            have hb6' := hb6
            have RR6 := Lib.hid ((RR5.out.alloc _).below hb6 (RR5.out.alloc _).lt)
            have PP6 := Lib.hid ((PP5.out.alloc _).below hb6 (PP5.out.alloc _).lt)
            have F6 := Lib.hid (F5.out.below hb6 F5.out.lt)
            have BB6 := Lib.hid ((BB5.out.trans (HA5.out.mono BB5.out.size)).trans (hb6.mono (BB5.out.trans (HA5.out.mono BB5.out.size)).size))
            have HF2 := Lib.hid hf2
            have hp0 := PP6.out.c0
            have hzp : w3.heap.size < w6.heap.size := PP6.out.lt
            obtain ⟨y1, y2, y3, y4, y5, y6⟩ := FB1.out f1 d1 HF1.out
            obtain ⟨z1', z2', z3', z4', z5', z6'⟩ := FB2.out f2 d2 HF2.out
            clear hf2 hb6 hb6' R2 XX4 RR4 PP4 XX5 RR5 PP5 F5 HA5 XX3 RR3 PP3 RH3 FB1 FB2
            by_cases hcs : c < 0
            · have hwn : RowKit.wrap64 (-f2.1) = -f2.1 := IntWalk.wrap64_in _ ⟨by omega, by omega⟩
              obtain ⟨g2, hg2⟩ : ∃ g2, -f2.1 = g2 := ⟨_, rfl⟩
              have hg2b1 : -200000 ≤ g2 := by omega
              have hg2b2 : g2 ≤ 200000 := by omega
              have HG2 : Hid ((if c < 0 then -f2.1 else f2.1) = g2) := Lib.hid (by rw [if_pos hcs]; exact hg2)
              have HG3 := Lib.hid hg2
              have HS := Lib.hid (show Two (w6.alloc (.cells #[.int .i64 g2, .int .i64 f2.2] 85)) w6.heap.size (.int .i64 g2) (.int .i64 f2.2) 85 from Two.new w6 _ _ 85)
              have z0 := F6.out.c0
              have z1 := F6.out.c1
              have hzz : w5.heap.size < w6.heap.size := F6.out.lt
              have BB7 : Hid (Below w.heap.size w (((w6.alloc (.cells #[.int .i64 g2, .int .i64 f2.2] 85)).alloc (.map #[] 0)).alloc (.cells #[.int .i64 f1.1, .int .i64 f1.2] 85))) := Lib.hid (((BB6.out.alloc BB6.out.size _).alloc (by have := BB6.out.size; simp; omega) _).alloc (by have := BB6.out.size; simp; omega) _)
              have RR7 : Hid (Two (((w6.alloc (.cells #[.int .i64 g2, .int .i64 f2.2] 85)).alloc (.map #[] 0)).alloc (.cells #[.int .i64 f1.1, .int .i64 f1.2] 85)) (w.heap.size + 1) (.int .i64 0) (.slice none 0 0) 34) := Lib.hid (((RR6.out.alloc _).alloc _).alloc _)
              have HS7 : Hid (Two (((w6.alloc (.cells #[.int .i64 g2, .int .i64 f2.2] 85)).alloc (.map #[] 0)).alloc (.cells #[.int .i64 f1.1, .int .i64 f1.2] 85)) w6.heap.size (.int .i64 g2) (.int .i64 f2.2) 85) := Lib.hid ((HS.out.alloc _).alloc _)
              have HO7 : Hid (OwnSum (((w6.alloc (.cells #[.int .i64 g2, .int .i64 f2.2] 85)).alloc (.map #[] 0)).alloc (.cells #[.int .i64 f1.1, .int .i64 f1.2] 85)) (w6.heap.size + 1) 0 zeroC) := Lib.hid ((ownSum_made (W := w6.alloc (.cells #[.int .i64 g2, .int .i64 f2.2] 85)) (b := w6.heap.size + 1) (by simp)).below ((Below.refl _ _).alloc (Nat.le_refl _) _))
              have HT7 : Hid (TermsAt (((w6.alloc (.cells #[.int .i64 g2, .int .i64 f2.2] 85)).alloc (.map #[] 0)).alloc (.cells #[.int .i64 f1.1, .int .i64 f1.2] 85)) (.slice (some ⟨w6.heap.size + 1 + 1, 0, none⟩) 1 1) [(f1.1, f1.2)]) := Lib.hid (by
                have h := Two.new ((w6.alloc (.cells #[.int .i64 g2, .int .i64 f2.2] 85)).alloc (.map #[] 0)) (.int .i64 f1.1) (.int .i64 f1.2) 85
                have e : ((w6.alloc (.cells #[.int .i64 g2, .int .i64 f2.2] 85)).alloc (.map #[] 0)).heap.size = w6.heap.size + 1 + 1 := by simp
                rw [e] at h
                exact termsAt_one _ _ 1 (f1.1, f1.2) h.lt (Nat.le_refl _) h.c0 h.c1)
              have hm1 := mul_abs_le d2 f1.1 200000 200000 (by omega) (by omega) (by omega) (by omega)
              have hm2 := mul_abs_le d1 g2 200000 200000 (by omega) (by omega) (by omega) (by omega)
              have hm3 := mul_abs_le d1 d2 200000 200000 (by omega) (by omega) (by omega) (by omega)
              have hm4 := Int.mul_le_mul (show 1 ≤ d1 by omega) (show 1 ≤ d2 by omega) (by omega) (by omega)
              have K1 : Hid (∀ t ∈ [(f1.1, f1.2)], -1000000000000 ≤ t.2 ∧ t.2 ≤ 1000000000000 ∧ -9000000000000000000 ≤ d2 * t.1 ∧ d2 * t.1 ≤ 9000000000000000000) := Lib.hid (fun t ht => by
                have : t = (f1.1, f1.2) := by simpa using ht
                subst this
                dsimp only
                omega)
              have K2 : Hid (∀ t ∈ [(g2, f2.2)], -1000000000000 ≤ t.2 ∧ t.2 ≤ 1000000000000 ∧ -9000000000000000000 ≤ d1 * t.1 ∧ d1 * t.1 ≤ 9000000000000000000) := Lib.hid (fun t ht => by
                have : t = (g2, f2.2) := by simpa using ht
                subst this
                dsimp only
                omega)
              have hB1 := plus_bd zeroC d2 [(f1.1, f1.2)] 0 200000 200000 (fun r => by simp [zeroC]) (by omega) (by omega) (by omega) (sing (t := (f1.1, f1.2)) ⟨by dsimp only; omega, by dsimp only; omega⟩) (by omega) 1 (by simp)
              have hB1f : ∀ r, -40000000000 ≤ plusC zeroC d2 [(f1.1, f1.2)] r ∧ plusC zeroC d2 [(f1.1, f1.2)] r ≤ 40000000000 := fun r => by have := hB1 1 (by simp) r; simp at this; omega
              have hB2 := plus_bd (plusC zeroC d2 [(f1.1, f1.2)]) d1 [(g2, f2.2)] 40000000000 200000 200000 hB1f (by omega) (by omega) (by omega) (sing (t := (g2, f2.2)) ⟨by dsimp only; omega, by dsimp only; omega⟩) (by omega) 1 (by simp)
              have C1 : Hid (∀ k, k ≤ [(f1.1, f1.2)].length → ∀ r, -9000000000000000000 ≤ plusC zeroC d2 ([(f1.1, f1.2)].take k) r ∧ plusC zeroC d2 ([(f1.1, f1.2)].take k) r ≤ 9000000000000000000) := Lib.hid (fun k hk r => by have := hB1 k hk r; omega)
              have C2 : Hid (∀ k, k ≤ [(g2, f2.2)].length → ∀ r, -9000000000000000000 ≤ plusC (plusC zeroC d2 [(f1.1, f1.2)]) d1 ([(g2, f2.2)].take k) r ∧ plusC (plusC zeroC d2 [(f1.1, f1.2)]) d1 ([(g2, f2.2)].take k) r ≤ 9000000000000000000) := Lib.hid (fun k hk r => by have := hB2 k hk r; omega)
              have CB : Hid (∀ r, -9000000000000000000 ≤ plusC (plusC zeroC d2 [(f1.1, f1.2)]) d1 [(g2, f2.2)] r ∧ plusC (plusC zeroC d2 [(f1.1, f1.2)]) d1 [(g2, f2.2)] r ≤ 9000000000000000000) := Lib.hid (fun r => by have := hB2 1 (by simp) r; simp at this; omega)
              have CR : Hid (∀ r, plusC (plusC zeroC d2 [(f1.1, f1.2)]) d1 [(g2, f2.2)] r ≠ 0 → 0 ≤ r ∧ r ≤ 1000000000000) := Lib.hid (fun r hr => by
                by_cases e1 : coefOf [(f1.1, f1.2)] r = 0
                · by_cases e2 : coefOf [(g2, f2.2)] r = 0
                  · exact absurd (by simp [plusC, zeroC, e1, e2]) hr
                  · obtain ⟨t, ht, e⟩ := coefOf_ne e2
                    have : t = (g2, f2.2) := by simpa using ht
                    subst this; dsimp only at e; omega
                · obtain ⟨t, ht, e⟩ := coefOf_ne e1
                  have : t = (f1.1, f1.2) := by simpa using ht
                  subst this; dsimp only at e; omega)
              obtain ⟨hm31, hm32⟩ := hm3
              have hd12 : d1 * d2 ≠ 0 := by omega
              have HD12 := Lib.hid hd12
              clear hB1 hB1f hB2 hm1 hm2 hm4 hd12 HS 
              go_wp2_with fail
              
              refine (add_at (w6.heap.size + 1) 0 zeroC d2 _ [(f1.1, f1.2)] _ HT7.out (by intro b off len cap hv h0; simp at hv; omega) (by simp) (by omega) HO7.out K1 C1).mono ?_
              rintro e w8 ⟨rfl, ho8, hg8⟩
              have HO8 := Lib.hid ho8
              have HS8 := Lib.hid (HS7.out.kept hg8 (by intro e; have := Option.some.inj e; omega))
              have RR8 := Lib.hid (RR7.out.kept hg8 (by intro e; have := Option.some.inj e; omega))
              have BB8 := Lib.hid (BB7.out.grown hg8 BB7.out.size (by intro k hk; have := Option.some.inj hk; omega))
              have hsz8 : w6.heap.size + 1 < w8.heap.size := by have := hg8.size; simp at this; omega
              have s0 := HS8.out.c0
              have s1 := HS8.out.c1
              have HT8 : Hid (TermsAt (w8.alloc (.cells #[.int .i64 g2, .int .i64 f2.2] 85)) (.slice (some ⟨w8.heap.size, 0, none⟩) 1 1) [(g2, f2.2)]) := Lib.hid (by
                have h := Two.new w8 (.int .i64 g2) (.int .i64 f2.2) 85
                exact termsAt_one _ _ 1 (g2, f2.2) h.lt (Nat.le_refl _) h.c0 h.c1)
              have HO8' := Lib.hid (HO8.out.below ((Below.refl _ w8).alloc (Nat.le_refl _) (.cells #[.int .i64 g2, .int .i64 f2.2] 85)))
              have RR8' := Lib.hid (RR8.out.alloc (.cells #[.int .i64 g2, .int .i64 f2.2] 85))
              have BB8' := Lib.hid (BB8.out.alloc BB8.out.size (.cells #[.int .i64 g2, .int .i64 f2.2] 85))
              clear ho8 hg8 HO8 RR8 BB8 HS7 RR7 BB7 HO7 HT7 z0 z1
              go_wp2_with fail
              refine (add_at (w6.heap.size + 1) (0 + [(f1.1, f1.2)].length) _ d1 _ [(g2, f2.2)] _ HT8.out (by intro b off len cap hv h0; simp at hv; omega) (by simp) (by simp) HO8'.out K2 C2).mono ?_
              rintro e w9 ⟨rfl, ho9, hg9⟩
              have HO9 := Lib.hid ho9
              have RR9 := Lib.hid (RR8'.out.kept hg9 (by intro e; have := Option.some.inj e; omega))
              have BB9 := Lib.hid (BB8'.out.grown hg9 BB8'.out.size (by intro k hk; have := Option.some.inj hk; omega))
              clear ho9 hg9 HO8' RR8' BB8' HT8 s0 s1 HS8 hp0
              go_wp2_with fail
              refine (finish_any hsort (d1 * d2) (w6.heap.size + 1) _ _ _ HO9.out (by simp) (by omega) (by omega) HD12.out CR CB).mono ?_
              rintro e w10 ⟨t, hit, hlen, v10, rfl, hta, hb10, hfr⟩
              obtain ⟨a4, cap4, rfl, _⟩ := hta.placed
              have R10 := RR9.out.below hb10 RR9.out.lt
              have B10 := BB9.out.trans (hb10.mono BB9.out.size)
              have r0 := R10.c0
              have r1 := R10.c1
              have f0 := R10.fr (i := 0)
              have f3 := R10.fr (i := 1)
              have HR10 := Lib.hid R10
              have HB10 := Lib.hid B10
              have HTA := Lib.hid hta
              have HFR := Lib.hid hfr
              have HIT := Lib.hid hit
              have hl9 : w.heap.size + 1 < w9.heap.size := RR9.out.lt
              clear R10 B10 hb10 hta hfr hit hlen
              go_wp2
              obtain ⟨e0, e1, e2, hg⟩ := two_after HR10.out (.int .i64 (finF (d1 * d2) t).1) (.slice a4 (finF (d1 * d2) t).2.1.length cap4) rfl
              refine bodyPost_ret (v := .tuple #[.agg #[.int .i64 (finF (d1 * d2) t).1, .slice a4 (finF (d1 * d2) t).2.1.length cap4], .int .i64 (finF (d1 * d2) t).2.2]) ?_ rfl ?_
              · simp [results, Tryz.results54, go_sem, e1, e2]
              · refine ⟨_, HP.out f1 d1 f2 d2 t HF1.out HF2.out (by rw [HG2.out]; exact HIT.out), _, rfl, HTA.out.kept hg ?_, HB10.out.grown hg HB10.out.size (by intro k hk; cases hk; omega), fun k hk => ?_⟩
                · cases hv : (Value.slice a4 (finF (d1 * d2) t).2.1.length cap4).ownBlock with
                  | none => exact .inl rfl
                  | some k => right; have := HFR.out k hv; simp; omega
                · have := HFR.out k hk; omega
            · obtain ⟨g2, hg2⟩ : ∃ g2, f2.1 = g2 := ⟨_, rfl⟩
              have hg2b1 : -200000 ≤ g2 := by omega
              have hg2b2 : g2 ≤ 200000 := by omega
              have HG2 : Hid ((if c < 0 then -f2.1 else f2.1) = g2) := Lib.hid (by rw [if_neg hcs]; exact hg2)
              have HG3 := Lib.hid hg2
              have HS := Lib.hid (show Two (w6.alloc (.cells #[.int .i64 g2, .int .i64 f2.2] 85)) w6.heap.size (.int .i64 g2) (.int .i64 f2.2) 85 from Two.new w6 _ _ 85)
              have z0 := F6.out.c0
              have z1 := F6.out.c1
              have hzz : w5.heap.size < w6.heap.size := F6.out.lt
              have BB7 : Hid (Below w.heap.size w (((w6.alloc (.cells #[.int .i64 g2, .int .i64 f2.2] 85)).alloc (.map #[] 0)).alloc (.cells #[.int .i64 f1.1, .int .i64 f1.2] 85))) := Lib.hid (((BB6.out.alloc BB6.out.size _).alloc (by have := BB6.out.size; simp; omega) _).alloc (by have := BB6.out.size; simp; omega) _)
              have RR7 : Hid (Two (((w6.alloc (.cells #[.int .i64 g2, .int .i64 f2.2] 85)).alloc (.map #[] 0)).alloc (.cells #[.int .i64 f1.1, .int .i64 f1.2] 85)) (w.heap.size + 1) (.int .i64 0) (.slice none 0 0) 34) := Lib.hid (((RR6.out.alloc _).alloc _).alloc _)
              have HS7 : Hid (Two (((w6.alloc (.cells #[.int .i64 g2, .int .i64 f2.2] 85)).alloc (.map #[] 0)).alloc (.cells #[.int .i64 f1.1, .int .i64 f1.2] 85)) w6.heap.size (.int .i64 g2) (.int .i64 f2.2) 85) := Lib.hid ((HS.out.alloc _).alloc _)
              have HO7 : Hid (OwnSum (((w6.alloc (.cells #[.int .i64 g2, .int .i64 f2.2] 85)).alloc (.map #[] 0)).alloc (.cells #[.int .i64 f1.1, .int .i64 f1.2] 85)) (w6.heap.size + 1) 0 zeroC) := Lib.hid ((ownSum_made (W := w6.alloc (.cells #[.int .i64 g2, .int .i64 f2.2] 85)) (b := w6.heap.size + 1) (by simp)).below ((Below.refl _ _).alloc (Nat.le_refl _) _))
              have HT7 : Hid (TermsAt (((w6.alloc (.cells #[.int .i64 g2, .int .i64 f2.2] 85)).alloc (.map #[] 0)).alloc (.cells #[.int .i64 f1.1, .int .i64 f1.2] 85)) (.slice (some ⟨w6.heap.size + 1 + 1, 0, none⟩) 1 1) [(f1.1, f1.2)]) := Lib.hid (by
                have h := Two.new ((w6.alloc (.cells #[.int .i64 g2, .int .i64 f2.2] 85)).alloc (.map #[] 0)) (.int .i64 f1.1) (.int .i64 f1.2) 85
                have e : ((w6.alloc (.cells #[.int .i64 g2, .int .i64 f2.2] 85)).alloc (.map #[] 0)).heap.size = w6.heap.size + 1 + 1 := by simp
                rw [e] at h
                exact termsAt_one _ _ 1 (f1.1, f1.2) h.lt (Nat.le_refl _) h.c0 h.c1)
              have hm1 := mul_abs_le d2 f1.1 200000 200000 (by omega) (by omega) (by omega) (by omega)
              have hm2 := mul_abs_le d1 g2 200000 200000 (by omega) (by omega) (by omega) (by omega)
              have hm3 := mul_abs_le d1 d2 200000 200000 (by omega) (by omega) (by omega) (by omega)
              have hm4 := Int.mul_le_mul (show 1 ≤ d1 by omega) (show 1 ≤ d2 by omega) (by omega) (by omega)
              have K1 : Hid (∀ t ∈ [(f1.1, f1.2)], -1000000000000 ≤ t.2 ∧ t.2 ≤ 1000000000000 ∧ -9000000000000000000 ≤ d2 * t.1 ∧ d2 * t.1 ≤ 9000000000000000000) := Lib.hid (fun t ht => by
                have : t = (f1.1, f1.2) := by simpa using ht
                subst this
                dsimp only
                omega)
              have K2 : Hid (∀ t ∈ [(g2, f2.2)], -1000000000000 ≤ t.2 ∧ t.2 ≤ 1000000000000 ∧ -9000000000000000000 ≤ d1 * t.1 ∧ d1 * t.1 ≤ 9000000000000000000) := Lib.hid (fun t ht => by
                have : t = (g2, f2.2) := by simpa using ht
                subst this
                dsimp only
                omega)
              have hB1 := plus_bd zeroC d2 [(f1.1, f1.2)] 0 200000 200000 (fun r => by simp [zeroC]) (by omega) (by omega) (by omega) (sing (t := (f1.1, f1.2)) ⟨by dsimp only; omega, by dsimp only; omega⟩) (by omega) 1 (by simp)
              have hB1f : ∀ r, -40000000000 ≤ plusC zeroC d2 [(f1.1, f1.2)] r ∧ plusC zeroC d2 [(f1.1, f1.2)] r ≤ 40000000000 := fun r => by have := hB1 1 (by simp) r; simp at this; omega
              have hB2 := plus_bd (plusC zeroC d2 [(f1.1, f1.2)]) d1 [(g2, f2.2)] 40000000000 200000 200000 hB1f (by omega) (by omega) (by omega) (sing (t := (g2, f2.2)) ⟨by dsimp only; omega, by dsimp only; omega⟩) (by omega) 1 (by simp)
              have C1 : Hid (∀ k, k ≤ [(f1.1, f1.2)].length → ∀ r, -9000000000000000000 ≤ plusC zeroC d2 ([(f1.1, f1.2)].take k) r ∧ plusC zeroC d2 ([(f1.1, f1.2)].take k) r ≤ 9000000000000000000) := Lib.hid (fun k hk r => by have := hB1 k hk r; omega)
              have C2 : Hid (∀ k, k ≤ [(g2, f2.2)].length → ∀ r, -9000000000000000000 ≤ plusC (plusC zeroC d2 [(f1.1, f1.2)]) d1 ([(g2, f2.2)].take k) r ∧ plusC (plusC zeroC d2 [(f1.1, f1.2)]) d1 ([(g2, f2.2)].take k) r ≤ 9000000000000000000) := Lib.hid (fun k hk r => by have := hB2 k hk r; omega)
              have CB : Hid (∀ r, -9000000000000000000 ≤ plusC (plusC zeroC d2 [(f1.1, f1.2)]) d1 [(g2, f2.2)] r ∧ plusC (plusC zeroC d2 [(f1.1, f1.2)]) d1 [(g2, f2.2)] r ≤ 9000000000000000000) := Lib.hid (fun r => by have := hB2 1 (by simp) r; simp at this; omega)
              have CR : Hid (∀ r, plusC (plusC zeroC d2 [(f1.1, f1.2)]) d1 [(g2, f2.2)] r ≠ 0 → 0 ≤ r ∧ r ≤ 1000000000000) := Lib.hid (fun r hr => by
                by_cases e1 : coefOf [(f1.1, f1.2)] r = 0
                · by_cases e2 : coefOf [(g2, f2.2)] r = 0
                  · exact absurd (by simp [plusC, zeroC, e1, e2]) hr
                  · obtain ⟨t, ht, e⟩ := coefOf_ne e2
                    have : t = (g2, f2.2) := by simpa using ht
                    subst this; dsimp only at e; omega
                · obtain ⟨t, ht, e⟩ := coefOf_ne e1
                  have : t = (f1.1, f1.2) := by simpa using ht
                  subst this; dsimp only at e; omega)
              obtain ⟨hm31, hm32⟩ := hm3
              have hd12 : d1 * d2 ≠ 0 := by omega
              have HD12 := Lib.hid hd12
              clear hB1 hB1f hB2 hm1 hm2 hm4 hd12 HS 
              go_wp2_with fail
              
              refine (add_at (w6.heap.size + 1) 0 zeroC d2 _ [(f1.1, f1.2)] _ HT7.out (by intro b off len cap hv h0; simp at hv; omega) (by simp) (by omega) HO7.out K1 C1).mono ?_
              rintro e w8 ⟨rfl, ho8, hg8⟩
              have HO8 := Lib.hid ho8
              have HS8 := Lib.hid (HS7.out.kept hg8 (by intro e; have := Option.some.inj e; omega))
              have RR8 := Lib.hid (RR7.out.kept hg8 (by intro e; have := Option.some.inj e; omega))
              have BB8 := Lib.hid (BB7.out.grown hg8 BB7.out.size (by intro k hk; have := Option.some.inj hk; omega))
              have hsz8 : w6.heap.size + 1 < w8.heap.size := by have := hg8.size; simp at this; omega
              have s0 := HS8.out.c0
              have s1 := HS8.out.c1
              have HT8 : Hid (TermsAt (w8.alloc (.cells #[.int .i64 g2, .int .i64 f2.2] 85)) (.slice (some ⟨w8.heap.size, 0, none⟩) 1 1) [(g2, f2.2)]) := Lib.hid (by
                have h := Two.new w8 (.int .i64 g2) (.int .i64 f2.2) 85
                exact termsAt_one _ _ 1 (g2, f2.2) h.lt (Nat.le_refl _) h.c0 h.c1)
              have HO8' := Lib.hid (HO8.out.below ((Below.refl _ w8).alloc (Nat.le_refl _) (.cells #[.int .i64 g2, .int .i64 f2.2] 85)))
              have RR8' := Lib.hid (RR8.out.alloc (.cells #[.int .i64 g2, .int .i64 f2.2] 85))
              have BB8' := Lib.hid (BB8.out.alloc BB8.out.size (.cells #[.int .i64 g2, .int .i64 f2.2] 85))
              clear ho8 hg8 HO8 RR8 BB8 HS7 RR7 BB7 HO7 HT7 z0 z1
              go_wp2_with fail
              refine (add_at (w6.heap.size + 1) (0 + [(f1.1, f1.2)].length) _ d1 _ [(g2, f2.2)] _ HT8.out (by intro b off len cap hv h0; simp at hv; omega) (by simp) (by simp) HO8'.out K2 C2).mono ?_
              rintro e w9 ⟨rfl, ho9, hg9⟩
              have HO9 := Lib.hid ho9
              have RR9 := Lib.hid (RR8'.out.kept hg9 (by intro e; have := Option.some.inj e; omega))
              have BB9 := Lib.hid (BB8'.out.grown hg9 BB8'.out.size (by intro k hk; have := Option.some.inj hk; omega))
              clear ho9 hg9 HO8' RR8' BB8' HT8 s0 s1 HS8 hp0
              go_wp2_with fail
              refine (finish_any hsort (d1 * d2) (w6.heap.size + 1) _ _ _ HO9.out (by simp) (by omega) (by omega) HD12.out CR CB).mono ?_
              rintro e w10 ⟨t, hit, hlen, v10, rfl, hta, hb10, hfr⟩
              obtain ⟨a4, cap4, rfl, _⟩ := hta.placed
              have R10 := RR9.out.below hb10 RR9.out.lt
              have B10 := BB9.out.trans (hb10.mono BB9.out.size)
              have r0 := R10.c0
              have r1 := R10.c1
              have f0 := R10.fr (i := 0)
              have f3 := R10.fr (i := 1)
              have HR10 := Lib.hid R10
              have HB10 := Lib.hid B10
              have HTA := Lib.hid hta
              have HFR := Lib.hid hfr
              have HIT := Lib.hid hit
              have hl9 : w.heap.size + 1 < w9.heap.size := RR9.out.lt
              clear R10 B10 hb10 hta hfr hit hlen
              go_wp2
              obtain ⟨e0, e1, e2, hg⟩ := two_after HR10.out (.int .i64 (finF (d1 * d2) t).1) (.slice a4 (finF (d1 * d2) t).2.1.length cap4) rfl
              refine bodyPost_ret (v := .tuple #[.agg #[.int .i64 (finF (d1 * d2) t).1, .slice a4 (finF (d1 * d2) t).2.1.length cap4], .int .i64 (finF (d1 * d2) t).2.2]) ?_ rfl ?_
              · simp [results, Tryz.results54, go_sem, e1, e2]
              · refine ⟨_, HP.out f1 d1 f2 d2 t HF1.out HF2.out (by rw [HG2.out]; exact HIT.out), _, rfl, HTA.out.kept hg ?_, HB10.out.grown hg HB10.out.size (by intro k hk; cases hk; omega), fun k hk => ?_⟩
                · cases hv : (Value.slice a4 (finF (d1 * d2) t).2.1.length cap4).ownBlock with
                  | none => exact .inl rfl
                  | some k => right; have := HFR.out k hv; simp; omega
                · have := HFR.out k hk; omega
          · have HP : Hid (RootP d l (0, [], 11)) := Lib.hid (by unfold RootP; rw [if_pos HV.out, HSG.out, if_neg (Int.not_lt.2 HNEG.out), HO.out, if_neg (by decide), if_pos (.inr (by rw [HM.out]; simp only [Int.toNat_natCast]; rw [hW]; exact hsq))])
            have hd : decide (W * W = k) = false := decide_eq_false hsq
            rw [hd] at HE
            clear hd hsq hW
            go_wp2_with fail
            refine (HE.out _).mono ?_
            rintro e w4 ⟨rfl, hb⟩
            have RR4 := Lib.hid (RR3.out.below hb RR3.out.lt)
            have BA4 := Lib.hid (BA3.out.trans (hb.mono BA3.out.size))
            have r2 := RR4.out.c0
            have r3 := RR4.out.c1
            have f2 := RR4.out.fr (i := 0)
            have f3 := RR4.out.fr (i := 1)
            clear hb r0 r1 f0 f1 x0 x1
            go_wp2
            obtain ⟨d0, d1, d2, hg⟩ := two_after RR4.out (.int .i64 0) (.slice none 0 0) rfl
            refine bodyPost_ret (v := .tuple #[.agg #[.int .i64 0, .slice none 0 0], .int .i64 11]) ?_ rfl ?_
            · simp [results, Tryz.results54, go_sem, d1, d2]
            · exact ⟨_, HP.out, _, rfl, termsAt_nil _, BA4.out.grown hg BA4.out.size (by intro k hk; cases hk; omega), fun k hk => by cases hk⟩

end Go.Proofs.YtkjclafbpocabaaGreatDoor
