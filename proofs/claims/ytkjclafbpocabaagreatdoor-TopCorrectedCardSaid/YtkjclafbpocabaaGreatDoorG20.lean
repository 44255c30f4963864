/-
  Contracts of the program's own functions (and their plain mathematics), on the way to the law: each for all arguments that its hypotheses let.
-/
import Derived.Test.YtkjclafbpocabaaGreatDoorG19
import Derived.WalkKit
import Derived.WalkSpells
import Derived.WalkLawsBesides
import Derived.Deep.QuietTactic
import Derived.BigQuiet
import Derived.Lib.Hide
import Derived.WalkSmall
import Derived.Maps.OwnSet
import Derived.Maps.RangeWalk
import Derived.Deep.RegionWith
import Derived.Deep.RegionHeld3
import Derived.OneCell
import Derived.KernelRfl
import Derived.Laws.StructEq
import Derived.StillTailTactics
import Derived.Laws.Externs
import Derived.RangeFuncBox
import Derived.Test.YtkjclafbpocabaaGreatDoorPlain
set_option linter.unusedSimpArgs false
set_option linter.unusedVariables false

/-! ## S51 -/
namespace Go.Proofs.YtkjclafbpocabaaGreatDoor
open Go.RowKit Go.Maps Go.Shelf Go.Sort

theorem bin_any (v : Value) (l : List (Int × Int)) (w : World) (ht : TermsAt w v l) : Calls Tryz.prog 109 #[v] w (BinTo (binF l) w) := by
  obtain ⟨hl, ⟨rfl, a, cap, rfl⟩ | ⟨b, off, cap, rfl, hcap, hb, hc⟩⟩ := ht
  · exact bin_nil a cap w
  · match l, hl, hcap, hc with
    | [], _, _, _ => exact bin_nil _ cap w
    | [t], _, hcap, hc =>
      obtain ⟨h0, h1⟩ := hc 0 (by simp)
      simp at h0 h1 hcap
      by_cases ht : t.2 = 1
      · have e : binF [t] = (t.1, (0, 0), true) := by simp [binF, ht]
        rw [e]
        rw [ht] at h1
        exact bin_one b off cap t.1 w hb hcap h0 h1
      · have e : binF [t] = (0, t, true) := by simp [binF, ht]
        rw [e]
        exact bin_other b off 0 cap t.1 t.2 true w hb hcap h0 h1 ht rfl
    | t :: u :: us, _, hcap, hc =>
      obtain ⟨h0, h1⟩ := hc 0 (by simp)
      obtain ⟨h2, h3⟩ := hc 1 (by simp)
      simp at h0 h1 h2 h3 hcap
      by_cases ht : t.2 = 1
      · have e : binF (t :: u :: us) = (t.1, u, decide (us.length = 0)) := by simp [binF, ht]
        rw [e]
        rw [ht] at h1
        exact bin_more b off us.length cap t.1 u.1 u.2 _ w hb (by omega) h0 h1 h2 h3 rfl
      · have e : binF (t :: u :: us) = (0, t, decide (us.length + 1 = 0)) := by simp [binF, ht]
        rw [e]
        exact bin_other b off (us.length + 1) cap t.1 t.2 _ w hb (by omega) h0 h1 ht rfl
/-- A square's side and a number without squares. -/
def SplitR (n s q : Int) : Prop := (n = 0 ∧ s = 0 ∧ q = 1) ∨ (1 ≤ n ∧ 1 ≤ s ∧ 1 ≤ q ∧ s * s * q = n ∧ SqF q)
theorem split_r (n : Int) (w : World) (h1 : 0 ≤ n) (h2 : n ≤ 2147483648) : Calls Tryz.prog 122 #[.int .i64 n] w fun e w' => ∃ s q, SplitR n s q ∧ e = .returned (.tuple #[.int .i64 s, .int .i64 q]) ∧ ∃ m, w' = w.drewN m := by
  by_cases h0 : n = 0
  · subst h0
    refine (split_zero w).mono ?_
    rintro e w' ⟨rfl, rfl⟩
    exact ⟨0, 1, .inl ⟨rfl, rfl, rfl⟩, rfl, 0, rfl⟩
  · refine (split_any n w (by omega) h2).mono ?_
    rintro e w' ⟨⟨s, r, rfl, a, b, c, d⟩, m, rfl⟩
    exact ⟨s, r, .inr ⟨by omega, a, b, c, d⟩, rfl, m, rfl⟩
theorem splitR_bd {n s q K : Int} (h : SplitR n s q) (hn : n ≤ K) (hK : 1 ≤ K) : 0 ≤ s ∧ s ≤ K ∧ 1 ≤ q ∧ q ≤ K ∧ s * q ≤ K := by
  rcases h with ⟨rfl, rfl, rfl⟩ | ⟨h1, h2, h3, h4, _⟩
  · simp; omega
  · have a1 : s * q ≤ s * s * q := by
      have := Int.mul_le_mul_of_nonneg_right (Int.mul_le_mul_of_nonneg_left h2 (show 0 ≤ s by omega)) (show 0 ≤ q by omega)
      rw [Int.mul_one] at this; exact this
    have a2 : s * 1 ≤ s * q := Int.mul_le_mul_of_nonneg_left h3 (by omega)
    have a3 : 1 * q ≤ s * q := Int.mul_le_mul_of_nonneg_right h2 (by omega)
    omega
/-- The root of num / den, as a term and its denominator. -/
def FracR (num den : Int) (f : Int × Int) (d : Int) : Prop := ∃ s1 q1 s2 q2, SplitR (num / (Int.gcd num den : Int)) s1 q1 ∧ SplitR (den / (Int.gcd num den : Int)) s2 q2 ∧ f = (s1, q1 * q2) ∧ d = s2 * q2
def FracTo (num den : Int) (w : World) (e : Ending) (w' : World) : Prop := ∃ f d, FracR num den f d ∧ e = .returned (.tuple #[.agg #[.int .i64 f.1, .int .i64 f.2], .int .i64 d]) ∧ Below w.heap.size w w'
theorem below_drewN2 {B : Nat} {a w : World} (h : Below B a w) (n : Nat) : Below B a (w.drewN n) := below_drewN h n
set_option maxRecDepth 100000 in
set_option maxHeartbeats 4000000 in
theorem fractionRoot_any (num den : Int) (w : World) (hn0 : 0 ≤ num) (hn : num ≤ 200000) (hd0 : 1 ≤ den) (hd : den ≤ 200000) : Calls Tryz.prog 112 #[.int .i64 num, .int .i64 den] w (FracTo num den w) := by
  have HG := Lib.hid (fun w0 => gcd_any num den w0 (by omega) (by omega) (by omega) (by omega))
  have hgd1 : (Int.gcd num den : Int) ∣ num := Int.gcd_dvd_left _ _
  have hgd2 : (Int.gcd num den : Int) ∣ den := Int.gcd_dvd_right _ _
  have hg1 : 1 ≤ (Int.gcd num den : Int) := by
    have : Int.gcd num den ≠ 0 := by
      intro e
      rw [e] at hgd2
      have := Int.zero_dvd.1 hgd2
      omega
    omega
  have HT : Hid (FracTo num den w = fun e w' => ∃ f d, (∃ s1 q1 s2 q2, SplitR (num / (Int.gcd num den : Int)) s1 q1 ∧ SplitR (den / (Int.gcd num den : Int)) s2 q2 ∧ f = (s1, q1 * q2) ∧ d = s2 * q2) ∧ e = .returned (.tuple #[.agg #[.int .i64 f.1, .int .i64 f.2], .int .i64 d]) ∧ Below w.heap.size w w') := Lib.hid rfl
  have ht1 : num.tdiv (Int.gcd num den : Int) = num / (Int.gcd num den : Int) := Int.tdiv_eq_ediv_of_nonneg hn0
  have ht2 : den.tdiv (Int.gcd num den : Int) = den / (Int.gcd num den : Int) := Int.tdiv_eq_ediv_of_nonneg (by omega)
  have b1 : num / (Int.gcd num den : Int) ≤ num := Int.ediv_le_self _ hn0
  have b2 : den / (Int.gcd num den : Int) ≤ den := Int.ediv_le_self _ (by omega)
  have b3 : 0 ≤ num / (Int.gcd num den : Int) := Int.ediv_nonneg hn0 (by omega)
  have hgb' : (Int.gcd num den : Int) ≤ den := Int.le_of_dvd (by omega) hgd2
  have b4 : 1 ≤ den / (Int.gcd num den : Int) := Int.le_ediv_of_mul_le (by omega) (by omega)
  have hgb : (Int.gcd num den : Int) ≤ 200000 := Int.le_trans (Int.le_of_dvd (by omega) hgd2) hd
  unfold FracTo FracR
  generalize (Int.gcd num den : Int) = g at *
  generalize hx : num / g = x at *
  generalize hy : den / g = y at *
  have HS1 := Lib.hid (fun w0 => split_r x w0 b3 (by omega))
  have HS2 := Lib.hid (fun w0 => split_r y w0 (by omega) (by omega))
  have hg0 : ¬ g = 0 := by omega
  have hx2 : x ≤ 200000 := by omega
  have hy2 : y ≤ 200000 := by omega
  have w1 : RowKit.wrap64 x = x := IntWalk.wrap64_in _ ⟨by omega, by omega⟩
  have w2 : RowKit.wrap64 y = y := IntWalk.wrap64_in _ ⟨by omega, by omega⟩
  clear hgd1 hgd2 b1 b2 HT
  go_enter Tryz.func112, Tryz.ntmps112
  go_wp2_with fail
  refine (HG.out _).mono ?_
  rintro e w3 ⟨rfl, m3, rfl⟩
  go_wp2_with fail
  refine (HS1.out _).mono ?_
  rintro e w4 ⟨s1, q1, hs1, rfl, m4, rfl⟩
  have hb1 := splitR_bd hs1 hx2 (by decide)
  have HR1 := Lib.hid hs1
  clear hs1
  go_wp2_with fail
  refine (HS2.out _).mono ?_
  rintro e w5 ⟨s2, q2, hs2, rfl, m5, rfl⟩
  have hb2 := splitR_bd hs2 hy2 (by decide)
  have HR2 := Lib.hid hs2
  obtain ⟨c1, c2, c3, c4, c5⟩ := hb1
  obtain ⟨d1, d2, d3, d4, d5⟩ := hb2
  have hm1 := mul_abs_le q1 q2 200000 200000 (by omega) (by omega) (by omega) (by omega)
  have hm2 := mul_abs_le s2 q2 200000 200000 (by omega) (by omega) (by omega) (by omega)
  have w3 : RowKit.wrap64 (q1 * q2) = q1 * q2 := IntWalk.wrap64_in _ ⟨by omega, by omega⟩
  have w4 : RowKit.wrap64 (s2 * q2) = s2 * q2 := IntWalk.wrap64_in _ ⟨by omega, by omega⟩
  clear hs2 HS1 HS2 hm1 hm2 hx hy
  go_wp2
  refine bodyPost_ret (v := .tuple #[.agg #[.int .i64 s1, .int .i64 (q1 * q2)], .int .i64 (s2 * q2)]) ?_ rfl ?_
  · simp [results, Tryz.results112, go_sem, w4]
  · exact ⟨(s1, q1 * q2), s2 * q2, ⟨s1, q1, s2, q2, HR1.out, HR2.out, rfl, rfl⟩, rfl, ((below_drewN ((Below.refl _ w).alloc (Nat.le_refl _) _) _).setCell (by simp) _).setCell (by simp) _⟩
set_option maxRecDepth 100000 in
set_option maxHeartbeats 4000000 in
theorem rootHalf_any (num den : Int) (bx : Nat) (w : World) (hx : w.cell? ⟨bx, 0, none⟩ = some (.int .i64 den)) (hbx : bx < w.heap.size) (hn0 : 0 ≤ num) (hn : num ≤ 200000) (hd0 : 1 ≤ den) (hd : den ≤ 100000) :
    Calls Tryz.prog 111 #[.int .i64 num, .pointer (some ⟨bx, 0, none⟩)] w (FracTo num (2 * den) w) := by
  have hne : bx ≠ w.heap.size := by omega
  have HF := Lib.hid (fun w0 => fractionRoot_any num (2 * den) w0 hn0 hn (by omega) (by omega))
  have HA := Lib.hid ((Below.refl _ w).alloc (Nat.le_refl _) (.cells #[.int .i64 0, .int .i64 0] 85))
  have hxa := (HA.out.cell (p := ⟨bx, 0, none⟩) hbx).trans hx
  have RR := Lib.hid (Two.new w (.int .i64 0) (.int .i64 0) 85)
  clear hx
  go_enter Tryz.func111, Tryz.ntmps111
  go_wp2_with fail
  refine (HF.out _).mono ?_
  rintro e w2 ⟨f, d, hf, rfl, hb2⟩
  have R2 := RR.out.below hb2 RR.out.lt
  have HR2 := Lib.hid R2
  have HB2 := Lib.hid (HA.out.trans (hb2.mono HA.out.size))
  have HFR := Lib.hid hf
  have r0 := R2.c0
  have r1 := R2.c1
  have f0 := R2.fr (i := 0)
  have f1 := R2.fr (i := 1)
  clear hf hb2 R2
  go_wp2
  obtain ⟨d0, d1, d2, hg⟩ := two_after HR2.out (.int .i64 f.1) (.int .i64 f.2) rfl
  refine bodyPost_ret (v := .tuple #[.agg #[.int .i64 f.1, .int .i64 f.2], .int .i64 d]) ?_ rfl ?_
  · simp [results, Tryz.results111, go_sem, d1, d2]
  · exact ⟨f, d, HFR.out, rfl, HB2.out.grown hg HB2.out.size (by intro k hk; cases hk; omega)⟩
end Go.Proofs.YtkjclafbpocabaaGreatDoor
