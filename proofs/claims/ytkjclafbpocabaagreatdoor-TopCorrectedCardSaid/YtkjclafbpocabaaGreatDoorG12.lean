/-
  Contracts of the program's own functions (and their plain mathematics), on the way to the law: each for all arguments that its hypotheses let.
-/
import Derived.Test.YtkjclafbpocabaaGreatDoorG11
import Derived.WalkKit
import Derived.WalkSpells
import Derived.WalkLawsBesides
import Derived.Deep.QuietTactic
import Derived.BigQuiet
import Derived.Lib.Hide
import Derived.WalkSmall
import Derived.Maps.OwnSet
import Derived.Maps.RangeWalk
import Derived.Deep.RegionWith
import Derived.Deep.RegionHeld3
import Derived.OneCell
import Derived.StillTailTactics
import Derived.Laws.Externs
import Derived.RangeFuncBox
import Derived.Test.YtkjclafbpocabaaGreatDoorPlain
set_option linter.unusedSimpArgs false
set_option linter.unusedVariables false

/-! ## S27 -/
namespace Go.Proofs.YtkjclafbpocabaaGreatDoor
open Go.RowKit Go.Maps Go.Shelf Go.Sort
/-- The whole root. -/
def isq (n : Nat) : Nat := if h : n = 0 then 0 else let r := 2 * isq (n / 4); if (r + 1) * (r + 1) ≤ n then r + 1 else r
termination_by n
decreasing_by omega
theorem isq_spec (n : Nat) : isq n * isq n ≤ n ∧ n < (isq n + 1) * (isq n + 1) := by
  induction n using Nat.strongRecOn with
  | ind n ih =>
    by_cases h : n = 0
    · subst h; unfold isq; simp
    · have h1 := ih (n / 4) (by omega)
      rw [isq, dif_neg h]
      generalize isq (n / 4) = q at h1
      obtain ⟨h2, h3⟩ := h1
      have e1 : (2 * q) * (2 * q) = 4 * (q * q) := by rw [Nat.mul_mul_mul_comm]
      have e2 : (2 * q + 1) * (2 * q + 1) = 4 * (q * q) + 4 * q + 1 := by
        rw [Nat.add_mul, Nat.mul_add, e1]; omega
      have e3 : (2 * q + 1 + 1) * (2 * q + 1 + 1) = 4 * ((q + 1) * (q + 1)) := by
        rw [show 2 * q + 1 + 1 = 2 * (q + 1) by omega, Nat.mul_mul_mul_comm]
      dsimp only
      split
      · rename_i hc
        refine ⟨hc, ?_⟩
        rw [e3]; omega
      · rename_i hc
        refine ⟨?_, by omega⟩
        rw [e1]; omega
theorem isq_uniq {n s : Nat} (h1 : s * s ≤ n) (h2 : n < (s + 1) * (s + 1)) : s = isq n := by
  obtain ⟨h3, h4⟩ := isq_spec n
  rcases Nat.lt_trichotomy s (isq n) with h | h | h
  · have := Nat.mul_le_mul (show s + 1 ≤ isq n from h) (show s + 1 ≤ isq n from h)
    omega
  · exact h
  · have := Nat.mul_le_mul (show isq n + 1 ≤ s from h) (show isq n + 1 ≤ s from h)
    omega

set_option maxHeartbeats 1000000 in
theorem over_any (r n b : Nat) (w : World) (hr : r ≤ 2147483648) (hn : n < 4611686018427387904) (hb : Hid (w.cell? ⟨b, 0, none⟩ = some (.int .i64 n))) :
    Calls Tryz.prog 212 #[.int .i64 r, .pointer (some ⟨b, 0, none⟩)] w fun e w' => e = .returned (.bool (decide (n < r * r))) ∧ w' = w := by
  have hrr : r * r ≤ 2147483648 * 2147483648 := Nat.mul_le_mul hr hr
  obtain ⟨q, hq⟩ : ∃ q, r * r = q := ⟨_, rfl⟩
  rw [hq] at hrr ⊢
  have hqi : (r : Int) * (r : Int) = (q : Int) := by rw [← hq]; simp
  have hc := hb.out
  clear hb hq
  go_enter Tryz.func212, Tryz.ntmps212
  go_wp2
  go_ret
  exact ⟨rfl, rfl⟩

set_option maxRecDepth 100000 in
set_option maxHeartbeats 2000000 in
theorem search_root (n b : Nat) (w : World) (hn : n < 4611686018427387904) (hb : Hid (w.cell? ⟨b, 0, none⟩ = some (.int .i64 n))) :
    Calls Tryz.prog 211 #[.int .i64 2147483648, .func (.func 212) #[] #[.pointer (some ⟨b, 0, none⟩)]] w fun e w' => e = .returned (.int .i64 ((isq n + 1 : Nat) : Int)) ∧ w' = w := by
  go_enter Tryz.func211, Tryz.ntmps211
  go_wp2_with fail
  go_loopw [5, 6] (fun s t wr => wr = w ∧ ∃ i j : Nat, s = .int .i64 i ∧ t = .int .i64 j ∧ i ≤ j ∧ j ≤ 2147483648 ∧ Hid ((i = 0 ∨ (i - 1) * (i - 1) ≤ n) ∧ n < j * j)) (fun s t _ => ((intOf t) - (intOf s)).toNat)
  case atStart => exact ⟨rfl, 0, 2147483648, rfl, rfl, by omega, by omega, Lib.hid ⟨.inl rfl, by omega⟩⟩
  case round =>
    obtain ⟨rfl, i, j, rfl, rfl, hij, hj, HI⟩ := hrel
    by_cases hlt : i < j
    · have hov := fun r (hr : r ≤ 2147483648) => over_any r n b wr hr hn hb
      obtain ⟨m, hm⟩ : ∃ m, (i + j) / 2 = m := ⟨_, rfl⟩
      have hm1 : i ≤ m := by omega
      have hm2 : m < j := by omega
      have hmi : ((i : Int) + (j : Int)) / 2 = (m : Int) := by omega
      have HOV := Lib.hid (hov m (by omega))
      clear hm hov
      go_wp2_with fail
      refine HOV.out.mono ?_
      rintro e w2 ⟨rfl, rfl⟩
      by_cases hc : n < m * m
      · have hcd : decide (n < m * m) = true := decide_eq_true hc
        have HI2 : Hid ((i = 0 ∨ (i - 1) * (i - 1) ≤ n) ∧ n < m * m) := Lib.hid ⟨HI.out.1, hc⟩
        rw [hcd]
        clear hcd hc HI HOV
        go_wp2
        exact ⟨⟨trivial, i, m, rfl, rfl, by omega, by omega, HI2⟩, by simp [intOf]; omega⟩
      · have hcd : decide (n < m * m) = false := decide_eq_false hc
        have HI2 : Hid ((m + 1 = 0 ∨ (m + 1 - 1) * (m + 1 - 1) ≤ n) ∧ n < j * j) := Lib.hid ⟨.inr (by rw [Nat.add_sub_cancel]; omega), HI.out.2⟩
        rw [hcd]
        clear hcd hc HI HOV
        go_wp2
        exact ⟨⟨trivial, m + 1, j, by simp, rfl, by omega, by omega, HI2⟩, by simp [intOf]; omega⟩
    · have hie : i = j := by omega
      subst hie
      have HR : Hid (i = isq n + 1) := by
        obtain ⟨h1, h2⟩ := HI.out
        have hi0 : i ≠ 0 := by intro e; subst e; omega
        have h3 := h1.resolve_left hi0
        have h4 := isq_uniq h3 (by rw [Nat.sub_add_cancel (by omega)]; exact h2)
        exact Lib.hid (by omega)
      clear HI
      go_wp2
      go_ret
      exact ⟨by rw [← HR.out]; rfl, rfl⟩

set_option maxHeartbeats 1000000 in
theorem wholeRoot_any (n : Nat) (w : World) (hn : n < 4611686018427387904) :
    Calls Tryz.prog 169 #[.int .i64 n] w fun e w' => e = .returned (.int .i64 (isq n : Nat)) ∧ Below w.heap.size w w' := by
  have hsr := fun w0 h0 => search_root n w.heap.size w0 hn h0
  obtain ⟨q, hq⟩ : ∃ q, isq n = q := ⟨_, rfl⟩
  have hq1 : q < 2147483648 := by
    obtain ⟨h1, h2⟩ := isq_spec n
    rw [hq] at h1
    rcases Nat.lt_or_ge q 2147483648 with h | h
    · exact h
    · have := Nat.mul_le_mul h h; omega
  rw [hq] at hsr ⊢
  have HSR := Lib.hid hsr
  clear hsr hq
  go_enter Tryz.func169, Tryz.ntmps169
  go_wp2_with fail
  refine (HSR.out _ (Lib.hid (by go_simp))).mono ?_
  rintro e w2 ⟨rfl, rfl⟩
  go_wp2
  go_ret
  exact ⟨rfl, (Below.refl _ w).alloc (Nat.le_refl _) _⟩

theorem isq_four (N : Nat) : isq (4 * N) = if 4 * isq N + 1 ≤ 4 * (N - isq N * isq N) then 2 * isq N + 1 else 2 * isq N := by
  obtain ⟨h1, h2⟩ := isq_spec N
  generalize isq N = q at h1 h2 ⊢
  have e1 : (2 * q) * (2 * q) = 4 * (q * q) := by rw [Nat.mul_mul_mul_comm]
  have e2 : (2 * q + 1) * (2 * q + 1) = 4 * (q * q) + 4 * q + 1 := by
    rw [Nat.add_mul, Nat.mul_add, e1]; omega
  have e3 : (2 * q + 1 + 1) * (2 * q + 1 + 1) = 4 * ((q + 1) * (q + 1)) := by
    rw [show 2 * q + 1 + 1 = 2 * (q + 1) by omega, Nat.mul_mul_mul_comm]
  split
  · exact (isq_uniq (by omega) (by omega)).symm
  · exact (isq_uniq (by omega) (by omega)).symm
theorem words_one (w : World) (x : Nat) (hx : x ≠ 0) (hx' : x < 18446744073709551616) : WordsAt (w.alloc (.cells #[.int .u64 (x : Nat)] 220)) (.slice (some ⟨w.heap.size, 0, none⟩) 1 1) (toW x) := by
  have e : toW x = [x] := by rw [toW_pos hx, Nat.mod_eq_of_lt hx', Nat.div_eq_of_lt hx', toW_zero]
  rw [e]
  refine ⟨by simp, .inr ⟨w.heap.size, 0, 1, rfl, Nat.le_refl _, by simp, fun i hi => ?_⟩⟩
  have : i = 0 := by simp at hi; exact hi
  subst this
  go_simp
theorem words_at_one (w : World) (x : Nat) : WordsAt (w.alloc (.cells #[.int .u64 (x : Nat)] 220)) (.slice (some ⟨w.heap.size, 0, none⟩) 1 1) [x] := by
  refine ⟨by simp, .inr ⟨w.heap.size, 0, 1, rfl, Nat.le_refl _, by simp, fun i hi => ?_⟩⟩
  have : i = 0 := by simp at hi; exact hi
  subst this
  go_simp
theorem eight_pow (n e : Nat) (hn : n ≤ 1000) : 8 * (n * 2 ^ e) ≤ 2 ^ (13 + e) := by
  rw [Nat.pow_add, ← Nat.mul_assoc]
  exact Nat.mul_le_mul_right _ (by omega)
theorem root_len' {n k m K : Nat} (hK : 900 ≤ K) (hn : n ≤ 1000) (hk : k ≤ 7000) (hm : m ≤ 8 * (n * 4 ^ (26 + k))) : (toW m).length ≤ K := by
  apply toW_len_le
  have h1 : 4 ^ (26 + k) = 2 ^ (2 * (26 + k)) := by rw [Nat.pow_mul]
  have h3 : ∀ e, 18446744073709551616 ^ e = 2 ^ (64 * e) := fun e => by rw [show (18446744073709551616 : Nat) = 2 ^ 64 from rfl, ← Nat.pow_mul]
  rw [h3]
  rw [h1] at hm
  exact Nat.lt_of_le_of_lt (Nat.le_trans hm (eight_pow n _ hn)) (Nat.pow_lt_pow_right (by decide) (by omega))
theorem root_len {n k m : Nat} (hn : n ≤ 1000) (hk : k ≤ 7000) (hm : m ≤ 8 * (n * 4 ^ (26 + k))) : (toW m).length ≤ 1000 := root_len' (by decide) hn hk hm
theorem toW_one : toW 1 = [1] := by rw [toW_pos (by decide), show (1 : Nat) / 18446744073709551616 = 0 from rfl, toW_zero]
def RootI (w wr : World) (vr vs : Value) (N : Nat) : Prop := WordsAt wr vr (toW (isq N)) ∧ WordsAt wr vs (toW (N - isq N * isq N)) ∧ Below w.heap.size w wr

set_option maxRecDepth 100000 in
set_option maxHeartbeats 2000000 in
theorem rootDigits_any (n D : Nat) (w : World) (hn0 : 1 ≤ n) (hn : n ≤ 1000) (hD : D ≤ 7000) :
    Calls Tryz.prog 234 #[.int .i64 n, .int .i64 (26 + D : Nat)] w (NatTo (isq (n * 4 ^ (26 + D))) w) := by
  obtain ⟨s, hs⟩ : ∃ s, n * 4503599627370496 = s := ⟨_, rfl⟩
  have hs1 : s < 4611686018427387904 := by omega
  have hs0 : 4503599627370496 ≤ s := by omega
  have hsi : (n : Int) * 4503599627370496 = (s : Int) := by omega
  obtain ⟨q, hq⟩ : ∃ q, isq s = q := ⟨_, rfl⟩
  obtain ⟨h1, h2⟩ := isq_spec s
  rw [hq] at h1 h2
  obtain ⟨qq, hqq⟩ : ∃ qq, q * q = qq := ⟨_, rfl⟩
  rw [hqq] at h1
  have hqi : (q : Int) * (q : Int) = (qq : Int) := by rw [← hqq]; simp
  have hq1 : q < 2147483648 := by
    rcases Nat.lt_or_ge q 2147483648 with h | h
    · exact h
    · have := Nat.mul_le_mul h h; omega
  have hq0 : q ≠ 0 := by intro e; subst e; simp at h2; omega
  have hwr := fun w => wholeRoot_any s w hs1
  rw [hq] at hwr
  have HWR := Lib.hid hwr
  have HQ := Lib.hid hq
  have HQQ := Lib.hid hqq
  have HS := Lib.hid hs
  have HQI := hqi
  clear hwr hq hqq hs h2
  go_enter Tryz.func234, Tryz.ntmps234
  go_wp2_with fail
  refine (HWR.out _).mono ?_
  rintro e w1 ⟨rfl, hb1⟩
  have HB1 := Lib.hid hb1
  clear hb1
  obtain ⟨r, hr⟩ : ∃ r, s - qq = r := ⟨_, rfl⟩
  have hri : (s : Int) - (qq : Int) = (r : Int) := by omega
  have hr2 : r < 18446744073709551616 := by omega
  have hW2 := Lib.hid (words_one w1 q hq0 (by omega))
  have hT : Hid (trimW [r] = toW r) := Lib.hid (by unfold trimW; simp [valW])
  have htr := trimmed_any (some ⟨w1.heap.size + 1, 0, none⟩) 1 [r] ((w1.alloc (.cells #[.int .u64 (q : Nat)] 220)).alloc (.cells #[.int .u64 (r : Nat)] 220)) (by have := words_at_one (w1.alloc (.cells #[.int .u64 (q : Nat)] 220)) r; simpa using this) (by intro x hx; simp at hx; omega)
  rw [hT.out] at htr
  have HTR := Lib.hid htr
  have HR := Lib.hid hr
  clear htr hr
  go_wp2_with fail
  refine HTR.out.mono ?_
  rintro e w2 ⟨rfl, hwt, rfl⟩
  have HI0 : Hid (RootI w ((w1.alloc (.cells #[.int .u64 (q : Nat)] 220)).alloc (.cells #[.int .u64 (r : Nat)] 220)) (.slice (some ⟨w1.heap.size, 0, none⟩) 1 1) (.slice (some ⟨w1.heap.size + 1, 0, none⟩) (toW r).length 1) (n * 4 ^ (26 + 0))) := by
    have e : n * 4 ^ (26 + 0) = s := by rw [← HS.out]
    refine Lib.hid ⟨?_, ?_, (HB1.out.alloc HB1.out.size _).alloc (by have := HB1.out.size; simp; omega) _⟩
    · rw [e, HQ.out]; exact hW2.out.below ((Below.refl _ _).alloc (Nat.le_refl _) _)
    · rw [e, HQ.out, HQQ.out, HR.out]; exact hwt
  clear hwt HTR hW2 hri HQI hqi hsi
  go_wp2_with fail
  go_loopw [7, 8, 27] (fun vr vs t wr => ∃ k : Nat, t = .int .i64 (k : Nat) ∧ k ≤ D ∧ Hid (RootI w wr vr vs (n * 4 ^ (26 + k)))) (fun _ _ t _ => D - (intOf t).toNat)
  case atStart => exact ⟨0, rfl, Nat.zero_le _, HI0⟩
  case round =>
    obtain ⟨k, rfl, hk, HI⟩ := hrel
    by_cases hlt : k < D
    · obtain ⟨N, hN⟩ : ∃ N, n * 4 ^ (26 + k) = N := ⟨_, rfl⟩
      have hN4 : n * 4 ^ (26 + (k + 1)) = 4 * N := by rw [← hN, show 26 + (k + 1) = (26 + k) + 1 by omega, Nat.pow_succ, ← Nat.mul_assoc, Nat.mul_comm]
      have hNp : 1 ≤ N := by rw [← hN]; exact Nat.mul_pos hn0 (Nat.pow_pos (by decide))
      have hlen : ∀ m, m ≤ 8 * N → (toW m).length ≤ 1000 := fun m hm => root_len hn (show k ≤ 7000 by omega) (by rw [hN]; exact hm)
      rw [hN] at HI
      have hI4 := isq_four N
      obtain ⟨hq1', hq2'⟩ := isq_spec N
      obtain ⟨hwr1, hws1, hbw⟩ := HI.out
      obtain ⟨g, hg⟩ : ∃ g, isq N = g := ⟨_, rfl⟩
      rw [hg] at hI4 hq1' hq2' hwr1 hws1
      obtain ⟨gg, hgg⟩ : ∃ gg, g * g = gg := ⟨_, rfl⟩
      rw [hgg] at hI4 hq1' hws1
      have hgN : g ≤ N := by
        rcases Nat.eq_zero_or_pos g with h | h
        · omega
        · have := Nat.le_mul_of_pos_left g h; omega
      obtain ⟨R, hR⟩ : ∃ R, N - gg = R := ⟨_, rfl⟩
      rw [hR] at hI4 hws1
      have hRN : R ≤ N := by omega
      have hle1 := hlen (R * 4) (by omega)
      have hle2 := hlen (g * 2) (by omega)
      have hle3 := hlen (g * 2 * 2) (by omega)
      have hle4 := hlen (g * 2 * 2 + 1) (by omega)
      have hle5 := hlen R (by omega)
      have hle6 := hlen g (by omega)
      have hle7 : (toW 1).length ≤ 1000 := by rw [toW_one]; decide
      have HB := Lib.hid hbw
      have HWR' := Lib.hid hwr1
      have HI4 := Lib.hid hI4
      have HGG := Lib.hid hgg
      have HRR := Lib.hid hR
      have HN4 := Lib.hid hN4
      have HG := Lib.hid hg
      have HLE := Lib.hid (show gg ≤ N from hq1')
      clear hN hlen HI hwr1 hbw hI4 hgg hR hN4 hg hq1' hq2' hgN hRN
      go_wp2_with fail
      refine (doubled2_any _ R _ hws1 hle5).mono ?_
      rintro e w2 ⟨v2, rfl, hw2, hb2⟩
      have HR2 := Lib.hid hw2
      have HG2 := Lib.hid (HWR'.out.below hb2)
      have HB2 := Lib.hid (HB.out.trans (hb2.mono HB.out.size))
      clear hw2 hb2 hws1 HB HWR'
      go_wp2_with fail
      refine (doubled1_any _ g _ HG2.out hle6).mono ?_
      rintro e w3 ⟨v3, rfl, hw3, hb3⟩
      have HG3 := Lib.hid hw3
      have HR3 := Lib.hid (HR2.out.below hb3)
      have HB3 := Lib.hid (HB2.out.trans (hb3.mono HB2.out.size))
      clear hw3 hb3 HG2 HB2 HR2
      go_wp2_with fail
      refine (doubled1_any _ (g * 2) _ HG3.out hle2).mono ?_
      rintro e w4 ⟨v4, rfl, hw4, hb4⟩
      have HM4 := Lib.hid hw4
      have HG4 := Lib.hid (HG3.out.below hb4)
      have HR4 := Lib.hid (HR3.out.below hb4)
      have HB4 := Lib.hid (HB3.out.trans (hb4.mono HB3.out.size))
      clear hw4 hb4 HG3 HB3 HR3
      have hA : Below w4.heap.size w4 (w4.alloc (.cells #[.int .u64 1] 220)) := (Below.refl _ _).alloc (Nat.le_refl _) _
      have H1 := Lib.hid (words_one w4 1 (by decide) (by decide))
      have HM5 := Lib.hid (HM4.out.below hA)
      have HG5 := Lib.hid (HG4.out.below hA)
      have HR5 := Lib.hid (HR4.out.below hA)
      have HB5 := Lib.hid (HB4.out.trans (hA.mono HB4.out.size))
      clear hA HM4 HG4 HR4 HB4
      go_wp2_with fail
      refine (plus_any _ _ (g * 2 * 2) 1 _ HM5.out H1.out hle3 hle7).mono ?_
      rintro e w6 ⟨v6, rfl, hw6, hb6⟩
      have HM6 := Lib.hid hw6
      have HG6 := Lib.hid (HG5.out.below hb6)
      have HR6 := Lib.hid (HR5.out.below hb6)
      have HB6 := Lib.hid (HB5.out.trans (hb6.mono HB5.out.size))
      clear hw6 hb6 H1 HM5 HG5 HR5 HB5
      go_wp2_with fail
      refine (compare_any _ _ (R * 4) (g * 2 * 2 + 1) _ HR6.out HM6.out).mono ?_
      rintro e w7 ⟨rfl, hb7⟩
      have HM7 := Lib.hid (HM6.out.below hb7)
      have HG7 := Lib.hid (HG6.out.below hb7)
      have HR7 := Lib.hid (HR6.out.below hb7)
      have HB7 := Lib.hid (HB6.out.trans (hb7.mono HB6.out.size))
      clear hb7 HM6 HG6 HR6 HB6
      obtain ⟨c, hc⟩ : ∃ c, cmpN (R * 4) (g * 2 * 2 + 1) = c := ⟨_, rfl⟩
      have hcc : (0 ≤ c ↔ g * 2 * 2 + 1 ≤ R * 4) := by
        rw [← hc]; unfold cmpN; split
        · constructor <;> intro h <;> omega
        · split <;> constructor <;> intro h <;> omega
      rw [hc]
      clear hc
      by_cases hc0 : 0 ≤ c
      · have hge := hcc.1 hc0
        have HC := Lib.hid hge
        clear hcc
        go_wp2_with fail
        refine (minus_any _ _ (R * 4) (g * 2 * 2 + 1) _ HR7.out HM7.out hle1 HC.out).mono ?_
        rintro e w8 ⟨v8, rfl, hw8, hb8⟩
        have HR8 := Lib.hid hw8
        have HG8 := Lib.hid (HG7.out.below hb8)
        have HB8 := Lib.hid (HB7.out.trans (hb8.mono HB7.out.size))
        clear hw8 hb8 HM7 HR7 HG7 HB7
        have hA : Below w8.heap.size w8 (w8.alloc (.cells #[.int .u64 1] 220)) := (Below.refl _ _).alloc (Nat.le_refl _) _
        have H1 := Lib.hid (words_one w8 1 (by decide) (by decide))
        have HG9 := Lib.hid (HG8.out.below hA)
        have HR9 := Lib.hid (HR8.out.below hA)
        have HB9 := Lib.hid (HB8.out.trans (hA.mono HB8.out.size))
        clear hA HG8 HR8 HB8
        go_wp2_with fail
        refine (plus_any _ _ (g * 2) 1 _ HG9.out H1.out hle2 hle7).mono ?_
        rintro e wz ⟨vz, rfl, hwz, hbz⟩
        have HIn : Hid (RootI w wz vz v8 (n * 4 ^ (26 + (k + 1)))) := by
          have e := HI4.out
          rw [if_pos (by have := HC.out; omega)] at e
          refine Lib.hid ⟨?_, ?_, HB9.out.trans (hbz.mono HB9.out.size)⟩
          · rw [HN4.out, e, Nat.mul_comm 2 g]; exact hwz
          · rw [HN4.out, e]
            have e2 : 4 * N - (2 * g + 1) * (2 * g + 1) = R * 4 - (g * 2 * 2 + 1) := by
              have e3 : (2 * g + 1) * (2 * g + 1) = 4 * (g * g) + 4 * g + 1 := by
                rw [Nat.add_mul, Nat.mul_add, Nat.mul_mul_mul_comm]; omega
              rw [e3, HGG.out]; have := HRR.out; have := HLE.out; omega
            rw [e2]; exact HR9.out.below hbz
        clear HI4 HC hwz hbz HG9 HR9 HB9 H1
        go_wp2
        exact ⟨⟨k + 1, by simp, by omega, HIn⟩, by simp [intOf]; omega⟩
      · have hge : ¬ g * 2 * 2 + 1 ≤ R * 4 := fun h => hc0 (hcc.2 h)
        have HC := Lib.hid hge
        clear hcc hge
        have HIn : Hid (RootI w w7 v3 v2 (n * 4 ^ (26 + (k + 1)))) := by
          have e := HI4.out
          rw [if_neg (by have := HC.out; omega)] at e
          refine Lib.hid ⟨?_, ?_, HB7.out⟩
          · rw [HN4.out, e, Nat.mul_comm 2 g]; exact HG7.out
          · rw [HN4.out, e]
            have e2 : 4 * N - 2 * g * (2 * g) = R * 4 := by
              rw [Nat.mul_mul_mul_comm, HGG.out]; have := HRR.out; have := HLE.out; omega
            rw [e2]; exact HR7.out
        clear HI4 HC
        go_wp2
        exact ⟨⟨k + 1, by simp, by omega, HIn⟩, by simp [intOf]; omega⟩
    · have hke : k = D := by omega
      subst hke
      go_wp2
      go_ret
      exact ⟨_, rfl, HI.out.1, HI.out.2.2⟩
end Go.Proofs.YtkjclafbpocabaaGreatDoor

/-! ## S28 -/
namespace Go.Proofs.YtkjclafbpocabaaGreatDoor
open Go.RowKit Go.Maps Go.Shelf Go.Sort
/-- What is stored into a block of two bounds leaves a number's words alone. -/
theorem WordsAt.kept {w w' : World} {v : Value} {ws : List Nat} {b : Nat} {a0 a1 : Option Addr} {n0 n1 c0 c1 : Nat} {T : TypeId} (h : WordsAt w v ws) (ht : Two w b (.slice a0 n0 c0) (.slice a1 n1 c1) T) (hg : w.grownBy w' (some b)) : WordsAt w' v ws := by
  obtain ⟨hl, h | ⟨g, off, cap, hv, hcap, hb, hc⟩⟩ := h
  · exact ⟨hl, .inl h⟩
  · refine ⟨hl, .inr ⟨g, off, cap, hv, hcap, Nat.lt_of_lt_of_le hb hg.size, fun i hi => hg.cell (hc i hi) ?_⟩⟩
    intro e
    have e := Option.some.inj e
    subst e
    have h1 := hc i hi
    unfold World.cell? at h1
    unfold Two at ht
    simp only [ht] at h1
    rcases Nat.lt_or_ge (off + i) 2 with h2 | h2
    · have : off + i = 0 ∨ off + i = 1 := by omega
      rcases this with h3 | h3 <;> simp [h3] at h1
    · rw [Array.getElem?_eq_none (by simpa using h2)] at h1; cases h1
/-- A lower and an upper bound. -/
def EncAt (w : World) (v : Value) (A0 A1 : Nat) : Prop := ∃ v0 v1, v = .agg #[v0, v1] ∧ WordsAt w v0 (toW A0) ∧ WordsAt w v1 (toW A1)
theorem EncAt.below {w w' : World} {v : Value} {A0 A1 : Nat} (h : EncAt w v A0 A1) (hw : Below w.heap.size w w') : EncAt w' v A0 A1 := by
  obtain ⟨v0, v1, e, h0, h1⟩ := h
  exact ⟨v0, v1, e, h0.below hw, h1.below hw⟩
theorem words_nil (w : World) : WordsAt w (.slice none 0 0) (toW 0) := by rw [toW_zero]; exact ⟨by simp, .inl ⟨rfl, none, 0, rfl⟩⟩
def LessTo (A0 A1 B0 B1 : Nat) (w : World) (e : Ending) (w' : World) : Prop :=
  ∃ v, e = .returned (.tuple #[v, .bool (decide (B1 ≤ A0))]) ∧ EncAt w' v (if B1 ≤ A0 then A0 - B1 else 0) (if B1 ≤ A0 then A1 - B0 else 0) ∧ Below w.heap.size w w'

set_option maxRecDepth 100000 in
set_option maxHeartbeats 2000000 in
theorem less_any (a b : Value) (A0 A1 B0 B1 : Nat) (w : World) (ha : EncAt w a A0 A1) (hb : EncAt w b B0 B1)
    (lA0 : (toW A0).length ≤ 1000) (lA1 : (toW A1).length ≤ 1000) (hA : A0 ≤ A1) (hB : B0 ≤ B1) :
    Calls Tryz.prog 174 #[a, b] w (LessTo A0 A1 B0 B1 w) := by
  obtain ⟨a0, a1, rfl, ha0, ha1⟩ := ha
  obtain ⟨b0, b1, rfl, hb0, hb1⟩ := hb
  obtain ⟨pa0, ca0, rfl⟩ := ha0.shape
  obtain ⟨pa1, ca1, rfl⟩ := ha1.shape
  obtain ⟨pb0, cb0, rfl⟩ := hb0.shape
  obtain ⟨pb1, cb1, rfl⟩ := hb1.shape
  obtain ⟨a0, ea0⟩ : ∃ x, Value.slice pa0 (toW A0).length ca0 = x := ⟨_, rfl⟩
  have HA0 := Lib.hid ha0
  have HA1 := Lib.hid ha1
  have HB0 := Lib.hid hb0
  have HB1 := Lib.hid hb1
  clear ha0 ha1 hb0 hb1 ea0 a0
  have X := Two.new w (.slice pa0 (toW A0).length ca0) (.slice pa1 (toW A1).length ca1) 206
  have X' := X.alloc (.cells #[.slice pb0 (toW B0).length cb0, .slice pb1 (toW B1).length cb1] 206)
  clear X
  have X := X'.alloc (.cells #[.slice none 0 0, .slice none 0 0] 206)
  clear X'
  have Y := Two.new (w.alloc (.cells #[.slice pa0 (toW A0).length ca0, .slice pa1 (toW A1).length ca1] 206)) (.slice pb0 (toW B0).length cb0) (.slice pb1 (toW B1).length cb1) 206
  have eY : (w.alloc (.cells #[.slice pa0 (toW A0).length ca0, .slice pa1 (toW A1).length ca1] 206)).heap.size = w.heap.size + 1 := by simp
  rw [eY] at Y
  have Y' := Y
  clear Y
  have Y := Y'.alloc (.cells #[.slice none 0 0, .slice none 0 0] 206)
  clear Y'
  have R := Two.new ((w.alloc (.cells #[.slice pa0 (toW A0).length ca0, .slice pa1 (toW A1).length ca1] 206)).alloc (.cells #[.slice pb0 (toW B0).length cb0, .slice pb1 (toW B1).length cb1] 206)) (.slice none 0 0) (.slice none 0 0) 206
  have eR : ((w.alloc (.cells #[.slice pa0 (toW A0).length ca0, .slice pa1 (toW A1).length ca1] 206)).alloc (.cells #[.slice pb0 (toW B0).length cb0, .slice pb1 (toW B1).length cb1] 206)).heap.size = w.heap.size + 1 + 1 := by simp
  rw [eR] at R
  have hBW : Below w.heap.size w (((w.alloc (.cells #[.slice pa0 (toW A0).length ca0, .slice pa1 (toW A1).length ca1] 206)).alloc (.cells #[.slice pb0 (toW B0).length cb0, .slice pb1 (toW B1).length cb1] 206)).alloc (.cells #[.slice none 0 0, .slice none 0 0] 206)) := (((Below.refl _ w).alloc (Nat.le_refl _) _).alloc (by simp) _).alloc (by simp; omega) _
  have XX := Lib.hid X
  have YY := Lib.hid Y
  have RR := Lib.hid R
  have BB := Lib.hid hBW
  clear X Y R hBW eY eR
  go_enter Tryz.func174, Tryz.ntmps174
  go_wp2_with fail
  refine (compare_any _ _ A0 B1 _ (HA0.out.below (BB.out.mono (Nat.le_refl _))) (HB1.out.below BB.out)).mono ?_
  rintro e w2 ⟨rfl, hb2⟩
  have X2 := XX.out.below hb2 XX.out.lt
  have Y2 := YY.out.below hb2 YY.out.lt
  have R2 := RR.out.below hb2 RR.out.lt
  have HB2 := Lib.hid (BB.out.trans (hb2.mono BB.out.size))
  have hsz : w.heap.size + 2 < w2.heap.size := by have := R2.lt; omega
  have hsz1 : w.heap.size + 1 < w2.heap.size := by omega
  have hsz0 : w.heap.size < w2.heap.size := by omega
  clear hb2 XX YY RR BB
  by_cases hlt : B1 ≤ A0
  · obtain ⟨c, hc⟩ : ∃ c, cmpN A0 B1 = c := ⟨_, rfl⟩
    have hc0 : ¬ c < 0 := by rw [← hc]; unfold cmpN; rw [if_neg (by omega)]; split <;> omega
    rw [hc]
    clear hc
    have HL := Lib.hid hlt
    have HM1 := fun w0 h0 h1 => minus_any (.slice pa0 (toW A0).length ca0) (.slice pb1 (toW B1).length cb1) A0 B1 w0 h0 h1 lA0 hlt
    have HM2 := fun w0 h0 h1 => minus_any (.slice pa1 (toW A1).length ca1) (.slice pb0 (toW B0).length cb0) A1 B0 w0 h0 h1 lA1 (by omega)
    have HM1 := Lib.hid HM1
    have HM2 := Lib.hid HM2
    have XX := Lib.hid X2
    have YY := Lib.hid Y2
    have RR := Lib.hid R2
    have x0 := X2.c0
    have x1 := X2.c1
    have y0 := Y2.c0
    have y1 := Y2.c1
    clear X2 Y2 R2 hlt
    go_wp2_with fail
    go_region_held3 (fun w' => w'.cell? ⟨w.heap.size, 0, none⟩ = some (.slice pa0 (toW A0).length ca0) ∧ w'.cell? ⟨w.heap.size, 1, none⟩ = some (.slice pa1 (toW A1).length ca1) ∧ w'.cell? ⟨w.heap.size + 1, 0, none⟩ = some (.slice pb0 (toW B0).length cb0) ∧ w'.cell? ⟨w.heap.size + 1, 1, none⟩ = some (.slice pb1 (toW B1).length cb1))
      (first | exact ⟨(X4.kept (two_after R4 _ _ rfl).2.2.2 (fun e => by have := Option.some.inj e; omega)).c0, (X4.kept (two_after R4 _ _ rfl).2.2.2 (fun e => by have := Option.some.inj e; omega)).c1, (Y4.kept (two_after R4 _ _ rfl).2.2.2 (fun e => by have := Option.some.inj e; omega)).c0, (Y4.kept (two_after R4 _ _ rfl).2.2.2 (fun e => by have := Option.some.inj e; omega)).c1⟩ | exact ⟨X4.c0, X4.c1, Y4.c0, Y4.c1⟩ | exact ⟨X3.c0, X3.c1, Y3.c0, Y3.c1⟩ | exact ⟨x0, x1, y0, y1⟩ | (go_keep; done))
      (first
        | (go_at_call 216; refine (HM2.out _ (HA1.out.below B3) (HB0.out.below B3)).mono ?_; rintro e w4 ⟨v4, rfl, hw4, hb4⟩; obtain ⟨p4, c4, rfl⟩ := hw4.shape; have X4 := X3.below hb4 X3.lt; have Y4 := Y3.below hb4 Y3.lt; have R4 := R3.below hb4 R3.lt; have B4 := B3.trans (hb4.mono B3.size); have r0 := R4.c0; have r1 := R4.c1; have f0 := R4.fr (i := 0); have f1 := R4.fr (i := 1))
        | (go_at_call 216; refine (HM1.out w2.drew ((HA0.out.below HB2.out).below (Below.refl _ w2).drew) ((HB1.out.below HB2.out).below (Below.refl _ w2).drew)).mono ?_; rintro e w3 ⟨v3, rfl, hw3, hb3⟩; obtain ⟨p3, c3, rfl⟩ := hw3.shape; have X3 := Two.below (w := w2.drew) XX.out hb3 XX.out.lt; have Y3 := Two.below (w := w2.drew) YY.out hb3 YY.out.lt; have R3 := Two.below (w := w2.drew) RR.out hb3 RR.out.lt; have B3 := HB2.out.drew.trans (hb3.mono HB2.out.size)))
    go_wp2
    obtain ⟨d0, d1, d2, hg⟩ := two_after R4 (.slice p3 (toW (A0 - B1)).length c3) (.slice p4 (toW (A1 - B0)).length c4) rfl
    refine bodyPost_ret (v := .tuple #[.agg #[.slice p3 (toW (A0 - B1)).length c3, .slice p4 (toW (A1 - B0)).length c4], .bool true]) ?_ rfl ?_
    · simp [results, Tryz.results174, go_sem, d0, d1, d2]
    · have e1 := HL.out
      refine ⟨_, by rw [decide_eq_true e1], ?_, B4.grown hg B4.size (by intro k hk; cases hk; omega)⟩
      rw [if_pos e1, if_pos e1]
      exact ⟨_, _, rfl, (hw3.below hb4).kept R4 hg, hw4.kept R4 hg⟩
  · obtain ⟨c, hc⟩ : ∃ c, cmpN A0 B1 = c := ⟨_, rfl⟩
    have hc0 : c < 0 := by rw [← hc]; unfold cmpN; rw [if_pos (by omega)]; omega
    rw [hc]
    clear hc
    have HL := Lib.hid hlt
    have RR := Lib.hid R2
    have r0 := R2.c0
    have r1 := R2.c1
    have f0 := R2.fr (i := 0)
    have f1 := R2.fr (i := 1)
    clear X2 Y2 R2 hlt
    go_wp2
    obtain ⟨d0, d1, d2, hg⟩ := two_after RR.out (.slice none 0 0) (.slice none 0 0) rfl
    refine bodyPost_ret (v := .tuple #[.agg #[.slice none 0 0, .slice none 0 0], .bool false]) ?_ rfl ?_
    · simp [results, Tryz.results174, go_sem, d0, d1, d2]
    · have e1 := HL.out
      refine ⟨_, by rw [decide_eq_false e1], ?_, HB2.out.grown hg HB2.out.size (by intro k hk; cases hk; omega)⟩
      rw [if_neg e1, if_neg e1]
      exact ⟨_, _, rfl, words_nil _, words_nil _⟩
end Go.Proofs.YtkjclafbpocabaaGreatDoor
