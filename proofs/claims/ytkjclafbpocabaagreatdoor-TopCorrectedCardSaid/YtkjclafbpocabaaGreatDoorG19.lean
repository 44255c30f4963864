/-
  Contracts of the program's own functions (and their plain mathematics), on the way to the law: each for all arguments that its hypotheses let.
-/
import Derived.Test.YtkjclafbpocabaaGreatDoorG18
import Derived.WalkKit
import Derived.WalkSpells
import Derived.WalkLawsBesides
import Derived.Deep.QuietTactic
import Derived.BigQuiet
import Derived.Lib.Hide
import Derived.WalkSmall
import Derived.Maps.OwnSet
import Derived.Maps.RangeWalk
import Derived.Deep.RegionWith
import Derived.Deep.RegionHeld3
import Derived.OneCell
import Derived.KernelRfl
import Derived.Laws.StructEq
import Derived.StillTailTactics
import Derived.Laws.Externs
import Derived.RangeFuncBox
import Derived.Test.YtkjclafbpocabaaGreatDoorPlain
set_option linter.unusedSimpArgs false
set_option linter.unusedVariables false

/-! ## S48 -/
namespace Go.Proofs.YtkjclafbpocabaaGreatDoor
open Go.RowKit Go.Maps Go.Shelf Go.Sort

def flN (den dig A0 A1 B0 B1 : Nat) : Int := if B1 ≤ A0 then (((A0 - B1) / den / 2 ^ dig : Nat) : Int) else if A1 ≤ B0 then -(((B0 - A1) / den / 2 ^ dig : Nat) : Int) - 1 else 0
def flB (den dig A0 A1 B0 B1 : Nat) : Bool := if B1 ≤ A0 then decide ((A0 - B1) / den / 2 ^ dig = (A1 - B0) / den / 2 ^ dig) else if A1 ≤ B0 then decide ((B0 - A1) / den / 2 ^ dig = (B1 - A0) / den / 2 ^ dig) else false
theorem len_mono {m n : Nat} (h : m ≤ n) (hl : (toW n).length ≤ 1000) : (toW m).length ≤ 1000 := by
  obtain ⟨K, hK⟩ : ∃ K, K = 1000 := ⟨_, rfl⟩
  rw [← hK] at hl ⊢
  have h1 := valW_lt (toW_small n)
  rw [valW_toW] at h1
  exact toW_len_le (Nat.lt_of_le_of_lt h (Nat.lt_of_lt_of_le h1 (Nat.pow_le_pow_right (by decide) hl)))
set_option maxRecDepth 100000 in
set_option maxHeartbeats 4000000 in
theorem floor1_any (a b : Value) (A0 A1 B0 B1 den dig bx : Nat) (w : World) (ha : EncAt w a A0 A1) (hb : EncAt w b B0 B1)
    (lA0 : (toW A0).length ≤ 1000) (lA1 : (toW A1).length ≤ 1000) (lB0 : (toW B0).length ≤ 1000) (lB1 : (toW B1).length ≤ 1000) (hA : A0 ≤ A1) (hB : B0 ≤ B1)
    (hx : w.cell? ⟨bx, 0, none⟩ = some (.int .i64 den)) (hbx : bx < w.heap.size) (hden : 1 ≤ den) (hden2 : den ≤ 100000) (hdiv : Hid (DivC den)) (hdig : dig ≤ 60000)
    (hA2 : A1 / den / 2 ^ dig < 4611686018427387904) (hB2 : B1 / den / 2 ^ dig < 4611686018427387904) :
    Calls Tryz.prog 197 #[a, b, .int .i64 dig, .pointer (some ⟨bx, 0, none⟩)] w (OkTo (flN den dig A0 A1 B0 B1) (flB den dig A0 A1 B0 B1) w) := by
  obtain ⟨x0, x1, rfl, ha0, ha1⟩ := ha
  obtain ⟨y0, y1, rfl, hb0, hb1⟩ := hb
  obtain ⟨pa0, ca0, rfl⟩ := ha0.shape
  obtain ⟨pa1, ca1, rfl⟩ := ha1.shape
  obtain ⟨pb0, cb0, rfl⟩ := hb0.shape
  obtain ⟨pb1, cb1, rfl⟩ := hb1.shape
  have hEA : EncAt w (.agg #[.slice pa0 (toW A0).length ca0, .slice pa1 (toW A1).length ca1]) A0 A1 := ⟨_, _, rfl, ha0, ha1⟩
  have hEB : EncAt w (.agg #[.slice pb0 (toW B0).length cb0, .slice pb1 (toW B1).length cb1]) B0 B1 := ⟨_, _, rfl, hb0, hb1⟩
  have HL1 := Lib.hid (fun w0 h0 h1 => less_any (.agg #[.slice pa0 (toW A0).length ca0, .slice pa1 (toW A1).length ca1]) (.agg #[.slice pb0 (toW B0).length cb0, .slice pb1 (toW B1).length cb1]) A0 A1 B0 B1 w0 h0 h1 lA0 lA1 hA hB)
  have HL2 := Lib.hid (fun w0 h0 h1 => less_any (.agg #[.slice pb0 (toW B0).length cb0, .slice pb1 (toW B1).length cb1]) (.agg #[.slice pa0 (toW A0).length ca0, .slice pa1 (toW A1).length ca1]) B0 B1 A0 A1 w0 h0 h1 lB0 lB1 hB hA)
  have q0 : ∀ m n : Nat, m ≤ n → n / den / 2 ^ dig < 4611686018427387904 → m / den / 2 ^ dig < 4611686018427387904 := fun m n hmn hn => Nat.lt_of_le_of_lt (Nat.div_le_div_right (Nat.div_le_div_right hmn)) hn
  have HW := Lib.hid (fun (v : Value) (S0 S1 : Nat) (w0 : World) (hv : EncAt w0 v S0 S1) (l0 : (toW S0).length ≤ 1000) (l1 : (toW S1).length ≤ 1000) (bd : Nat) (h1 : w0.cell? ⟨bx, 0, none⟩ = some (.int .i64 den)) (h2 : w0.cell? ⟨bd, 0, none⟩ = some (.int .i64 dig)) (h3 : bx < w0.heap.size) (h4 : bd < w0.heap.size) (hL : S0 / den / 2 ^ dig < 4611686018427387904) (h01 : S0 ≤ S1) => whole_any v S0 S1 den dig bx bd w0 hv l0 l1 h1 h2 h3 h4 hden hden2 hdiv hdig (by omega) h01)
  have LLA := Lib.hid (fun (m : Nat) (h : m ≤ A1) => len_mono h lA1)
  have LLB := Lib.hid (fun (m : Nat) (h : m ≤ B1) => len_mono h lB1)
  have HQ := Lib.hid q0
  have HA1 := Lib.hid (And.intro hA hB)
  have HA2 := Lib.hid (And.intro hA2 hB2)
  obtain ⟨rn, hrn⟩ : ∃ r, flN den dig A0 A1 B0 B1 = r := ⟨_, rfl⟩
  obtain ⟨rb, hrb⟩ : ∃ r, flB den dig A0 A1 B0 B1 = r := ⟨_, rfl⟩
  rw [hrn, hrb]
  have HRN := Lib.hid hrn
  have HRB := Lib.hid hrb
  clear hrn hrb ha0 ha1 hb0 hb1 lA0 lA1 lB0 lB1 hA hB hA2 hB2 q0 hdiv
  generalize (toW A0).length = a0 at *
  generalize (toW A1).length = a1 at *
  generalize (toW B0).length = b0 at *
  generalize (toW B1).length = b1 at *
  have X := ((Two.new w (.slice pa0 a0 ca0) (.slice pa1 a1 ca1) 206).alloc (.cells #[.slice pb0 b0 cb0, .slice pb1 b1 cb1] 206)).alloc (.cells #[.int .i64 dig] 3)
  have Y := (Two.new (w.alloc (.cells #[.slice pa0 a0 ca0, .slice pa1 a1 ca1] 206)) (.slice pb0 b0 cb0) (.slice pb1 b1 cb1) 206).alloc (.cells #[.int .i64 dig] 3)
  have eY : (w.alloc (.cells #[.slice pa0 a0 ca0, .slice pa1 a1 ca1] 206)).heap.size = w.heap.size + 1 := by simp
  rw [eY] at Y
  have hBW : Below w.heap.size w (((w.alloc (.cells #[.slice pa0 a0 ca0, .slice pa1 a1 ca1] 206)).alloc (.cells #[.slice pb0 b0 cb0, .slice pb1 b1 cb1] 206)).alloc (.cells #[.int .i64 dig] 3)) := (((Below.refl _ w).alloc (Nat.le_refl _) _).alloc (by simp) _).alloc (by simp; omega) _
  have hD : (((w.alloc (.cells #[.slice pa0 a0 ca0, .slice pa1 a1 ca1] 206)).alloc (.cells #[.slice pb0 b0 cb0, .slice pb1 b1 cb1] 206)).alloc (.cells #[.int .i64 dig] 3)).cell? ⟨w.heap.size + 1 + 1, 0, none⟩ = some (.int .i64 dig) := by go_simp
  have hsz : (((w.alloc (.cells #[.slice pa0 a0 ca0, .slice pa1 a1 ca1] 206)).alloc (.cells #[.slice pb0 b0 cb0, .slice pb1 b1 cb1] 206)).alloc (.cells #[.int .i64 dig] 3)).heap.size = w.heap.size + 1 + 1 + 1 := by simp
  have hxa := (hBW.cell (p := ⟨bx, 0, none⟩) hbx).trans hx
  have XX := Lib.hid X
  have YY := Lib.hid Y
  have BB := Lib.hid hBW
  have HD := Lib.hid hD
  have HX := Lib.hid hxa
  have HSZ := Lib.hid hsz
  have HEA := Lib.hid (hEA.below hBW)
  have HEB := Lib.hid (hEB.below hBW)
  clear X Y hBW eY hEA hEB hD hsz hxa hx
  go_enter Tryz.func197, Tryz.ntmps197
  go_wp2_with fail
  refine (HL1.out _ HEA.out HEB.out).mono ?_
  rintro e w2 ⟨v2, rfl, henc, hb2⟩
  have hz2 := hb2.size
  rw [HSZ.out] at hz2
  have HB2 := Lib.hid (BB.out.trans (hb2.mono BB.out.size))
  have XX2 := Lib.hid (XX.out.below hb2 XX.out.lt)
  have YY2 := Lib.hid (YY.out.below hb2 YY.out.lt)
  have HD2 := Lib.hid ((hb2.cell (p := ⟨w.heap.size + 1 + 1, 0, none⟩) (by rw [HSZ.out]; exact Nat.lt_succ_self _)).trans HD.out)
  have HX2 := Lib.hid ((hb2.cell (p := ⟨bx, 0, none⟩) (by rw [HSZ.out]; exact Nat.lt_of_lt_of_le hbx (by omega))).trans HX.out)
  have EA2 := Lib.hid (HEA.out.below hb2)
  have EB2 := Lib.hid (HEB.out.below hb2)
  clear hb2 XX YY BB HD HX HEA HEB HSZ
  by_cases h1 : B1 ≤ A0
  · have e1 : decide (B1 ≤ A0) = true := decide_eq_true h1
    rw [if_pos h1, if_pos h1] at henc
    rw [e1]
    obtain ⟨z0, z1, rfl, hz0, hz1⟩ := henc
    obtain ⟨p0, k0, rfl⟩ := hz0.shape
    obtain ⟨p1, k1, rfl⟩ := hz1.shape
    obtain ⟨hA, hB⟩ := HA1.out
    have hl0 : (toW (A0 - B1)).length ≤ 1000 := LLA.out _ (by omega)
    have hl1 : (toW (A1 - B0)).length ≤ 1000 := LLA.out _ (by omega)
    have hq := HQ.out (A0 - B1) A1 (by omega) HA2.out.1
    have hN : rn = (((A0 - B1) / den / 2 ^ dig : Nat) : Int) := by rw [← HRN.out]; unfold flN; rw [if_pos h1]
    have hBo : rb = decide ((A0 - B1) / den / 2 ^ dig = (A1 - B0) / den / 2 ^ dig) := by rw [← HRB.out]; unfold flB; rw [if_pos h1]
    have hEn : EncAt w2 (.agg #[.slice p0 (toW (A0 - B1)).length k0, .slice p1 (toW (A1 - B0)).length k1]) (A0 - B1) (A1 - B0) := ⟨_, _, rfl, hz0, hz1⟩
    have hal := (Below.refl w2.heap.size w2).alloc (Nat.le_refl _) (.cells #[.slice p0 (toW (A0 - B1)).length k0, .slice p1 (toW (A1 - B0)).length k1] 206)
    have hC := HW.out _ _ _ _ (hEn.below hal) hl0 hl1 (w.heap.size + 1 + 1) ((hal.cell (p := ⟨bx, 0, none⟩) (by show bx < w2.heap.size; omega)).trans HX2.out) ((hal.cell (p := ⟨w.heap.size + 1 + 1, 0, none⟩) (by show w.heap.size + 1 + 1 < w2.heap.size; omega)).trans HD2.out) (by simp; omega) (by simp; omega) hq (by omega)
    rw [← hN, ← hBo] at hC
    have HC := Lib.hid hC
    have HBA := Lib.hid (HB2.out.trans (hal.mono HB2.out.size))
    clear hz0 hz1 hA hB hl0 hl1 hq hN hBo hEn hal hC h1 e1 HL2
    generalize (toW (A0 - B1)).length = n0 at *
    generalize (toW (A1 - B0)).length = n1 at *
    go_wp2_with fail
    refine HC.out.mono ?_
    rintro e w4 ⟨rfl, hb4⟩
    have HB4 := Lib.hid (HBA.out.trans (hb4.mono HBA.out.size))
    clear hb4
    go_wp2
    go_ret2
    exact ⟨rfl, HB4.out⟩
  · have e1 : decide (B1 ≤ A0) = false := decide_eq_false h1
    rw [if_neg h1, if_neg h1] at henc
    rw [e1]
    obtain ⟨z0, z1, rfl, hz0, hz1⟩ := henc
    obtain ⟨p0, k0, rfl⟩ := hz0.shape
    obtain ⟨p1, k1, rfl⟩ := hz1.shape
    clear hz0 hz1 e1 HL1
    generalize (toW 0).length = n0 at *
    have hal := (Below.refl w2.heap.size w2).alloc (Nat.le_refl _) (.cells #[.slice p0 n0 k0, .slice p1 n0 k1] 206)
    have HAL := Lib.hid hal
    have x0 := XX2.out.c0
    have x1 := XX2.out.c1
    have y0 := YY2.out.c0
    have y1 := YY2.out.c1
    have hs0 : w.heap.size < w2.heap.size := by omega
    have hs1 : w.heap.size + 1 < w2.heap.size := by omega
    have HD3 := Lib.hid ((hal.cell (p := ⟨w.heap.size + 1 + 1, 0, none⟩) (by show w.heap.size + 1 + 1 < w2.heap.size; omega)).trans HD2.out)
    have HX3 := Lib.hid ((hal.cell (p := ⟨bx, 0, none⟩) (by show bx < w2.heap.size; omega)).trans HX2.out)
    have HB3 := Lib.hid (HB2.out.trans (hal.mono HB2.out.size))
    clear hal XX2 YY2 HD2 HX2
    go_wp2_with fail
    refine (HL2.out _ (EB2.out.below HAL.out) (EA2.out.below HAL.out)).mono ?_
    rintro e w4 ⟨v4, rfl, henc, hb4⟩
    have hz4 := hb4.size
    rw [World.size_alloc] at hz4
    have HB4 := Lib.hid (HB3.out.trans (hb4.mono HB3.out.size))
    have HD4 := Lib.hid ((hb4.cell (p := ⟨w.heap.size + 1 + 1, 0, none⟩) (by rw [World.size_alloc]; show w.heap.size + 1 + 1 < w2.heap.size + 1; omega)).trans HD3.out)
    have HX4 := Lib.hid ((hb4.cell (p := ⟨bx, 0, none⟩) (by rw [World.size_alloc]; show bx < w2.heap.size + 1; omega)).trans HX3.out)
    clear hb4 HD3 HX3 HB3 x0 x1 y0 y1 HAL EA2 EB2
    by_cases h2 : A1 ≤ B0
    · have e2 : decide (A1 ≤ B0) = true := decide_eq_true h2
      rw [if_pos h2, if_pos h2] at henc
      rw [e2]
      obtain ⟨z0, z1, rfl, hz0, hz1⟩ := henc
      obtain ⟨p2, k2, rfl⟩ := hz0.shape
      obtain ⟨p3, k3, rfl⟩ := hz1.shape
      obtain ⟨hA, hB⟩ := HA1.out
      have hl0 : (toW (B0 - A1)).length ≤ 1000 := LLB.out _ (by omega)
      have hl1 : (toW (B1 - A0)).length ≤ 1000 := LLB.out _ (by omega)
      have hq := HQ.out (B0 - A1) B1 (by omega) HA2.out.2
      have hN : rn = -(((B0 - A1) / den / 2 ^ dig : Nat) : Int) - 1 := by rw [← HRN.out]; unfold flN; rw [if_neg h1, if_pos h2]
      have hBo : rb = decide ((B0 - A1) / den / 2 ^ dig = (B1 - A0) / den / 2 ^ dig) := by rw [← HRB.out]; unfold flB; rw [if_neg h1, if_pos h2]
      have hEn : EncAt w4 (.agg #[.slice p2 (toW (B0 - A1)).length k2, .slice p3 (toW (B1 - A0)).length k3]) (B0 - A1) (B1 - A0) := ⟨_, _, rfl, hz0, hz1⟩
      have hal := (Below.refl w4.heap.size w4).alloc (Nat.le_refl _) (.cells #[.slice p2 (toW (B0 - A1)).length k2, .slice p3 (toW (B1 - A0)).length k3] 206)
      have hC := HW.out _ _ _ _ (hEn.below hal) hl0 hl1 (w.heap.size + 1 + 1) ((hal.cell (p := ⟨bx, 0, none⟩) (by show bx < w4.heap.size; omega)).trans HX4.out) ((hal.cell (p := ⟨w.heap.size + 1 + 1, 0, none⟩) (by show w.heap.size + 1 + 1 < w4.heap.size; omega)).trans HD4.out) (by simp; omega) (by simp; omega) hq (by omega)
      obtain ⟨Q, hQd⟩ : ∃ Q, (B0 - A1) / den / 2 ^ dig = Q := ⟨_, rfl⟩
      rw [← hBo] at hC
      rw [hQd] at hN hC hq
      have HC := Lib.hid hC
      have HNN := Lib.hid hN
      have hw1 : IntKind.i64.wrap (-(Q : Int)) = -(Q : Int) := IntWalk.i64_in _ (by omega)
      have hw2 : IntKind.i64.wrap (-(Q : Int) - 1) = -(Q : Int) - 1 := IntWalk.i64_in _ (by omega)
      have HBA := Lib.hid (HB4.out.trans (hal.mono HB4.out.size))
      clear hz0 hz1 hA hB hl0 hl1 hN hBo hEn hal hC h1 h2 e2 HL2 hQd
      generalize (toW (B0 - A1)).length = n2 at *
      generalize (toW (B1 - A0)).length = n3 at *
      go_wp2_with fail
      refine HC.out.mono ?_
      rintro e w6 ⟨rfl, hb6⟩
      have HB6 := Lib.hid (HBA.out.trans (hb6.mono HBA.out.size))
      clear hb6
      go_wp2
      go_ret2
      exact ⟨by rw [HNN.out]; rfl, HB6.out⟩
    · have e2 : decide (A1 ≤ B0) = false := decide_eq_false h2
      rw [e2]
      obtain rfl : rn = 0 := by rw [← HRN.out]; unfold flN; rw [if_neg h1, if_neg h2]
      obtain rfl : rb = false := by rw [← HRB.out]; unfold flB; rw [if_neg h1, if_neg h2]
      obtain ⟨z0, z1, rfl, hz0, hz1⟩ := henc
      obtain ⟨p2, k2, rfl⟩ := hz0.shape
      obtain ⟨p3, k3, rfl⟩ := hz1.shape
      clear hz0 hz1 h1 h2 e2 HRN HRB
      generalize (toW (if A1 ≤ B0 then B0 - A1 else 0)).length = n2 at *
      generalize (toW (if A1 ≤ B0 then B1 - A0 else 0)).length = n3 at *
      go_wp2
      go_ret2
      exact ⟨rfl, HB4.out.alloc HB4.out.size _⟩
end Go.Proofs.YtkjclafbpocabaaGreatDoor

/-! ## S49 -/
namespace Go.Proofs.YtkjclafbpocabaaGreatDoor
open Go.RowKit Go.Maps Go.Shelf Go.Sort

def flNL (den D : Nat) (ts : List (Int × Int)) : Int := flN den D (encP (fQ D) ts) (encP (fQ1 D) ts) (encN (fQ D) ts) (encN (fQ1 D) ts)
def flBL (den D : Nat) (ts : List (Int × Int)) : Bool := flB den D (encP (fQ D) ts) (encP (fQ1 D) ts) (encN (fQ D) ts) (encN (fQ1 D) ts)
theorem half_div (X den D : Nat) (hd : 1 ≤ den) : (2 * X) / den / 2 ^ (D + 1) = X / den / 2 ^ D := by
  rw [Nat.div_div_eq_div_mul, Nat.div_div_eq_div_mul, Nat.pow_succ, ← Nat.mul_assoc, Nat.mul_comm (den * 2 ^ D) 2, Nat.mul_div_mul_left _ _ (by decide)]
theorem floor_step (den D X Z X' Z' : Nat) (hd : 1 ≤ den) (h1 : 2 * X ≤ X') (h2 : X' ≤ Z') (h3 : Z' ≤ 2 * Z) (h : X / den / 2 ^ D = Z / den / 2 ^ D) :
    X' / den / 2 ^ (D + 1) = X / den / 2 ^ D ∧ Z' / den / 2 ^ (D + 1) = X / den / 2 ^ D := by
  have m : ∀ a b : Nat, a ≤ b → a / den / 2 ^ (D + 1) ≤ b / den / 2 ^ (D + 1) := fun a b hab => Nat.div_le_div_right (Nat.div_le_div_right hab)
  have a1 := m _ _ h1
  have a2 := m _ _ h2
  have a3 := m _ _ h3
  rw [half_div _ _ _ hd] at a1 a3
  omega
theorem fl_up (den D : Nat) (hd : 1 ≤ den) (ts : List (Int × Int)) (hne : ts ≠ []) (hc : ∀ t ∈ ts, t.1 ≠ 0) (h : flBL den D ts = true) : flBL den (D + 1) ts = true ∧ flNL den (D + 1) ts = flNL den D ts := by
  have hp := encP_up D ts
  have hn := encN_up D ts
  have hg := enc_gap (D + 1) ts hne hc
  have l1 : encP (fQ (D + 1)) ts ≤ encP (fQ1 (D + 1)) ts := encP_lt (fQ (D + 1)) ts
  have l2 : encN (fQ (D + 1)) ts ≤ encN (fQ1 (D + 1)) ts := encN_lt (fQ (D + 1)) ts
  unfold flBL at h ⊢
  unfold flNL
  generalize encP (fQ D) ts = A0 at *
  generalize encP (fQ1 D) ts = A1 at *
  generalize encN (fQ D) ts = B0 at *
  generalize encN (fQ1 D) ts = B1 at *
  generalize encP (fQ (D + 1)) ts = C0 at *
  generalize encP (fQ1 (D + 1)) ts = C1 at *
  generalize encN (fQ (D + 1)) ts = E0 at *
  generalize encN (fQ1 (D + 1)) ts = E1 at *
  unfold flB at h ⊢
  unfold flN
  by_cases h1 : B1 ≤ A0
  · rw [if_pos h1] at h
    have h2 : E1 ≤ C0 := by omega
    obtain ⟨g1, g2⟩ := floor_step den D (A0 - B1) (A1 - B0) (C0 - E1) (C1 - E0) hd (by omega) (by omega) (by omega) (of_decide_eq_true h)
    rw [if_pos h2, if_pos h2, if_pos h1, g1, g2]
    exact ⟨by simp, rfl⟩
  · rw [if_neg h1] at h
    by_cases h2 : A1 ≤ B0
    · rw [if_pos h2] at h
      have h3 : ¬ E1 ≤ C0 := by omega
      have h4 : C1 ≤ E0 := by omega
      obtain ⟨g1, g2⟩ := floor_step den D (B0 - A1) (B1 - A0) (E0 - C1) (E1 - C0) hd (by omega) (by omega) (by omega) (of_decide_eq_true h)
      rw [if_neg h3, if_neg h3, if_neg h1, if_pos h2, if_pos h4, if_pos h4, g1, g2]
      exact ⟨by simp, rfl⟩
    · rw [if_neg h2] at h; cases h
/-- The integer below, decided by 6656 digits. -/
def flrL (den : Nat) (ts : List (Int × Int)) : Int := flNL den 6656 ts
theorem fl_fin (den D : Nat) (hd : 1 ≤ den) (ts : List (Int × Int)) (hne : ts ≠ []) (hc : ∀ t ∈ ts, t.1 ≠ 0) (h : flBL den D ts = true) (hD : D ≤ 6656) : flrL den ts = flNL den D ts := by
  have key : ∀ k, flBL den (D + k) ts = true ∧ flNL den (D + k) ts = flNL den D ts := by
    intro k
    induction k with
    | zero => exact ⟨h, rfl⟩
    | succ k ih =>
      obtain ⟨a, b⟩ := fl_up den (D + k) hd ts hne hc ih.1
      exact ⟨a, b.trans ih.2⟩
  have := (key (6656 - D)).2
  rw [Nat.add_sub_cancel' hD] at this
  exact this
theorem enc_div (den D A L : Nat) (C : Nat) (hd : 1 ≤ den) (h : A ≤ L * (C * 2 ^ (D + 6))) (hL : L ≤ 8) (hC : C ≤ 1000000000000000) : A / den / 2 ^ D < 4611686018427387904 := by
  have h1 : A ≤ 512000000000000000 * 2 ^ D := by
    refine Nat.le_trans h ?_
    rw [Nat.pow_add, Nat.mul_comm (2 ^ D), ← Nat.mul_assoc, ← Nat.mul_assoc]
    refine Nat.mul_le_mul_right _ ?_
    have h3 := Nat.mul_le_mul hL hC
    have e : L * (C * 2 ^ 6) = (L * C) * 64 := by rw [← Nat.mul_assoc]
    omega
  have h2 : A / den ≤ A := Nat.div_le_self _ _
  have h3 : A / den / 2 ^ D ≤ 512000000000000000 * 2 ^ D / 2 ^ D := Nat.div_le_div_right (Nat.le_trans h2 h1)
  rw [Nat.mul_div_cancel _ (Nat.pow_pos (by decide))] at h3
  omega

def FlrTo (den : Nat) (c : Int → Int) (w : World) (e : Ending) (w' : World) : Prop := ∃ ts, IsColl c ts ∧ ts.length ≤ 8 ∧ e = .returned (.int .i64 (flrL den ts)) ∧ Below w.heap.size w w'
set_option maxRecDepth 100000 in
set_option maxHeartbeats 4000000 in
theorem refine_floor (B n bx den : Nat) (c : Int → Int) (w : World) (hs : OwnSum w B n c) (hn : n ≤ 1000)
    (hcr : Hid (∀ r, c r ≠ 0 → 1 ≤ r ∧ r ≤ 1000)) (hcb : Hid (∀ r, -1000000000000000 ≤ c r ∧ c r ≤ 1000000000000000)) (hne : Hid (∃ r, c r ≠ 0)) (hl8 : Hid (∀ ts, IsColl c ts → ts.length ≤ 8)) (hdec : Hid (∀ ts, IsColl c ts → flBL den 6656 ts = true))
    (hx : Hid (w.cell? ⟨bx, 0, none⟩ = some (.int .i64 den))) (hbx : bx < w.heap.size) (hden : 1 ≤ den) (hden2 : den ≤ 100000) (hdiv : Hid (DivC den)) :
    Calls Tryz.prog 172 #[.map (some B), .func (.func 197) #[] #[.pointer (some ⟨bx, 0, none⟩)]] w (FlrTo den c w) := by
  have HS := Lib.hid hs
  have hcb9 : Hid (∀ r, -9000000000000000000 ≤ c r ∧ c r ≤ 9000000000000000000) := Lib.hid (fun r => by have := hcb.out r; omega)
  clear hs
  go_enter Tryz.func172, Tryz.ntmps172
  go_wp2_with fail
  go_loopw [11] (fun i wr => ∃ k : Nat, i = .int .i64 (k : Nat) ∧ k ≤ 8 ∧ Hid (Below w.heap.size w wr)) (fun i _ => (9 - intOf i).toNat)
  case atStart => exact ⟨0, rfl, by omega, Lib.hid (Below.refl _ _)⟩
  case round =>
    obtain ⟨k, rfl, hk, HB⟩ := hrel
    have hk9 : (k : Int) < 9 := by omega
    obtain ⟨dig, hdig⟩ : ∃ dig : Nat, dig = 26 * 2 ^ k := ⟨_, rfl⟩
    have hp1 : 1 ≤ 2 ^ k := Nat.one_le_two_pow
    have hp2 : 2 ^ k ≤ 2 ^ 8 := Nat.pow_le_pow_right (by decide) hk
    have hd1 : dig = 26 + (dig - 26) := by omega
    have hd2 : dig ≤ 6656 := by omega
    have hd3 : k = 8 → dig = 6656 := by intro e; subst e; rw [hdig]
    have hw : RowKit.wrap64 (26 * 2 ^ k) = (dig : Int) := by
      have e : (26 * 2 ^ k : Int) = (dig : Int) := by rw [hdig]; simp
      rw [e]; exact IntWalk.wrap64_in _ ⟨by omega, by omega⟩
    have HENC := enclose_any (dig - 26) B n c wr (HS.out.below HB.out) hn (by omega) hcr hcb9
    rw [← hd1] at HENC
    have HENC := Lib.hid HENC
    have HD2 := Lib.hid hd2
    have HD3 := Lib.hid hd3
    clear hdig hp1 hp2 hd1 hd2 hd3
    go_wp2_with fail
    refine HENC.out.mono ?_
    rintro e w2 ⟨ts, v, u, hcoll, hlen, rfl, he1, he2, hb2⟩
    have hlen8 := hl8.out ts hcoll
    obtain ⟨v0, v1, rfl, hv0, hv1⟩ := he1
    obtain ⟨u0, u1, rfl, hu0, hu1⟩ := he2
    have hfl : ∀ t ∈ ts, (t.1.toNat ≤ 1000000000000000 ∧ (-t.1).toNat ≤ 1000000000000000) ∧ fQ dig t.2 ≤ 2 ^ (dig + 6) ∧ fQ1 dig t.2 ≤ 2 ^ (dig + 6) := fun t ht => by
      have h1 := hcoll.2.1 t ht
      have h2 := hcr.out t.2 (by rw [h1.1]; exact h1.2)
      have h3 := hcb.out t.2
      rw [h1.1] at h3
      have h4 := fQ_le dig t.2 (by omega)
      exact ⟨by omega, Nat.le_trans (show fQ dig t.2 ≤ fQ1 dig t.2 from Nat.le_succ _) h4, h4⟩
    have hdg := HD2.out
    have lA0 := few_words dig _ ts.length (by omega) hlen (encP_le (fQ dig) ts 9223372036854775808 _ (fun t ht => ⟨by have := (hfl t ht).1.1; omega, (hfl t ht).2.1⟩))
    have lA1 := few_words dig _ ts.length (by omega) hlen (encP_le (fQ1 dig) ts 9223372036854775808 _ (fun t ht => ⟨by have := (hfl t ht).1.1; omega, (hfl t ht).2.2⟩))
    have lB0 := few_words dig _ ts.length (by omega) hlen (encN_le (fQ dig) ts 9223372036854775808 _ (fun t ht => ⟨by have := (hfl t ht).1.2; omega, (hfl t ht).2.1⟩))
    have lB1 := few_words dig _ ts.length (by omega) hlen (encN_le (fQ1 dig) ts 9223372036854775808 _ (fun t ht => ⟨by have := (hfl t ht).1.2; omega, (hfl t ht).2.2⟩))
    have lA : encP (fQ dig) ts ≤ encP (fQ1 dig) ts := encP_lt (fQ dig) ts
    have lB : encN (fQ dig) ts ≤ encN (fQ1 dig) ts := encN_lt (fQ dig) ts
    have qA := enc_div den dig _ ts.length 1000000000000000 hden (encP_le (fQ1 dig) ts _ _ (fun t ht => ⟨(hfl t ht).1.1, (hfl t ht).2.2⟩)) hlen8 (Nat.le_refl _)
    have qB := enc_div den dig _ ts.length 1000000000000000 hden (encN_le (fQ1 dig) ts _ _ (fun t ht => ⟨(hfl t ht).1.2, (hfl t ht).2.2⟩)) hlen8 (Nat.le_refl _)
    have hts : ts ≠ [] := by
      obtain ⟨r, hr⟩ := hne.out
      intro e; subst e; exact absurd (hcoll.2.2 r hr) (by simp)
    have htc : ∀ t ∈ ts, t.1 ≠ 0 := fun t ht => (hcoll.2.1 t ht).2
    have HB2 := Lib.hid (HB.out.trans (hb2.mono HB.out.size))
    have hFL : flBL den dig ts = true → flrL den ts = flNL den dig ts := fun h => fl_fin den dig hden ts hts htc h hdg
    have HD8 : Hid (k = 8 → flBL den dig ts = true) := Lib.hid (fun e => by rw [HD3.out e]; exact hdec.out ts hcoll)
    have HCOL := Lib.hid hcoll
    have hxx := (HB2.out.cell (p := ⟨bx, 0, none⟩) hbx).trans hx.out
    have hbx2 := Nat.lt_of_lt_of_le hbx HB2.out.size
    clear hfl hts htc hb2 hcoll HENC hdg HD3
    unfold flBL flNL at hFL
    unfold flBL at HD8
    generalize encP (fQ dig) ts = A0 at *
    generalize encP (fQ1 dig) ts = A1 at *
    generalize encN (fQ dig) ts = B0 at *
    generalize encN (fQ1 dig) ts = B1 at *
    obtain ⟨p0, k0, rfl⟩ := hv0.shape
    obtain ⟨p1, k1, rfl⟩ := hv1.shape
    obtain ⟨p2, k2, rfl⟩ := hu0.shape
    obtain ⟨p3, k3, rfl⟩ := hu1.shape
    have HE1 : Hid (EncAt w2 (.agg #[.slice p0 (toW A0).length k0, .slice p1 (toW A1).length k1]) A0 A1) := Lib.hid ⟨_, _, rfl, hv0, hv1⟩
    have HE2 : Hid (EncAt w2 (.agg #[.slice p2 (toW B0).length k2, .slice p3 (toW B1).length k3]) B0 B1) := Lib.hid ⟨_, _, rfl, hu0, hu1⟩
    have HA := Lib.hid (((Below.refl _ w2).alloc (Nat.le_refl _) (.cells #[.slice p0 (toW A0).length k0, .slice p1 (toW A1).length k1] 206)).alloc (by simp) (.cells #[.slice p2 (toW B0).length k2, .slice p3 (toW B1).length k3] 206))
    have HSG := Lib.hid (floor1_any (.agg #[.slice p0 (toW A0).length k0, .slice p1 (toW A1).length k1]) (.agg #[.slice p2 (toW B0).length k2, .slice p3 (toW B1).length k3]) A0 A1 B0 B1 den dig bx _ (HE1.out.below HA.out) (HE2.out.below HA.out) lA0 lA1 lB0 lB1 lA lB ((HA.out.cell (p := ⟨bx, 0, none⟩) hbx2).trans hxx) (Nat.lt_of_lt_of_le hbx2 HA.out.size) hden hden2 hdiv (by have := HD2.out; omega) qA qB)
    have HFL := Lib.hid hFL
    clear hv0 hv1 hu0 hu1 lA0 lA1 lB0 lB1 lA lB hFL qA qB hxx hbx2 hlen
    generalize (toW A0).length = m0 at *
    generalize (toW A1).length = m1 at *
    generalize (toW B0).length = m2 at *
    generalize (toW B1).length = m3 at *
    have HLN := Lib.hid hlen8
    clear hlen8
    obtain ⟨rn, hrn⟩ : ∃ r, flN den dig A0 A1 B0 B1 = r := ⟨_, rfl⟩
    rw [hrn] at HSG HFL
    cases hrb : flB den dig A0 A1 B0 B1
    · rw [hrb] at HSG
      have hk8 : k < 8 := by
        apply Classical.byContradiction
        intro hc
        have := HD8.out (by omega)
        rw [hrb] at this; cases this
      clear hrb hrn HFL HD8
      go_wp2_with fail
      refine HSG.out.mono ?_
      rintro e w4 ⟨rfl, hb4⟩
      have HB4 := Lib.hid ((HB2.out.trans (HA.out.mono HB2.out.size)).trans (hb4.mono (HB2.out.trans (HA.out.mono HB2.out.size)).size))
      clear hb4 HSG
      go_wp2
      go_roundw
      case rel => exact ⟨k + 1, by go_num, by omega, HB4⟩
      case measure => simp [intOf]; omega
    · rw [hrb] at HSG
      have hs1 := HFL.out hrb
      have HS1 := Lib.hid hs1
      clear hrb hrn HFL HD8 hs1
      go_wp2_with fail
      refine HSG.out.mono ?_
      rintro e w4 ⟨rfl, hb4⟩
      have HB4 := Lib.hid ((HB2.out.trans (HA.out.mono HB2.out.size)).trans (hb4.mono (HB2.out.trans (HA.out.mono HB2.out.size)).size))
      clear hb4 HSG
      go_wp2
      go_ret
      exact ⟨ts, HCOL.out, HLN.out, by rw [HS1.out]; rfl, HB4.out⟩
end Go.Proofs.YtkjclafbpocabaaGreatDoor

/-! ## S50 -/
namespace Go.Proofs.YtkjclafbpocabaaGreatDoor
open Go.RowKit Go.Maps Go.Shelf Go.Sort

/-- The coefficient of the root 1, the term with another root, and whether there are no more. -/
def binF (l : List (Int × Int)) : Int × (Int × Int) × Bool :=
  match l with
  | [] => (0, (0, 0), true)
  | t :: ts => if t.2 = 1 then (match ts with
    | [] => (t.1, (0, 0), true)
    | u :: us => (t.1, u, decide (us.length = 0))) else (0, t, decide (ts.length = 0))
def BinTo (r : Int × (Int × Int) × Bool) (w : World) (e : Ending) (w' : World) : Prop := e = .returned (.tuple #[.int .i64 r.1, .agg #[.int .i64 r.2.1.1, .int .i64 r.2.1.2], .bool r.2.2]) ∧ Below w.heap.size w w'
set_option maxRecDepth 100000 in
set_option maxHeartbeats 4000000 in
theorem bin_nil (a : Option Addr) (cap : Nat) (w : World) : Calls Tryz.prog 109 #[.slice a 0 cap] w (BinTo (0, (0, 0), true) w) := by
  go_enter Tryz.func109, Tryz.ntmps109
  go_wp2_with fail
  go_region
  all_goals
    go_wp2
    refine bodyPost_ret (v := .tuple #[.int .i64 0, .agg #[.int .i64 0, .int .i64 0], .bool true]) ?_ rfl ?_
    · simp [results, Tryz.results109, go_sem]
    · exact ⟨rfl, (by first | exact ((Below.refl _ w).alloc (Nat.le_refl _) _).drew | exact ((Below.refl _ w).alloc (Nat.le_refl _) _).drew.drew | exact ((Below.refl _ w).alloc (Nat.le_refl _) _).drew.drew.drew)⟩

set_option maxRecDepth 100000 in
set_option maxHeartbeats 4000000 in
theorem bin_other (b off n cap : Nat) (c r : Int) (rb : Bool) (w : World) (hb : b < w.heap.size) (hn : n + 1 ≤ cap) (h0 : w.cell? ⟨b, off, none⟩ = some (.int .i64 c)) (h1 : w.cell? ⟨b, off + 1, none⟩ = some (.int .i64 r)) (hr : r ≠ 1) (hrb : rb = decide (n = 0)) :
    Calls Tryz.prog 109 #[.slice (some ⟨b, off, none⟩) (n + 1) cap] w (BinTo (0, (c, r), rb) w) := by
  have hr' : (r == 1) = false := by simpa using hr
  clear hr
  by_cases hn0 : n = 0
  · subst hn0
    have HRB : Hid (rb = true) := Lib.hid (by rw [hrb]; rfl)
    clear hrb
    by_cases hc : cap = 1
    · subst hc
      go_enter Tryz.func109, Tryz.ntmps109
      go_wp2_with fail
      go_region
      go_wp2_with fail
      go_region
      all_goals
        go_wp2
        refine bodyPost_ret (v := .tuple #[.int .i64 0, .agg #[.int .i64 c, .int .i64 r], .bool true]) ?_ rfl ?_
        · simp [results, Tryz.results109, go_sem]
        · exact ⟨by rw [HRB.out], (by first | exact ((Below.refl _ w).alloc (Nat.le_refl _) _).drew | exact ((Below.refl _ w).alloc (Nat.le_refl _) _).drew.drew | exact ((Below.refl _ w).alloc (Nat.le_refl _) _).drew.drew.drew)⟩

    · have hc1 : ¬ (1 : Int) = (cap : Int) := by omega
      go_enter Tryz.func109, Tryz.ntmps109
      go_wp2_with fail
      go_region
      go_wp2_with fail
      go_region
      all_goals
        go_wp2
        refine bodyPost_ret (v := .tuple #[.int .i64 0, .agg #[.int .i64 c, .int .i64 r], .bool true]) ?_ rfl ?_
        · simp [results, Tryz.results109, go_sem]
        · exact ⟨by rw [HRB.out], (by first | exact ((Below.refl _ w).alloc (Nat.le_refl _) _).drew | exact ((Below.refl _ w).alloc (Nat.le_refl _) _).drew.drew | exact ((Below.refl _ w).alloc (Nat.le_refl _) _).drew.drew.drew)⟩

  · have hc1 : ¬ (1 : Int) = (cap : Int) := by omega
    have HRB : Hid (rb = false) := Lib.hid (by rw [hrb]; exact decide_eq_false hn0)
    have hne : ((n : Int) == 0) = false := by simp; omega
    have hn1 : (1 : Int) ≤ (n : Int) := by omega
    clear hrb
    go_enter Tryz.func109, Tryz.ntmps109
    go_wp2_with fail
    go_region
    go_wp2_with fail
    go_region
    all_goals
      go_wp2
      refine bodyPost_ret (v := .tuple #[.int .i64 0, .agg #[.int .i64 c, .int .i64 r], .bool false]) ?_ rfl ?_
      · simp [results, Tryz.results109, go_sem]
      · exact ⟨by rw [HRB.out], (by first | exact ((Below.refl _ w).alloc (Nat.le_refl _) _).drew | exact ((Below.refl _ w).alloc (Nat.le_refl _) _).drew.drew | exact ((Below.refl _ w).alloc (Nat.le_refl _) _).drew.drew.drew)⟩

set_option maxRecDepth 100000 in
set_option maxHeartbeats 4000000 in
theorem bin_one (b off cap : Nat) (c : Int) (w : World) (hb : b < w.heap.size) (hn : 1 ≤ cap) (h0 : w.cell? ⟨b, off, none⟩ = some (.int .i64 c)) (h1 : w.cell? ⟨b, off + 1, none⟩ = some (.int .i64 1)) :
    Calls Tryz.prog 109 #[.slice (some ⟨b, off, none⟩) 1 cap] w (BinTo (c, (0, 0), true) w) := by
  by_cases hc : cap = 1
  · subst hc
    go_enter Tryz.func109, Tryz.ntmps109
    go_wp2_with fail
    go_region
    go_wp2_with fail
    go_region
    all_goals
      go_wp2
      refine bodyPost_ret (v := .tuple #[.int .i64 c, .agg #[.int .i64 0, .int .i64 0], .bool true]) ?_ rfl ?_
      · simp [results, Tryz.results109, go_sem]
      · exact ⟨rfl, (by first | exact ((Below.refl _ w).alloc (Nat.le_refl _) _).drew | exact ((Below.refl _ w).alloc (Nat.le_refl _) _).drew.drew | exact ((Below.refl _ w).alloc (Nat.le_refl _) _).drew.drew.drew)⟩

  · have hc1 : ¬ (1 : Int) = (cap : Int) := by omega
    go_enter Tryz.func109, Tryz.ntmps109
    go_wp2_with fail
    go_region
    go_wp2_with fail
    go_region
    all_goals
      go_wp2
      refine bodyPost_ret (v := .tuple #[.int .i64 c, .agg #[.int .i64 0, .int .i64 0], .bool true]) ?_ rfl ?_
      · simp [results, Tryz.results109, go_sem]
      · exact ⟨rfl, (by first | exact ((Below.refl _ w).alloc (Nat.le_refl _) _).drew | exact ((Below.refl _ w).alloc (Nat.le_refl _) _).drew.drew | exact ((Below.refl _ w).alloc (Nat.le_refl _) _).drew.drew.drew)⟩

set_option maxRecDepth 100000 in
set_option maxHeartbeats 4000000 in
theorem bin_more (b off n cap : Nat) (c c2 r2 : Int) (rb : Bool) (w : World) (hb : b < w.heap.size) (hn : n + 2 ≤ cap) (h0 : w.cell? ⟨b, off, none⟩ = some (.int .i64 c)) (h1 : w.cell? ⟨b, off + 1, none⟩ = some (.int .i64 1)) (h2 : w.cell? ⟨b, off + 2, none⟩ = some (.int .i64 c2)) (h3 : w.cell? ⟨b, off + 2 + 1, none⟩ = some (.int .i64 r2)) (hrb : rb = decide (n = 0)) :
    Calls Tryz.prog 109 #[.slice (some ⟨b, off, none⟩) (n + 2) cap] w (BinTo (c, (c2, r2), rb) w) := by
  have hc1 : ¬ (1 : Int) = (cap : Int) := by omega
  by_cases hn0 : n = 0
  · subst hn0
    have HRB : Hid (rb = true) := Lib.hid (by rw [hrb]; rfl)
    clear hrb
    by_cases hc : cap = 2
    · subst hc
      go_enter Tryz.func109, Tryz.ntmps109
      go_wp2_with fail
      go_region
      go_wp2_with fail
      go_region
      go_wp2_with fail
      go_region
      all_goals
        go_wp2
        refine bodyPost_ret (v := .tuple #[.int .i64 c, .agg #[.int .i64 c2, .int .i64 r2], .bool true]) ?_ rfl ?_
        · simp [results, Tryz.results109, go_sem]
        · exact ⟨by rw [HRB.out], (by first | exact ((Below.refl _ w).alloc (Nat.le_refl _) _).drew | exact ((Below.refl _ w).alloc (Nat.le_refl _) _).drew.drew | exact ((Below.refl _ w).alloc (Nat.le_refl _) _).drew.drew.drew)⟩

    · have hc2 : ¬ (1 : Int) = (cap : Int) - 1 := by omega
      go_enter Tryz.func109, Tryz.ntmps109
      go_wp2_with fail
      go_region
      go_wp2_with fail
      go_region
      go_wp2_with fail
      go_region
      all_goals
        go_wp2
        refine bodyPost_ret (v := .tuple #[.int .i64 c, .agg #[.int .i64 c2, .int .i64 r2], .bool true]) ?_ rfl ?_
        · simp [results, Tryz.results109, go_sem]
        · exact ⟨by rw [HRB.out], (by first | exact ((Below.refl _ w).alloc (Nat.le_refl _) _).drew | exact ((Below.refl _ w).alloc (Nat.le_refl _) _).drew.drew | exact ((Below.refl _ w).alloc (Nat.le_refl _) _).drew.drew.drew)⟩

  · have hc2 : ¬ (1 : Int) = (cap : Int) - 1 := by omega
    have HRB : Hid (rb = false) := Lib.hid (by rw [hrb]; exact decide_eq_false hn0)
    have hne : ((n : Int) == 0) = false := by simp; omega
    have hn1 : (1 : Int) ≤ (n : Int) := by omega
    clear hrb
    go_enter Tryz.func109, Tryz.ntmps109
    go_wp2_with fail
    go_region
    go_wp2_with fail
    go_region
    go_wp2_with fail
    go_region
    all_goals
      go_wp2
      refine bodyPost_ret (v := .tuple #[.int .i64 c, .agg #[.int .i64 c2, .int .i64 r2], .bool false]) ?_ rfl ?_
      · simp [results, Tryz.results109, go_sem]
      · exact ⟨by rw [HRB.out], (by first | exact ((Below.refl _ w).alloc (Nat.le_refl _) _).drew | exact ((Below.refl _ w).alloc (Nat.le_refl _) _).drew.drew | exact ((Below.refl _ w).alloc (Nat.le_refl _) _).drew.drew.drew)⟩

end Go.Proofs.YtkjclafbpocabaaGreatDoor
