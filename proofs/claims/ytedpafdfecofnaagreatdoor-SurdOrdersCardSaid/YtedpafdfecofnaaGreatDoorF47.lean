/-
  Contracts of the program's own functions (and their plain mathematics), on the way to the law: each for all arguments that its hypotheses let.
-/
import Derived.Test.YtedpafdfecofnaaGreatDoorF46
import Derived.WalkKit
import Derived.WalkSpells
import Derived.WalkLawsBesides
import Derived.Deep.QuietTactic
import Derived.BigQuiet
import Derived.Lib.Hide
import Derived.WalkSmall
import Derived.Maps.OwnSet
import Derived.Maps.RangeWalk
import Derived.Deep.RegionWith
import Derived.Deep.RegionHeld3
import Derived.Deep.DrawnRows
import Derived.Deep.DeepCutAuto
import Derived.OneCell
import Derived.KernelRfl
import Derived.Laws.StructEq
import Derived.StillTailTactics
import Derived.Laws.Externs
import Derived.RangeFuncBox
import Derived.Test.YtedpafdfecofnaaGreatDoorPlain
import Derived.Test.YtedpafdfecofnaaGreatDoorF24
set_option linter.unusedSimpArgs false
set_option linter.unusedVariables false

/-! ## S111 -/
namespace Go.Proofs.YtedpafdfecofnaaGreatDoor
open Go.RowKit Go.Maps Go.Shelf Go.Sort
theorem and64 (z x : Nat) (hz : z < 18446744073709551616) (hx : x < 18446744073709551616) : bits BinOp.and IntKind.u64 (z : Int) (x : Int) = ((z &&& x : Nat) : Int) := by
  have h1 : z &&& x < 2 ^ 64 := Nat.lt_of_le_of_lt Nat.and_le_left (by omega)
  have e1 : z % 2 ^ 64 = z := Nat.mod_eq_of_lt (by omega)
  have e2 : x % 2 ^ 64 = x := Nat.mod_eq_of_lt (by omega)
  have h : bits BinOp.and IntKind.u64 (z : Int) (x : Int) = IntKind.u64.wrap (((BitVec.ofInt 64 (z : Int) &&& BitVec.ofInt 64 (x : Int)).toNat : Nat) : Int) := rfl
  rw [h, BitVec.ofInt_natCast, BitVec.ofInt_natCast, BitVec.toNat_and, BitVec.toNat_ofNat, BitVec.toNat_ofNat, e1, e2, wrap64, Nat.mod_eq_of_lt (by omega)]
theorem and_low (n : Nat) (h : n < 18446744073709551616) : bits BinOp.and IntKind.u64 (n : Int) 4294967295 = ((n % 4294967296 : Nat) : Int) := by
  have e := and64 n 4294967295 h (by decide)
  rw [show ((4294967295 : Nat) : Int) = 4294967295 from rfl] at e
  rw [e]
  congr 1
  rw [show (4294967295 : Nat) = 2 ^ 32 - 1 from rfl, Nat.and_two_pow_sub_one_eq_mod]
theorem wr_mul (a b : Nat) : IntKind.u64.wrap ((a : Int) * (b : Int)) = ((a * b % 18446744073709551616 : Nat) : Int) := by
  rw [← Int.natCast_mul, wrap64]
theorem wr_add (a b : Nat) : IntKind.u64.wrap ((a : Int) + (b : Int)) = (((a + b) % 18446744073709551616 : Nat) : Int) := by
  rw [← Int.natCast_add, wrap64]
theorem wr_sub (a b A B c : Nat) (ha : a % 18446744073709551616 = A % 18446744073709551616) (hb : b % 18446744073709551616 = B % 18446744073709551616) (h : A = B + c) (hc : c < 18446744073709551616) :
    IntKind.u64.wrap ((a : Int) - (b : Int)) = (c : Int) := by
  unfold IntKind.wrap
  simp [IntKind.signed, IntKind.bits]
  omega
theorem wr_sh (a s : Nat) : IntKind.u64.wrap ((a : Int) * 2 ^ s) = ((a * 2 ^ s % 18446744073709551616 : Nat) : Int) := by
  have : (2 : Int) ^ s = ((2 ^ s : Nat) : Int) := by simp
  rw [this, wr_mul]
theorem sh_r (a s : Nat) : (a : Int) / 2 ^ s = ((a / 2 ^ s : Nat) : Int) := by simp
theorem lt_words (a b : Nat) (h1 : a < 4294967296) (h2 : b < 4294967296) : a * 4294967296 + b < 18446744073709551616 := by omega
theorem lit32 : ((4294967296 : Nat) : Int) = 4294967296 := rfl
set_option maxRecDepth 100000 in
/-- The words that Div64 meets on its way, when the divisor's low half is 0. -/
theorem div64_words {hi lo y s : Nat} (hs1 : 47 ≤ s) (hs2 : s ≤ 63) (hhi : hi < y) (hlo : lo < 18446744073709551616) (hyb : y * 2 ^ s < 18446744073709551616) :
    ∃ Y z H c L U T u1 u0 q1 r1 P1 A1 X B1 B2 B3 q0 P0 r0 A0 C1 C2 C3 C4 Z Q R : Nat,
      (IntKind.u64.wrap ((y : Int) * 2 ^ s) = (Y : Int) ∧ (Y : Int) / 4294967296 = (z : Int) ∧ bits BinOp.and IntKind.u64 (Y : Int) 4294967295 = 0 ∧
        IntKind.u64.wrap ((hi : Int) * 2 ^ s) = (H : Int) ∧ (64 : Int) - (s : Int) = (c : Int) ∧ c ≤ 17 ∧ (lo : Int) / 2 ^ c = (L : Int) ∧ bits BinOp.or IntKind.u64 (H : Int) (L : Int) = (U : Int) ∧
        IntKind.u64.wrap ((lo : Int) * 2 ^ s) = (T : Int) ∧ (T : Int) / 4294967296 = (u1 : Int) ∧ bits BinOp.and IntKind.u64 (T : Int) 4294967295 = (u0 : Int)) ∧
      (0 < z ∧ z < 4294967296 ∧ (U : Int) / (z : Int) = (q1 : Int) ∧ q1 < 4294967296 ∧ IntKind.u64.wrap ((q1 : Int) * (z : Int)) = (P1 : Int) ∧ IntKind.u64.wrap ((U : Int) - (P1 : Int)) = (r1 : Int) ∧
        IntKind.u64.wrap (4294967296 * (r1 : Int)) = (A1 : Int) ∧ IntKind.u64.wrap ((A1 : Int) + (u1 : Int)) = (X : Int)) ∧
      (IntKind.u64.wrap ((U : Int) * 4294967296) = (B1 : Int) ∧ IntKind.u64.wrap ((B1 : Int) + (u1 : Int)) = (B2 : Int) ∧ IntKind.u64.wrap ((q1 : Int) * (Y : Int)) = (B3 : Int) ∧ IntKind.u64.wrap ((B2 : Int) - (B3 : Int)) = (X : Int)) ∧
      ((X : Int) / (z : Int) = (q0 : Int) ∧ q0 < 4294967296 ∧ IntKind.u64.wrap ((q0 : Int) * (z : Int)) = (P0 : Int) ∧ IntKind.u64.wrap ((X : Int) - (P0 : Int)) = (r0 : Int) ∧
        IntKind.u64.wrap (4294967296 * (r0 : Int)) = (A0 : Int) ∧ IntKind.u64.wrap ((A0 : Int) + (u0 : Int)) = (Z : Int)) ∧
      (IntKind.u64.wrap ((q1 : Int) * 4294967296) = (C1 : Int) ∧ IntKind.u64.wrap ((C1 : Int) + (q0 : Int)) = (Q : Int) ∧ IntKind.u64.wrap ((X : Int) * 4294967296) = (C2 : Int) ∧ IntKind.u64.wrap ((C2 : Int) + (u0 : Int)) = (C3 : Int) ∧
        IntKind.u64.wrap ((q0 : Int) * (Y : Int)) = (C4 : Int) ∧ IntKind.u64.wrap ((C3 : Int) - (C4 : Int)) = (Z : Int) ∧ (Z : Int) / 2 ^ s = (R : Int)) ∧
      (Q = (hi * 18446744073709551616 + lo) / y ∧ R = (hi * 18446744073709551616 + lo) % y) ∧ (U < 18446744073709551616 ∧ X < 18446744073709551616 ∧ Y < 18446744073709551616) := by
  obtain ⟨z, U, T, hz, eY, eU, lL, eT, lU, lq1, lX, lq0, eQ, eR, lZ⟩ := div64_math (s := s) (by omega) hs2 hhi hlo
  rw [eY] at hyb
  have hHb : hi * 2 ^ s < 18446744073709551616 := by
    have : hi * 2 ^ s ≤ y * 2 ^ s := Nat.mul_le_mul_right _ (by omega)
    omega
  have hz0 : 0 < z := by omega
  have hor : hi * 2 ^ s ||| lo / 2 ^ (64 - s) = U := by
    rw [eU, Nat.mul_comm hi, Nat.two_pow_add_eq_or_of_lt lL]
  have lT : T < 18446744073709551616 := by rw [eT]; exact Nat.mod_lt _ (by decide)
  have lLb : lo / 2 ^ (64 - s) < 18446744073709551616 := Nat.lt_of_le_of_lt (Nat.div_le_self _ _) hlo
  obtain ⟨H, hH⟩ : ∃ H, hi * 2 ^ s = H := ⟨_, rfl⟩
  obtain ⟨L, hL⟩ : ∃ L, lo / 2 ^ (64 - s) = L := ⟨_, rfl⟩
  obtain ⟨q1, hq1⟩ : ∃ q, U / z = q := ⟨_, rfl⟩
  obtain ⟨r1, hr1⟩ : ∃ r, U % z = r := ⟨_, rfl⟩
  obtain ⟨u1, hu1⟩ : ∃ q, T / 4294967296 = q := ⟨_, rfl⟩
  obtain ⟨u0, hu0⟩ : ∃ r, T % 4294967296 = r := ⟨_, rfl⟩
  have dU := Nat.div_add_mod U z
  rw [hq1, hr1] at dU
  rw [hr1, hu1] at lX lq0 eQ eR lZ
  rw [hq1] at lq1 eQ
  rw [hu0] at eR lZ
  obtain ⟨X, hX⟩ : ∃ X, r1 * 4294967296 + u1 = X := ⟨_, rfl⟩
  rw [hX] at lX lq0 eQ eR lZ
  have dX := Nat.div_add_mod X z
  obtain ⟨q0, hq0⟩ : ∃ q, X / z = q := ⟨_, rfl⟩
  obtain ⟨r0, hr0⟩ : ∃ r, X % z = r := ⟨_, rfl⟩
  rw [hq0, hr0] at dX
  rw [hq0] at lq0 eQ
  rw [hr0] at eR lZ
  obtain ⟨Z, hZ⟩ : ∃ Z, r0 * 4294967296 + u0 = Z := ⟨_, rfl⟩
  rw [hZ] at eR lZ
  have m1 : q1 * z = z * q1 := Nat.mul_comm _ _
  have m2 : q0 * z = z * q0 := Nat.mul_comm _ _
  have m3 : U * 4294967296 + u1 = q1 * (z * 4294967296) + X := by rw [← dU, ← hX]; grind
  have m4 : X * 4294967296 + u0 = q0 * (z * 4294967296) + Z := by rw [← dX, ← hZ]; grind
  refine ⟨z * 4294967296, z, H, 64 - s, L, U, T, u1, u0, q1, r1, q1 * z, 4294967296 * r1, X, U * 4294967296 % 18446744073709551616, (U * 4294967296 + u1) % 18446744073709551616, q1 * (z * 4294967296) % 18446744073709551616,
    q0, q0 * z, r0, 4294967296 * r0, q1 * 4294967296, X * 4294967296 % 18446744073709551616, (X * 4294967296 + u0) % 18446744073709551616, q0 * (z * 4294967296) % 18446744073709551616, Z, q1 * 4294967296 + q0, Z / 2 ^ s,
    ⟨?_, ?_, ?_, ?_, by omega, by omega, ?_, ?_, ?_, ?_, ?_⟩, ⟨hz0, by omega, ?_, lq1, ?_, ?_, ?_, ?_⟩, ⟨?_, ?_, ?_, ?_⟩, ⟨?_, lq0, ?_, ?_, ?_, ?_⟩, ⟨?_, ?_, ?_, ?_, ?_, ?_, ?_⟩, ⟨eQ, eR⟩, ⟨by omega, by omega, hyb⟩⟩
  · rw [wr_sh, eY, Nat.mod_eq_of_lt hyb]
  · omega
  · rw [and_low _ hyb]; simp
  · rw [wr_sh, hH, Nat.mod_eq_of_lt (by omega)]
  · rw [sh_r, hL]
  · rw [or64 H L (by omega) (by omega), ← hH, ← hL, hor]
  · rw [wr_sh, ← eT]
  · omega
  · rw [and_low _ lT, hu0]
  · rw [← hq1]; rfl
  · rw [wr_mul, Nat.mod_eq_of_lt (by omega)]
  · exact wr_sub _ _ U (q1 * z) r1 rfl rfl (by omega) (by omega)
  · rw [← lit32, wr_mul, Nat.mod_eq_of_lt (by omega)]
  · rw [wr_add, Nat.mod_eq_of_lt (by omega)]; congr 1; omega
  · rw [← lit32, wr_mul]
  · rw [wr_add]; congr 1; omega
  · rw [wr_mul]
  · refine wr_sub _ _ (U * 4294967296 + u1) (q1 * (z * 4294967296)) X (by omega) (by omega) m3 (by omega)
  · rw [← hq0]; rfl
  · rw [wr_mul, Nat.mod_eq_of_lt (by omega)]
  · exact wr_sub _ _ X (q0 * z) r0 rfl rfl (by omega) (by omega)
  · rw [← lit32, wr_mul, Nat.mod_eq_of_lt (by omega)]
  · rw [wr_add, Nat.mod_eq_of_lt (by omega)]; congr 1; omega
  · rw [← lit32, wr_mul, Nat.mod_eq_of_lt (Nat.lt_of_le_of_lt (Nat.le_add_right _ q0) (lt_words q1 q0 lq1 lq0))]
  · rw [wr_add, Nat.mod_eq_of_lt (lt_words q1 q0 lq1 lq0)]
  · rw [← lit32, wr_mul]
  · rw [wr_add]; congr 1; omega
  · rw [wr_mul]
  · refine wr_sub _ _ (X * 4294967296 + u0) (q0 * (z * 4294967296)) Z (by omega) (by omega) m4 (by omega)
  · rw [sh_r]
set_option maxRecDepth 100000 in
set_option maxHeartbeats 4000000 in
/-- Div64 by a small number, the high word not 0. -/
theorem div_small (hi lo y : Nat) (w : World) (hh : 0 < hi) (hhi : hi < y) (hlo : lo < 18446744073709551616) (hy : y ≤ 100000) : Calls Tryz.prog 120 #[.int .u64 hi, .int .u64 lo, .int .u64 y] w (DivTo hi lo y w) := by
  have hb1 := Lib.bitLen_le y 17 (by decide) (by omega)
  have hb2 := Lib.bitLenAux_bounds 64 y (by omega) (by omega)
  have hbl : Lib.bitLen y = Lib.bitLenAux 64 y := rfl
  rw [← hbl] at hb2
  obtain ⟨s, hs⟩ : ∃ s : Nat, s = 64 - Lib.bitLen y := ⟨_, rfl⟩
  have hs1 : 47 ≤ s := by omega
  have hs2 : s ≤ 63 := by omega
  have hlz := fun w0 => Tryz.bits_LeadingZeros64 (y : Int) w0 (by omega) (by omega)
  have e0 : (64 : Int) - (Lib.bitLen (y : Int).toNat : Int) = (s : Int) := by rw [Int.toNat_natCast]; omega
  rw [e0] at hlz
  have hLZ := Lib.hid hlz
  have hyb : y * 2 ^ s < 18446744073709551616 := by
    have h1 : y * 2 ^ s < 2 ^ Lib.bitLen y * 2 ^ s := Nat.mul_lt_mul_of_pos_right hb2.2.2 (Nat.pow_pos (by decide))
    rw [← Nat.pow_add, show Lib.bitLen y + s = 64 by omega] at h1
    exact h1
  clear hlz e0 hb1 hb2 hbl hs
  obtain ⟨Y, z, H, c, L, U, T, u1, u0, q1, r1, P1, A1, X, B1, B2, B3, q0, P0, r0, A0, C1, C2, C3, C4, Z, Q, R,
    ⟨f1, f2, f3, f4, f5, lc, f6, f7, f8, f9, f10⟩, ⟨z0, z1, f11, lq1, f12, f13, f14, f15⟩, ⟨f16, f17, f18, f19⟩, ⟨f20, lq0, f21, f22, f23, f24⟩, ⟨f25, f26, f27, f28, f29, f30, f31⟩, ⟨eQ, eR⟩, ⟨lU, lX, lY⟩⟩ := div64_words hs1 hs2 hhi hlo hyb
  unfold DivTo
  rw [← eQ, ← eR]
  clear hyb eQ eR
  have n1 : ¬ (y : Int) = 0 := by omega
  have n2 : ¬ (y : Int) ≤ (hi : Int) := by omega
  have n3 : ¬ (hi : Int) = 0 := by omega
  have n4 : ¬ (z : Int) = 0 := by omega
  have n5 : decide (4294967296 ≤ (q1 : Int)) = false := decide_eq_false (by omega)
  have n5' : decide ((q1 : Int) < 4294967296) = true := decide_eq_true (by omega)
  have n6 : decide (4294967296 ≤ (q0 : Int)) = false := decide_eq_false (by omega)
  have n6' : decide ((q0 : Int) < 4294967296) = true := decide_eq_true (by omega)
  have n7 : IntKind.u64.wrap 0 = 0 := rfl
  have n8 : decide ((X : Int) < 0) = false := decide_eq_false (by omega)
  have n9 : decide ((Z : Int) < 0) = false := decide_eq_false (by omega)
  have k1 : IntKind.u64.wrap ((U : Int).tdiv (z : Int)) = (q1 : Int) := by
    have e : (U : Int).tdiv (z : Int) = (U : Int) / (z : Int) := rfl
    rw [e, f11]; exact wrap_small _ (by omega)
  have k2 : IntKind.u64.wrap ((X : Int).tdiv (z : Int)) = (q0 : Int) := by
    have e : (X : Int).tdiv (z : Int) = (X : Int) / (z : Int) := rfl
    rw [e, f20]; exact wrap_small _ (by omega)
  have k3 : IntKind.u64.wrap (64 - (s : Int)) = (c : Int) := by rw [f5]; unfold IntKind.wrap; simp [IntKind.signed, IntKind.bits]; omega
  have k4 : IntKind.u64.wrap (s : Int) = (s : Int) := by unfold IntKind.wrap; simp [IntKind.signed, IntKind.bits]; omega
  have kw1 : IntKind.u64.wrap (q1 : Int) = (q1 : Int) := wrap_small _ (by omega)
  have kw0 : IntKind.u64.wrap (q0 : Int) = (q0 : Int) := wrap_small _ (by omega)
  clear hh hhi lq1 lq0 lU lX lY
  have G := Lib.hid (And.intro n5 (And.intro n5' (And.intro n6 (And.intro n6' (And.intro n8 n9)))))
  clear n5 n5' n6 n6' n8 n9
  go_enter Tryz.func120, Tryz.ntmps120
  go_wp2_with fail
  refine (hLZ.out _).mono ?_
  rintro e w1 ⟨rfl, rfl⟩
  go_wp2_with fail
  go_loopw [15, 16] (fun a b wr => a = .int .u64 q1 ∧ b = .int .u64 r1 ∧ wr = w1) (fun _ _ _ => 0)
  case atStart => exact ⟨by first | rfl | rw [kw1, f12, f13] | rw [kw0, f21, f22], by first | rfl | rw [kw1, f12, f13] | rw [kw0, f21, f22], rfl⟩
  case round =>
    obtain ⟨rfl, rfl, h⟩ := hrel
    subst h
    obtain ⟨n5, n5', n6, n6', n8, n9⟩ := G.out
    go_upto_region 21 with fail
    go_upto_region 22 with fail
    go_wp2_with fail
    go_loopw [18, 16] (fun a b wx => a = .int .u64 q0 ∧ b = .int .u64 r0 ∧ wx = wr) (fun _ _ _ => 0)
    case atStart => exact ⟨by first | rfl | rw [kw1, f12, f13] | rw [kw0, f21, f22], by first | rfl | rw [kw1, f12, f13] | rw [kw0, f21, f22], rfl⟩
    case round =>
      obtain ⟨rfl, rfl, h⟩ := hrel
      subst h
      go_wp2_with fail
      go_ret2
      exact ⟨rfl, 0, rfl⟩
end Go.Proofs.YtedpafdfecofnaaGreatDoor

/-! ## S112 -/
namespace Go.Proofs.YtedpafdfecofnaaGreatDoor
open Go.RowKit Go.Maps Go.Shelf Go.Sort
set_option maxRecDepth 100000 in
set_option maxHeartbeats 4000000 in
theorem bounds_full (d m : Int) (v : Value) (l : List (Int × Int)) (w : World) (ht : TermsAt w v l) (hdiv : Hid (validF d l = true → DivC d.toNat)) (hdec : Hid (validF d l = true → 1 ≤ m → m ≤ 1000000000 → ¬ ((binF l).2.2 = true ∧ (binF l).2.1.1 = 0) → flBL d.toNat 6656 (mulS m l) = true)) :
    Calls Tryz.prog 39 #[.agg #[.int .i64 d, v], .int .i64 m] w (Int3To (BoundsF d m l) w) := by
  have HT := Lib.hid ht
  obtain ⟨av, cv, rfl, _⟩ := ht.placed
  have XX := Lib.hid (Two.new w (.int .i64 d) (.slice av l.length cv) 24)
  have BB : Hid (Below w.heap.size w (w.alloc (.cells #[.int .i64 d, .slice av l.length cv] 24))) := Lib.hid ((Below.refl _ _).alloc (Nat.le_refl _) _)
  obtain ⟨rr, hrr⟩ : ∃ rr, BoundsF d m l = rr := ⟨_, rfl⟩
  rw [hrr]
  have HRR := Lib.hid hrr
  clear ht hrr
  generalize l.length = n at *
  go_enter Tryz.func39, Tryz.ntmps39
  go_wp2_with fail
  refine (valid_any d _ l _ (HT.out.below BB.out)).mono ?_
  rintro e w1 ⟨rfl, hb⟩
  have XX1 := Lib.hid (XX.out.below hb XX.out.lt)
  have BB1 := Lib.hid (BB.out.trans (hb.mono BB.out.size))
  clear hb XX BB
  cases hv : validF d l
  · have HP : Hid (rr = (0, 0, 2)) := Lib.hid (by rw [← HRR.out]; unfold BoundsF; rw [hv]; rfl)
    clear hv
    go_wp2
    go_ret3
    exact ⟨by rw [HP.out]; rfl, BB1.out⟩
  · have HV := Lib.hid hv
    have VL := Lib.hid (vld_of hv)
    have hw := within_any m 1 1000000000
    cases hin : inB m 1 1000000000
    · have HP : Hid (rr = (0, 0, 3)) := Lib.hid (by rw [← HRR.out]; unfold BoundsF; rw [if_pos HV.out, if_neg (by rw [hin]; simp)])
      rw [hin] at hw
      have HW := Lib.hid hw
      clear hv hw hin
      go_wp2_with fail
      refine (HW.out _).mono ?_
      rintro e w2 ⟨rfl, rfl⟩
      go_wp2
      go_ret3
      exact ⟨by rw [HP.out]; rfl, BB1.out⟩
    · have hm : 1 ≤ m ∧ m ≤ 1000000000 := by simpa [inB] using hin
      obtain ⟨hm1, hm2⟩ := hm
      rw [hin] at hw
      have HW := Lib.hid hw
      have HIN := Lib.hid hin
      have x0 := XX1.out.c0
      have x1 := XX1.out.c1
      clear hv hw hin
      go_wp2_with fail
      refine (HW.out _).mono ?_
      rintro e w2 ⟨rfl, rfl⟩
      go_wp2_with fail
      refine (bin_any _ l _ (HT.out.below BB1.out)).mono ?_
      rintro e w3 ⟨rfl, hb⟩
      have XX3 := Lib.hid (XX1.out.below hb XX1.out.lt)
      have BB3 := Lib.hid (BB1.out.trans (hb.mono BB1.out.size))
      have hbd := bin_bd VL.out
      obtain ⟨a, ha⟩ : ∃ a, (binF l).1 = a := ⟨_, rfl⟩
      obtain ⟨c, hc⟩ : ∃ c, (binF l).2.1.1 = c := ⟨_, rfl⟩
      obtain ⟨ρ, hρ⟩ : ∃ ρ, (binF l).2.1.2 = ρ := ⟨_, rfl⟩
      obtain ⟨ok, hok⟩ : ∃ ok, (binF l).2.2 = ok := ⟨_, rfl⟩
      rw [ha, hc, hρ] at hbd
      rw [ha, hc, hρ, hok]
      have HA := Lib.hid ha
      have HC := Lib.hid hc
      have HO := Lib.hid hok
      obtain ⟨⟨a1, a2⟩, _, _⟩ := hbd
      clear hb ha hc hρ hok x0 x1 XX1
      have x0 := XX3.out.c0
      have x1 := XX3.out.c1
      have hz3 : w.heap.size < w3.heap.size := XX3.out.lt
      have hvd := VL.out.d1
      have hvd2 := VL.out.d2
      have BA3 := Lib.hid (BB3.out.alloc BB3.out.size (.cells #[.int .i64 c, .int .i64 ρ] 34))
      by_cases hrat : ok = true ∧ c = 0
      · obtain ⟨rfl, rfl⟩ := hrat
        have HP : Hid (rr = (a * m / d, -((-a) * m / d), 0)) := Lib.hid (by rw [← HRR.out]; unfold BoundsF; rw [if_pos HV.out, if_pos HIN.out, if_pos ⟨HO.out, HC.out⟩, HA.out])
        have hp1 := mul_abs_le a m 100000 1000000000 (by omega) (by omega) (by omega) (by omega)
        have hp2 := mul_abs_le (-a) m 100000 1000000000 (by omega) (by omega) (by omega) (by omega)
        obtain ⟨p, hp⟩ : ∃ p, a * m = p := ⟨_, rfl⟩
        obtain ⟨q, hq⟩ : ∃ q, -a * m = q := ⟨_, rfl⟩
        rw [hp] at hp1 HP
        rw [hq] at hp2 HP
        obtain ⟨hp11, hp12⟩ := hp1
        obtain ⟨hp21, hp22⟩ := hp2
        have HFQ := Lib.hid (fun (z : Int) (w0 : World) (h1 : -100000000000000 ≤ z) (h2 : z ≤ 100000000000000) => floorQuo_any z d w0 (by omega) (by omega) (by omega) (by omega))
        have hqb : -100000000000000 ≤ q / d ∧ q / d ≤ 100000000000000 := by
          constructor
          · exact Int.le_ediv_of_mul_le (by omega) (by have := Int.mul_le_mul_of_nonneg_left hvd (show (0 : Int) ≤ 100000000000000 by omega); omega)
          · rcases Int.lt_or_le q 0 with h | h
            · have := Int.ediv_neg_of_neg_of_pos h (show 0 < d by omega); omega
            · exact Int.le_trans (Int.ediv_le_self _ h) hp22
        obtain ⟨hy1, hy2⟩ := hqb
        have wa : IntKind.i64.wrap (a * m) = p := by rw [hp]; exact IntWalk.i64_in _ (by omega)
        have wb : IntKind.i64.wrap (-a) = -a := IntWalk.i64_in _ (by omega)
        have wc : IntKind.i64.wrap (-a * m) = q := by rw [hq]; exact IntWalk.i64_in _ (by omega)
        have wd : IntKind.i64.wrap (-(q / d)) = -(q / d) := IntWalk.i64_in _ (by omega)
        clear hp hq hvd hvd2
        go_wp2_with fail
        go_quiet ((go_at_call 75; exact Calls.quiet_of_same (HFQ.out _ _ (by assumption) (by assumption))))
        go_wp2
        go_ret3
        exact ⟨by rw [HP.out]; rfl, below_drewN BA3.out _⟩
      · have HP : Hid (rr = (flrL d.toNat (mulS m l), flrL d.toNat (mulS m l) + 1, 0)) := Lib.hid (by rw [← HRR.out]; unfold BoundsF; rw [if_pos HV.out, if_pos HIN.out, if_neg (by rw [HO.out, HC.out]; exact hrat)])
        have hde := hdec.out HV.out hm1 hm2 (by rw [HO.out, HC.out]; exact hrat)
        have hdn : ((d.toNat : Nat) : Int) = d := by omega
        have hlne : l ≠ [] := by
          intro e
          have h1 := HO.out
          have h2 := HC.out
          subst e
          exact hrat ⟨by rw [← h1]; rfl, by rw [← h2]; rfl⟩
        have hvl : Vld (d.toNat : Nat) l := by rw [hdn]; exact VL.out
        have hfb := flr_bd d.toNat m l hvl hm1 hm2
        have HIF : Hid (∀ w0, TermsAt w0 (.slice av n cv) l → Calls Tryz.prog 76 #[.agg #[.int .i64 d, .slice av n cv], .int .i64 m] w0 (IntTo (flrL d.toNat (mulS m l)) w0)) := Lib.hid (fun w0 h0 => by
          have := irrationalFloor_any d.toNat (.slice av n cv) l m w0 h0 hvl hm1 hm2 hlne (Lib.hid (hdiv.out HV.out)) (Lib.hid hde)
          rwa [hdn] at this)
        obtain ⟨F, hF⟩ : ∃ F, flrL d.toNat (mulS m l) = F := ⟨_, rfl⟩
        rw [hF] at HIF HP hfb
        obtain ⟨hf1, hf2⟩ := hfb
        have HRAT := Lib.hid hrat
        have HTA := Lib.hid (HT.out.below BA3.out)
        clear hF hvl hlne hdn hde hvd hvd2
        cases ok
        · clear hrat
          go_wp2_with fail
          refine (HIF.out _ HTA.out).mono ?_
          rintro e w4 ⟨rfl, hb4⟩
          have HB4 := Lib.hid (BA3.out.trans (hb4.mono BA3.out.size))
          clear hb4
          go_wp2
          go_ret3
          exact ⟨by rw [HP.out]; rfl, HB4.out⟩
        · have hc0 : (c == 0) = false := by simp; intro e; exact hrat ⟨rfl, e⟩
          clear hrat
          go_wp2_with fail
          refine (HIF.out _ HTA.out).mono ?_
          rintro e w4 ⟨rfl, hb4⟩
          have HB4 := Lib.hid (BA3.out.trans (hb4.mono BA3.out.size))
          clear hb4
          go_wp2
          go_ret3
          exact ⟨by rw [HP.out]; rfl, HB4.out⟩

theorem divC_small (y : Nat) (hy : y ≤ 100000) : DivC y := fun hi lo w h1 h2 => by
  by_cases h0 : hi = 0
  · subst h0; exact div_low lo y w h2 (by omega) (by omega)
  · exact div_small hi lo y w (by omega) h1 h2 hy
/-- Bounds, for all numbers. -/
theorem bounds_ok (d m : Int) (v : Value) (l : List (Int × Int)) (w : World) (ht : TermsAt w v l) : Calls Tryz.prog 39 #[.agg #[.int .i64 d, v], .int .i64 m] w (Int3To (BoundsF d m l) w) :=
  bounds_full d m v l w ht (Lib.hid fun hv => divC_small _ (by have := (vld_of hv).d2; omega)) (Lib.hid fun hv h1 h2 hi => (floor_sg (vld_of hv) h1 h2 hi).1)
set_option maxRecDepth 100000 in
set_option maxHeartbeats 4000000 in
theorem floor_ok (d : Int) (v : Value) (l : List (Int × Int)) (w : World) (ht : TermsAt w v l) : Calls Tryz.prog 35 #[.agg #[.int .i64 d, v]] w (Int2To (BoundsF d 1 l).1 (BoundsF d 1 l).2.2 w) := by
  have BB : Hid (Below w.heap.size w (w.alloc (.cells #[.int .i64 d, v] 24))) := Lib.hid ((Below.refl _ _).alloc (Nat.le_refl _) _)
  obtain ⟨av, cv, rfl, _⟩ := ht.placed
  have HT := Lib.hid (ht.below BB.out)
  clear ht
  obtain ⟨⟨r1, r2, r3⟩, hr⟩ : ∃ r, BoundsF d 1 l = r := ⟨_, rfl⟩
  have hb := fun w0 h0 => bounds_ok d 1 (.slice av l.length cv) l w0 h0
  rw [hr] at hb ⊢
  have HBO := Lib.hid hb
  clear hb hr
  dsimp only
  go_enter Tryz.func35, Tryz.ntmps35
  go_wp2_with fail
  refine (HBO.out _ HT.out).mono ?_
  rintro e w1 ⟨rfl, hb⟩
  have HB1 := Lib.hid (BB.out.trans (hb.mono BB.out.size))
  clear hb
  dsimp only
  go_wp2
  go_ret2
  exact ⟨rfl, HB1.out⟩
end Go.Proofs.YtedpafdfecofnaaGreatDoor
