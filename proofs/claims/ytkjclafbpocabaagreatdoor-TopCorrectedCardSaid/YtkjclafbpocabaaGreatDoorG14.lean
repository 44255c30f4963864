/-
  Contracts of the program's own functions (and their plain mathematics), on the way to the law: each for all arguments that its hypotheses let.
-/
import Derived.Test.YtkjclafbpocabaaGreatDoorG12
import Derived.WalkKit
import Derived.WalkSpells
import Derived.WalkLawsBesides
import Derived.Deep.QuietTactic
import Derived.BigQuiet
import Derived.Lib.Hide
import Derived.WalkSmall
import Derived.Maps.OwnSet
import Derived.Maps.RangeWalk
import Derived.Deep.RegionWith
import Derived.Deep.RegionHeld3
import Derived.OneCell
import Derived.KernelRfl
import Derived.Laws.StructEq
import Derived.StillTailTactics
import Derived.Laws.Externs
import Derived.RangeFuncBox
import Derived.Test.YtkjclafbpocabaaGreatDoorPlain
import Derived.Test.YtkjclafbpocabaaGreatDoorG13
set_option linter.unusedSimpArgs false
set_option linter.unusedVariables false

/-! ## S40 -/
namespace Go.Proofs.YtkjclafbpocabaaGreatDoor
open Go.RowKit Go.Maps Go.Shelf Go.Sort

def OkTo (n : Int) (b : Bool) (w : World) (e : Ending) (w' : World) : Prop := e = .returned (.tuple #[.int .i64 n, .bool b]) ∧ Below w.heap.size w w'
set_option maxRecDepth 100000 in
set_option maxHeartbeats 2000000 in
theorem sign1_any (a b : Value) (A0 A1 B0 B1 : Nat) (dig : Int) (w : World) (ha : EncAt w a A0 A1) (hb : EncAt w b B0 B1)
    (lA0 : (toW A0).length ≤ 1000) (lA1 : (toW A1).length ≤ 1000) (lB0 : (toW B0).length ≤ 1000) (lB1 : (toW B1).length ≤ 1000) (hA : A0 ≤ A1) (hB : B0 ≤ B1) :
    Calls Tryz.prog 173 #[a, b, .int .i64 dig] w (OkTo (if B1 ≤ A0 then 1 else -1) (decide (B1 ≤ A0) || decide (A1 ≤ B0)) w) := by
  obtain ⟨a0, a1, rfl, ha0, ha1⟩ := ha
  obtain ⟨b0, b1, rfl, hb0, hb1⟩ := hb
  obtain ⟨pa0, ca0, rfl⟩ := ha0.shape
  obtain ⟨pa1, ca1, rfl⟩ := ha1.shape
  obtain ⟨pb0, cb0, rfl⟩ := hb0.shape
  obtain ⟨pb1, cb1, rfl⟩ := hb1.shape
  have HEA : Hid (EncAt w (.agg #[.slice pa0 (toW A0).length ca0, .slice pa1 (toW A1).length ca1]) A0 A1) := Lib.hid ⟨_, _, rfl, ha0, ha1⟩
  have HEB : Hid (EncAt w (.agg #[.slice pb0 (toW B0).length cb0, .slice pb1 (toW B1).length cb1]) B0 B1) := Lib.hid ⟨_, _, rfl, hb0, hb1⟩
  have X := (Two.new w (.slice pa0 (toW A0).length ca0) (.slice pa1 (toW A1).length ca1) 206).alloc (.cells #[.slice pb0 (toW B0).length cb0, .slice pb1 (toW B1).length cb1] 206)
  have Y := Two.new (w.alloc (.cells #[.slice pa0 (toW A0).length ca0, .slice pa1 (toW A1).length ca1] 206)) (.slice pb0 (toW B0).length cb0) (.slice pb1 (toW B1).length cb1) 206
  have eY : (w.alloc (.cells #[.slice pa0 (toW A0).length ca0, .slice pa1 (toW A1).length ca1] 206)).heap.size = w.heap.size + 1 := by simp
  rw [eY] at Y
  have hBW : Below w.heap.size w ((w.alloc (.cells #[.slice pa0 (toW A0).length ca0, .slice pa1 (toW A1).length ca1] 206)).alloc (.cells #[.slice pb0 (toW B0).length cb0, .slice pb1 (toW B1).length cb1] 206)) := ((Below.refl _ w).alloc (Nat.le_refl _) _).alloc (by simp) _
  have HL1 := Lib.hid (fun w0 h0 h1 => less_any (.agg #[.slice pa0 (toW A0).length ca0, .slice pa1 (toW A1).length ca1]) (.agg #[.slice pb0 (toW B0).length cb0, .slice pb1 (toW B1).length cb1]) A0 A1 B0 B1 w0 h0 h1 lA0 lA1 hA hB)
  have HL2 := Lib.hid (fun w0 h0 h1 => less_any (.agg #[.slice pb0 (toW B0).length cb0, .slice pb1 (toW B1).length cb1]) (.agg #[.slice pa0 (toW A0).length ca0, .slice pa1 (toW A1).length ca1]) B0 B1 A0 A1 w0 h0 h1 lB0 lB1 hB hA)
  obtain ⟨rn, hrn⟩ : ∃ r : Int, (if B1 ≤ A0 then 1 else -1) = r := ⟨_, rfl⟩
  obtain ⟨rb, hrb⟩ : ∃ r : Bool, (decide (B1 ≤ A0) || decide (A1 ≤ B0)) = r := ⟨_, rfl⟩
  rw [hrn, hrb]
  have HRN := Lib.hid hrn
  have HRB := Lib.hid hrb
  clear hrn hrb
  have XX := Lib.hid X
  have YY := Lib.hid Y
  have BB := Lib.hid hBW
  clear X Y hBW eY ha0 ha1 hb0 hb1 lA0 lA1 lB0 lB1 hA hB
  go_enter Tryz.func173, Tryz.ntmps173
  go_wp2_with fail
  refine (HL1.out _ (HEA.out.below BB.out) (HEB.out.below BB.out)).mono ?_
  rintro e w2 ⟨v2, rfl, henc, hb2⟩
  obtain ⟨z0, z1, rfl, hz0, hz1⟩ := henc
  obtain ⟨p0, k0, rfl⟩ := hz0.shape
  obtain ⟨p1, k1, rfl⟩ := hz1.shape
  have HB2 := Lib.hid (BB.out.trans (hb2.mono BB.out.size))
  have X2 := XX.out.below hb2 XX.out.lt
  have Y2 := YY.out.below hb2 YY.out.lt
  have XX2 := Lib.hid X2
  have YY2 := Lib.hid Y2
  clear hz0 hz1 hb2 X2 Y2 XX YY BB
  generalize (toW (if B1 ≤ A0 then A0 - B1 else 0)).length = n0 at *
  generalize (toW (if B1 ≤ A0 then A1 - B0 else 0)).length = n1 at *
  by_cases h1 : B1 ≤ A0
  · have e1 : decide (B1 ≤ A0) = true := decide_eq_true h1
    have hr1 : rn = 1 := by rw [← HRN.out, if_pos h1]
    have hr2 : rb = true := by rw [← HRB.out, e1]; rfl
    subst hr1 hr2
    rw [e1]
    clear h1 e1 HRN HRB HL2
    go_wp2
    go_ret2
    exact ⟨rfl, HB2.out.alloc HB2.out.size _⟩
  · have e1 : decide (B1 ≤ A0) = false := decide_eq_false h1
    have hr1 : rn = -1 := by rw [← HRN.out, if_neg h1]
    have hr2 : Hid (decide (A1 ≤ B0) = rb) := Lib.hid (by rw [← HRB.out, e1]; rfl)
    subst hr1
    rw [e1]
    clear h1 e1 HRN HRB HL1
    have hA := Lib.hid ((Below.refl _ w2).alloc (Nat.le_refl _) (.cells #[.slice p0 n0 k0, .slice p1 n1 k1] 206))
    have X3 := XX2.out.below hA.out XX2.out.lt
    have Y3 := YY2.out.below hA.out YY2.out.lt
    have HB3 := Lib.hid (HB2.out.trans (hA.out.mono HB2.out.size))
    have x0 := XX2.out.c0
    have x1 := XX2.out.c1
    have y0 := YY2.out.c0
    have y1 := YY2.out.c1
    have hz0 : w.heap.size < w2.heap.size := XX2.out.lt
    have hz1 : w.heap.size + 1 < w2.heap.size := YY2.out.lt
    clear X3 Y3
    go_wp2_with fail
    refine (HL2.out _ (HEB.out.below HB3.out) (HEA.out.below HB3.out)).mono ?_
    rintro e w4 ⟨v4, rfl, henc, hb4⟩
    rw [hr2.out]
    obtain ⟨u0, u1, rfl, hu0, hu1⟩ := henc
    obtain ⟨p2, k2, rfl⟩ := hu0.shape
    obtain ⟨p3, k3, rfl⟩ := hu1.shape
    have HB4 := Lib.hid (HB3.out.trans (hb4.mono HB3.out.size))
    generalize (toW (if A1 ≤ B0 then B0 - A1 else 0)).length = n2 at *
    generalize (toW (if A1 ≤ B0 then B1 - A0 else 0)).length = n3 at *
    clear hu0 hu1 hb4 x0 x1 y0 y1 hz0 hz1 HB3 hA HL2 HEA HEB
    go_wp2
    go_ret2
    exact ⟨rfl, HB4.out.alloc HB4.out.size _⟩
end Go.Proofs.YtkjclafbpocabaaGreatDoor

/-! ## S41 -/
namespace Go.Proofs.YtkjclafbpocabaaGreatDoor
open Go.RowKit Go.Maps Go.Shelf Go.Sort

theorem isq_up (N : Nat) : 2 * isq N ≤ isq (4 * N) ∧ isq (4 * N) + 1 ≤ 2 * (isq N + 1) := by
  rw [isq_four]; split <;> omega
theorem fQ_up (D : Nat) (r : Int) : 2 * fQ D r ≤ fQ (D + 1) r ∧ fQ1 (D + 1) r ≤ 2 * fQ1 D r := by
  have h := isq_up (r.toNat * 4 ^ D)
  unfold fQ fQ1
  have e : r.toNat * 4 ^ (D + 1) = 4 * (r.toNat * 4 ^ D) := by rw [Nat.pow_succ, ← Nat.mul_assoc, Nat.mul_comm]
  rw [e]; exact h
theorem encP_up (D : Nat) (ts : List (Int × Int)) : 2 * encP (fQ D) ts ≤ encP (fQ (D + 1)) ts ∧ encP (fQ1 (D + 1)) ts ≤ 2 * encP (fQ1 D) ts := by
  induction ts with
  | nil => simp [encP]
  | cons t ts ih =>
    have e : ∀ f, encP f (t :: ts) = t.1.toNat * f t.2 + encP f ts := fun f => rfl
    rw [e, e, e, e]
    have h := fQ_up D t.2
    have h1 := Nat.mul_le_mul_left t.1.toNat h.1
    have h2 := Nat.mul_le_mul_left t.1.toNat h.2
    rw [Nat.mul_left_comm] at h1 h2
    omega
theorem encN_up (D : Nat) (ts : List (Int × Int)) : 2 * encN (fQ D) ts ≤ encN (fQ (D + 1)) ts ∧ encN (fQ1 (D + 1)) ts ≤ 2 * encN (fQ1 D) ts := by
  induction ts with
  | nil => simp [encN]
  | cons t ts ih =>
    have e : ∀ f, encN f (t :: ts) = (-t.1).toNat * f t.2 + encN f ts := fun f => rfl
    rw [e, e, e, e]
    have h := fQ_up D t.2
    have h1 := Nat.mul_le_mul_left (-t.1).toNat h.1
    have h2 := Nat.mul_le_mul_left (-t.1).toNat h.2
    rw [Nat.mul_left_comm] at h1 h2
    omega
/-- What is decided stays decided. -/
theorem pos_up (D k : Nat) (ts : List (Int × Int)) (h : encN (fQ1 D) ts ≤ encP (fQ D) ts) : encN (fQ1 (D + k)) ts ≤ encP (fQ (D + k)) ts := by
  induction k with
  | zero => exact h
  | succ k ih =>
    have h1 := encP_up (D + k) ts
    have h2 := encN_up (D + k) ts
    rw [← Nat.add_assoc]; omega
theorem neg_up (D k : Nat) (ts : List (Int × Int)) (h : encP (fQ1 D) ts ≤ encN (fQ D) ts) : encP (fQ1 (D + k)) ts ≤ encN (fQ (D + k)) ts := by
  induction k with
  | zero => exact h
  | succ k ih =>
    have h1 := encP_up (D + k) ts
    have h2 := encN_up (D + k) ts
    rw [← Nat.add_assoc]; omega
theorem encP_lt (f : Int → Nat) (ts : List (Int × Int)) : encP f ts ≤ encP (fun r => f r + 1) ts := by
  induction ts with
  | nil => simp [encP]
  | cons t ts ih =>
    have e : ∀ f, encP f (t :: ts) = t.1.toNat * f t.2 + encP f ts := fun f => rfl
    rw [e, e, Nat.mul_add]; omega
theorem encN_lt (f : Int → Nat) (ts : List (Int × Int)) : encN f ts ≤ encN (fun r => f r + 1) ts := by
  induction ts with
  | nil => simp [encN]
  | cons t ts ih =>
    have e : ∀ f, encN f (t :: ts) = (-t.1).toNat * f t.2 + encN f ts := fun f => rfl
    rw [e, e, Nat.mul_add]; omega
/-- Both bounds: how far they are apart. -/
theorem enc_gap (D : Nat) (ts : List (Int × Int)) (h : ts ≠ []) (hc : ∀ t ∈ ts, t.1 ≠ 0) : encP (fQ D) ts + encN (fQ D) ts < encP (fQ1 D) ts + encN (fQ1 D) ts := by
  match ts, h with
  | t :: ts, _ =>
    have h0 := hc t (by simp)
    have e1 : ∀ f, encP f (t :: ts) = t.1.toNat * f t.2 + encP f ts := fun f => rfl
    have e2 : ∀ f, encN f (t :: ts) = (-t.1).toNat * f t.2 + encN f ts := fun f => rfl
    have h1 := encP_lt (fQ D) ts
    have h2 := encN_lt (fQ D) ts
    have g1 : encP (fun r => fQ D r + 1) ts = encP (fQ1 D) ts := rfl
    have g2 : encN (fun r => fQ D r + 1) ts = encN (fQ1 D) ts := rfl
    have g3 : fQ1 D t.2 = fQ D t.2 + 1 := rfl
    rw [e1, e2, e1, e2, g3, Nat.mul_add, Nat.mul_add]
    omega
/-- The sign of a sum of roots, decided by 6656 digits. -/
def sgnL (ts : List (Int × Int)) : Int := if encN (fQ1 6656) ts ≤ encP (fQ 6656) ts then 1 else -1
def Decides (ts : List (Int × Int)) : Prop := encN (fQ1 6656) ts ≤ encP (fQ 6656) ts ∨ encP (fQ1 6656) ts ≤ encN (fQ 6656) ts
theorem sgn_pos {D : Nat} {ts : List (Int × Int)} (hD : D ≤ 6656) (h : encN (fQ1 D) ts ≤ encP (fQ D) ts) : sgnL ts = 1 := by
  have := pos_up D (6656 - D) ts h
  rw [Nat.add_sub_cancel' hD] at this
  unfold sgnL; rw [if_pos this]
theorem sgn_neg {D : Nat} {ts : List (Int × Int)} (hD : D ≤ 6656) (hne : ts ≠ []) (hc : ∀ t ∈ ts, t.1 ≠ 0) (h : encP (fQ1 D) ts ≤ encN (fQ D) ts) : sgnL ts = -1 := by
  have h1 := neg_up D (6656 - D) ts h
  rw [Nat.add_sub_cancel' hD] at h1
  have h2 := enc_gap 6656 ts hne hc
  unfold sgnL; rw [if_neg (by omega)]

def SgnTo (c : Int → Int) (w : World) (e : Ending) (w' : World) : Prop := ∃ ts, IsColl c ts ∧ ts.length ≤ 1000 ∧ e = .returned (.int .i64 (sgnL ts)) ∧ Below w.heap.size w w'
set_option maxRecDepth 100000 in
set_option maxHeartbeats 2000000 in
theorem refine_sign (B n : Nat) (c : Int → Int) (w : World) (hs : OwnSum w B n c) (hn : n ≤ 1000)
    (hcr : Hid (∀ r, c r ≠ 0 → 1 ≤ r ∧ r ≤ 1000)) (hcb : Hid (∀ r, -9000000000000000000 ≤ c r ∧ c r ≤ 9000000000000000000)) (hne : Hid (∃ r, c r ≠ 0)) (hdec : Hid (∀ ts, IsColl c ts → Decides ts)) :
    Calls Tryz.prog 172 #[.map (some B), .func (.func 173) #[] #[]] w (SgnTo c w) := by
  have HS := Lib.hid hs
  clear hs
  go_enter Tryz.func172, Tryz.ntmps172
  go_wp2_with fail
  go_loopw [11] (fun i wr => ∃ k : Nat, i = .int .i64 (k : Nat) ∧ k ≤ 8 ∧ Hid (Below w.heap.size w wr)) (fun i _ => (9 - intOf i).toNat)
  case atStart => exact ⟨0, rfl, by omega, Lib.hid (Below.refl _ _)⟩
  case round =>
    obtain ⟨k, rfl, hk, HB⟩ := hrel
    have hk9 : (k : Int) < 9 := by omega
    obtain ⟨dig, hdig⟩ : ∃ dig : Nat, dig = 26 * 2 ^ k := ⟨_, rfl⟩
    have hp1 : 1 ≤ 2 ^ k := Nat.one_le_two_pow
    have hp2 : 2 ^ k ≤ 2 ^ 8 := Nat.pow_le_pow_right (by decide) hk
    have hd1 : dig = 26 + (dig - 26) := by omega
    have hd2 : dig ≤ 6656 := by omega
    have hd3 : k = 8 → dig = 6656 := by intro e; subst e; rw [hdig]
    have hw : RowKit.wrap64 (26 * 2 ^ k) = (dig : Int) := by
      have e : (26 * 2 ^ k : Int) = (dig : Int) := by rw [hdig]; simp
      rw [e]; exact IntWalk.wrap64_in _ ⟨by omega, by omega⟩
    have HENC := enclose_any (dig - 26) B n c wr (HS.out.below HB.out) hn (by omega) hcr hcb
    rw [← hd1] at HENC
    have HENC := Lib.hid HENC
    have HD2 := Lib.hid hd2
    have HD3 := Lib.hid hd3
    clear hdig hp1 hp2 hd1 hd2 hd3
    go_wp2_with fail
    refine HENC.out.mono ?_
    rintro e w2 ⟨ts, v, u, hcoll, hlen, rfl, he1, he2, hb2⟩
    obtain ⟨v0, v1, rfl, hv0, hv1⟩ := he1
    obtain ⟨u0, u1, rfl, hu0, hu1⟩ := he2
    have hfl : ∀ t ∈ ts, (t.1.toNat ≤ 9223372036854775808 ∧ (-t.1).toNat ≤ 9223372036854775808) ∧ fQ dig t.2 ≤ 2 ^ (dig + 6) ∧ fQ1 dig t.2 ≤ 2 ^ (dig + 6) := fun t ht => by
      have h1 := hcoll.2.1 t ht
      have h2 := hcr.out t.2 (by rw [h1.1]; exact h1.2)
      have h3 := hcb.out t.2
      rw [h1.1] at h3
      have h4 := fQ_le dig t.2 (by omega)
      exact ⟨by omega, Nat.le_trans (show fQ dig t.2 ≤ fQ1 dig t.2 from Nat.le_succ _) h4, h4⟩
    have hdg := HD2.out
    have lA0 := few_words dig _ ts.length (by omega) hlen (encP_le (fQ dig) ts _ _ (fun t ht => ⟨(hfl t ht).1.1, (hfl t ht).2.1⟩))
    have lA1 := few_words dig _ ts.length (by omega) hlen (encP_le (fQ1 dig) ts _ _ (fun t ht => ⟨(hfl t ht).1.1, (hfl t ht).2.2⟩))
    have lB0 := few_words dig _ ts.length (by omega) hlen (encN_le (fQ dig) ts _ _ (fun t ht => ⟨(hfl t ht).1.2, (hfl t ht).2.1⟩))
    have lB1 := few_words dig _ ts.length (by omega) hlen (encN_le (fQ1 dig) ts _ _ (fun t ht => ⟨(hfl t ht).1.2, (hfl t ht).2.2⟩))
    have lA : encP (fQ dig) ts ≤ encP (fQ1 dig) ts := encP_lt (fQ dig) ts
    have lB : encN (fQ dig) ts ≤ encN (fQ1 dig) ts := encN_lt (fQ dig) ts
    have hts : ts ≠ [] := by
      obtain ⟨r, hr⟩ := hne.out
      intro e; subst e; exact absurd (hcoll.2.2 r hr) (by simp)
    have htc : ∀ t ∈ ts, t.1 ≠ 0 := fun t ht => (hcoll.2.1 t ht).2
    have HB2 := Lib.hid (HB.out.trans (hb2.mono HB.out.size))
    have hSP : encN (fQ1 dig) ts ≤ encP (fQ dig) ts → sgnL ts = 1 := sgn_pos hdg
    have hSN : encP (fQ1 dig) ts ≤ encN (fQ dig) ts → sgnL ts = -1 := sgn_neg hdg hts htc
    have HD8 : Hid (k = 8 → encN (fQ1 dig) ts ≤ encP (fQ dig) ts ∨ encP (fQ1 dig) ts ≤ encN (fQ dig) ts) := Lib.hid (fun e => by rw [HD3.out e]; exact hdec.out ts hcoll)
    have HCOL := Lib.hid hcoll
    clear hfl hts htc hb2 hcoll HENC hdg HD2 HD3
    generalize encP (fQ dig) ts = A0 at *
    generalize encP (fQ1 dig) ts = A1 at *
    generalize encN (fQ dig) ts = B0 at *
    generalize encN (fQ1 dig) ts = B1 at *
    obtain ⟨p0, k0, rfl⟩ := hv0.shape
    obtain ⟨p1, k1, rfl⟩ := hv1.shape
    obtain ⟨p2, k2, rfl⟩ := hu0.shape
    obtain ⟨p3, k3, rfl⟩ := hu1.shape
    have HE1 : Hid (EncAt w2 (.agg #[.slice p0 (toW A0).length k0, .slice p1 (toW A1).length k1]) A0 A1) := Lib.hid ⟨_, _, rfl, hv0, hv1⟩
    have HE2 : Hid (EncAt w2 (.agg #[.slice p2 (toW B0).length k2, .slice p3 (toW B1).length k3]) B0 B1) := Lib.hid ⟨_, _, rfl, hu0, hu1⟩
    have HSG := Lib.hid (fun w0 h0 h1 => sign1_any (.agg #[.slice p0 (toW A0).length k0, .slice p1 (toW A1).length k1]) (.agg #[.slice p2 (toW B0).length k2, .slice p3 (toW B1).length k3]) A0 A1 B0 B1 dig w0 h0 h1 lA0 lA1 lB0 lB1 lA lB)
    have HA := Lib.hid (((Below.refl _ w2).alloc (Nat.le_refl _) (.cells #[.slice p0 (toW A0).length k0, .slice p1 (toW A1).length k1] 206)).alloc (by simp) (.cells #[.slice p2 (toW B0).length k2, .slice p3 (toW B1).length k3] 206))
    have HSP := Lib.hid hSP
    have HSN := Lib.hid hSN
    clear hv0 hv1 hu0 hu1 lA0 lA1 lB0 lB1 lA lB hSP hSN
    generalize (toW A0).length = m0 at *
    generalize (toW A1).length = m1 at *
    generalize (toW B0).length = m2 at *
    generalize (toW B1).length = m3 at *
    have HLN := Lib.hid hlen
    clear hlen
    by_cases h1 : B1 ≤ A0
    · have e1 : decide (B1 ≤ A0) = true := decide_eq_true h1
      have hs1 := HSP.out h1
      have HSG2 := HSG.out
      rw [e1, if_pos h1] at HSG2
      have HSG3 := Lib.hid HSG2
      have HS1 := Lib.hid hs1
      clear hs1 HSG HSG2 h1 e1
      go_wp2_with fail
      refine (HSG3.out _ (HE1.out.below HA.out) (HE2.out.below HA.out)).mono ?_
      rintro e w4 ⟨rfl, hb4⟩
      have HB4 := Lib.hid ((HB2.out.trans (HA.out.mono HB2.out.size)).trans (hb4.mono (HB2.out.trans (HA.out.mono HB2.out.size)).size))
      clear hb4
      go_wp2
      go_ret
      exact ⟨ts, HCOL.out, HLN.out, by rw [HS1.out]; rfl, HB4.out⟩
    · by_cases h2 : A1 ≤ B0
      · have e1 : decide (B1 ≤ A0) = false := decide_eq_false h1
        have e2 : decide (A1 ≤ B0) = true := decide_eq_true h2
        have hs1 := HSN.out h2
        have HSG2 := HSG.out
        rw [e1, e2, if_neg h1] at HSG2
        have HSG3 := Lib.hid HSG2
        have HS1 := Lib.hid hs1
        clear hs1 HSG HSG2 h1 e1 h2 e2
        go_wp2_with fail
        refine (HSG3.out _ (HE1.out.below HA.out) (HE2.out.below HA.out)).mono ?_
        rintro e w4 ⟨rfl, hb4⟩
        have HB4 := Lib.hid ((HB2.out.trans (HA.out.mono HB2.out.size)).trans (hb4.mono (HB2.out.trans (HA.out.mono HB2.out.size)).size))
        clear hb4
        go_wp2
        go_ret
        exact ⟨ts, HCOL.out, HLN.out, by rw [HS1.out]; rfl, HB4.out⟩
      · have e1 : decide (B1 ≤ A0) = false := decide_eq_false h1
        have e2 : decide (A1 ≤ B0) = false := decide_eq_false h2
        have hk8 : k < 8 := by
          apply Classical.byContradiction
          intro hc
          rcases HD8.out (by omega) with h | h
          · exact h1 h
          · exact h2 h
        have HSG2 := HSG.out
        rw [e1, e2, if_neg h1] at HSG2
        have HSG3 := Lib.hid HSG2
        clear HSG HSG2 h1 e1 h2 e2
        go_wp2_with fail
        refine (HSG3.out _ (HE1.out.below HA.out) (HE2.out.below HA.out)).mono ?_
        rintro e w4 ⟨rfl, hb4⟩
        have HB4 := Lib.hid ((HB2.out.trans (HA.out.mono HB2.out.size)).trans (hb4.mono (HB2.out.trans (HA.out.mono HB2.out.size)).size))
        clear hb4
        go_wp2
        go_roundw
        case rel => exact ⟨k + 1, by go_num, by omega, HB4⟩
        case measure => simp [intOf]; omega
end Go.Proofs.YtkjclafbpocabaaGreatDoor
