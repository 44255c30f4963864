/-
  Contracts of the program's own functions (and their plain mathematics), on the way to the law: each for all arguments that its hypotheses let.
-/
import Derived.Test.YtedpafdfecofnaaGreatDoorF44
import Derived.Test.YtedpafdfecofnaaGreatDoorF47
import Derived.WalkKit
import Derived.WalkSpells
import Derived.WalkLawsBesides
import Derived.Deep.QuietTactic
import Derived.BigQuiet
import Derived.Lib.Hide
import Derived.WalkSmall
import Derived.Maps.OwnSet
import Derived.Maps.RangeWalk
import Derived.Deep.RegionWith
import Derived.Deep.RegionHeld3
import Derived.Deep.DrawnRows
import Derived.Deep.DeepCutAuto
import Derived.OneCell
import Derived.KernelRfl
import Derived.Laws.StructEq
import Derived.StillTailTactics
import Derived.Laws.Externs
import Derived.RangeFuncBox
import Derived.Test.YtedpafdfecofnaaGreatDoorPlain
set_option linter.unusedSimpArgs false
set_option linter.unusedVariables false

/-! ## S113 -/
namespace Go.Proofs.YtedpafdfecofnaaGreatDoor
open Go.RowKit Go.Maps Go.Shelf Go.Sort
attribute [local go_sem ↓] Go.wp_at_zero Go.wp_at_succ
def CmpV2 (dx : Int) (lx : List (Int × Int)) (dy : Int) (ly : List (Int × Int)) (w : World) (e : Ending) (w' : World) : Prop := ∃ n, CmpN dx lx dy ly n ∧ e = .returned (.tuple #[.int .i64 n, .int .i64 0]) ∧ Below w.heap.size w w'
theorem cmp_call2 {dx dy : Int} {lx ly : List (Int × Int)} (vx : Hid (Vld dx lx)) (vy : Hid (Vld dy ly)) (v1 v2 : Value) (w : World) (hx : TermsAt w v1 lx) (hy : TermsAt w v2 ly) :
    Calls Tryz.prog 34 #[.agg #[.int .i64 dx, v1], .agg #[.int .i64 dy, v2]] w (CmpV2 dx lx dy ly w) :=
  (compareN_any dx dy v1 v2 lx ly w hx hy).mono fun e w' h => by
    unfold CmpTo at h
    rw [if_pos ⟨vx.out.bool, vy.out.bool⟩] at h
    obtain ⟨⟨ts, hc, he⟩, hb⟩ := h
    exact ⟨_, ⟨ts, hc, rfl⟩, he, hb⟩
theorem mulab2 {x k A B : Int} (h1 : -A ≤ x) (h2 : x ≤ B) (hk1 : 1 ≤ k) (hk2 : k ≤ 20) (hA : 0 ≤ A := by omega) (hB : 0 ≤ B := by omega) : -(20 * A) ≤ x * k ∧ x * k ≤ 20 * B := by
  rcases Int.lt_or_le x 0 with h | h
  · have a : (-x) * k ≤ (-x) * 20 := Int.mul_le_mul_of_nonneg_left hk2 (by omega)
    have b : 0 ≤ (-x) * k := Int.mul_nonneg (by omega) (by omega)
    have e : (-x) * k = -(x * k) := Int.neg_mul x k
    omega
  · have a : x * k ≤ x * 20 := Int.mul_le_mul_of_nonneg_left hk2 h
    have b : 0 ≤ x * k := Int.mul_nonneg h (by omega)
    omega
set_option maxRecDepth 100000 in
set_option maxHeartbeats 40000000 in
theorem between_walk (hk : Hid KnownT) (hsort : Hid SortC) (d den tms : Int) (vx : Value) (l : List (Int × Int)) (w : World) (hx : TermsAt w vx l) (hw : WOk w) (hd0 : 0 ≤ den) (hd1 : den ≤ 65535) (ht0 : 0 ≤ tms) (ht1 : tms ≤ 255) :
    Calls Tryz.prog 13 #[.agg #[.int .i64 d, vx], .int .u16 den, .int .u8 tms] w (AnsB true w) := by
  obtain ⟨ax, cx, rfl, _⟩ := hx.placed
  have BA : Below w.heap.size w (w.alloc (.cells #[.int .i64 d, .slice ax l.length cx] 24)) := (Below.refl _ w).alloc (Nat.le_refl _) _
  have HX := Lib.hid (show BoxW (w.alloc (.cells #[.int .i64 d, .slice ax l.length cx] 24)) w.heap.size d (.slice ax l.length cx) l from ⟨Two.new w _ _ 24, hx.below BA⟩)
  have HBW := Lib.hid BA
  have HW := Lib.hid hw
  clear hx hw BA
  go_enter Tryz.func13, Tryz.ntmps13
  go_wp2_with fail
  refine (long_any d _ l _ HX.out.2).mono ?_
  rintro e w1 ⟨rfl, hb⟩
  replace HX := Lib.hid (HX.out.at hb)
  replace HBW := Lib.hid (HBW.out.trans (hb.mono HBW.out.size))
  clear hb
  by_cases hlx : 8 < l.length
  · rw [show decide (8 < l.length) = true from decide_eq_true hlx]
    go_wp2_with fail
    refine (hk.out _ (HW.out.below HBW.out)).mono ?_
    rintro e wk ⟨rfl, hb⟩
    have HBK := Lib.hid (HBW.out.trans (hb.mono HBW.out.size))
    clear hb
    go_wp2
    go_ret
    exact ⟨rfl, HBK.out⟩
  rw [show decide (8 < l.length) = false from decide_eq_false hlx]
  have fX0 := HX.out.1.c0
  have fX1 := HX.out.1.c1
  have fXz := HX.out.1.lt
  go_wp2_with fail
  refine (own_any d _ l _ HX.out.2 (by omega)).mono ?_
  rintro e w2 ⟨v2, rfl, ht, hb, _⟩
  have HT := Lib.hid ht
  clear fX0 fX1 fXz ht
  replace HX := Lib.hid (HX.out.at hb)
  replace HBW := Lib.hid (HBW.out.trans (hb.mono HBW.out.size))
  clear hb
  clear hlx
  go_wp2_with fail
  refine (check_any d _ l _ HT.out).mono ?_
  rintro e w3 ⟨rfl, hb⟩
  replace HX := Lib.hid (HX.out.at hb)
  replace HBW := Lib.hid (HBW.out.trans (hb.mono HBW.out.size))
  clear hb HT
  cases hv : validF d l
  · rw [if_neg (by simp)]
    go_wp2_with fail
    refine (hk.out _ (HW.out.below HBW.out)).mono ?_
    rintro e wk ⟨rfl, hb⟩
    have HBK := Lib.hid (HBW.out.trans (hb.mono HBW.out.size))
    clear hb
    go_wp2
    go_ret
    exact ⟨rfl, HBK.out⟩
  rw [if_pos rfl]
  have VX := Lib.hid (vld_of hv)
  clear hv
  have hmm : 1 ≤ 1 + den % 40000 ∧ 1 + den % 40000 ≤ 40000 := by omega
  have hkk : 1 ≤ 1 + tms % 20 ∧ 1 + tms % 20 ≤ 20 := by omega
  have hw1 : IntKind.i64.wrap den = den := IntWalk.i64_in _ (by omega)
  have hw2 : IntKind.i64.wrap tms = tms := IntWalk.i64_in _ (by omega)
  obtain ⟨m, hm⟩ : ∃ m, 1 + den % 40000 = m := ⟨_, rfl⟩
  obtain ⟨k, hk'⟩ : ∃ k, 1 + tms % 20 = k := ⟨_, rfl⟩
  rw [hm] at hmm
  rw [hk'] at hkk
  obtain ⟨m1, m2⟩ := hmm
  obtain ⟨k1, k2⟩ := hkk
  have hmk1 : 1 ≤ m * k := by have := Int.mul_le_mul m1 k1 (by omega) (by omega); omega
  have hmk2 : m * k ≤ 800000 := by have := Int.mul_le_mul m2 k2 (by omega) (by omega); omega
  have hw3 : IntKind.i64.wrap (m * k) = m * k := IntWalk.i64_in _ (by omega)
  have sp1 := bounds_spec VX.out m1 (show m ≤ 1000000000 by omega)
  have sp2 := bounds_spec VX.out hmk1 (show m * k ≤ 1000000000 by omega)
  have sp3 := bounds_spec VX.out (show (1 : Int) ≤ 1 by omega) (show (1 : Int) ≤ 1000000000 by omega)
  have bo1 := fun v w0 h0 => bounds_ok d m v l w0 h0
  have bo2 := fun v w0 h0 => bounds_ok d (m * k) v l w0 h0
  have bo3 := fun v w0 h0 => bounds_ok d 1 v l w0 h0
  have fl := fun v w0 h0 => floor_ok d v l w0 h0
  obtain ⟨⟨low, high, e1⟩, h1⟩ : ∃ r, BoundsF d m l = r := ⟨_, rfl⟩
  obtain ⟨⟨less, more, e2⟩, h2⟩ : ∃ r, BoundsF d (m * k) l = r := ⟨_, rfl⟩
  obtain ⟨⟨n, n', e3⟩, h3⟩ : ∃ r, BoundsF d 1 l = r := ⟨_, rfl⟩
  rw [h1] at sp1 bo1
  rw [h2] at sp2 bo2
  rw [h3] at sp3 bo3 fl
  dsimp only at sp1 sp2 sp3 fl
  obtain ⟨rfl, bs1, lb1, lb2⟩ := sp1
  obtain ⟨rfl, bs2, _, _⟩ := sp2
  obtain ⟨rfl, _, nb1, nb2⟩ := sp3
  have HS1 := Lib.hid bs1
  have HSC := Lib.hid (spec_scale VX.out.d1 k1 bs1 bs2)
  have hlh : high = low ∨ high = low + 1 := by
    rcases bs1 with ⟨e, _⟩ | ⟨e, _⟩
    · exact .inr e
    · exact .inl e
  have BO1 := Lib.hid bo1
  have BO2 := Lib.hid bo2
  have BO3 := Lib.hid bo3
  have FL := Lib.hid fl
  have HLH := Lib.hid hlh
  clear bs1 bs2 bo1 bo2 bo3 fl h1 h2 h3 hlh
  have fX0 := HX.out.1.c0
  have fX1 := HX.out.1.c1
  have fXz := HX.out.1.lt
  go_wp2_with fail
  refine (own_any d _ l _ HX.out.2 (by have := VX.out.len; omega)).mono ?_
  rintro e w5o ⟨v5, rfl, ht, hb, _⟩
  have HT := Lib.hid ht
  clear fX0 fX1 fXz ht
  replace HX := Lib.hid (HX.out.at hb)
  replace HBW := Lib.hid (HBW.out.trans (hb.mono HBW.out.size))
  clear hb
  go_wp2_with fail
  refine (BO1.out _ _ HT.out).mono ?_
  rintro e w5 ⟨rfl, hb⟩
  replace HX := Lib.hid (HX.out.at hb)
  replace HBW := Lib.hid (HBW.out.trans (hb.mono HBW.out.size))
  clear hb HT
  have fX0 := HX.out.1.c0
  have fX1 := HX.out.1.c1
  have fXz := HX.out.1.lt
  go_wp2_with fail
  refine (own_any d _ l _ HX.out.2 (by have := VX.out.len; omega)).mono ?_
  rintro e w6o ⟨v6, rfl, ht, hb, _⟩
  have HT := Lib.hid ht
  clear fX0 fX1 fXz ht
  replace HX := Lib.hid (HX.out.at hb)
  replace HBW := Lib.hid (HBW.out.trans (hb.mono HBW.out.size))
  clear hb
  go_wp2_with fail
  refine (BO2.out _ _ HT.out).mono ?_
  rintro e w6 ⟨rfl, hb⟩
  replace HX := Lib.hid (HX.out.at hb)
  replace HBW := Lib.hid (HBW.out.trans (hb.mono HBW.out.size))
  clear hb HT
  have fX0 := HX.out.1.c0
  have fX1 := HX.out.1.c1
  have fXz := HX.out.1.lt
  go_wp2_with fail
  refine (own_any d _ l _ HX.out.2 (by have := VX.out.len; omega)).mono ?_
  rintro e w7o ⟨v7, rfl, ht, hb, _⟩
  have HT := Lib.hid ht
  clear fX0 fX1 fXz ht
  replace HX := Lib.hid (HX.out.at hb)
  replace HBW := Lib.hid (HBW.out.trans (hb.mono HBW.out.size))
  clear hb
  go_wp2_with fail
  refine (FL.out _ _ HT.out).mono ?_
  rintro e w7 ⟨rfl, hb⟩
  replace HX := Lib.hid (HX.out.at hb)
  replace HBW := Lib.hid (HBW.out.trans (hb.mono HBW.out.size))
  clear hb HT
  have fX0 := HX.out.1.c0
  have fX1 := HX.out.1.c1
  have fXz := HX.out.1.lt
  go_wp2_with fail
  refine (own_any d _ l _ HX.out.2 (by have := VX.out.len; omega)).mono ?_
  rintro e w8o ⟨v8, rfl, ht, hb, _⟩
  have HT := Lib.hid ht
  clear fX0 fX1 fXz ht
  replace HX := Lib.hid (HX.out.at hb)
  replace HBW := Lib.hid (HBW.out.trans (hb.mono HBW.out.size))
  clear hb
  go_wp2_with fail
  refine (BO3.out _ _ HT.out).mono ?_
  rintro e w8 ⟨rfl, hb⟩
  replace HX := Lib.hid (HX.out.at hb)
  replace HBW := Lib.hid (HBW.out.trans (hb.mono HBW.out.size))
  clear hb HT
  clear hm hk' hw1 hw2 hw3 BO1 BO2 BO3 FL
  have hlb : -512000000001 ≤ low ∧ low ≤ 512000000000 := by omega
  obtain ⟨lb3, lb4⟩ := hlb
  clear lb1 lb2 nb1 nb2
  go_upto_region 8 with fail
  go_cut [102] (fun s wx => s = .bool false ∧ wx = w8)
  case first =>
    have hq : IntKind.i64.wrap (high - low) = 0 ∨ IntKind.i64.wrap (high - low) = 1 := by
      rcases HLH.out with h | h
      · exact .inl (by rw [h, Int.sub_self]; rfl)
      · exact .inr (by rw [h, show low + 1 - low = 1 by omega]; rfl)
    clear lb3 lb4
    rcases hq with hq | hq
    all_goals
      go_wp2_with fail
      go_meet
      exact ⟨rfl, rfl⟩
  case rest KK0 hKK0 =>
    obtain ⟨rfl, rfl⟩ := hcut
    obtain ⟨w8, hw⟩ : ∃ W, W = wc := ⟨wc, rfl⟩
    subst hw
    have hsc := HSC.out
    obtain ⟨sc1, sc2, sc3⟩ := hsc
    have hhb : -512000000001 ≤ high ∧ high ≤ 512000000001 := by rcases HLH.out with h | h <;> omega
    obtain ⟨hb3, hb4⟩ := hhb
    have hlk := mulab2 lb3 lb4 k1 k2
    have hhk := mulab2 hb3 (show high ≤ 512000000001 by omega) k1 k2
    obtain ⟨hlk1, hlk2⟩ := hlk
    obtain ⟨hhk1, hhk2⟩ := hhk
    have hw3 : IntKind.i64.wrap (low * k) = low * k := IntWalk.i64_in _ (by omega)
    have hw4 : IntKind.i64.wrap (high * k) = high * k := IntWalk.i64_in _ (by omega)
    obtain ⟨lk, hlke⟩ : ∃ x, low * k = x := ⟨_, rfl⟩
    obtain ⟨hk2, hhke⟩ : ∃ x, high * k = x := ⟨_, rfl⟩
    rw [hlke] at sc1 hw3
    rw [hhke] at sc2 hw4
    have HLKE := Lib.hid hlke
    have HHKE := Lib.hid hhke
    clear hlke hhke hlk1 hlk2 hhk1 hhk2
    go_upto_region 10 with fail
    go_cut [127] (fun s wx => s = .bool false ∧ wx = w8)
    case first =>
      have hz1 : decide (low < -1000000000000) = false := decide_eq_false (by omega)
      have hz2 : decide (1000000000000 < low) = false := decide_eq_false (by omega)
      have hz3 : decide (less < lk) = false := decide_eq_false (by omega)
      have hz4 : decide (hk2 < more) = false := decide_eq_false (by omega)
      have hz5 : decide (more < less) = false := decide_eq_false (by omega)
      rw [← HLKE.out] at hz3 hw3
      rw [← HHKE.out] at hz4 hw4
      go_wp2_with fail
      go_meet
      exact ⟨rfl, rfl⟩
    case rest KK0 hKK0 =>
      obtain ⟨rfl, rfl⟩ := hcut
      obtain ⟨w8, hw⟩ : ∃ W, W = wc := ⟨wc, rfl⟩
      subst hw
      clear hw3 hw4 sc1 sc2 sc3 HSC HLKE HHKE
      by_cases hlo : low < -100000
      · have hz1 : decide (low < -100000) = true := decide_eq_true hlo
        go_wp2_with fail
        refine (hk.out _ (HW.out.below HBW.out)).mono ?_
        rintro e wk ⟨rfl, hb⟩
        have HBK := Lib.hid (HBW.out.trans (hb.mono HBW.out.size))
        clear hb
        go_wp2
        go_ret
        exact ⟨rfl, HBK.out⟩
      have hz1 : decide (low < -100000) = false := decide_eq_false hlo
      by_cases hhi : 100000 < high
      · have hz2 : decide (100000 < high) = true := decide_eq_true hhi
        go_wp2_with fail
        refine (hk.out _ (HW.out.below HBW.out)).mono ?_
        rintro e wk ⟨rfl, hb⟩
        have HBK := Lib.hid (HBW.out.trans (hb.mono HBW.out.size))
        clear hb
        go_wp2
        go_ret
        exact ⟨rfl, HBK.out⟩
      have hz2 : decide (100000 < high) = false := decide_eq_false hhi
      have hlow : low ≤ 100000 := by rcases HLH.out with h | h <;> omega
      have hhigh : -100000 ≤ high := by rcases HLH.out with h | h <;> omega
      have TM : TermsAt (w8.alloc (.cells #[.int .i64 low, .int .i64 1] 34)) (.slice (some ⟨w8.heap.size, 0, none⟩) 1 1) [(low, 1)] := termsAt_one _ _ 1 (low, 1) (by simp) (Nat.le_refl _) (cell_two_new w8 _ _ 34 0 _ rfl) (cell_two_new w8 _ _ 34 1 _ rfl)
      have BM : Below w8.heap.size w8 (w8.alloc (.cells #[.int .i64 low, .int .i64 1] 34)) := (Below.refl _ _).alloc (Nat.le_refl _) _
      have HTM := Lib.hid TM
      have HBM := Lib.hid BM
      clear TM BM
      go_wp2_with fail
      refine (make_any hsort m _ [(low, 1)] _ HTM.out).mono ?_
      rintro e w9 ⟨rA, hP, v, rfl, ht, hb, _⟩
      obtain ⟨zA, VA, EA⟩ := make_frac m1 (by omega) (by omega) (by omega) hP
      obtain ⟨aA, cA, rfl, _⟩ := ht.placed
      obtain ⟨xA, hxA⟩ : ∃ x, rA.2.2 = x := ⟨_, rfl⟩
      rw [hxA] at zA ⊢
      subst zA
      have hq : Below w9.heap.size w9 (w9.alloc (.cells #[.int .i64 rA.1, .slice aA rA.2.1.length cA] 24)) := (Below.refl _ _).alloc (Nat.le_refl _) _
      replace HX := Lib.hid (((HX.out.at HBM.out).at hb).at hq)
      replace HBW := Lib.hid (((HBW.out.trans (HBM.out.mono HBW.out.size)).trans (hb.mono (Nat.le_trans HBW.out.size HBM.out.size))).trans (hq.mono (Nat.le_trans (Nat.le_trans HBW.out.size HBM.out.size) hb.size)))
      have HA : Hid (BoxW (w9.alloc (.cells #[.int .i64 rA.1, .slice aA rA.2.1.length cA] 24)) w9.heap.size rA.1 (.slice aA rA.2.1.length cA) rA.2.1) := Lib.hid ⟨Two.new _ _ _ _, ht.alloc _⟩
      have HVA := Lib.hid VA
      have HEA := Lib.hid EA
      have HXA := Lib.hid hxA
      clear hb ht hq hP HTM HBM VA EA hxA
      obtain ⟨w9b, hwA⟩ : ∃ W, w9.alloc (.cells #[.int .i64 rA.1, .slice aA rA.2.1.length cA] 24) = W := ⟨_, rfl⟩
      obtain ⟨bA, hbA⟩ : ∃ n, w9.heap.size = n := ⟨_, rfl⟩
      rw [hwA] at HX
      rw [hwA] at HBW HA
      rw [hbA] at HA
      have TM : TermsAt (w9b.alloc (.cells #[.int .i64 high, .int .i64 1] 34)) (.slice (some ⟨w9b.heap.size, 0, none⟩) 1 1) [(high, 1)] := termsAt_one _ _ 1 (high, 1) (by simp) (Nat.le_refl _) (cell_two_new w9b _ _ 34 0 _ rfl) (cell_two_new w9b _ _ 34 1 _ rfl)
      have BM : Below w9b.heap.size w9b (w9b.alloc (.cells #[.int .i64 high, .int .i64 1] 34)) := (Below.refl _ _).alloc (Nat.le_refl _) _
      have HTM := Lib.hid TM
      have HBM := Lib.hid BM
      clear TM BM
      go_wp2_with fail
      refine (make_any hsort m _ [(high, 1)] _ HTM.out).mono ?_
      rintro e w10 ⟨rB, hP, v, rfl, ht, hb, _⟩
      obtain ⟨zB, VB, EB⟩ := make_frac m1 (by omega) (by omega) (by omega) hP
      obtain ⟨aB, cB, rfl, _⟩ := ht.placed
      obtain ⟨xB, hxB⟩ : ∃ x, rB.2.2 = x := ⟨_, rfl⟩
      rw [hxB] at zB ⊢
      subst zB
      have hq : Below w10.heap.size w10 (w10.alloc (.cells #[.int .i64 rB.1, .slice aB rB.2.1.length cB] 24)) := (Below.refl _ _).alloc (Nat.le_refl _) _
      replace HX := Lib.hid (((HX.out.at HBM.out).at hb).at hq)
      replace HA := Lib.hid (((HA.out.at HBM.out).at hb).at hq)
      replace HBW := Lib.hid (((HBW.out.trans (HBM.out.mono HBW.out.size)).trans (hb.mono (Nat.le_trans HBW.out.size HBM.out.size))).trans (hq.mono (Nat.le_trans (Nat.le_trans HBW.out.size HBM.out.size) hb.size)))
      have HB : Hid (BoxW (w10.alloc (.cells #[.int .i64 rB.1, .slice aB rB.2.1.length cB] 24)) w10.heap.size rB.1 (.slice aB rB.2.1.length cB) rB.2.1) := Lib.hid ⟨Two.new _ _ _ _, ht.alloc _⟩
      have HVB := Lib.hid VB
      have HEB := Lib.hid EB
      have HXB := Lib.hid hxB
      clear hb ht hq hP HTM HBM VB EB hxB
      obtain ⟨w10b, hwB⟩ : ∃ W, w10.alloc (.cells #[.int .i64 rB.1, .slice aB rB.2.1.length cB] 24) = W := ⟨_, rfl⟩
      obtain ⟨bB, hbB⟩ : ∃ n, w10.heap.size = n := ⟨_, rfl⟩
      rw [hwB] at HX
      rw [hwB] at HA
      rw [hwB] at HBW HB
      rw [hbB] at HB
      go_upto_region 16 with fail
      try rw [hwA, hbA]
      try rw [hwB, hbB]
      clear hwA hbA hwB hbB
      have KK : Hid (∀ w', Below w10b.heap.size w10b w' → w'.cell? ⟨w.heap.size, 0, none⟩ = some (.int .i64 d) ∧ w'.cell? ⟨w.heap.size, 1, none⟩ = some (.slice ax l.length cx) ∧ w'.cell? ⟨bA, 0, none⟩ = some (.int .i64 rA.1) ∧ w'.cell? ⟨bA, 1, none⟩ = some (.slice aA rA.2.1.length cA)) := Lib.hid fun w' hb => ⟨(HX.out.at hb).1.c0, (HX.out.at hb).1.c1, (HA.out.at hb).1.c0, (HA.out.at hb).1.c1⟩
      have TT := Lib.hid (fun w' (hb : Below w10b.heap.size w10b w') => (HX.out.at hb).2)
      have TA := Lib.hid (fun w' (hb : Below w10b.heap.size w10b w') => (HA.out.at hb).2)
      have OO := Lib.hid (fun w' h => own_any d (.slice ax l.length cx) l w' h (by have := VX.out.len; omega))
      have B0 := Below.refl w10b.heap.size w10b
      have zx := HX.out.1.lt
      have za := HA.out.1.lt
      go_cut [22, 16] (fun p q wx => ∃ n, p = .int .i64 n ∧ q = .int .i64 0 ∧ CmpN rA.1 rA.2.1 d l n ∧ Below w10b.heap.size w10b wx)
      case first =>
        go_region_held3 (fun w' => w'.cell? ⟨w.heap.size, 0, none⟩ = some (.int .i64 d) ∧ w'.cell? ⟨w.heap.size, 1, none⟩ = some (.slice ax l.length cx) ∧ w'.cell? ⟨bA, 0, none⟩ = some (.int .i64 rA.1) ∧ w'.cell? ⟨bA, 1, none⟩ = some (.slice aA rA.2.1.length cA))
          (exact KK.out _ (by (first | assumption | exact B0 | exact B0.drew | exact B0.alloc (by first | exact Nat.le_refl _ | exact B0.size) _ | exact (B0.drew).alloc (by first | exact Nat.le_refl _ | exact B0.size) _ | exact Below.alloc (by assumption) (Below.size (by assumption)) _)))
          (first
            | (go_at_call 19; ((with_reducible refine (OO.out _ ?_).mono ?_); (exact TT.out _ (by (first | assumption | exact B0 | exact B0.drew | exact B0.alloc (by first | exact Nat.le_refl _ | exact B0.size) _ | exact (B0.drew).alloc (by first | exact Nat.le_refl _ | exact B0.size) _ | exact Below.alloc (by assumption) (Below.size (by assumption)) _)))); rintro e w2 ⟨v2, rfl, ht2, hb2, hk2⟩; have B2 := Below.chain (W := w10b) (by (first | assumption | exact B0 | exact B0.drew | exact B0.alloc (by first | exact Nat.le_refl _ | exact B0.size) _ | exact (B0.drew).alloc (by first | exact Nat.le_refl _ | exact B0.size) _ | exact Below.alloc (by assumption) (Below.size (by assumption)) _)) hb2)
            | (go_at_call 34; ((with_reducible refine (cmp_call2 HVA VX _ _ _ ?_ ?_).mono ?_); (exact TA.out _ (by (first | assumption | exact B0 | exact B0.drew | exact B0.alloc (by first | exact Nat.le_refl _ | exact B0.size) _ | exact (B0.drew).alloc (by first | exact Nat.le_refl _ | exact B0.size) _ | exact Below.alloc (by assumption) (Below.size (by assumption)) _))); (exact ht2)); rintro e w3 ⟨n, hP, rfl, hb3⟩; have B3 := Below.chain (W := w10b) (by (first | assumption | exact B0 | exact B0.drew | exact B0.alloc (by first | exact Nat.le_refl _ | exact B0.size) _ | exact (B0.drew).alloc (by first | exact Nat.le_refl _ | exact B0.size) _ | exact Below.alloc (by assumption) (Below.size (by assumption)) _)) hb3))
        all_goals
          go_wp2_with fail
          go_meet
          exact ⟨n, rfl, rfl, hP, B3⟩
      case rest KK0 hKK0 =>
        obtain ⟨p, rfl, rfl, hP, hb⟩ := hcut
        obtain ⟨wnp, hw⟩ : ∃ W, W = wc := ⟨wc, rfl⟩
        subst hw
        have Sp := Lib.hid (fun s h => cmp_low VX.out m1 HVA.out HEA.out (J := low) (s := s) h (cmp_sg HVA.out VX.out hP))
        replace HX := Lib.hid (HX.out.at hb)
        replace HA := Lib.hid (HA.out.at hb)
        replace HB := Lib.hid (HB.out.at hb)
        replace HBW := Lib.hid (HBW.out.trans (hb.mono HBW.out.size))
        clear B0 KK TT TA OO zx za hb hP
        clear HA HVA HEA HXA
        have KK : Hid (∀ w', Below wnp.heap.size wnp w' → w'.cell? ⟨w.heap.size, 0, none⟩ = some (.int .i64 d) ∧ w'.cell? ⟨w.heap.size, 1, none⟩ = some (.slice ax l.length cx) ∧ w'.cell? ⟨bB, 0, none⟩ = some (.int .i64 rB.1) ∧ w'.cell? ⟨bB, 1, none⟩ = some (.slice aB rB.2.1.length cB)) := Lib.hid fun w' hb => ⟨(HX.out.at hb).1.c0, (HX.out.at hb).1.c1, (HB.out.at hb).1.c0, (HB.out.at hb).1.c1⟩
        have TT := Lib.hid (fun w' (hb : Below wnp.heap.size wnp w') => (HX.out.at hb).2)
        have TA := Lib.hid (fun w' (hb : Below wnp.heap.size wnp w') => (HB.out.at hb).2)
        have OO := Lib.hid (fun w' h => own_any d (.slice ax l.length cx) l w' h (by have := VX.out.len; omega))
        have B0 := Below.refl wnp.heap.size wnp
        have zx := HX.out.1.lt
        have za := HB.out.1.lt
        go_upto_region 17 with fail
        go_cut [23, 19] (fun p q wx => ∃ n, p = .int .i64 n ∧ q = .int .i64 0 ∧ CmpN d l rB.1 rB.2.1 n ∧ Below wnp.heap.size wnp wx)
        case first =>
          go_region_held3 (fun w' => w'.cell? ⟨w.heap.size, 0, none⟩ = some (.int .i64 d) ∧ w'.cell? ⟨w.heap.size, 1, none⟩ = some (.slice ax l.length cx) ∧ w'.cell? ⟨bB, 0, none⟩ = some (.int .i64 rB.1) ∧ w'.cell? ⟨bB, 1, none⟩ = some (.slice aB rB.2.1.length cB))
            (exact KK.out _ (by (first | assumption | exact B0 | exact B0.drew | exact B0.alloc (by first | exact Nat.le_refl _ | exact B0.size) _ | exact (B0.drew).alloc (by first | exact Nat.le_refl _ | exact B0.size) _ | exact Below.alloc (by assumption) (Below.size (by assumption)) _)))
            (first
              | (go_at_call 19; ((with_reducible refine (OO.out _ ?_).mono ?_); (exact TT.out _ (by (first | assumption | exact B0 | exact B0.drew | exact B0.alloc (by first | exact Nat.le_refl _ | exact B0.size) _ | exact (B0.drew).alloc (by first | exact Nat.le_refl _ | exact B0.size) _ | exact Below.alloc (by assumption) (Below.size (by assumption)) _)))); rintro e w2 ⟨v2, rfl, ht2, hb2, hk2⟩; have B2 := Below.chain (W := wnp) (by (first | assumption | exact B0 | exact B0.drew | exact B0.alloc (by first | exact Nat.le_refl _ | exact B0.size) _ | exact (B0.drew).alloc (by first | exact Nat.le_refl _ | exact B0.size) _ | exact Below.alloc (by assumption) (Below.size (by assumption)) _)) hb2)
              | (go_at_call 34; ((with_reducible refine (cmp_call2 VX HVB _ _ _ ?_ ?_).mono ?_); (exact ht2); (exact TA.out _ (by (first | assumption | exact B0 | exact B0.drew | exact B0.alloc (by first | exact Nat.le_refl _ | exact B0.size) _ | exact (B0.drew).alloc (by first | exact Nat.le_refl _ | exact B0.size) _ | exact Below.alloc (by assumption) (Below.size (by assumption)) _)))); rintro e w3 ⟨n, hP, rfl, hb3⟩; have B3 := Below.chain (W := wnp) (by (first | assumption | exact B0 | exact B0.drew | exact B0.alloc (by first | exact Nat.le_refl _ | exact B0.size) _ | exact (B0.drew).alloc (by first | exact Nat.le_refl _ | exact B0.size) _ | exact Below.alloc (by assumption) (Below.size (by assumption)) _)) hb3))
          all_goals
            go_wp2_with fail
            go_meet
            exact ⟨n, rfl, rfl, hP, B3⟩
        case rest KK0 hKK0 =>
          obtain ⟨q, rfl, rfl, hP, hb⟩ := hcut
          obtain ⟨wnq, hw⟩ : ∃ W, W = wc := ⟨wc, rfl⟩
          subst hw
          have Sq := Lib.hid (fun s h => cmp_high VX.out m1 HVB.out HEB.out (J := high) (s := s) h (cmp_sg VX.out HVB.out hP))
          replace HX := Lib.hid (HX.out.at hb)
          replace HB := Lib.hid (HB.out.at hb)
          replace HBW := Lib.hid (HBW.out.trans (hb.mono HBW.out.size))
          clear B0 KK TT TA OO zx za hb hP
          clear HB HVB HEB HXB
          have hs1 := HS1.out
          have hfin : (high = low + 1 ∧ p = -1 ∧ q = -1) ∨ (high = low ∧ p = 0 ∧ q = 0) := by
            rcases hs1 with ⟨e, h1, h2⟩ | ⟨e, h1⟩
            · exact .inl ⟨e, Sp.out 1 h1, Sq.out (-1) h2⟩
            · exact .inr ⟨e, Sp.out 0 h1, Sq.out 0 (by rw [e]; exact h1)⟩
          clear hs1 Sp Sq
          rcases hfin with ⟨rfl, rfl, rfl⟩ | ⟨rfl, rfl, rfl⟩
          · have hz9 : (low == low + 1) = false := by simp; omega
            go_wp2_with fail
            refine (hk.out _ (HW.out.below HBW.out)).mono ?_
            rintro e wk ⟨rfl, hb⟩
            have HBK := Lib.hid (HBW.out.trans (hb.mono HBW.out.size))
            clear hb
            go_wp2
            go_ret
            exact ⟨rfl, HBK.out⟩
          · skip
            go_wp2_with fail
            refine (hk.out _ (HW.out.below HBW.out)).mono ?_
            rintro e wk ⟨rfl, hb⟩
            have HBK := Lib.hid (HBW.out.trans (hb.mono HBW.out.size))
            clear hb
            go_wp2
            go_ret
            exact ⟨rfl, HBK.out⟩
end Go.Proofs.YtedpafdfecofnaaGreatDoor
