/-
  Contracts of the program's own functions (and their plain mathematics), on the way to the law: each for all arguments that its hypotheses let.
-/
import Derived.Test.YtedpafdfecofnaaGreatDoorF12
import Derived.Test.YtedpafdfecofnaaGreatDoorF63
import Derived.Test.YtedpafdfecofnaaGreatDoorF47
import Derived.WalkKit
import Derived.WalkSpells
import Derived.WalkLawsBesides
import Derived.Deep.QuietTactic
import Derived.BigQuiet
import Derived.Lib.Hide
import Derived.WalkSmall
import Derived.Maps.OwnSet
import Derived.Maps.RangeWalk
import Derived.Deep.RegionWith
import Derived.Deep.RegionHeld3
import Derived.Deep.DrawnRows
import Derived.Deep.DeepCutAuto
import Derived.OneCell
import Derived.KernelRfl
import Derived.Laws.StructEq
import Derived.StillTailTactics
import Derived.Laws.Externs
import Derived.RangeFuncBox
import Derived.Test.YtedpafdfecofnaaGreatDoorPlain
set_option linter.unusedSimpArgs false
set_option linter.unusedVariables false

/-! ## D16 -/
namespace Go.Proofs.YtedpafdfecofnaaGreatDoor
open Go.RowKit Go.Maps Go.Shelf Go.Sort
theorem below_bounds {d m : Int} {l : List (Int × Int)} (V : Vld d l) {low high n s : Int} (B : BSpec d m l low high) (h1 : Sg (extL m l (n * d)) s) (h2 : 0 ≤ s) (h3 : Sg (extL m l ((n + 1) * d)) (-1)) :
    low = n ∧ ((0 < s ∧ high = n + 1) ∨ (¬ 0 < s ∧ high = n)) := by
  have hd := V.d1
  have up : ∀ {J J' a b : Int}, Sg (extL m l (J * d)) a → Sg (extL m l (J' * d)) b → 0 ≤ a → b ≤ 0 → J ≤ J' ∧ (J = J' → a = 0 ∧ b = 0) := fun {J J' a b} ha hb h0 h0' => by
    have := ext_le (k := 1) hd (by omega) ha (by rw [Int.mul_one]; exact hb) h0 h0'
    rw [Int.mul_one] at this
    exact this
  rcases B with ⟨rfl, b1, b2⟩ | ⟨rfl, b1⟩
  · have u1 := up b1 h3 (by decide) (by decide)
    have u2 := up h1 b2 h2 (by decide)
    have e : low = n := by
      rcases Int.lt_or_le n low with h | h
      · have := u1.2 (by omega); omega
      · rcases Int.lt_or_le low n with h' | h'
        · have := u2.2 (by omega); omega
        · omega
    subst e
    have := h1.uniq b1
    exact ⟨rfl, .inl ⟨by omega, rfl⟩⟩
  · have u1 := up b1 h3 (by decide) (by decide)
    have u2 := up h1 b1 h2 (by decide)
    have e : high = n := by
      rcases Int.lt_or_le n high with h | h
      · have := u1.2 (by omega); omega
      · omega
    subst e
    have := h1.uniq b1
    exact ⟨rfl, .inr ⟨by omega, rfl⟩⟩
set_option maxRecDepth 100000 in
set_option maxHeartbeats 8000000 in
theorem bounds_walk (hk : Hid KnownT) (d : Int) (v : Value) (l : List (Int × Int)) (den : Int) (w : World) (ht : TermsAt w v l) (hw : WOk w) :
    Calls Tryz.prog 8 #[.agg #[.int .i64 d, v], .int .i64 den] w (AnsB true w) := by
  obtain ⟨a, cap, rfl, px⟩ := ht.placed
  have HB0 : Hid (Below w.heap.size w (w.alloc (.cells #[.int .i64 d, .slice a l.length cap] 24))) := Lib.hid ((Below.refl _ w).alloc (Nat.le_refl _) _)
  have HT0 := Lib.hid (ht.below HB0.out)
  have HW := Lib.hid hw
  have X := Lib.hid (Two.new w (.int .i64 d) (.slice a l.length cap) 24)
  clear px ht hw
  go_enter Tryz.func8, Tryz.ntmps8
  go_wp2_with fail
  refine (long_any d _ l _ HT0.out).mono ?_
  rintro e w1 ⟨rfl, hb1⟩
  have HBn := Lib.hid (HB0.out.trans (hb1.mono HB0.out.size))
  have HT1 := Lib.hid (HT0.out.below hb1)
  have X1 := Lib.hid (X.out.below hb1 (by simp))
  clear hb1 HT0 HB0 X
  by_cases hlong : 8 < l.length
  · have e : decide (8 < l.length) = true := decide_eq_true hlong
    rw [e]
    clear e
    go_wp2_with fail
    refine (hk.out _ (HW.out.below HBn.out)).mono ?_
    rintro e wk ⟨rfl, hbk⟩
    have HBk := Lib.hid (HBn.out.trans (hbk.mono HBn.out.size))
    clear hbk
    go_wp2
    go_ret
    exact ⟨rfl, HBk.out⟩
  have e : decide (8 < l.length) = false := decide_eq_false hlong
  rw [e]
  clear e
  have c0 := X1.out.c0
  have c1 := X1.out.c1
  have hz : w.heap.size < w1.heap.size := X1.out.lt
  go_wp2_with fail
  refine (own_any d _ l _ HT1.out (by omega)).mono ?_
  rintro e w2 ⟨v2, rfl, ht2, hb2, _⟩
  have HB2 := Lib.hid (HBn.out.trans (hb2.mono HBn.out.size))
  have HT2 := Lib.hid ht2
  have HX2 := Lib.hid (X1.out.below hb2 hz)
  have HTX := Lib.hid (HT1.out.below hb2)
  clear hb2 ht2 c0 c1 HBn
  have HBS : Hid (∀ V : Vld d l, 1 ≤ den → den ≤ 1000000000 → (BoundsF d den l).2.2 = 0 ∧ BSpec d den l (BoundsF d den l).1 (BoundsF d den l).2.1 ∧ -(12800000 * den) - 1 ≤ (BoundsF d den l).1 ∧ (BoundsF d den l).1 ≤ 12800000 * den) := Lib.hid fun V h1 h2 => bounds_spec V h1 h2
  have HN1 : Hid (¬ validF d l = true → BoundsF d den l = (0, 0, 2)) := Lib.hid fun h => by unfold BoundsF; rw [if_neg h]
  have HN2 : Hid (validF d l = true → ¬ (1 ≤ den ∧ den ≤ 1000000000) → BoundsF d den l = (0, 0, 3)) := Lib.hid fun h h2 => by unfold BoundsF; rw [if_pos h, if_neg (by simp only [inB]; simp; omega)]
  have hbo := fun w0 h0 => bounds_ok d den v2 l w0 h0
  obtain ⟨⟨low, high, er⟩, hr⟩ : ∃ r, BoundsF d den l = r := ⟨_, rfl⟩
  rw [hr] at HBS HN1 HN2 hbo
  dsimp only at HBS
  have HBO := Lib.hid hbo
  clear hbo hr
  go_wp2_with fail
  refine (HBO.out _ HT2.out).mono ?_
  rintro e w3 ⟨rfl, hb3⟩
  dsimp only
  have HB3 := Lib.hid (HB2.out.trans (hb3.mono HB2.out.size))
  have HX3 := Lib.hid (HX2.out.below hb3 HX2.out.lt)
  have HT3 := Lib.hid (HTX.out.below hb3)
  clear hb3 HT2 HB2 HX2 HTX HBO
  have hnum := number_any d (.slice a l.length cap) l
  by_cases hv : validF d l = true
  · have V := vld_of hv
    have HVV := Lib.hid V
    have hd1 := V.d1
    rw [hv] at hnum
    have HNUM := Lib.hid hnum
    have HN3 := Lib.hid (HN2.out hv)
    clear hnum hv V HN2 HN1
    have c0 := HX3.out.c0
    have c1 := HX3.out.c1
    have hz := HX3.out.lt
    go_wp2_with fail
    refine (HNUM.out _ HT3.out).mono ?_
    rintro e w4 ⟨rfl, hb⟩
    have HBn := Lib.hid (HB3.out.trans (hb.mono HB3.out.size))
    have HX4 := Lib.hid (HX3.out.below hb HX3.out.lt)
    have HT4 := Lib.hid (HT3.out.below hb)
    clear hb c0 c1 hz HB3 HX3 HT3
    by_cases h1 : den < 1
    · obtain ⟨rfl, rfl, rfl⟩ : low = 0 ∧ high = 0 ∧ er = 3 := by have := HN3.out (by omega); simpa using this
      go_wp2_with fail
      refine (hk.out _ (HW.out.below HBn.out)).mono ?_
      rintro e wk ⟨rfl, hbk⟩
      have HBk := Lib.hid (HBn.out.trans (hbk.mono HBn.out.size))
      clear hbk
      go_wp2
      go_ret
      exact ⟨rfl, HBk.out⟩
    by_cases h2 : 1000000000 < den
    · obtain ⟨rfl, rfl, rfl⟩ : low = 0 ∧ high = 0 ∧ er = 3 := by have := HN3.out (by omega); simpa using this
      go_wp2_with fail
      refine (hk.out _ (HW.out.below HBn.out)).mono ?_
      rintro e wk ⟨rfl, hbk⟩
      have HBk := Lib.hid (HBn.out.trans (hbk.mono HBn.out.size))
      clear hbk
      go_wp2
      go_ret
      exact ⟨rfl, HBk.out⟩
    obtain ⟨rfl, hsp, hlo, hhi⟩ := HBS.out HVV.out (by omega) (by omega)
    have HSP := Lib.hid hsp
    have hden1 : 1 ≤ den := by omega
    have hden2 : den ≤ 1000000000 := by omega
    have c0 := HX4.out.c0
    have c1 := HX4.out.c1
    have hz := HX4.out.lt
    clear hsp HBS HN3
    go_wp2_with fail
    refine (below_any d den _ l _ HT4.out HVV.out hden1 hden2).mono ?_
    rintro e w5 ⟨n, s, rfl, hs1, hs2, hs3, hb, hn1, hn2, hn3, hn4⟩
    obtain ⟨rfl, hcase⟩ := below_bounds HVV.out HSP.out hs1 hs2 hs3
    have HS1 := Lib.hid hs1
    have HC := Lib.hid hcase
    have HB5 := Lib.hid (HBn.out.trans (hb.mono HBn.out.size))
    have HX5 := Lib.hid (HX4.out.below hb HX4.out.lt)
    have HT5 := Lib.hid (HT4.out.below hb)
    clear hs1 hs3 hcase hb c0 c1 hz HBn HX4 HT4 HSP
    have HBD := Lib.hid (fun w0 h0 => beside_any d den low (.slice a l.length cap) l w0 h0 HVV.out hden1 hden2 (by omega) (by omega) (by omega) (by omega))
    have c0 := HX5.out.c0
    have c1 := HX5.out.c1
    have hz := HX5.out.lt
    clear hn3 hn4
    go_wp2_with fail
    refine (HBD.out _ HT5.out).mono ?_
    rintro e w6 ⟨n2, rfl, hsg, hb⟩
    obtain rfl : n2 = s := hsg.uniq HS1.out
    have HBn := Lib.hid (HB5.out.trans (hb.mono HB5.out.size))
    clear hsg hb c0 c1 hz HB5 HX5 HT5 HBD HS1
    have wn : IntKind.i64.wrap (low + 1) = low + 1 := IntWalk.i64_in _ (by omega)
    rcases HC.out with ⟨hp, rfl⟩ | ⟨hp, rfl⟩
    · clear HC
      go_wp2_with fail
      refine (hk.out _ (HW.out.below HBn.out)).mono ?_
      rintro e wk ⟨rfl, hbk⟩
      have HBk := Lib.hid (HBn.out.trans (hbk.mono HBn.out.size))
      clear hbk
      go_wp2
      go_ret
      exact ⟨rfl, HBk.out⟩
    · clear HC
      go_wp2_with fail
      refine (hk.out _ (HW.out.below HBn.out)).mono ?_
      rintro e wk ⟨rfl, hbk⟩
      have HBk := Lib.hid (HBn.out.trans (hbk.mono HBn.out.size))
      clear hbk
      go_wp2
      go_ret
      exact ⟨rfl, HBk.out⟩
  · obtain ⟨rfl, rfl, rfl⟩ : low = 0 ∧ high = 0 ∧ er = 2 := by have := HN1.out hv; simpa using this
    have hv0 : validF d l = false := by simpa using hv
    rw [hv0] at hnum
    have HNUM := Lib.hid hnum
    clear hv hv0 hnum HN1 HN2 HBS
    have c0 := HX3.out.c0
    have c1 := HX3.out.c1
    have hz := HX3.out.lt
    go_wp2_with fail
    refine (HNUM.out _ HT3.out).mono ?_
    rintro e w4 ⟨rfl, hb⟩
    have HBn := Lib.hid (HB3.out.trans (hb.mono HB3.out.size))
    have HX4 := Lib.hid (HX3.out.below hb HX3.out.lt)
    have HT4 := Lib.hid (HT3.out.below hb)
    clear hb c0 c1 hz HB3 HX3 HT3
    go_wp2_with fail
    refine (hk.out _ (HW.out.below HBn.out)).mono ?_
    rintro e wk ⟨rfl, hbk⟩
    have HBk := Lib.hid (HBn.out.trans (hbk.mono HBn.out.size))
    clear hbk
    go_wp2
    go_ret
    exact ⟨rfl, HBk.out⟩
end Go.Proofs.YtedpafdfecofnaaGreatDoor
