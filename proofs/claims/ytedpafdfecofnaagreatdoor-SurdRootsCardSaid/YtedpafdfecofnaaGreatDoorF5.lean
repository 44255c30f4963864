/-
  Contracts of the program's own functions (and their plain mathematics), on the way to the law: each for all arguments that its hypotheses let.
-/
import Derived.Test.YtedpafdfecofnaaGreatDoorF4
import Derived.WalkKit
import Derived.WalkSpells
import Derived.WalkLawsBesides
import Derived.Deep.QuietTactic
import Derived.BigQuiet
import Derived.Lib.Hide
import Derived.WalkSmall
import Derived.Maps.OwnSet
import Derived.Maps.RangeWalk
import Derived.Deep.RegionWith
import Derived.Deep.RegionHeld3
import Derived.OneCell
import Derived.RangeFuncBox
import Derived.Test.YtedpafdfecofnaaGreatDoorPlain
set_option linter.unusedSimpArgs false
set_option linter.unusedVariables false

/-! ## S15 -/
namespace Go.Proofs.YtedpafdfecofnaaGreatDoor
open Go.RowKit Go.Maps
def bestSq (n : Int) (k : Nat) : Nat := (List.range k).foldl (fun (b d : Nat) => if 1 ≤ d ∧ n % ((d : Int) * (d : Int)) = 0 then d else b) 1
def splitF (n : Int) : Int × Int := if n = 0 then (0, 1) else ((bestSq n 32 : Int), n / ((bestSq n 32 : Int) * (bestSq n 32 : Int)))
theorem bestSq_spec (n : Int) (k : Nat) : 1 ≤ bestSq n k ∧ ((bestSq n k : Int) * (bestSq n k : Int)) ∣ n ∧ ∀ d : Nat, 1 ≤ d → d < k → ((d : Int) * (d : Int)) ∣ n → d ≤ bestSq n k := by
  induction k with
  | zero => exact ⟨by simp [bestSq], by simp [bestSq], fun d _ h => by omega⟩
  | succ k ih =>
    obtain ⟨h1, h2, h3⟩ := ih
    have e : bestSq n (k + 1) = if 1 ≤ k ∧ n % ((k : Int) * (k : Int)) = 0 then k else bestSq n k := by
      unfold bestSq
      rw [List.range_succ, List.foldl_append]; rfl
    rw [e]
    by_cases hk : 1 ≤ k ∧ n % ((k : Int) * (k : Int)) = 0
    · rw [if_pos hk]
      exact ⟨hk.1, Int.dvd_of_emod_eq_zero hk.2, fun d _ hd _ => by omega⟩
    · rw [if_neg hk]
      refine ⟨h1, h2, fun d hd1 hd2 hdd => ?_⟩
      by_cases hdk : d = k
      · subst hdk; exact absurd ⟨hd1, Int.emod_eq_zero_of_dvd hdd⟩ hk
      · exact h3 d hd1 (by omega) hdd
theorem splitF_spec (n : Int) (h1 : 1 ≤ n) (h2 : n ≤ 1000) : 1 ≤ (splitF n).1 ∧ (splitF n).1 ≤ 31 ∧ 1 ≤ (splitF n).2 ∧ (splitF n).2 ≤ 1000 ∧ (splitF n).1 * (splitF n).1 * (splitF n).2 = n ∧ SqF (splitF n).2 := by
  obtain ⟨h3, ⟨q, hq⟩, h5⟩ := bestSq_spec n 32
  unfold splitF
  rw [if_neg (by omega)]
  dsimp only
  generalize bestSq n 32 = b at h3 hq h5
  have hbb : 1 ≤ (b : Int) * b := by have := Int.mul_le_mul (show (1 : Int) ≤ b by omega) (show (1 : Int) ≤ b by omega) (by omega) (by omega); omega
  have hdiv : n / ((b : Int) * b) = q := by rw [hq]; exact Int.mul_ediv_cancel_left _ (by omega)
  have hq1 : 1 ≤ q := by
    rcases Int.lt_or_le 0 q with h | h
    · omega
    · have : (b : Int) * b * q ≤ (b : Int) * b * 0 := Int.mul_le_mul_of_nonneg_left h (by omega)
      omega
  have hqn : q ≤ n := by have : 1 * q ≤ (b : Int) * b * q := Int.mul_le_mul_of_nonneg_right hbb (by omega); omega
  have hb31 : ∀ e : Int, 1 ≤ e → e * e ∣ n → e ≤ 31 := by
    intro e he hd
    have hle := Int.le_of_dvd (by omega) hd
    rcases Int.lt_or_le 31 e with hh | hh
    · have : 32 * 32 ≤ e * e := Int.mul_le_mul (by omega) (by omega) (by omega) (by omega)
      omega
    · exact hh
  rw [hdiv]
  refine ⟨by omega, hb31 b (by omega) ⟨q, hq⟩, hq1, by omega, hq.symm, fun e he ⟨z, hz⟩ => ?_⟩
  have hd : ((b : Int) * e) * ((b : Int) * e) ∣ n := ⟨z, by rw [hq, hz]; simp only [Int.mul_assoc, Int.mul_left_comm, Int.mul_comm]⟩
  have h2b : (b : Int) * 2 ≤ b * e := Int.mul_le_mul_of_nonneg_left he (by omega)
  have := hb31 (b * e) (by omega) hd
  have hh := h5 (b * e).toNat (by omega) (by omega) (by rw [Int.toNat_of_nonneg (by omega)]; exact hd)
  omega
theorem split_fn (n : Int) (w : World) (h1 : 0 ≤ n) (h2 : n ≤ 1000) :
    Calls Tryz.prog 52 #[.int .i64 n] w fun e w' => e = .returned (.tuple #[.int .i64 (splitF n).1, .int .i64 (splitF n).2]) ∧ ∃ m, w' = w.drewN m := by
  by_cases h0 : n = 0
  · subst h0
    exact (split_zero w).mono fun e w' ⟨he, hw⟩ => ⟨he, 0, hw⟩
  · refine (split_any n w (by omega) (by omega)).mono fun e w' ⟨⟨s, r, he, hs, hr, hsr, hq⟩, hw⟩ => ⟨?_, hw⟩
    obtain ⟨g1, g2, g3, g4, g5, g6⟩ := splitF_spec n (by omega) h2
    have key := sqf_uniqN s.toNat (splitF n).1.toNat r.toNat (splitF n).2.toNat (by omega) (by omega) (by
      apply Int.natCast_inj.1
      rw [Int.natCast_mul, Int.natCast_mul, Int.natCast_mul, Int.natCast_mul, Int.toNat_of_nonneg (by omega), Int.toNat_of_nonneg (by omega), Int.toNat_of_nonneg (by omega), Int.toNat_of_nonneg (by omega), hsr, g5]) (sqfN hq hr) (sqfN g6 g3)
    rw [he]
    have e1 : s = (splitF n).1 := by omega
    have e2 : r = (splitF n).2 := by omega
    rw [e1, e2]

def mkT (t : Int × Int) : Int × Int := ((splitF t.2).1 * t.1, (splitF t.2).2)
theorem plusC_mul (c : Int → Int) (m x r : Int) : plusC c m [(x, r)] = plusC c 1 [(m * x, r)] := by
  funext s
  simp only [plusC, coefOf, List.foldl_cons, List.foldl_nil]
  by_cases h : r = s
  · rw [if_pos h, if_pos h]; simp
  · rw [if_neg h, if_neg h]; simp
def makeF (den : Int) (l : List (Int × Int)) (r : Int × List (Int × Int) × Int) : Prop :=
  if 16 < l.length then r = (0, [], 5) else if inB den 1 100000 = true ∧ l.all isPartF = true then ∃ t, IsTerms (plusC zeroC 1 (l.map mkT)) t ∧ r = finF den t else r = (0, [], 2)

theorem mkT_bd (t : Int × Int) (h : isPartF t = true) : (-100000 ≤ t.1 ∧ t.1 ≤ 100000) ∧ (0 ≤ t.2 ∧ t.2 ≤ 1000) ∧ (0 ≤ (splitF t.2).1 ∧ (splitF t.2).1 ≤ 31) ∧ (1 ≤ (splitF t.2).2 ∧ (splitF t.2).2 ≤ 1000) ∧ -3100000 ≤ (splitF t.2).1 * t.1 ∧ (splitF t.2).1 * t.1 ≤ 3100000 := by
  simp [isPartF, inB] at h
  by_cases h0 : t.2 = 0
  · have e : splitF t.2 = (0, 1) := by rw [h0]; rfl
    rw [e]; simp; omega
  · have hs := splitF_spec t.2 (by omega) (by omega)
    have := mul_abs_le (splitF t.2).1 t.1 31 100000 (by omega) (by omega) (by omega) (by omega)
    omega

def MakeI (w wr : World) (B : Nat) (l : List (Int × Int)) (k : Nat) : Prop :=
  OwnSum wr B k (plusC zeroC 1 ((l.take k).map mkT)) ∧ Below w.heap.size w wr ∧ Two wr w.heap.size (.int .i64 0) (.slice none 0 0) 24 ∧ w.heap.size < B

theorem make_bd (l : List (Int × Int)) (hl : l.length ≤ 16) (h : ∀ t ∈ l, isPartF t = true) (s : Int) : -9000000000000000000 ≤ plusC zeroC 1 (l.map mkT) s ∧ plusC zeroC 1 (l.map mkT) s ≤ 9000000000000000000 := by
  refine zero_plus_bd 1 1 _ 16 (by omega) (by omega) (by omega) (by simpa using hl) (by omega) (fun t ht => ?_) s
  obtain ⟨u, hu, rfl⟩ := List.mem_map.1 ht
  have := mkT_bd u (h u hu)
  unfold mkT
  dsimp only
  omega
theorem make_rt (l : List (Int × Int)) (h : ∀ t ∈ l, isPartF t = true) : ∀ r, plusC zeroC 1 (l.map mkT) r ≠ 0 → 0 ≤ r ∧ r ≤ 1000000000000 := by
  intro r hr
  have : coefOf (l.map mkT) r ≠ 0 := by intro h; unfold plusC at hr; rw [h] at hr; simp [zeroC] at hr
  obtain ⟨t, ht, rfl⟩ := coefOf_ne this
  obtain ⟨u, hu, rfl⟩ := List.mem_map.1 ht
  have := mkT_bd u (h u hu)
  unfold mkT
  dsimp only
  omega

theorem makeI_start (w2 : World) (l : List (Int × Int)) : OwnSum (w2.alloc (.map #[] 0)) w2.heap.size 0 (plusC zeroC 1 ((l.take 0).map mkT)) := by
  have e : plusC zeroC 1 ((l.take 0).map mkT) = (fun _ => 0) := by
    funext r
    simp [plusC, coefOf, zeroC]
  rw [e]
  exact ownSum_made rfl
theorem make_call {w W : World} {B : Nat} {l : List (Int × Int)} {k : Nat} (hk : k < l.length) (hl : l.length ≤ 16) (hp : ∀ t ∈ l, isPartF t = true) (HI : Hid (MakeI w W B l k)) (c r s r' : Int) (he : Hid (l[k]?.getD (0, 0) = (c, r))) (hs : Hid (splitF r = (s, r'))) :
    Calls Tryz.prog 53 #[.map (some B), .int .i64 s, .slice (some ⟨W.heap.size, 0, none⟩) 1 1] (W.alloc (.cells #[.int .i64 c, .int .i64 r'] 34))
      (AddTo B (k + 1) (plusC zeroC 1 ((l.take (k + 1)).map mkT)) (W.alloc (.cells #[.int .i64 c, .int .i64 r'] 34))) := by
  obtain ⟨hO, hB, hT, hBB⟩ := HI.out
  have hm := mkT_bd (c, r) (hp _ (by have := he.out; rw [← this]; simp [hk]))
  rw [show splitF (c, r).2 = (s, r') from hs.out] at hm
  dsimp only at hm
  have hsucc : (l.take (k + 1)).map mkT = (l.take k).map mkT ++ [(s * c, r')] := by
    rw [List.take_succ_eq_append_getElem hk, List.map_append]
    have e : l[k] = (c, r) := by have := he.out; simpa [hk] using this
    rw [e]; simp [mkT, hs.out]
  have h1 := make_bd (l.take k) (by simp; omega) (fun t ht => hp t (List.mem_of_mem_take ht))
  have h2 := make_bd (l.take (k + 1)) (by simp; omega) (fun t ht => hp t (List.mem_of_mem_take ht))
  have hpl : plusC (plusC zeroC 1 ((l.take k).map mkT)) s [(c, r')] = plusC zeroC 1 ((l.take (k + 1)).map mkT) := by rw [plusC_mul, plusC_snoc, hsucc]
  have := add_at B k (plusC zeroC 1 ((l.take k).map mkT)) s (.slice (some ⟨W.heap.size, 0, none⟩) 1 1) [(c, r')] (W.alloc (.cells #[.int .i64 c, .int .i64 r'] 34))
    (termsAt_one _ _ _ _ (by simp) (by omega) (cell_two_new _ _ _ _ 0 _ rfl) (cell_two_new _ _ _ _ 1 _ rfl))
    (by intro b off len cap hv _; simp at hv; have := hO.lt; omega) (by simp) (by omega) (hO.below ((Below.refl _ _).alloc (Nat.le_refl _) _))
    (Lib.hid (fun t ht => by simp at ht; subst ht; dsimp only; omega))
    (Lib.hid (fun q hq s' => by
      simp at hq
      have : q = 0 ∨ q = 1 := by omega
      rcases this with rfl | rfl
      · have := h1 s'; simpa [plusC, coefOf] using this
      · have := h2 s'; rw [← hpl] at this; exact this))
  rw [hpl] at this
  simpa using this

set_option maxRecDepth 100000 in
set_option maxHeartbeats 2000000 in
theorem make_any (hsort : Hid SortC) (den : Int) (v : Value) (l : List (Int × Int)) (w : World) (ht : TermsAt w v l) :
    Calls Tryz.prog 20 #[.int .i64 den, v] w (NumP (makeF den l) w) := by
  have hmm := @run_makeMap Tryz.prog
  have HT := Lib.hid ht
  obtain ⟨a, cap, rfl, px⟩ := ht.placed
  have PX := Lib.hid px
  clear ht px
  have RR := Lib.hid (Two.new w (.int .i64 0) (.slice none 0 0) 24)
  have BB : Hid (Below w.heap.size w (w.alloc (.cells #[.int .i64 0, .slice none 0 0] 24))) := Lib.hid ((Below.refl _ _).alloc (Nat.le_refl _) _)
  by_cases h16 : 16 < l.length
  · have HP : Hid (makeF den l (0, [], 5)) := Lib.hid (by simp only [makeF]; rw [if_pos h16]; trivial)
    go_enter Tryz.func20, Tryz.ntmps20
    go_wp2
    refine bodyPost_ret (v := .tuple #[.agg #[.int .i64 0, .slice none 0 0], .int .i64 5]) ?_ rfl ?_
    · simp [results, Tryz.results20, go_sem]
    · exact ⟨_, HP.out, _, rfl, termsAt_nil _, BB.out, fun k hk => by cases hk⟩
  · have hlen : l.length ≤ 16 := by omega
    have hw := within_any den 1 100000
    cases hd : inB den 1 100000
    · rw [hd] at hw
      have HW := Lib.hid hw
      have HP : Hid (makeF den l (0, [], 2)) := Lib.hid (by simp only [makeF]; rw [if_neg h16, if_neg (by rw [hd]; simp)]; trivial)
      clear hw hd
      go_enter Tryz.func20, Tryz.ntmps20
      go_wp2_with fail
      refine (HW.out _).mono ?_
      rintro e w1 ⟨rfl, rfl⟩
      go_wp2
      refine bodyPost_ret (v := .tuple #[.agg #[.int .i64 0, .slice none 0 0], .int .i64 2]) ?_ rfl ?_
      · simp [results, Tryz.results20, go_sem]
      · exact ⟨_, HP.out, _, rfl, termsAt_nil _, BB.out, fun k hk => by cases hk⟩
    · have hdb : 1 ≤ den ∧ den ≤ 100000 := by simp [inB] at hd; exact hd
      obtain ⟨hd1, hd2⟩ := hdb
      rw [hd] at hw
      have HW := Lib.hid hw
      have HD := Lib.hid hd
      clear hw hd
      go_enter Tryz.func20, Tryz.ntmps20
      go_wp2_with fail
      refine (HW.out _).mono ?_
      rintro e w1 ⟨rfl, rfl⟩
      go_wp2_with fail
      refine (everyPart_at (.slice a l.length cap) l _ (HT.out.alloc _)).mono ?_
      rintro e w2 ⟨rfl, hb⟩
      have HR2 := Lib.hid (RR.out.below hb RR.out.lt)
      have HB2 := Lib.hid (BB.out.trans (hb.mono BB.out.size))
      clear hb
      cases ha : l.all isPartF
      · have HP : Hid (makeF den l (0, [], 2)) := Lib.hid (by simp only [makeF]; rw [if_neg h16, if_neg (by rw [ha]; simp)]; trivial)
        clear ha
        have r0 := HR2.out.c0
        have r1 := HR2.out.c1
        have f0 := HR2.out.fr (i := 0)
        have f1 := HR2.out.fr (i := 1)
        go_wp2
        obtain ⟨d0, d1, d2, hg⟩ := two_after HR2.out (.int .i64 0) (.slice none 0 0) rfl
        refine bodyPost_ret (v := .tuple #[.agg #[.int .i64 0, .slice none 0 0], .int .i64 2]) ?_ rfl ?_
        · simp [results, Tryz.results20, go_sem, d0, d1, d2]
        · exact ⟨_, HP.out, _, rfl, termsAt_nil _, HB2.out.grown hg HB2.out.size (by intro k hk; cases hk; omega), fun k hk => by cases hk⟩
      · have HAL : Hid (∀ t ∈ l, isPartF t = true) := Lib.hid (List.all_eq_true.1 ha)
        have HP : Hid (∀ t, IsTerms (plusC zeroC 1 (l.map mkT)) t → makeF den l (finF den t)) := Lib.hid (fun t ht => by simp only [makeF]; rw [if_neg h16, if_pos ⟨HD.out, ha⟩]; exact ⟨t, ht, rfl⟩)
        clear ha
        have hsz2 : w.heap.size < w2.heap.size := HR2.out.lt
        go_wp2_with fail
        have HI0 : Hid (MakeI w (w2.alloc (.map #[] 0)) w2.heap.size l 0) := Lib.hid ⟨makeI_start w2 l, HB2.out.alloc HB2.out.size _, HR2.out.alloc _, hsz2⟩
        generalize w2.heap.size = B at hsz2 HI0 ⊢
        go_loopw [8, 9, 10, 29] (fun _ _ _ i wr => ∃ k : Nat, k ≤ l.length ∧ i = .int .i64 k ∧ Hid (MakeI w wr B l k)) (fun _ _ _ i _ => l.length - (intOf i).toNat)
        case atStart => exact ⟨0, Nat.zero_le _, rfl, HI0⟩
        case round =>
          clear HI0
          obtain ⟨k, hk, rfl, HI⟩ := hrel
          by_cases hlt : k < l.length
          · obtain ⟨b, off, rfl, hbl, hc1, hc2⟩ := PX.out k hlt
            replace hc1 := (HI.out.2.1.cell (p := ⟨b, _, none⟩) hbl).trans hc1
            replace hc2 := (HI.out.2.1.cell (p := ⟨b, _, none⟩) hbl).trans hc2
            have hpt := mkT_bd _ (HAL.out (l[k]?.getD (0, 0)) (by simp [hlt]))
            obtain ⟨c, r, hel⟩ : ∃ c r, l[k]?.getD (0, 0) = (c, r) := ⟨_, _, rfl⟩
            rw [hel] at hc1 hc2 hpt
            dsimp only at hc1 hc2 hpt
            have HEL := Lib.hid hel
            have hwl := HI.out.2.2.1.lt
            have hsp := split_fn r
            obtain ⟨s, r', hsr⟩ : ∃ s r', splitF r = (s, r') := ⟨_, _, rfl⟩
            rw [hsr] at hpt hsp
            dsimp only at hpt hsp
            have HSR := Lib.hid hsr
            have HSP := Lib.hid hsp
            obtain ⟨⟨p1, p2⟩, ⟨p3, p4⟩, ⟨p5, p6⟩, ⟨p7, p8⟩, p9, p10⟩ := hpt
            clear hel hsr hsp
            go_wp2_with fail
            refine (HSP.out _ p3 p4).mono ?_
            rintro e w4 ⟨rfl, n4, rfl⟩
            have k2 : ((wr.alloc (.cells #[.int .i64 c, .int .i64 r] 34)).drewN n4).cell? ⟨wr.heap.size, 0, none⟩ = some (.int .i64 c) := cell_two_new _ _ _ _ 0 _ rfl
            have HI4 : Hid (MakeI w ((wr.alloc (.cells #[.int .i64 c, .int .i64 r] 34)).drewN n4) B l k) := by
              have hb4 : Below wr.heap.size wr ((wr.alloc (.cells #[.int .i64 c, .int .i64 r] 34)).drewN n4) := below_drewN ((Below.refl _ _).alloc (Nat.le_refl _) _) _
              exact Lib.hid ⟨HI.out.1.below hb4, HI.out.2.1.trans (hb4.mono HI.out.2.1.size), HI.out.2.2.1.below hb4 hwl, HI.out.2.2.2⟩
            generalize hW : ((wr.alloc (.cells #[.int .i64 c, .int .i64 r] 34)).drewN n4) = W at k2 HI4 ⊢
            have HCALL := Lib.hid (make_call hlt hlen HAL.out HI4 c r s r' HEL HSR)
            clear hW
            go_wp2_with fail
            refine HCALL.out.mono ?_
            rintro e w5 ⟨rfl, ho5, hg5⟩
            have HI5 : Hid (MakeI w w5 B l (k + 1)) := Lib.hid ⟨ho5, (HI4.out.2.1.alloc HI4.out.2.1.size _).grown hg5 (by have := HI4.out.2.1.size; simp; omega) (by intro q hq; cases hq; omega), (HI4.out.2.2.1.alloc _).kept hg5 (by intro e; have := Option.some.inj e; omega), HI4.out.2.2.2⟩
            clear ho5 hg5 k2
            go_wp2
            go_roundw
            case rel => exact ⟨k + 1, by omega, by go_num, HI5⟩
            case measure => simp [intOf]; omega
          · have hk : k = l.length := by omega
            have HE : Hid (MakeI w wr B l l.length) := Lib.hid (by rw [← hk]; exact HI.out)
            clear hk
            go_wp2_with fail
            refine (finish_any hsort den B 16 (plusC zeroC 1 (l.map mkT)) _ (by have := HE.out.1; rw [List.take_length] at this; exact this.mono hlen) (by omega) (by omega) (by omega) (by omega) (Lib.hid (make_rt l HAL.out)) (Lib.hid (make_bd l hlen HAL.out))).mono ?_
            rintro e w4 ⟨t, hit, hlt4, v, rfl, hta, hb4, hfr⟩
            obtain ⟨a4, cap4, rfl, _⟩ := hta.placed
            have R4 := HE.out.2.2.1.below hb4 HE.out.2.2.1.lt
            have B4 := HE.out.2.1.trans (hb4.mono HE.out.2.1.size)
            have hwl := HE.out.2.2.1.lt
            have r0 := R4.c0
            have r1 := R4.c1
            have f0 := R4.fr (i := 0)
            have f1 := R4.fr (i := 1)
            have HTA := Lib.hid hta
            have HFR := Lib.hid hfr
            have HIT := Lib.hid hit
            have HR4 := Lib.hid R4
            have HB4 := Lib.hid B4
            clear hta hfr hit hb4 R4 B4
            go_wp2
            obtain ⟨d0, d1, d2, hg⟩ := two_after HR4.out (.int .i64 (finF den t).1) (.slice a4 (finF den t).2.1.length cap4) rfl
            refine bodyPost_ret (v := .tuple #[.agg #[.int .i64 (finF den t).1, .slice a4 (finF den t).2.1.length cap4], .int .i64 (finF den t).2.2]) ?_ rfl ?_
            · simp [results, Tryz.results20, go_sem, d0, d1, d2]
            · refine ⟨_, HP.out t HIT.out, _, rfl, HTA.out.kept hg ?_, HB4.out.grown hg HB4.out.size (by intro k hk; cases hk; omega), fun k hk => ?_⟩
              · cases hv : (Value.slice a4 (finF den t).2.1.length cap4).ownBlock with
                | none => exact .inl rfl
                | some k => right; have := HFR.out k hv; simp; omega
              · have := HFR.out k hk; omega
end Go.Proofs.YtedpafdfecofnaaGreatDoor

/-! ## S16 -/
namespace Go.Proofs.YtedpafdfecofnaaGreatDoor
open Go.RowKit Go.Maps Go.Shelf Go.Sort
/-- What the texts ask of the world: the table of powers of ten, and a variable of package bytealg. -/
def WOk (w : World) : Prop := Lib.TabIs Tryz.prog w "internal/strconv.uint64pow10" .u64 Lib.pow10Tab ∧ (∃ m, w.cell? ⟨2, 0, none⟩ = some (.int .i64 m)) ∧ 6 ≤ w.heap.size
theorem gPow : Tryz.prog.globalNamed "internal/strconv.uint64pow10" = some 3 := by kernel_rfl
theorem WOk.below {w w' : World} (h : WOk w) (hw : Below w.heap.size w w') : WOk w' := by
  obtain ⟨h1, ⟨m, h2⟩, h3⟩ := h
  refine ⟨?_, ⟨m, (hw.cell (p := ⟨2, 0, none⟩) (by show 2 < w.heap.size; omega)).trans h2⟩, Nat.le_trans h3 hw.size⟩
  exact var?_below hw gPow (by omega) h1

abbrev str (l : List UInt8) : Value := .string ⟨l.toArray⟩
def termB (t : Int × Int) : List UInt8 := if t.2 = 1 then Lib.itoa t.1 else (if t.1 = 1 ∨ t.1 = -1 then Lib.trimSuffix (Lib.itoa t.1) [49] else Lib.itoa t.1) ++ [114] ++ Lib.itoa t.2
def StrTo (l : List UInt8) (w : World) (e : Ending) (w' : World) : Prop := e = .returned (str l) ∧ Below w.heap.size w w'

theorem ret_str {a b : List UInt8} (h : a = b) : Ending.returned (str a) = .returned (str b) := by rw [h]
theorem cat_str (a b : List UInt8) : (⟨a.toArray⟩ : ByteArray) ++ ⟨b.toArray⟩ = ⟨(a ++ b).toArray⟩ := by
  apply ByteArray.ext
  simp [ByteArray.data_append]
theorem cat3 (a b c : List UInt8) {d : List UInt8} (h : d = a ++ b ++ c) : (⟨a.toArray⟩ : ByteArray) ++ ⟨b.toArray⟩ ++ ⟨c.toArray⟩ = ⟨d.toArray⟩ := by rw [h, cat_str, cat_str]
theorem ret_bytes {a b : ByteArray} (h : a = b) : Ending.returned (.string a) = .returned (.string b) := by rw [h]
theorem dec_len (k : Nat) : ∀ u : Nat, u < 10 ^ (k + 1) → (Lib.decDigits u).length ≤ k + 1 := by
  induction k with
  | zero => intro u hu; rw [Lib.decDigits]; simp at hu; rw [dif_pos hu]; simp
  | succ k ih =>
    intro u hu
    rw [Lib.decDigits]
    split
    · simp
    · rw [List.length_append]
      have : u / 10 < 10 ^ (k + 1) := by rw [Nat.div_lt_iff_lt_mul (by omega)]; rw [Nat.pow_succ] at hu; exact hu
      have := ih _ this
      simp; omega
theorem itoa_len (n : Int) (h1 : -1000000 < n) (h2 : n < 1000000) : (Lib.itoa n).length ≤ 7 := by
  unfold Lib.itoa
  split
  · have := dec_len 5 n.natAbs (by omega)
    simp; omega
  · have := dec_len 5 n.toNat (by omega)
    omega
theorem below_growT (w : World) (k : Nat) (os : Array Obj) : Below w.heap.size w (grow (w.drewN k) os) :=
  ⟨rfl, rfl, rfl, by simp [grow], fun i hi => heap_grow_old _ _ (by simpa using hi)⟩
theorem itoa_any (n : Int) (L : List UInt8) (hL : Hid (Lib.itoa n = L)) (h0 : -1000000 < n) (h1 : n < 1000000) (w : World) (hw : WOk w) : Calls Tryz.prog 108 #[.int .i64 n] w (StrTo L w) := by
  refine (Tryz.strconv_Itoa n (by omega) (by omega) w hw.1).mono ?_
  rintro e w' ⟨rfl, k, os, rfl⟩
  rw [hL.out]
  exact ⟨rfl, below_growT _ _ _⟩
theorem trimSuffix_len (l p : List UInt8) : (Lib.trimSuffix l p).length ≤ l.length := by
  unfold Lib.trimSuffix; split
  · simp
  · exact Nat.le_refl _
theorem trim_any (L P M : List UInt8) (hM : Hid (Lib.trimSuffix L P = M)) (h : L.length ≤ 1000) (w : World) : Calls Tryz.prog 111 #[.string ⟨L.toArray⟩, .string ⟨P.toArray⟩] w fun e w' => e = .returned (str M) ∧ w' = w := by
  refine (Tryz.strings_TrimSuffix ⟨L.toArray⟩ ⟨P.toArray⟩ w ?_).mono ?_
  · show L.toArray.size ≤ _; simp; omega
  · rintro e w' ⟨rfl, rfl⟩
    exact ⟨by rw [← hM.out], rfl⟩

set_option maxHeartbeats 1000000 in
theorem termText_any (c r : Int) (hc1 : -1000000 < c) (hc2 : c < 1000000) (hr1 : -1000000 < r) (hr2 : r < 1000000) (w : World) (hw : WOk w) :
    Calls Tryz.prog 107 #[.agg #[.int .i64 c, .int .i64 r]] w (StrTo (termB (c, r)) w) := by
  have HW := Lib.hid hw
  clear hw
  obtain ⟨L, hL⟩ : ∃ L, Lib.itoa c = L := ⟨_, rfl⟩
  obtain ⟨R, hR⟩ : ∃ R, Lib.itoa r = R := ⟨_, rfl⟩
  have hLl : L.length ≤ 7 := by rw [← hL]; exact itoa_len c hc1 hc2
  have hRl : R.length ≤ 7 := by rw [← hR]; exact itoa_len r hr1 hr2
  by_cases hr : r = 1
  · have hr3 : (r == 1) = true := by simpa using hr
    have HT : Hid (termB (c, r) = L) := Lib.hid (by simp [termB, hr, hL])
    have HL := Lib.hid hL
    clear hr hL hR
    go_enter Tryz.func107, Tryz.ntmps107
    go_wp2_with fail
    refine (itoa_any c L HL hc1 hc2 _ (HW.out.below ((Below.refl _ _).alloc (Nat.le_refl _) _))).mono ?_
    rintro e w1 ⟨rfl, hb⟩
    obtain ⟨h0, h1⟩ := box2 hb
    have HB := Lib.hid hb
    clear hb
    go_wp2
    go_ret
    exact ⟨ret_str HT.out.symm, ((Below.refl _ _).alloc (Nat.le_refl _) _).trans (HB.out.mono (by simp))⟩
  · have hr3 : (r == 1) = false := by simpa using hr
    have hcc : c = 1 ∨ c = -1 ∨ (¬ c = 1 ∧ ¬ c = -1) := by omega
    obtain ⟨M, hM⟩ : ∃ M, Lib.trimSuffix L [49] = M := ⟨_, rfl⟩
    have hMl : M.length ≤ 7 := by rw [← hM]; exact Nat.le_trans (trimSuffix_len _ _) hLl
    have HL := Lib.hid hL
    have HR := Lib.hid hR
    have HM := Lib.hid hM
    rcases hcc with hc | hc | hc
    · have h1c : (c == 1) = true := by simpa using hc
      have HT : Hid (termB (c, r) = M ++ [114] ++ R) := Lib.hid (by unfold termB; dsimp only; rw [if_neg hr, if_pos (.inl hc), hL, hR, hM])
      clear hc hr hL hR hM
      go_enter Tryz.func107, Tryz.ntmps107
      go_wp2_with fail
      refine (itoa_any c L HL hc1 hc2 _ (HW.out.below ((Below.refl _ _).alloc (Nat.le_refl _) _))).mono ?_
      rintro e w1 ⟨rfl, hb⟩
      obtain ⟨h0, h1⟩ := box2 hb
      have HB : Hid (Below w.heap.size w w1) := Lib.hid (((Below.refl _ _).alloc (Nat.le_refl _) _).trans (hb.mono (by simp)))
      clear hb
      go_wp2_with fail
      refine (trim_any L [49] M HM (by omega) _).mono ?_
      rintro e w2 ⟨rfl, rfl⟩
      go_wp2_with fail
      refine (itoa_any r R HR hr1 hr2 _ (HW.out.below HB.out)).mono ?_
      rintro e w3 ⟨rfl, hb⟩
      have HB3 := Lib.hid (HB.out.trans (hb.mono HB.out.size))
      clear hb
      go_wp2
      go_ret
      exact ⟨ret_bytes (cat3 _ [114] R HT.out), HB3.out⟩
    · have h1c : (c == 1) = false := by rw [beq_eq_false_iff_ne]; omega
      have h2c : (c == -1) = true := by simpa using hc
      have HT : Hid (termB (c, r) = M ++ [114] ++ R) := Lib.hid (by unfold termB; dsimp only; rw [if_neg hr, if_pos (.inr hc), hL, hR, hM])
      clear hc hr hL hR hM
      go_enter Tryz.func107, Tryz.ntmps107
      go_wp2_with fail
      refine (itoa_any c L HL hc1 hc2 _ (HW.out.below ((Below.refl _ _).alloc (Nat.le_refl _) _))).mono ?_
      rintro e w1 ⟨rfl, hb⟩
      obtain ⟨h0, h1⟩ := box2 hb
      have HB : Hid (Below w.heap.size w w1) := Lib.hid (((Below.refl _ _).alloc (Nat.le_refl _) _).trans (hb.mono (by simp)))
      clear hb
      go_wp2_with fail
      refine (trim_any L [49] M HM (by omega) _).mono ?_
      rintro e w2 ⟨rfl, rfl⟩
      go_wp2_with fail
      refine (itoa_any r R HR hr1 hr2 _ (HW.out.below HB.out)).mono ?_
      rintro e w3 ⟨rfl, hb⟩
      have HB3 := Lib.hid (HB.out.trans (hb.mono HB.out.size))
      clear hb
      go_wp2
      go_ret
      exact ⟨ret_bytes (cat3 _ [114] R HT.out), HB3.out⟩
    · have h1c : (c == 1) = false := by rw [beq_eq_false_iff_ne]; omega
      have h2c : (c == -1) = false := by rw [beq_eq_false_iff_ne]; omega
      have HT : Hid (termB (c, r) = L ++ [114] ++ R) := Lib.hid (by unfold termB; dsimp only; rw [if_neg hr, if_neg (by omega), hL, hR])
      clear hc hr hL hR hM
      go_enter Tryz.func107, Tryz.ntmps107
      go_wp2_with fail
      refine (itoa_any c L HL hc1 hc2 _ (HW.out.below ((Below.refl _ _).alloc (Nat.le_refl _) _))).mono ?_
      rintro e w1 ⟨rfl, hb⟩
      obtain ⟨h0, h1⟩ := box2 hb
      have HB : Hid (Below w.heap.size w w1) := Lib.hid (((Below.refl _ _).alloc (Nat.le_refl _) _).trans (hb.mono (by simp)))
      clear hb
      go_wp2_with fail
      refine (itoa_any r R HR hr1 hr2 _ (HW.out.below HB.out)).mono ?_
      rintro e w3 ⟨rfl, hb⟩
      have HB3 := Lib.hid (HB.out.trans (hb.mono HB.out.size))
      clear hb
      go_wp2
      go_ret
      exact ⟨ret_bytes (cat3 _ [114] R HT.out), HB3.out⟩
end Go.Proofs.YtedpafdfecofnaaGreatDoor

/-! ## S17 -/
namespace Go.Proofs.YtedpafdfecofnaaGreatDoor
open Go.RowKit Go.Maps Go.Shelf Go.Sort
def partB (i : Nat) (t : Int × Int) : List UInt8 := (if 0 < i ∧ 0 < t.1 then [43] else []) ++ termB t
def bodyB (l : List (Int × Int)) : List UInt8 := (l.mapIdx partB).flatten
theorem bodyB_succ (l : List (Int × Int)) (k : Nat) (h : k < l.length) : bodyB (l.take (k + 1)) = bodyB (l.take k) ++ partB k (l[k]?.getD (0, 0)) := by
  unfold bodyB
  rw [List.take_succ_eq_append_getElem h, List.mapIdx_concat, List.flatten_append]
  simp [Nat.min_eq_left (Nat.le_of_lt h), h]
def textB (d : Int) (l : List (Int × Int)) : List UInt8 := if l.length = 0 then [48] else if d = 1 then bodyB l else (if 1 < l.length then [40] ++ bodyB l ++ [41] else bodyB l) ++ [47] ++ Lib.itoa d
theorem termB_len (t : Int × Int) (hc1 : -1000000 < t.1) (hc2 : t.1 < 1000000) (hr1 : -1000000 < t.2) (hr2 : t.2 < 1000000) : (termB t).length ≤ 15 := by
  have h1 := itoa_len t.1 hc1 hc2
  have h2 := itoa_len t.2 hr1 hr2
  have h3 := trimSuffix_len (Lib.itoa t.1) [49]
  unfold termB
  split
  · omega
  · split <;> simp <;> omega

set_option maxRecDepth 100000 in
set_option maxHeartbeats 2000000 in
theorem text_any (d : Int) (v : Value) (l : List (Int × Int)) (w : World) (ht : TermsAt w v l) (hw : WOk w) (hl : l.length ≤ 4) (hd1 : 0 < d) (hd2 : d < 1000000) (hb : Hid (∀ t ∈ l, (-1000000 < t.1 ∧ t.1 < 1000000) ∧ (-1000000 < t.2 ∧ t.2 < 1000000))) :
    Calls Tryz.prog 77 #[.agg #[.int .i64 d, v]] w (StrTo (textB d l) w) := by
  have HW := Lib.hid hw
  obtain ⟨a, cap, rfl, px⟩ := ht.placed
  have PX := Lib.hid px
  clear ht px hw
  by_cases hl0 : l.length = 0
  · have h7 : ((l.length : Int) == 0) = true := by simp; exact List.length_eq_zero_iff.1 hl0
    have HT : Hid (textB d l = [48]) := Lib.hid (by unfold textB; rw [if_pos hl0])
    clear hl0
    go_enter Tryz.func77, Tryz.ntmps77
    go_wp2
    go_ret
    exact ⟨ret_str HT.out.symm, (Below.refl _ _).alloc (Nat.le_refl _) _⟩
  · have h7 : ((l.length : Int) == 0) = false := by rw [beq_eq_false_iff_ne]; omega
    obtain ⟨D, hD⟩ : ∃ D, Lib.itoa d = D := ⟨_, rfl⟩
    have hDl : D.length ≤ 7 := by rw [← hD]; exact itoa_len d (by omega) hd2
    obtain ⟨T, hT⟩ : ∃ T, bodyB l = T := ⟨_, rfl⟩
    have HTX : Hid (textB d l = if d = 1 then T else (if 1 < l.length then [40] ++ T ++ [41] else T) ++ [47] ++ D) := Lib.hid (by unfold textB; rw [if_neg hl0, hT, hD])
    have HL0 := Lib.hid hl0
    have HD := Lib.hid hD
    have HTT := Lib.hid hT
    clear hl0 hD hT
    go_enter Tryz.func77, Tryz.ntmps77
    go_wp2
    have HBX : Hid (Two (w.alloc (.cells #[.int .i64 d, .slice a l.length cap] 24)) w.heap.size (.int .i64 d) (.slice a l.length cap) 24) := Lib.hid (Two.new _ _ _ _)
    go_loopw [3, 4, 13] (fun s _ i wr => ∃ k : Nat, k ≤ l.length ∧ i = .int .i64 k ∧ (∃ S : List UInt8, s = .string ⟨S.toArray⟩ ∧ S.length ≤ 16 * k ∧ Hid (S = bodyB (l.take k))) ∧ Hid (Below w.heap.size w wr ∧ Two wr w.heap.size (.int .i64 d) (.slice a l.length cap) 24)) (fun _ _ i _ => l.length - (intOf i).toNat)
    case atStart => exact ⟨0, Nat.zero_le _, rfl, ⟨[], rfl, by simp, Lib.hid rfl⟩, Lib.hid ⟨(Below.refl _ _).alloc (Nat.le_refl _) _, HBX.out⟩⟩
    case round =>
      obtain ⟨k, hk, rfl, ⟨S, rfl, hS, HS⟩, HB⟩ := hrel
      by_cases hlt : k < l.length
      · obtain ⟨b, off, rfl, hbl, hc1, hc2⟩ := PX.out k hlt
        replace hc1 := (HB.out.1.cell (p := ⟨b, _, none⟩) hbl).trans hc1
        replace hc2 := (HB.out.1.cell (p := ⟨b, _, none⟩) hbl).trans hc2
        have hbd := hb.out (l[k]?.getD (0, 0)) (by simp [hlt])
        have hsu := bodyB_succ l k hlt
        obtain ⟨c, r, hel⟩ : ∃ c r, l[k]?.getD (0, 0) = (c, r) := ⟨_, _, rfl⟩
        rw [hel] at hc1 hc2 hbd hsu
        have htl := termB_len (c, r) hbd.1.1 hbd.1.2 hbd.2.1 hbd.2.2
        dsimp only at hc1 hc2 hbd
        obtain ⟨⟨b1, b2⟩, b3, b4⟩ := hbd
        have hcall := termText_any c r b1 b2 b3 b4
        obtain ⟨X, hX⟩ : ∃ X, termB (c, r) = X := ⟨_, rfl⟩
        rw [hX] at htl hcall
        have HSU : Hid (bodyB (l.take (k + 1)) = S ++ ((if 0 < k ∧ 0 < c then [43] else []) ++ X)) := Lib.hid (by rw [hsu, ← HS.out]; unfold partB; rw [hX])
        have HCALL := Lib.hid hcall
        have hwsz := HB.out.2.lt
        have HK : Hid (∀ o, WOk (wr.alloc o)) := Lib.hid (fun o => HW.out.below (HB.out.1.alloc HB.out.1.size o))
        clear hel hX hsu hcall
        by_cases hk0 : 0 < (k : Int)
        · by_cases hc0 : 0 < c
          · have HSU2 : Hid (bodyB (l.take (k + 1)) = S ++ [43] ++ X) := Lib.hid (by rw [HSU.out, if_pos ⟨by omega, hc0⟩]; simp)
            go_wp2_with fail
            refine (HCALL.out _ (HK.out _)).mono ?_
            rintro e w2 ⟨rfl, hb2⟩
            have HB2 : Hid (Below w.heap.size w w2 ∧ Two w2 w.heap.size (.int .i64 d) (.slice (some ⟨b, off, none⟩) l.length cap) 24) := Lib.hid ⟨(HB.out.1.alloc HB.out.1.size _).trans (hb2.mono (by have := HB.out.1.size; simp; omega)), (HB.out.2.alloc _).below hb2 (by simp; omega)⟩
            clear hb2
            go_wp2
            go_roundw
            case rel => exact ⟨k + 1, by omega, by go_num, ⟨S ++ [43] ++ X, congrArg Value.string (cat3 S [43] X rfl), by simp; omega, Lib.hid HSU2.out.symm⟩, HB2⟩
            case measure => simp [intOf]; omega
          · have hdc : decide (0 < c) = false := by simpa using hc0
            have HSU2 : Hid (bodyB (l.take (k + 1)) = S ++ X) := Lib.hid (by rw [HSU.out, if_neg (by omega)]; simp)
            go_wp2_with fail
            refine (HCALL.out _ (HK.out _)).mono ?_
            rintro e w2 ⟨rfl, hb2⟩
            have HB2 : Hid (Below w.heap.size w w2 ∧ Two w2 w.heap.size (.int .i64 d) (.slice (some ⟨b, off, none⟩) l.length cap) 24) := Lib.hid ⟨(HB.out.1.alloc HB.out.1.size _).trans (hb2.mono (by have := HB.out.1.size; simp; omega)), (HB.out.2.alloc _).below hb2 (by simp; omega)⟩
            clear hb2
            go_wp2
            go_roundw
            case rel => exact ⟨k + 1, by omega, by go_num, ⟨S ++ X, congrArg Value.string (cat_str S X), by simp; omega, Lib.hid HSU2.out.symm⟩, HB2⟩
            case measure => simp [intOf]; omega
        · have hdk : decide (0 < (k : Int)) = false := by simpa using hk0
          have HSU2 : Hid (bodyB (l.take (k + 1)) = S ++ X) := Lib.hid (by rw [HSU.out, if_neg (by omega)]; simp)
          go_wp2_with fail
          refine (HCALL.out _ (HK.out _)).mono ?_
          rintro e w2 ⟨rfl, hb2⟩
          have HB2 : Hid (Below w.heap.size w w2 ∧ Two w2 w.heap.size (.int .i64 d) (.slice (some ⟨b, off, none⟩) l.length cap) 24) := Lib.hid ⟨(HB.out.1.alloc HB.out.1.size _).trans (hb2.mono (by have := HB.out.1.size; simp; omega)), (HB.out.2.alloc _).below hb2 (by simp; omega)⟩
          clear hb2
          go_wp2
          go_roundw
          case rel => exact ⟨k + 1, by omega, by go_num, ⟨S ++ X, congrArg Value.string (cat_str S X), by simp; omega, Lib.hid HSU2.out.symm⟩, HB2⟩
          case measure => simp [intOf]; omega
      · have hk : k = l.length := by omega
        have HE : Hid (S = T) := Lib.hid (by have := HS.out; rw [hk, List.take_length, HTT.out] at this; exact this)
        have hS2 : S.length ≤ 64 := by omega
        have c0 := HB.out.2.c0
        have c1 := HB.out.2.c1
        have hwsz := HB.out.2.lt
        have HWR := Lib.hid (HW.out.below HB.out.1)
        clear hk hS HS
        by_cases hd : d = 1
        · have hd7 : (d == 1) = true := by simpa using hd
          have HF : Hid (textB d l = S) := Lib.hid (by rw [HTX.out, if_pos hd, HE.out])
          clear hd
          go_wp2
          go_ret
          exact ⟨ret_str HF.out.symm, HB.out.1⟩
        · have hd7 : (d == 1) = false := by simpa using hd
          by_cases h1 : 1 < l.length
          · have HF : Hid (textB d l = ([40] ++ S ++ [41]) ++ [47] ++ D) := Lib.hid (by rw [HTX.out, if_neg hd, if_pos h1, HE.out])
            clear hd
            go_wp2_with fail
            refine (itoa_any d D HD (by omega) hd2 _ HWR.out).mono ?_
            rintro e w2 ⟨rfl, hb2⟩
            have HB2 := Lib.hid (HB.out.1.trans (hb2.mono HB.out.1.size))
            clear hb2
            go_wp2
            go_ret
            refine ⟨ret_bytes ?_, HB2.out⟩
            rw [HF.out]
            exact (congrArg (fun z => z ++ ⟨#[47]⟩ ++ ⟨D.toArray⟩) (cat3 [40] S [41] rfl)).trans (cat3 _ [47] D rfl)
          · have HF : Hid (textB d l = S ++ [47] ++ D) := Lib.hid (by rw [HTX.out, if_neg hd, if_neg h1, HE.out])
            clear hd
            go_wp2_with fail
            refine (itoa_any d D HD (by omega) hd2 _ HWR.out).mono ?_
            rintro e w2 ⟨rfl, hb2⟩
            have HB2 := Lib.hid (HB.out.1.trans (hb2.mono HB.out.1.size))
            clear hb2
            go_wp2
            go_ret
            exact ⟨ret_bytes (cat3 S [47] D HF.out), HB2.out⟩

/-- Format -/
def FormatTo (d : Int) (l : List (Int × Int)) (w : World) (e : Ending) (w' : World) : Prop :=
  e = .returned (.tuple #[str (if validF d l = true then textB d l else []), .int .i64 (if validF d l = true then 0 else 2)]) ∧ Below w.heap.size w w'
set_option maxHeartbeats 1000000 in
theorem format_any (d : Int) (v : Value) (l : List (Int × Int)) (w : World) (ht : TermsAt w v l) (hw : WOk w) :
    Calls Tryz.prog 41 #[.agg #[.int .i64 d, v]] w (FormatTo d l w) := by
  have HT := Lib.hid ht
  have HW := Lib.hid hw
  clear ht hw
  go_enter Tryz.func41, Tryz.ntmps41
  go_wp2_with fail
  refine (valid_any d v l _ (HT.out.alloc _)).mono ?_
  rintro e w1 ⟨rfl, hb⟩
  obtain ⟨h0, h1⟩ := box2 hb
  have HB : Hid (Below w.heap.size w w1) := Lib.hid (((Below.refl _ _).alloc (Nat.le_refl _) _).trans (hb.mono (by simp)))
  clear hb
  cases hv : validF d l
  · have HV := Lib.hid hv
    clear hv
    go_wp2
    go_ret2
    exact ⟨by rw [HV.out]; rfl, HB.out⟩
  · have HV := Lib.hid hv
    have V := vld_of hv
    have hbb : Hid (∀ t ∈ l, (-1000000 < t.1 ∧ t.1 < 1000000) ∧ (-1000000 < t.2 ∧ t.2 < 1000000)) := Lib.hid (fun t ht => by have := vld_pt V t ht; omega)
    have hl := V.len
    have hd1 := V.d1
    have hd2 := V.d2
    clear hv V
    go_wp2_with fail
    refine (text_any d v l _ (HT.out.below HB.out) (HW.out.below HB.out) hl (by omega) (by omega) hbb).mono ?_
    rintro e w2 ⟨rfl, hb2⟩
    have HB2 := Lib.hid (HB.out.trans (hb2.mono HB.out.size))
    clear hb2
    go_wp2
    go_ret2
    exact ⟨by rw [HV.out]; rfl, HB2.out⟩
end Go.Proofs.YtedpafdfecofnaaGreatDoor
