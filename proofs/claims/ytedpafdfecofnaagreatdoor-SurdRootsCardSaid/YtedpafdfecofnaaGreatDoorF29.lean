/-
  Contracts of the program's own functions (and their plain mathematics), on the way to the law: each for all arguments that its hypotheses let.
-/
import Derived.Test.YtedpafdfecofnaaGreatDoorF1
import Derived.WalkKit
import Derived.WalkSpells
import Derived.WalkLawsBesides
import Derived.Deep.QuietTactic
import Derived.BigQuiet
import Derived.Lib.Hide
import Derived.WalkSmall
import Derived.Test.YtedpafdfecofnaaGreatDoorF2
import Derived.Maps.OwnSet
import Derived.Maps.RangeWalk
import Derived.Deep.RegionWith
import Derived.Deep.RegionHeld3
import Derived.Deep.DrawnRows
import Derived.Deep.DeepCutAuto
import Derived.OneCell
import Derived.KernelRfl
import Derived.Laws.StructEq
import Derived.StillTailTactics
import Derived.Laws.Externs
import Derived.RangeFuncBox
set_option linter.unusedSimpArgs false
set_option linter.unusedVariables false

/-! ## S90 -/
namespace Go.Proofs.YtedpafdfecofnaaGreatDoor
open Go.RowKit

/-! The reference: in(55), abs(73), Free(57), Divides(58). -/
theorem in_any (n l h : Int) (w : World) :
    Calls Tryz.prog 55 #[.int .i64 n, .int .i64 l, .int .i64 h] w fun e w' => e = .returned (.bool (inB n l h)) ∧ w = w' := by
  have hv : inB n l h = (decide (l ≤ n) && decide (n ≤ h)) := rfl
  by_cases h1 : l ≤ n
  · by_cases h2 : n ≤ h
    · have H := Lib.hid hv
      clear hv
      go_enter Tryz.func55, Tryz.ntmps55
      go_wp2
      go_ret
      exact ⟨ret_bool (by rw [H.out]; simp [h1, h2]), rfl⟩
    · have H := Lib.hid hv
      clear hv
      go_enter Tryz.func55, Tryz.ntmps55
      go_wp2
      go_ret
      exact ⟨ret_bool (by rw [H.out]; simp [h2]), rfl⟩
  · have H := Lib.hid hv
    clear hv
    go_enter Tryz.func55, Tryz.ntmps55
    go_wp2
    go_ret
    exact ⟨ret_bool (by rw [H.out]; simp [h1]; try (intros; omega)), rfl⟩

theorem abs_any (n : Int) (w : World) (h1 : -9000000000000000000 ≤ n) (h2 : n ≤ 9000000000000000000) :
    Calls Tryz.prog 73 #[.int .i64 n] w fun e w' => e = .returned (.int .i64 (n.natAbs : Int)) ∧ w = w' := by
  go_enter Tryz.func73, Tryz.ntmps73
  go_wp2
  · have hp : n ≤ -n ∨ n < -n := by first | (left; assumption) | (right; assumption)
    go_ret
    exact ⟨ret_int (by omega), rfl⟩
  · have hp : -n ≤ n ∨ -n < n := by first | (left; assumption) | (right; assumption)
    go_ret
    exact ⟨ret_int (by omega), rfl⟩

set_option maxHeartbeats 400000 in
theorem free_any (n : Int) (w : World) (h1 : 1 ≤ n) (h2 : n ≤ 1000) :
    Calls Tryz.prog 57 #[.int .i64 n] w fun e w' => e = .returned (.bool (sqfB n)) ∧ w = w' := by
  have hiff := Lib.hid (sqfB_iff n h1 h2)
  go_enter Tryz.func57, Tryz.ntmps57
  go_wp2
  go_loop [3] (fun x => ∃ d : Int, x = .int .i64 d ∧ 2 ≤ d ∧ d ≤ 40 ∧ Hid (SqUp d n)) (fun x => (40 - intOf x).toNat)
  case atStart => exact ⟨2, rfl, by omega, by omega, Lib.hid (fun e h2 hl => by omega)⟩
  case round =>
    obtain ⟨d, rfl, hd, hd2, H⟩ := hrel
    obtain ⟨hdd1, hdd2⟩ := sq_bd d hd (by omega)
    by_cases hc : d * d ≤ n
    · have hd3 : d ≤ 31 := by
        rcases Int.lt_or_le 31 d with h | h
        · have : 32 * 32 ≤ d * d := Int.mul_le_mul (by omega) (by omega) (by omega) (by omega)
          omega
        · exact h
      by_cases hx : n % (d * d) = 0
      · have hx' : (n % (d * d) == 0) = true := by simpa using hx
        have HF : Hid (sqfB n = false) := Lib.hid (by
          cases hs : sqfB n
          · rfl
          · exact absurd (Int.dvd_of_emod_eq_zero hx) (hiff.out.1 hs d hd))
        clear hx
        go_wp2
        go_ret
        exact ⟨ret_bool HF.out.symm, rfl⟩
      · have hx' : (n % (d * d) == 0) = false := by simpa using hx
        have HS := Lib.hid (squp_succ d n H.out hx)
        clear hx
        go_wp2
        go_round
        case rel => exact ⟨d + 1, rfl, by omega, by omega, HS⟩
        case measure => simp only [intOf]; omega
    · have HF : Hid (sqfB n = true) := Lib.hid (hiff.out.2 (squp_fin d n hd h1 H.out hc))
      go_wp2
      go_ret
      exact ⟨ret_bool HF.out.symm, rfl⟩

theorem gcd_natAbs (a b : Int) : Int.gcd (a.natAbs : Int) (b.natAbs : Int) = Int.gcd a b := by simp [Int.gcd]
set_option maxHeartbeats 400000 in
theorem divides_any (a b : Int) (w : World) (ha1 : -9000000000000000000 ≤ a) (ha2 : a ≤ 9000000000000000000) (hb1 : -9000000000000000000 ≤ b) (hb2 : b ≤ 9000000000000000000) :
    Calls Tryz.prog 58 #[.int .i64 a, .int .i64 b] w fun e w' => e = .returned (.int .i64 (Int.gcd a b)) ∧ ∃ n, w' = w.drewN n := by
  have HG := Lib.hid (gcd_natAbs a b)
  go_enter Tryz.func58, Tryz.ntmps58
  go_wp2_with fail
  refine (abs_any a _ ha1 ha2).mono ?_
  rintro e w1 ⟨rfl, rfl⟩
  go_wp2_with fail
  refine (abs_any b _ hb1 hb2).mono ?_
  rintro e w1 ⟨rfl, rfl⟩
  have q1 : (a.natAbs : Int) ≤ 9000000000000000000 := by omega
  have q2 : (b.natAbs : Int) ≤ 9000000000000000000 := by omega
  have q3 : (0 : Int) ≤ (a.natAbs : Int) := by omega
  have q4 : (0 : Int) ≤ (b.natAbs : Int) := by omega
  generalize (a.natAbs : Int) = p0 at *
  generalize (b.natAbs : Int) = q0 at *
  go_wp2
  go_loopw [0, 1] (fun x y wr => ∃ p q : Int, x = .int .i64 p ∧ y = .int .i64 q ∧ 0 ≤ p ∧ p ≤ 9000000000000000000 ∧ 0 ≤ q ∧ q ≤ 9000000000000000000 ∧ Hid (Int.gcd p q = Int.gcd a b) ∧ ∃ n, wr = w.drewN n) (fun _ y _ => (intOf y).natAbs)
  case atStart => exact ⟨_, _, rfl, rfl, by omega, by omega, by omega, by omega, HG, 0, rfl⟩
  case round =>
    obtain ⟨p, q, rfl, rfl, h1, h2, h3, h4, H5, n, rfl⟩ := hrel
    by_cases hq : q = 0
    · subst hq
      go_wp2
      go_ret
      exact ⟨ret_int (gcd_fin p _ H5.out p ⟨h1, .inl rfl⟩), n, rfl⟩
    · have hq' : (q != 0) = true := by simpa using hq
      have hm : 0 ≤ p % q ∧ p % q < q := ⟨Int.emod_nonneg _ (by omega), Int.emod_lt_of_pos _ (by omega)⟩
      have hg : Int.gcd q (p % q) = Int.gcd p q := by
        have := gcd_step p q
        rwa [Int.tmod_eq_emod_of_nonneg h1] at this
      have HM := Lib.hid hm
      have H6 := Lib.hid hg
      clear hm hg
      have hq1 : 1 ≤ q := by omega
      go_wp2
      go_quiet (fail)
      go_wp2
      go_roundw
      case rel => exact ⟨q, p % q, rfl, rfl, h3, h4, HM.out.1, by have := HM.out.2; omega, Lib.hid (H6.out.trans H5.out), n + nq, by rw [World.drewN_drewN]⟩
      case measure => have := HM.out; simp only [intOf]; omega
end Go.Proofs.YtedpafdfecofnaaGreatDoor

/-! ## S91 -/
namespace Go.Proofs.YtedpafdfecofnaaGreatDoor
open Go.RowKit

theorem in_q (n l h : Int) (w : World) : Calls Tryz.prog 55 #[.int .i64 n, .int .i64 l, .int .i64 h] w fun e w' => e = .returned (.bool (inB n l h)) ∧ w' = w := (in_any n l h w).mono fun _ _ ⟨a, b⟩ => ⟨a, b.symm⟩
theorem free_q (n : Int) (w : World) (h1 : 1 ≤ n) (h2 : n ≤ 1000) : Calls Tryz.prog 57 #[.int .i64 n] w fun e w' => e = .returned (.bool (sqfB n)) ∧ w' = w := (free_any n w h1 h2).mono fun _ _ ⟨a, b⟩ => ⟨a, b.symm⟩
theorem valid_no_term {d : Int} {l : List (Int × Int)} {k : Nat} (hk : k < l.length) (h : isTermF (l[k]?.getD (0, 0)) = false) : validF d l = false := by
  have : l.all isTermF = false := by
    rw [List.all_eq_false]; exact ⟨l[k], List.getElem_mem hk, by simp [hk] at h; simp [h]⟩
  simp [validF, this]
theorem valid_no_asc {d : Int} {l : List (Int × Int)} {k : Nat} (hk : k + 1 < l.length) (h : ¬ (l[k]?.getD (0, 0)).2 < (l[k + 1]?.getD (0, 0)).2) : validF d l = false := by
  have : ascF l = false := ascF_no l (k + 1) (by omega) hk h
  simp [validF, this]
theorem dv_le_den {d : Int} (l : List (Int × Int)) (k : Nat) (h1 : 1 ≤ d) (h2 : d ≤ 100000) : dvF d (l.take k) ≤ 100000 := by
  have : ∀ (l : List (Int × Int)) (g : Nat), 1 ≤ g → g ≤ 100000 → l.foldl (fun g t => Int.gcd g t.1) g ≤ 100000 ∧ 1 ≤ l.foldl (fun g t => Int.gcd g t.1) g := by
    intro l
    induction l with
    | nil => intro g a b; exact ⟨b, a⟩
    | cons t l ih =>
      intro g a b
      refine ih _ ?_ ?_
      · exact Int.gcd_pos_of_ne_zero_left _ (by omega)
      · have : Int.gcd (g : Int) t.1 ∣ g := by
          have := Int.gcd_dvd_left (g : Int) t.1
          exact Int.natCast_dvd_natCast.1 this
        exact Nat.le_trans (Nat.le_of_dvd (by omega) this) b
  unfold dvF
  exact (this _ _ (Int.gcd_pos_of_ne_zero_left _ (by omega)) (by simp; omega)).1
theorem all_take {l : List (Int × Int)} (h : ∀ j, j < l.length → isTermF (l[j]?.getD (0, 0)) = true) : l.all isTermF = true := by
  rw [List.all_eq_true]
  intro t ht
  obtain ⟨i, hi, rfl⟩ := List.getElem_of_mem ht
  have := h i hi
  simpa [hi] using this
theorem all_succ {l : List (Int × Int)} {k : Nat} (h : ∀ j, j < k → isTermF (l[j]?.getD (0, 0)) = true) (h2 : isTermF (l[k]?.getD (0, 0)) = true) : ∀ j, j < k + 1 → isTermF (l[j]?.getD (0, 0)) = true := by
  intro j hj
  by_cases e : j = k
  · subst e; exact h2
  · exact h j (by omega)
set_option maxRecDepth 100000 in
set_option maxHeartbeats 8000000 in
theorem number_cells (d : Int) (b off cap : Nat) (l : List (Int × Int)) (w : World) (hb : b < w.heap.size) (hc : TermsC w b off l) (hcap : l.length ≤ cap) (hl : l.length ≤ 8796093022208) :
    Calls Tryz.prog 22 #[.agg #[.int .i64 d, .slice (some ⟨b, off, none⟩) l.length cap]] w (AnsB (validF d l) w) := by
  obtain ⟨W, hW⟩ : ∃ W, w.alloc (.cells #[.int .i64 d, .slice (some ⟨b, off, none⟩) l.length cap] 24) = W := ⟨_, rfl⟩
  have HB0 : Hid (Below w.heap.size w W) := Lib.hid (by rw [← hW]; exact (Below.refl _ w).alloc (Nat.le_refl _) _)
  have hx : W.cell? ⟨w.heap.size, 0, none⟩ = some (.int .i64 d) ∧ W.cell? ⟨w.heap.size, 1, none⟩ = some (.slice (some ⟨b, off, none⟩) l.length cap) := by
    rw [← hW]; exact ⟨cell_two_new w _ _ 24 0 _ rfl, cell_two_new w _ _ 24 1 _ rfl⟩
  have hs : W.heap.size = w.heap.size + 1 := by rw [← hW]; simp
  have HX := Lib.hid hx
  obtain ⟨x0, x1⟩ := hx
  have HC := Lib.hid (hc.below hb HB0.out)
  have hbW : b < W.heap.size := by omega
  have hbw : w.heap.size < W.heap.size := by omega
  have HS := Lib.hid hs
  clear hc hs
  by_cases hd : inB d 1 100000 = true
  rotate_left
  · have hd0 : inB d 1 100000 = false := by simpa using hd
    have HV : Hid (validF d l = false) := Lib.hid (by simp [validF, hd0])
    have HD := Lib.hid hd0
    clear hd hd0
    go_enter Tryz.func22, Tryz.ntmps22
    go_wp2_with fail
    refine (in_any d 1 100000 _).mono ?_
    rintro e w1 ⟨rfl, rfl⟩
    rw [HD.out]
    go_wp2
    go_ret
    exact ⟨ret_bool HV.out.symm, HB0.out⟩
  have hdb : 1 ≤ d ∧ d ≤ 100000 := by simp [inB] at hd; omega
  obtain ⟨hd1, hd2⟩ := hdb
  have HD := Lib.hid hd
  clear hd
  by_cases hlen : l.length ≤ 4
  rotate_left
  · have HV : Hid (validF d l = false) := Lib.hid (by simp [validF]; intros; omega)
    go_enter Tryz.func22, Tryz.ntmps22
    go_wp2_with fail
    refine (in_any d 1 100000 _).mono ?_
    rintro e w1 ⟨rfl, rfl⟩
    rw [HD.out]
    go_wp2
    go_ret
    exact ⟨ret_bool HV.out.symm, HB0.out⟩
  go_enter Tryz.func22, Tryz.ntmps22
  go_wp2_with fail
  refine (in_any d 1 100000 _).mono ?_
  rintro e w1 ⟨rfl, rfl⟩
  rw [HD.out]
  go_wp2
  clear hW
  go_loopw [3, 4] (fun g i wr => ∃ k : Nat, k ≤ l.length ∧ i = .int .i64 k ∧ (∃ x : Nat, g = .int .i64 x ∧ (x : Int) ≤ 100000 ∧ Hid (x = dvF d (l.take k))) ∧ Hid (∀ j, j < k → isTermF (l[j]?.getD (0, 0)) = true) ∧ Hid (ascUp l k) ∧ Below W.heap.size W wr) (fun _ i _ => l.length - (intOf i).toNat)
  case atStart => exact ⟨0, Nat.zero_le _, rfl, ⟨d.toNat, by rw [show ((d.toNat : Nat) : Int) = d by omega], by omega, Lib.hid (by simp [dvF]; omega)⟩, Lib.hid (fun j h => by omega), Lib.hid (fun i h1 h2 => by omega), Below.refl _ _⟩
  case round =>
    obtain ⟨k, hk, rfl, ⟨x, rfl, hx2, HX2⟩, HA, HU, HBr⟩ := hrel
    have y0 : wr.cell? ⟨w.heap.size, 0, none⟩ = some (.int .i64 d) := (HBr.cell (p := ⟨w.heap.size, 0, none⟩) hbw).trans HX.out.1
    have y1 : wr.cell? ⟨w.heap.size, 1, none⟩ = some (.slice (some ⟨b, off, none⟩) l.length cap) := (HBr.cell (p := ⟨w.heap.size, 1, none⟩) hbw).trans HX.out.2
    have z1 : w.heap.size < wr.heap.size := by have := HBr.size; omega
    have z2 : b < wr.heap.size := by have := HBr.size; omega
    clear x0 x1
    by_cases hlt : k < l.length
    rotate_left
    · have hkl : k = l.length := by omega
      have HV : Hid (validF d l = decide ((x : Int) = 1)) := Lib.hid (by
        have e := HX2.out
        rw [hkl, List.take_length] at e
        have a1 := all_take (l := l) (fun j hj => HA.out j (by omega))
        have a2 := ascF_yes l k HU.out (by omega)
        rw [validF, HD.out, a1, a2, ← e]
        simp [hlen]
        omega)
      clear hkl
      have hx2' := hx2
      by_cases h1 : (x : Int) = 1
      · have g1 : ((x : Int) == 1) = true := by simpa using h1
        have H1 := Lib.hid h1
        clear h1
        go_wp2
        go_ret
        exact ⟨ret_bool (by rw [HV.out]; simp [H1.out]), HB0.out.trans (HBr.mono HB0.out.size)⟩
      · have g1 : ((x : Int) == 1) = false := by simpa using h1
        have H1 := Lib.hid h1
        clear h1
        go_wp2
        go_ret
        exact ⟨ret_bool (by rw [HV.out]; simp [H1.out]), HB0.out.trans (HBr.mono HB0.out.size)⟩
    obtain ⟨hc1, hc2⟩ := HC.out.below hbW HBr k hlt
    obtain ⟨c, r, hel⟩ : ∃ c r, l[k]?.getD (0, 0) = (c, r) := ⟨_, _, rfl⟩
    rw [hel] at hc1 hc2
    dsimp only at hc1 hc2
    have HNT := Lib.hid (fun h : isTermF (c, r) = false => valid_no_term (d := d) hlt (by rw [hel]; exact h))
    have HDV := Lib.hid (show dvF d (l.take (k + 1)) = Int.gcd x c by rw [dv_take_succ d l k hlt, hel, ← HX2.out])
    have HDL := Lib.hid (dv_le_den l (k + 1) hd1 hd2)
    have HEL := Lib.hid hel
    clear hel
    have HFIN : Hid (∀ w2, Below wr.heap.size wr w2 → Below w.heap.size w w2) := Lib.hid fun w2 h => HB0.out.trans ((HBr.trans (h.mono HBr.size)).mono HB0.out.size)
    have HBR := Lib.hid HBr
    clear HBr
    rcases Nat.eq_zero_or_pos k with hk0 | hk0
    · subst hk0
      simp only [Nat.zero_mul, Nat.add_zero] at hc1 hc2
      rw [show ((0 : Nat) : Int) = 0 from rfl]
      cases hI : inB r 1 1000
      · have HV := Lib.hid (HNT.out (by
          simp only [isTermF, isPartF, inB] at hI ⊢
          simp only [Bool.and_eq_false_iff, decide_eq_false_iff_not, Bool.and_eq_true, decide_eq_true_eq, Int.not_le] at hI ⊢
          omega))
        clear HNT
        go_wp2
        go_quiet (first | (go_at_call 55; exact Calls.quiet_of_same (in_q _ _ _ _)) | (go_at_call 57; exact Calls.quiet_of_same (free_q _ _ (by assumption) (by assumption))))
        go_wp2
        go_ret
        exact ⟨ret_bool HV.out.symm, HFIN.out _ (below_drewN ((Below.refl _ _).alloc (Nat.le_refl _) _) _)⟩
      have hr1 : 1 ≤ r := by simp [inB] at hI; omega
      have hr2 : r ≤ 1000 := by simp [inB] at hI; omega
      cases hS : sqfB r
      · have HV := Lib.hid (HNT.out (by simp [isTermF, hS]))
        clear HNT
        go_wp2
        go_quiet (first | (go_at_call 55; exact Calls.quiet_of_same (in_q _ _ _ _)) | (go_at_call 57; exact Calls.quiet_of_same (free_q _ _ (by assumption) (by assumption))))
        go_wp2
        go_ret
        exact ⟨ret_bool HV.out.symm, HFIN.out _ (below_drewN ((Below.refl _ _).alloc (Nat.le_refl _) _) _)⟩
      by_cases h0 : c = 0
      · have HV := Lib.hid (HNT.out (by simp [isTermF, h0]))
        have g0 : (c == 0) = true := by simpa using h0
        have H0 := Lib.hid h0
        clear HNT h0
        go_wp2
        go_quiet (first | (go_at_call 55; exact Calls.quiet_of_same (in_q _ _ _ _)) | (go_at_call 57; exact Calls.quiet_of_same (free_q _ _ (by assumption) (by assumption))))
        go_wp2
        go_ret
        exact ⟨ret_bool HV.out.symm, HFIN.out _ (below_drewN ((Below.refl _ _).alloc (Nat.le_refl _) _) _)⟩
      have g0 : (c == 0) = false := by simpa using h0
      cases hJ : inB c (-100000) 100000
      · have HV := Lib.hid (HNT.out (by simp [isTermF, isPartF, hJ]))
        have H0 := Lib.hid h0
        clear HNT h0
        go_wp2
        go_quiet (first | (go_at_call 55; exact Calls.quiet_of_same (in_q _ _ _ _)) | (go_at_call 57; exact Calls.quiet_of_same (free_q _ _ (by assumption) (by assumption))))
        go_wp2
        go_ret
        exact ⟨ret_bool HV.out.symm, HFIN.out _ (below_drewN ((Below.refl _ _).alloc (Nat.le_refl _) _) _)⟩
      have hj1 : -100000 ≤ c := by simp [inB] at hJ; omega
      have hj2 : c ≤ 100000 := by simp [inB] at hJ; omega
      have HT : Hid (isTermF (c, r) = true) := Lib.hid (by
        have h3 : inB r 0 1000 = true := by simp [inB]; omega
        simp [isTermF, isPartF, hJ, h3, hS, h0]; omega)
      clear h0 HNT
      go_wp2
      go_quiet (first | (go_at_call 55; exact Calls.quiet_of_same (in_q _ _ _ _)) | (go_at_call 57; exact Calls.quiet_of_same (free_q _ _ (by assumption) (by assumption))))
      go_wp2_with fail
      refine (divides_any x c _ (by omega) (by omega) (by omega) (by omega)).mono ?_
      rintro e w2 ⟨rfl, n2, rfl⟩
      go_wp2
      go_roundw
      case rel => exact ⟨_, hlt, by go_num, ⟨_, rfl, by rw [← HDV.out]; have := HDL.out; omega, Lib.hid HDV.out.symm⟩, Lib.hid (all_succ HA.out (by rw [HEL.out]; exact HT.out)), Lib.hid (fun i h1 h2 => by omega), below_drewN (HBR.out.alloc HBR.out.size _) _⟩
      case measure => simp [intOf]; omega
    obtain ⟨j, rfl⟩ : ∃ j, k = j + 1 := ⟨k - 1, by omega⟩
    obtain ⟨_, hc3⟩ := HC.out.below hbW HBR.out j (by omega)
    obtain ⟨y, hy⟩ : ∃ y, (l[j]?.getD (0, 0)).2 = y := ⟨_, rfl⟩
    rw [hy] at hc3
    have HPV := Lib.hid hy
    have HNA := Lib.hid (fun h : ¬ y < r => valid_no_asc (d := d) hlt (by rw [HEL.out, hy]; exact h))
    clear hy
    have e1 : (((j + 1 : Nat) : Int) - 1) = j := by omega
    cases hI : inB r 1 1000
    · have HV := Lib.hid (HNT.out (by
        simp only [isTermF, isPartF, inB] at hI ⊢
        simp only [Bool.and_eq_false_iff, decide_eq_false_iff_not, Bool.and_eq_true, decide_eq_true_eq, Int.not_le] at hI ⊢
        omega))
      clear HNT
      go_wp2
      go_quiet (first | (go_at_call 55; exact Calls.quiet_of_same (in_q _ _ _ _)) | (go_at_call 57; exact Calls.quiet_of_same (free_q _ _ (by assumption) (by assumption))))
      go_wp2
      go_ret
      exact ⟨ret_bool HV.out.symm, HFIN.out _ (below_drewN ((Below.refl _ _).alloc (Nat.le_refl _) _) _)⟩
    have hr1 : 1 ≤ r := by simp [inB] at hI; omega
    have hr2 : r ≤ 1000 := by simp [inB] at hI; omega
    cases hS : sqfB r
    · have HV := Lib.hid (HNT.out (by simp [isTermF, hS]))
      clear HNT
      go_wp2
      go_quiet (first | (go_at_call 55; exact Calls.quiet_of_same (in_q _ _ _ _)) | (go_at_call 57; exact Calls.quiet_of_same (free_q _ _ (by assumption) (by assumption))))
      go_wp2
      go_ret
      exact ⟨ret_bool HV.out.symm, HFIN.out _ (below_drewN ((Below.refl _ _).alloc (Nat.le_refl _) _) _)⟩
    by_cases hxy : y < r
    rotate_left
    · have HV := Lib.hid (HNA.out hxy)
      have hd4 : decide (r ≤ y) = true := decide_eq_true (by omega)
      have HXY := Lib.hid hxy
      clear HNT hxy
      go_wp2
      go_quiet (first | (go_at_call 55; exact Calls.quiet_of_same (in_q _ _ _ _)) | (go_at_call 57; exact Calls.quiet_of_same (free_q _ _ (by assumption) (by assumption))))
      go_wp2
      go_ret
      exact ⟨ret_bool HV.out.symm, HFIN.out _ (below_drewN ((Below.refl _ _).alloc (Nat.le_refl _) _) _)⟩
    have hd4 : decide (r ≤ y) = false := decide_eq_false (by omega)
    have HXY := Lib.hid hxy
    clear hxy
    by_cases h0 : c = 0
    · have HV := Lib.hid (HNT.out (by simp [isTermF, h0]))
      have g0 : (c == 0) = true := by simpa using h0
      have H0 := Lib.hid h0
      clear HNT h0
      go_wp2
      go_quiet (first | (go_at_call 55; exact Calls.quiet_of_same (in_q _ _ _ _)) | (go_at_call 57; exact Calls.quiet_of_same (free_q _ _ (by assumption) (by assumption))))
      go_wp2
      go_ret
      exact ⟨ret_bool HV.out.symm, HFIN.out _ (below_drewN ((Below.refl _ _).alloc (Nat.le_refl _) _) _)⟩
    have g0 : (c == 0) = false := by simpa using h0
    cases hJ : inB c (-100000) 100000
    · have HV := Lib.hid (HNT.out (by simp [isTermF, isPartF, hJ]))
      have H0 := Lib.hid h0
      clear HNT h0
      go_wp2
      go_quiet (first | (go_at_call 55; exact Calls.quiet_of_same (in_q _ _ _ _)) | (go_at_call 57; exact Calls.quiet_of_same (free_q _ _ (by assumption) (by assumption))))
      go_wp2
      go_ret
      exact ⟨ret_bool HV.out.symm, HFIN.out _ (below_drewN ((Below.refl _ _).alloc (Nat.le_refl _) _) _)⟩
    have hj1 : -100000 ≤ c := by simp [inB] at hJ; omega
    have hj2 : c ≤ 100000 := by simp [inB] at hJ; omega
    have HT : Hid (isTermF (c, r) = true) := Lib.hid (by
      have h3 : inB r 0 1000 = true := by simp [inB]; omega
      simp [isTermF, isPartF, hJ, h3, hS, h0]; omega)
    clear h0 HNT
    go_wp2
    go_quiet (first | (go_at_call 55; exact Calls.quiet_of_same (in_q _ _ _ _)) | (go_at_call 57; exact Calls.quiet_of_same (free_q _ _ (by assumption) (by assumption))))
    go_wp2_with fail
    refine (divides_any x c _ (by omega) (by omega) (by omega) (by omega)).mono ?_
    rintro e w2 ⟨rfl, n2, rfl⟩
    go_wp2
    go_roundw
    case rel => exact ⟨_, hlt, by go_num, ⟨_, rfl, by rw [← HDV.out]; have := HDL.out; omega, Lib.hid HDV.out.symm⟩, Lib.hid (all_succ HA.out (by rw [HEL.out]; exact HT.out)), Lib.hid (ascUp_succ l _ HU.out (by rw [HEL.out]; have q := HXY.out; simpa [HPV.out] using q)), below_drewN (HBR.out.alloc HBR.out.size _) _⟩
    case measure => simp [intOf]; omega
set_option maxRecDepth 100000 in
set_option maxHeartbeats 2000000 in
theorem number_nil (d : Int) (a : Option Addr) (cap : Nat) (w : World) : Calls Tryz.prog 22 #[.agg #[.int .i64 d, .slice a 0 cap]] w (AnsB (validF d []) w) := by
  have HB0 : Hid (Below w.heap.size w (w.alloc (.cells #[.int .i64 d, .slice a 0 cap] 24))) := Lib.hid ((Below.refl _ w).alloc (Nat.le_refl _) _)
  have hv : validF d [] = (inB d 1 100000 && decide (d = 1)) := by
    have e : dvF d [] = d.natAbs := by simp [dvF]
    have e2 : ascF [] = true := rfl
    cases hI : inB d 1 100000
    · simp [validF, hI]
    · have : 1 ≤ d := by simp [inB] at hI; omega
      simp [validF, hI, e, e2]
      omega
  cases hI : inB d 1 100000
  · have HV : Hid (validF d [] = false) := Lib.hid (by rw [hv, hI]; rfl)
    have HI := Lib.hid hI
    clear hv hI
    go_enter Tryz.func22, Tryz.ntmps22
    go_wp2_with fail
    refine (in_any d 1 100000 _).mono ?_
    rintro e w1 ⟨rfl, rfl⟩
    rw [HI.out]
    go_wp2
    go_ret
    exact ⟨ret_bool HV.out.symm, HB0.out⟩
  · by_cases h1 : d = 1
    · have HV : Hid (validF d [] = true) := Lib.hid (by rw [hv, hI]; simp [h1])
      have HI := Lib.hid hI
      have g1 : (d == 1) = true := by simpa using h1
      clear hv hI h1
      go_enter Tryz.func22, Tryz.ntmps22
      go_wp2_with fail
      refine (in_any d 1 100000 _).mono ?_
      rintro e w1 ⟨rfl, rfl⟩
      rw [HI.out]
      go_wp2
      refine wp_loop_rounds 1 ?_
      rw [rounds_succ]
      go_wp2
      go_ret
      exact ⟨ret_bool HV.out.symm, HB0.out⟩
    · have HV : Hid (validF d [] = false) := Lib.hid (by rw [hv, hI]; simp [h1])
      have HI := Lib.hid hI
      have g1 : (d == 1) = false := by simpa using h1
      clear hv hI h1
      go_enter Tryz.func22, Tryz.ntmps22
      go_wp2_with fail
      refine (in_any d 1 100000 _).mono ?_
      rintro e w1 ⟨rfl, rfl⟩
      rw [HI.out]
      go_wp2
      refine wp_loop_rounds 1 ?_
      rw [rounds_succ]
      go_wp2
      go_ret
      exact ⟨ret_bool HV.out.symm, HB0.out⟩
/-- The reference's Number is the program's. -/
theorem number_any (d : Int) (v : Value) (l : List (Int × Int)) (w : World) (h : TermsAt w v l) : Calls Tryz.prog 22 #[.agg #[.int .i64 d, v]] w (AnsB (validF d l) w) := by
  obtain ⟨hl, ⟨rfl, a, cap, rfl⟩ | ⟨b, off, cap, rfl, hcap, hb, hc⟩⟩ := h
  · exact number_nil d a cap w
  · exact number_cells d b off cap l w hb hc hcap hl
end Go.Proofs.YtedpafdfecofnaaGreatDoor
