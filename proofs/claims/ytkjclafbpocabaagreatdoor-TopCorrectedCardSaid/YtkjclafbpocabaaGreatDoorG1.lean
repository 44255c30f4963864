/-
  Contracts of the program's own functions (and their plain mathematics), on the way to the law: each for all arguments that its hypotheses let.
-/
import Derived.Test.YtkjclafbpocabaaGreatDoorProg
import Derived.WalkKit
import Derived.WalkSpells
import Derived.WalkLawsBesides
import Derived.Deep.QuietTactic
import Derived.BigQuiet
import Derived.Lib.Hide
import Derived.WalkSmall
set_option linter.unusedSimpArgs false
set_option linter.unusedVariables false

/-! ## S1 -/
namespace Go.Proofs.YtkjclafbpocabaaGreatDoor
open Go.RowKit
theorem ret_bool {a b : Bool} (h : a = b) : Ending.returned (.bool a) = .returned (.bool b) := by rw [h]
theorem ret_int {k : IntKind} {a b : Int} (h : a = b) : Ending.returned (.int k a) = .returned (.int k b) := by rw [h]

/-- within -/
def inB (n l h : Int) : Bool := decide (l ≤ n) && decide (n ≤ h)
theorem within_any (n l h : Int) (w : World) :
    Calls Tryz.prog 119 #[.int .i64 n, .int .i64 l, .int .i64 h] w fun e w' => e = .returned (.bool (inB n l h)) ∧ w' = w := by
  have hv : inB n l h = (decide (l ≤ n) && decide (n ≤ h)) := rfl
  by_cases h1 : l ≤ n
  · by_cases h2 : n ≤ h
    · have H := Lib.hid hv
      clear hv
      go_enter Tryz.func119, Tryz.ntmps119
      go_wp2
      go_ret
      exact ⟨ret_bool (by rw [H.out]; simp [h1, h2]), rfl⟩
    · have H := Lib.hid hv
      clear hv
      go_enter Tryz.func119, Tryz.ntmps119
      go_wp2
      go_ret
      exact ⟨ret_bool (by rw [H.out]; simp [h2]), rfl⟩
  · have H := Lib.hid hv
    clear hv
    go_enter Tryz.func119, Tryz.ntmps119
    go_wp2
    go_ret
    exact ⟨ret_bool (by rw [H.out]; simp [h1]; try (intros; omega)), rfl⟩

theorem gcd_step (p q : Int) : Int.gcd q (p.tmod q) = Int.gcd p q := by
  rw [Int.gcd_comm p q]
  have : p.tmod q = p - q * (p.tdiv q) := by have := Int.mul_tdiv_add_tmod p q; omega
  rw [this, Int.sub_eq_add_neg, ← Int.mul_neg]
  simp
theorem gcd_fin (p : Int) (n : Nat) (h : Int.gcd p 0 = n) (r : Int) (hr : 0 ≤ r ∧ (r = p ∨ r = -p)) : r = (n : Int) := by
  rw [Int.gcd_zero_right] at h; omega
theorem tmod_bd (p q : Int) (hq : q ≠ 0) (h3 : -9000000000000000000 ≤ q) (h4 : q ≤ 9000000000000000000) : -9000000000000000000 ≤ p.tmod q ∧ p.tmod q ≤ 9000000000000000000 ∧ (p.tmod q).natAbs < q.natAbs := by
  have h := Int.natAbs_tmod p q
  have : p.natAbs % q.natAbs < q.natAbs := Nat.mod_lt _ (by omega)
  omega

set_option maxHeartbeats 400000 in
theorem gcd_any (a b : Int) (w : World) (ha1 : -9000000000000000000 ≤ a) (ha2 : a ≤ 9000000000000000000) (hb1 : -9000000000000000000 ≤ b) (hb2 : b ≤ 9000000000000000000) :
    Calls Tryz.prog 170 #[.int .i64 a, .int .i64 b] w fun e w' => e = .returned (.int .i64 (Int.gcd a b)) ∧ ∃ n, w' = w.drewN n := by
  go_enter Tryz.func170, Tryz.ntmps170
  go_wp2
  go_loopw [0, 1] (fun x y wr => ∃ p q : Int, x = .int .i64 p ∧ y = .int .i64 q ∧ -9000000000000000000 ≤ p ∧ p ≤ 9000000000000000000 ∧ -9000000000000000000 ≤ q ∧ q ≤ 9000000000000000000 ∧ Hid (Int.gcd p q = Int.gcd a b) ∧ ∃ n, wr = w.drewN n) (fun _ y _ => (intOf y).natAbs)
  case atStart => exact ⟨a, b, rfl, rfl, ha1, ha2, hb1, hb2, Lib.hid rfl, 0, rfl⟩
  case round => 
    obtain ⟨p, q, rfl, rfl, h1, h2, h3, h4, H5, n, rfl⟩ := hrel
    by_cases hq : q = 0
    · subst hq
      go_wp2
      · have hp : p ≤ -p ∨ p < -p := by first | (left; assumption) | (right; assumption)
        go_ret
        exact ⟨ret_int (gcd_fin p _ H5.out _ (by omega)), n, rfl⟩
      · have hp : -p ≤ p ∨ -p < p := by first | (left; assumption) | (right; assumption)
        go_ret
        exact ⟨ret_int (gcd_fin p _ H5.out _ (by omega)), n, rfl⟩
    · have hq' : (q != 0) = true := by simpa using hq
      have hbd := Lib.hid (tmod_bd p q hq h3 h4)
      go_wp2
      go_quiet (fail)
      go_wp2
      go_roundw
      case rel => exact ⟨q, p.tmod q, rfl, rfl, h3, h4, hbd.out.1, hbd.out.2.1, Lib.hid ((gcd_step p q).trans H5.out), n + nq, by rw [World.drewN_drewN]⟩
      case measure => exact hbd.out.2.2
def SqF (r : Int) : Prop := ∀ e : Int, 2 ≤ e → ¬ (e * e ∣ r)
def SqUp (d r : Int) : Prop := ∀ e : Int, 2 ≤ e → e < d → ¬ (e * e ∣ r)

theorem sq_bd (d : Int) (hd : 2 ≤ d) (hd2 : d ≤ 65537) : 4 ≤ d * d ∧ d * d ≤ 5000000000 := by
  constructor
  · have := Int.mul_le_mul hd hd (by omega) (by omega); omega
  · have := Int.mul_le_mul hd2 hd2 (by omega) (by omega); omega
theorem mul_bd (s d : Int) (hs : 1 ≤ s) (hs2 : s ≤ 2147483648) (hd : 2 ≤ d) (hd2 : d ≤ 65537) : 0 ≤ s * d ∧ s * d ≤ 5000000000000000 := by
  constructor
  · exact Int.mul_nonneg (by omega) (by omega)
  · have := Int.mul_le_mul hs2 hd2 (by omega) (by omega); omega
theorem s_bd (n s r : Int) (h : s * s * r = n) (hn : n ≤ 2147483648) (hs : 1 ≤ s) (hr : 1 ≤ r) : s ≤ 2147483648 ∧ r ≤ 2147483648 := by
  have h1 : s * 1 ≤ s * s := Int.mul_le_mul_of_nonneg_left hs (by omega)
  have h2 : s * s * 1 ≤ s * s * r := Int.mul_le_mul_of_nonneg_left hr (by omega)
  have h3 : 1 * r ≤ s * s * r := Int.mul_le_mul_of_nonneg_right (by omega) (by omega)
  omega
theorem split_in (n s r d : Int) (h : s * s * r = n) (hn : n ≤ 2147483648) (hs : 1 ≤ s) (hr : 1 ≤ r) (hd : 2 ≤ d) (hd2 : d ≤ 65537) (hx : r % (d * d) = 0) (hu : SqUp d r) :
    1 ≤ s * d ∧ 1 ≤ r / (d * d) ∧ s * d ≤ 2147483648 ∧ r / (d * d) ≤ 2147483648 ∧ (s * d) * (s * d) * (r / (d * d)) = n ∧ SqUp d (r / (d * d)) ∧ r / (d * d) < r := by
  have hdd := sq_bd d hd hd2
  obtain ⟨q, hq⟩ := Int.dvd_of_emod_eq_zero hx
  have hdiv : r / (d * d) = q := by rw [hq]; exact Int.mul_ediv_cancel_left _ (by omega)
  have hq1 : 1 ≤ q := by
    rcases Int.lt_or_le 0 q with h0 | h0
    · omega
    · have : d * d * q ≤ d * d * 0 := Int.mul_le_mul_of_nonneg_left h0 (by omega)
      omega
  have hlt : q < r := by
    have : 4 * q ≤ d * d * q := Int.mul_le_mul_of_nonneg_right hdd.1 (by omega)
    omega
  have hsd : 1 ≤ s * d := by
    have : 1 * 1 ≤ s * d := Int.mul_le_mul hs (by omega) (by omega) (by omega)
    omega
  have he : (s * d) * (s * d) * q = n := by
    rw [← h, hq]; simp only [Int.mul_assoc, Int.mul_left_comm, Int.mul_comm]
  have hb := s_bd n (s * d) q he hn hsd hq1
  rw [hdiv]
  exact ⟨hsd, hq1, hb.1, hb.2, he, fun e h2 hl hdvd => hu e h2 hl (Int.dvd_trans hdvd ⟨d * d, by rw [hq, Int.mul_comm]⟩), hlt⟩
theorem squp_succ (d r : Int) (h : SqUp d r) (hx : ¬ r % (d * d) = 0) : SqUp (d + 1) r := by
  intro e h2 hl hdvd
  by_cases he : e = d
  · subst he; exact hx (Int.emod_eq_zero_of_dvd hdvd)
  · exact h e h2 (by omega) hdvd
theorem squp_fin (d r : Int) (hd : 2 ≤ d) (hr : 1 ≤ r) (h : SqUp d r) (hc : ¬ d * d ≤ r) : SqF r := by
  intro e h2 hdvd
  by_cases he : e < d
  · exact h e h2 he hdvd
  · have h1 : d * d ≤ e * e := Int.mul_le_mul (by omega) (by omega) (by omega) (by omega)
    have := Int.le_of_dvd (by omega) hdvd
    omega
theorem d_bd (d r : Int) (hd : 2 ≤ d) (hr2 : r ≤ 2147483648) (hc : d * d ≤ r) : d ≤ 65535 := by
  rcases Int.lt_or_le 65535 d with h | h
  · have : 65536 * 65536 ≤ d * d := Int.mul_le_mul (by omega) (by omega) (by omega) (by omega)
    omega
  · exact h

def SplitTo (n : Int) (w : World) (e : Ending) (w' : World) : Prop :=
  (∃ s r : Int, e = .returned (.tuple #[.int .i64 s, .int .i64 r]) ∧ 1 ≤ s ∧ 1 ≤ r ∧ s * s * r = n ∧ SqF r) ∧ ∃ n, w' = w.drewN n

set_option maxHeartbeats 400000 in
theorem split_any (n : Int) (w : World) (h1 : 1 ≤ n) (h2 : n ≤ 2147483648) :
    Calls Tryz.prog 122 #[.int .i64 n] w (SplitTo n w) := by
  have h0 : (n == 0) = false := by simp; omega
  go_enter Tryz.func122, Tryz.ntmps122
  go_wp2
  go_loopw [2, 3, 4] (fun x y z wr => ∃ s r d : Int, x = .int .i64 s ∧ y = .int .i64 r ∧ z = .int .i64 d ∧ 1 ≤ s ∧ 1 ≤ r ∧ r ≤ 2147483648 ∧ s ≤ 2147483648 ∧ 2 ≤ d ∧ d ≤ 65537 ∧ Hid (s * s * r = n) ∧ Hid (SqUp d r) ∧ ∃ n, wr = w.drewN n) (fun _ _ z _ => (70000 - intOf z).toNat)
  case atStart => exact ⟨1, n, 2, rfl, rfl, rfl, by omega, by omega, by omega, by omega, by omega, by omega, Lib.hid (by omega), Lib.hid (fun e h2 hl => by omega), 0, rfl⟩
  case round => 
    obtain ⟨s, r, d, rfl, rfl, rfl, hs, hr, hr2, hs2, hd, hd2, H5, H6, m, rfl⟩ := hrel
    obtain ⟨hdd1, hdd2⟩ := sq_bd d hd hd2
    by_cases hc : d * d ≤ r
    · have hd3 := d_bd d r hd hr2 hc
      go_wp2
      obtain ⟨wo, hwo⟩ : ∃ wo : World, wo = w.drewN m := ⟨_, rfl⟩
      rw [← hwo]
      have Hwo := Lib.hid hwo
      clear hwo
      go_loopw [2, 3] (fun x y wr => ∃ s r : Int, x = .int .i64 s ∧ y = .int .i64 r ∧ 1 ≤ s ∧ 1 ≤ r ∧ r ≤ 2147483648 ∧ s ≤ 2147483648 ∧ Hid (s * s * r = n) ∧ Hid (SqUp d r) ∧ ∃ n, wr = wo.drewN n) (fun _ y _ => (intOf y).toNat)
      case atStart => exact ⟨s, r, rfl, rfl, hs, hr, hr2, hs2, H5, H6, 0, rfl⟩
      case round =>
        clear hs hr hr2 hs2 H5 H6
        obtain ⟨s, r, rfl, rfl, hs, hr, hr2, hs2, H5, H6, m2, rfl⟩ := hrel
        obtain ⟨hsd1, hsd2⟩ := mul_bd s d hs hs2 hd hd2
        by_cases hx : r % (d * d) = 0
        · have hx' : (r % (d * d) == 0) = true := by simpa using hx
          have HS := Lib.hid (split_in n s r d H5.out h2 hs hr hd hd2 hx H6.out)
          clear hx
          go_wp2
          go_quiet (fail)
          go_wp2
          go_roundw
          case rel => exact ⟨s * d, r / (d * d), rfl, rfl, HS.out.1, HS.out.2.1, HS.out.2.2.2.1, HS.out.2.2.1, Lib.hid HS.out.2.2.2.2.1, Lib.hid HS.out.2.2.2.2.2.1, _, by rw [World.drewN_drewN]⟩
          case measure => have := HS.out; simp only [intOf]; omega
        · have hx' : (r % (d * d) == 0) = false := by simpa using hx
          have HS := Lib.hid (squp_succ d r H6.out hx)
          clear hx
          go_wp2
          go_roundw
          case rel => exact ⟨s, r, d + 1, rfl, rfl, rfl, hs, hr, hr2, hs2, by omega, by omega, H5, HS, _, by rw [Hwo.out, World.drewN_drewN]⟩
          case measure => simp only [intOf]; omega
    · have HF := Lib.hid (squp_fin d r hd hr H6.out hc)
      go_wp2
      go_ret2
      exact ⟨⟨s, r, rfl, hs, hr, H5.out, HF.out⟩, m, rfl⟩

theorem split_zero (w : World)  :
    Calls Tryz.prog 122 #[.int .i64 0] w fun e w' => e = .returned (.tuple #[.int .i64 0, .int .i64 1]) ∧ w' = w := by
  go_enter Tryz.func122, Tryz.ntmps122
  go_wp2
  go_ret2
  exact ⟨rfl, rfl⟩

end Go.Proofs.YtkjclafbpocabaaGreatDoor

/-! ## S2 -/
namespace Go.Proofs.YtkjclafbpocabaaGreatDoor
open Go.RowKit
def isPartF (t : Int × Int) : Bool := inB t.1 (-100000) 100000 && inB t.2 0 1000

theorem isPart_any (c r : Int) (w : World) :
    Calls Tryz.prog 121 #[.agg #[.int .i64 c, .int .i64 r]] w fun e w' => e = .returned (.bool (isPartF (c, r))) ∧ Below w.heap.size w w' := by
  go_enter Tryz.func121, Tryz.ntmps121
  go_wp2
  all_goals
    go_ret
    exact ⟨ret_bool (by rw [Bool.eq_iff_iff]; simp [isPartF, inB]; try omega), (Below.refl _ _).alloc (Nat.le_refl _) _⟩

/-- The cells of a list of terms from an address on. -/
def TermsC (w : World) (b off : Nat) (l : List (Int × Int)) : Prop :=
  ∀ i, i < l.length → w.cell? ⟨b, off + i * 2, none⟩ = some (.int .i64 (l[i]?.getD (0, 0)).1) ∧ w.cell? ⟨b, off + i * 2 + 1, none⟩ = some (.int .i64 (l[i]?.getD (0, 0)).2)

def TermsAt (w : World) (v : Value) (l : List (Int × Int)) : Prop :=
  l.length ≤ 8796093022208 ∧ ((l = [] ∧ ∃ a cap, v = .slice a 0 cap) ∨ ∃ b off cap, v = .slice (some ⟨b, off, none⟩) l.length cap ∧ l.length ≤ cap ∧ b < w.heap.size ∧ TermsC w b off l)

theorem TermsC.below {w w' : World} {b off : Nat} {l : List (Int × Int)} {B : Nat} (h : TermsC w b off l) (hb : b < B) (hw : Below B w w') : TermsC w' b off l :=
  fun i hi => ⟨(hw.cell (p := ⟨b, _, none⟩) hb).trans (h i hi).1, (hw.cell (p := ⟨b, _, none⟩) hb).trans (h i hi).2⟩
theorem TermsAt.below {w w' : World} {v : Value} {l : List (Int × Int)} (h : TermsAt w v l) (hw : Below w.heap.size w w') : TermsAt w' v l := by
  obtain ⟨hl, h | ⟨b, off, cap, hv, hcap, hb, hc⟩⟩ := h
  · exact ⟨hl, .inl h⟩
  · exact ⟨hl, .inr ⟨b, off, cap, hv, hcap, Nat.lt_of_lt_of_le hb hw.size, hc.below hb hw⟩⟩

theorem all_take_succ (p : Int × Int → Bool) (l : List (Int × Int)) (k : Nat) (h : k < l.length) : (l.take (k + 1)).all p = ((l.take k).all p && p (l[k]?.getD (0, 0))) := by
  rw [List.take_succ_eq_append_getElem h, List.all_append]; simp [h]
theorem all_not (p : Int × Int → Bool) (l : List (Int × Int)) (k : Nat) (h : k < l.length) (hp : p (l[k]?.getD (0, 0)) = false) : l.all p = false := by
  rw [List.all_eq_false]; exact ⟨l[k], List.getElem_mem h, by simp [h] at hp; simp [hp]⟩


def AnsB (b : Bool) (w : World) (e : Ending) (w' : World) : Prop := e = .returned (.bool b) ∧ Below w.heap.size w w'

set_option maxHeartbeats 400000 in
theorem every_cells (f : Nat) (hff : f = 121 ∨ f = 164) (p : Int × Int → Bool) (hf : Hid (∀ c r w, Calls Tryz.prog f #[.agg #[.int .i64 c, .int .i64 r]] w (AnsB (p (c, r)) w)))
    (b off cap : Nat) (l : List (Int × Int)) (w : World) (hb : b < w.heap.size) (hc : TermsC w b off l) (hl : l.length ≤ 8796093022208) :
    Calls Tryz.prog 120 #[.func (.func f) #[] #[], .slice (some ⟨b, off, none⟩) l.length cap] w (AnsB (l.all p) w) := by
  have HC := Lib.hid hc
  clear hc
  rcases hff with rfl | rfl
  all_goals
    go_enter Tryz.func120, Tryz.ntmps120
    go_wp2
    go_loopw [9] (fun i wr => ∃ k : Nat, k ≤ l.length ∧ i = .int .i64 k ∧ Hid ((l.take k).all p = true) ∧ Below w.heap.size w wr) (fun i _ => l.length - (intOf i).toNat)
    case atStart => exact ⟨0, Nat.zero_le _, rfl, Lib.hid (by simp), Below.refl _ _⟩
    case round =>
      obtain ⟨k, hk, rfl, HA, HB⟩ := hrel
      by_cases hlt : k < l.length
      · obtain ⟨hc1, hc2⟩ := HC.out.below hb HB k hlt
        have has := all_take_succ p l k hlt
        have hno := all_not p l k hlt
        obtain ⟨c, r, hel⟩ : ∃ c r, l[k]?.getD (0, 0) = (c, r) := ⟨_, _, rfl⟩
        rw [hel] at hc1 hc2 has hno
        have HAS := Lib.hid has
        have HNO := Lib.hid hno
        have HS := Lib.hid (HB.size)
        clear hel has hno
        dsimp only at hc1 hc2
        go_wp2_with fail
        refine (hf.out c r _).mono ?_
        rintro e w2 ⟨rfl, hb2⟩
        have HB2 : Below w.heap.size w w2 := ((HB.alloc HS.out _).trans (hb2.mono (by have := HS.out; simp; omega)))
        clear hb2
        cases hp : p (c, r)
        · have HP := Lib.hid (HNO.out hp)
          clear hp
          go_wp2
          go_ret
          exact ⟨ret_bool HP.out.symm, HB2⟩
        · have HP := Lib.hid hp
          clear hp
          go_wp2
          go_roundw
          case rel => exact ⟨k + 1, by omega, by go_num, Lib.hid (by rw [HAS.out, HA.out, HP.out]; rfl), HB2⟩
          case measure => simp [intOf]; omega
      · have hk : k = l.length := by omega
        have HA2 : Hid (l.all p = true) := Lib.hid (by have := HA.out; rwa [hk, List.take_length] at this)
        clear HA hk
        go_wp2
        go_ret
        exact ⟨ret_bool HA2.out.symm, HB⟩
end Go.Proofs.YtkjclafbpocabaaGreatDoor

/-! ## S3 -/
namespace Go.Proofs.YtkjclafbpocabaaGreatDoor
open Go.RowKit
def sqfB (r : Int) : Bool := (List.range 32).all fun d => decide (d < 2) || decide (r % ((d : Int) * (d : Int)) ≠ 0)
theorem sqfB_iff (r : Int) (h1 : 1 ≤ r) (h2 : r ≤ 1000) : sqfB r = true ↔ SqF r := by
  unfold sqfB SqF
  rw [List.all_eq_true]
  constructor
  · intro h e he hd
    have hle := Int.le_of_dvd (by omega) hd
    have he31 : e ≤ 31 := by
      rcases Int.lt_or_le 31 e with hh | hh
      · have : 32 * 32 ≤ e * e := Int.mul_le_mul (by omega) (by omega) (by omega) (by omega)
        omega
      · exact hh
    have := h e.toNat (by simp; omega)
    have hc : ((e.toNat : Nat) : Int) = e := by omega
    rw [hc] at this
    simp at this
    rcases this with h3 | h3
    · omega
    · exact h3 (Int.emod_eq_zero_of_dvd hd)
  · intro h d hd
    simp at hd
    simp
    by_cases h3 : d < 2
    · left; exact h3
    · right; intro h4; exact h d (by omega) (Int.dvd_of_emod_eq_zero h4)
theorem split_one (n s r : Int) (h1 : 1 ≤ n) (h2 : n ≤ 1000) (hs : 1 ≤ s) (hr : 1 ≤ r) (h : s * s * r = n) (hq : SqF r) : (s == 1) = sqfB n := by
  rw [Bool.eq_iff_iff, sqfB_iff n h1 h2]
  simp
  constructor
  · rintro rfl; simp at h; rw [← h]; exact hq
  · intro hn
    rcases Int.lt_or_le s 2 with h3 | h3
    · omega
    · exact absurd ⟨r, h.symm⟩ (hn s h3)

def isTermF (t : Int × Int) : Bool := isPartF t && decide (t.1 ≠ 0) && decide (t.2 ≠ 0) && sqfB t.2


/-- The two cells of a boxed pair, behind something that left them alone. -/
theorem box2 {w w2 : World} {x y : Value} {T : TypeId} (hb : Below (w.alloc (.cells #[x, y] T)).heap.size (w.alloc (.cells #[x, y] T)) w2) :
    w2.cell? ⟨w.heap.size, 0, none⟩ = some x ∧ w2.cell? ⟨w.heap.size, 1, none⟩ = some y := by
  constructor
  · rw [hb.cell (p := ⟨w.heap.size, 0, none⟩) (by simp)]; exact cell_two_new w x y T 0 x rfl
  · rw [hb.cell (p := ⟨w.heap.size, 1, none⟩) (by simp)]; exact cell_two_new w x y T 1 y rfl

set_option maxHeartbeats 400000 in
theorem isTerm_any (c r : Int) (w : World) :
    Calls Tryz.prog 164 #[.agg #[.int .i64 c, .int .i64 r]] w (AnsB (isTermF (c, r)) w) := by
  have hx : isTermF (c, r) = (isPartF (c, r) && decide (c ≠ 0) && decide (r ≠ 0) && sqfB r) := rfl
  have hp1 := isPart_any c r
  cases hp : isPartF (c, r)
  · rw [hp] at hx hp1
    have HX := Lib.hid hx
    have HP := Lib.hid hp1
    clear hx hp1 hp
    go_enter Tryz.func164, Tryz.ntmps164
    go_wp2_with fail
    refine (HP.out _).mono ?_
    rintro e w2 ⟨rfl, hb⟩
    go_wp2
    go_ret
    exact ⟨ret_bool (by rw [HX.out]; simp), ((Below.refl _ _).alloc (Nat.le_refl _) _).trans (hb.mono (by simp))⟩
  · have hr : 0 ≤ r ∧ r ≤ 1000 := by simp [isPartF, inB] at hp; omega
    obtain ⟨hr1, hr2⟩ := hr
    rw [hp] at hx hp1
    have HX := Lib.hid hx
    have HP := Lib.hid hp1
    clear hx hp1 hp
    by_cases hc0 : c = 0
    · have hc1 : (c == 0) = true := by simpa using hc0
      have HC := Lib.hid hc0
      clear hc0
      go_enter Tryz.func164, Tryz.ntmps164
      go_wp2_with fail
      refine (HP.out _).mono ?_
      rintro e w2 ⟨rfl, hb⟩
      obtain ⟨h0, h1⟩ := box2 hb
      have HB := Lib.hid hb
      clear hb
      go_wp2
      go_ret
      exact ⟨ret_bool (by rw [HX.out]; simp [HC.out]), ((Below.refl _ _).alloc (Nat.le_refl _) _).trans (HB.out.mono (by simp))⟩
    · have hc1 : (c == 0) = false := by simpa using hc0
      by_cases hr0 : r = 0
      · have hr3 : (r == 0) = true := by simpa using hr0
        have HR := Lib.hid hr0
        clear hr0 hc0
        go_enter Tryz.func164, Tryz.ntmps164
        go_wp2_with fail
        refine (HP.out _).mono ?_
        rintro e w2 ⟨rfl, hb⟩
        obtain ⟨h0, h1⟩ := box2 hb
        have HB := Lib.hid hb
        clear hb
        go_wp2
        go_ret
        exact ⟨ret_bool (by rw [HX.out]; simp [HR.out]), ((Below.refl _ _).alloc (Nat.le_refl _) _).trans (HB.out.mono (by simp))⟩
      · have hr3 : (r == 0) = false := by simpa using hr0
        have hr4 : 1 ≤ r := by omega
        have HX2 : Hid (isTermF (c, r) = sqfB r) := Lib.hid (by rw [HX.out]; simp [hc0, hr0])
        clear hc0 hr0
        go_enter Tryz.func164, Tryz.ntmps164
        go_wp2_with fail
        refine (HP.out _).mono ?_
        rintro e w2 ⟨rfl, hb⟩
        obtain ⟨h0, h1⟩ := box2 hb
        have HB := Lib.hid hb
        clear hb
        go_wp2_with fail
        refine (split_any r _ hr4 (by omega)).mono ?_
        rintro e w3 ⟨⟨s, r', rfl, g1, g2, g3, g4⟩, m, rfl⟩
        have HS := Lib.hid (split_one r s r' hr4 hr2 g1 g2 g3 g4)
        clear g3 g4
        go_wp2
        go_ret
        exact ⟨ret_bool (by rw [HX2.out, HS.out]), below_drewN (((Below.refl _ _).alloc (Nat.le_refl _) _).trans (HB.out.mono (by simp))) _⟩

end Go.Proofs.YtkjclafbpocabaaGreatDoor

/-! ## S4 -/
namespace Go.Proofs.YtkjclafbpocabaaGreatDoor
open Go.RowKit
def ascF (l : List (Int × Int)) : Bool := (List.range l.length).all fun i => decide (i = 0) || decide ((l[i - 1]?.getD (0, 0)).2 < (l[i]?.getD (0, 0)).2)
def ascUp (l : List (Int × Int)) (k : Nat) : Prop := ∀ i, 1 ≤ i → i < k → (l[i - 1]?.getD (0, 0)).2 < (l[i]?.getD (0, 0)).2
theorem ascF_yes (l : List (Int × Int)) (k : Nat) (h : ascUp l k) (hk : l.length ≤ k) : ascF l = true := by
  unfold ascF
  rw [List.all_eq_true]
  intro i hi
  simp at hi
  simp
  by_cases h0 : i = 0
  · left; exact h0
  · right; simpa using h i (by omega) (by omega)
theorem ascF_no (l : List (Int × Int)) (k : Nat) (h1 : 1 ≤ k) (h2 : k < l.length) (h : ¬ (l[k - 1]?.getD (0, 0)).2 < (l[k]?.getD (0, 0)).2) : ascF l = false := by
  unfold ascF
  rw [List.all_eq_false]
  exact ⟨k, by simp; exact h2, by simp at h ⊢; omega⟩
theorem ascUp_succ (l : List (Int × Int)) (k : Nat) (h : ascUp l k) (h2 : (l[k - 1]?.getD (0, 0)).2 < (l[k]?.getD (0, 0)).2) : ascUp l (k + 1) := by
  intro i hi hk
  by_cases he : i = k
  · subst he; exact h2
  · exact h i hi (by omega)

set_option maxHeartbeats 400000 in
theorem ascending_cells (b off cap : Nat) (l : List (Int × Int)) (w : World) (hc : TermsC w b off l) (hl : l.length ≤ 8796093022208) :
    Calls Tryz.prog 166 #[.slice (some ⟨b, off, none⟩) l.length cap] w fun e w' => e = .returned (.bool (ascF l)) ∧ ∃ n, w' = w.drewN n := by
  have HC := Lib.hid hc
  clear hc
  go_enter Tryz.func166, Tryz.ntmps166
  go_wp2
  go_loopw [3] (fun i wr => ∃ k : Nat, 1 ≤ k ∧ (k ≤ l.length ∨ k = 1) ∧ i = .int .i64 k ∧ Hid (ascUp l k) ∧ ∃ n, wr = w.drewN n) (fun i _ => l.length - (intOf i).toNat)
  case atStart => exact ⟨1, by omega, by omega, rfl, Lib.hid (fun i h1 h2 => by omega), 0, rfl⟩
  case round =>
    obtain ⟨k, hk1, hk2, rfl, HA, n, rfl⟩ := hrel
    by_cases hlt : k < l.length
    · obtain ⟨_, hc1⟩ := HC.out (k - 1) (by omega)
      obtain ⟨_, hc2⟩ := HC.out k hlt
      have hno := ascF_no l k hk1 hlt
      have hyes := ascUp_succ l k HA.out
      obtain ⟨x, hx⟩ : ∃ x, (l[k - 1]?.getD (0, 0)).2 = x := ⟨_, rfl⟩
      obtain ⟨y, hy⟩ : ∃ y, (l[k]?.getD (0, 0)).2 = y := ⟨_, rfl⟩
      rw [hx] at hc1 hno hyes
      rw [hy] at hc2 hno hyes
      clear hx hy
      have HNO := Lib.hid hno
      have HYES := Lib.hid hyes
      clear hno hyes
      obtain ⟨j, rfl⟩ : ∃ j, k = j + 1 := ⟨k - 1, by omega⟩
      simp only [Nat.add_sub_cancel] at hc1
      have e1 : (((j + 1 : Nat) : Int) - 1) = j := by omega
      by_cases hxy : x < y
      · have HU := Lib.hid (HYES.out hxy)
        go_wp2
        go_quiet (fail)
        go_wp2
        go_roundw
        case rel => exact ⟨j + 2, by omega, by omega, by go_num, HU, _, rfl⟩
        case measure => simp [intOf]; omega
      · have HU := Lib.hid (HNO.out hxy)
        go_wp2
        go_quiet (fail)
        go_wp2
        go_ret
        exact ⟨ret_bool (by rw [HU.out]), _, by rw [World.drewN_drewN]⟩
    · have HU := Lib.hid (ascF_yes l k HA.out (by omega))
      go_wp2
      go_ret
      exact ⟨ret_bool (by rw [HU.out]), n, rfl⟩

theorem ascending_at (v : Value) (l : List (Int × Int)) (w : World) (h : TermsAt w v l) :
    Calls Tryz.prog 166 #[v] w fun e w' => e = .returned (.bool (ascF l)) ∧ ∃ n, w' = w.drewN n := by
  obtain ⟨hl, ⟨rfl, a, cap, rfl⟩ | ⟨b, off, cap, rfl, _, _, hc⟩⟩ := h
  · go_enter Tryz.func166, Tryz.ntmps166
    go_wp2
    refine wp_loop_rounds 1 ?_
    rw [rounds_succ]
    go_wp2
    go_ret
    exact ⟨rfl, 0, rfl⟩
  · exact ascending_cells b off cap l w hc hl

theorem every_at (f : Nat) (hff : f = 121 ∨ f = 164) (p : Int × Int → Bool) (hf : Hid (∀ c r w, Calls Tryz.prog f #[.agg #[.int .i64 c, .int .i64 r]] w (AnsB (p (c, r)) w)))
    (v : Value) (l : List (Int × Int)) (w : World) (h : TermsAt w v l) :
    Calls Tryz.prog 120 #[.func (.func f) #[] #[], v] w (AnsB (l.all p) w) := by
  obtain ⟨hl, ⟨rfl, a, cap, rfl⟩ | ⟨b, off, cap, rfl, _, hb, hc⟩⟩ := h
  · clear hff
    go_enter Tryz.func120, Tryz.ntmps120
    go_wp2
    refine wp_loop_rounds 1 ?_
    rw [rounds_succ]
    go_wp2
    go_ret
    exact ⟨rfl, Below.refl _ _⟩
  · exact every_cells f hff p hf b off cap l w hb hc hl

theorem everyPart_at (v : Value) (l : List (Int × Int)) (w : World) (h : TermsAt w v l) :
    Calls Tryz.prog 120 #[.func (.func 121) #[] #[], v] w (AnsB (l.all isPartF) w) :=
  every_at 121 (.inl rfl) isPartF (Lib.hid isPart_any) v l w h
theorem everyTerm_at (v : Value) (l : List (Int × Int)) (w : World) (h : TermsAt w v l) :
    Calls Tryz.prog 120 #[.func (.func 164) #[] #[], v] w (AnsB (l.all isTermF) w) :=
  every_at 164 (.inr rfl) isTermF (Lib.hid isTerm_any) v l w h

/-- divisor -/
def dvF (d : Int) (l : List (Int × Int)) : Nat := l.foldl (fun g t => Int.gcd g t.1) (Int.gcd d 0)
theorem dv_take_succ (d : Int) (l : List (Int × Int)) (k : Nat) (h : k < l.length) : dvF d (l.take (k + 1)) = Int.gcd (dvF d (l.take k)) (l[k]?.getD (0, 0)).1 := by
  unfold dvF
  rw [List.take_succ_eq_append_getElem h, List.foldl_append]; simp [h]
theorem gcd_le_l (a b : Int) (B : Int) (ha : -B ≤ a) (ha2 : a ≤ B) (hb : -B ≤ b) (hb2 : b ≤ B) : (Int.gcd a b : Int) ≤ B := by
  by_cases h : a = 0
  · subst h; simp; omega
  · have := Nat.le_of_dvd (by omega) (Int.gcd_dvd_natAbs_left a b)
    omega
theorem dv_le (d : Int) (l : List (Int × Int)) (B : Int) (h1 : -B ≤ d) (h2 : d ≤ B) (h : ∀ t ∈ l, -B ≤ t.1 ∧ t.1 ≤ B) : (dvF d l : Int) ≤ B := by
  unfold dvF
  have h0 : ((Int.gcd d 0 : Nat) : Int) ≤ B := gcd_le_l d 0 B h1 h2 (by omega) (by omega)
  generalize Int.gcd d 0 = g at h0
  induction l generalizing g with
  | nil => exact h0
  | cons t l ih => 
    have ht := h t (by simp)
    exact ih (fun u hu => h u (by simp [hu])) _ (gcd_le_l g t.1 B (by omega) h0 ht.1 ht.2)

set_option maxHeartbeats 400000 in
theorem divisor_cells (d : Int) (b off cap : Nat) (l : List (Int × Int)) (w : World) (hb : b < w.heap.size) (hc : TermsC w b off l) (hl : l.length ≤ 8796093022208)
    (hd1 : -9000000000000000000 ≤ d) (hd2 : d ≤ 9000000000000000000) (hlb : Hid (∀ t ∈ l, -9000000000000000000 ≤ t.1 ∧ t.1 ≤ 9000000000000000000)) :
    Calls Tryz.prog 168 #[.int .i64 d, .slice (some ⟨b, off, none⟩) l.length cap] w fun e w' => e = .returned (.int .i64 (dvF d l)) ∧ Below w.heap.size w w' := by
  have HC := Lib.hid hc
  clear hc
  go_enter Tryz.func168, Tryz.ntmps168
  go_wp2_with fail
  refine (gcd_any d 0 _ hd1 hd2 (by omega) (by omega)).mono ?_
  rintro e w1 ⟨rfl, n1, rfl⟩
  go_wp2_with fail
  go_loopw [5, 12] (fun g i wr => ∃ k : Nat, k ≤ l.length ∧ i = .int .i64 k ∧ (∃ x : Nat, g = .int .i64 x ∧ (x : Int) ≤ 9000000000000000000 ∧ Hid (x = dvF d (l.take k))) ∧ Below w.heap.size w wr) (fun _ i _ => l.length - (intOf i).toNat)
  case atStart => exact ⟨0, Nat.zero_le _, rfl, ⟨_, rfl, by omega, Lib.hid (by simp [dvF])⟩, below_drewN (Below.refl _ _) _⟩
  case round =>
    obtain ⟨k, hk, rfl, ⟨x, rfl, hx1, HX⟩, HB⟩ := hrel
    by_cases hlt : k < l.length
    · obtain ⟨hc1, hc2⟩ := HC.out.below hb HB k hlt
      have hsu := dv_take_succ d l k hlt
      have hbd := hlb.out (l[k]?.getD (0, 0)) (by simp [hlt])
      obtain ⟨c, r, hel⟩ : ∃ c r, l[k]?.getD (0, 0) = (c, r) := ⟨_, _, rfl⟩
      rw [hel] at hc1 hc2 hsu hbd
      have HSU := Lib.hid hsu
      have HS := Lib.hid (HB.size)
      clear hel hsu
      dsimp only at hc1 hc2 hbd
      obtain ⟨hbd1, hbd2⟩ := hbd
      go_wp2_with fail
      refine (gcd_any x c _ (by omega) (by omega) hbd1 hbd2).mono ?_
      rintro e w2 ⟨rfl, n2, rfl⟩
      go_wp2
      go_roundw
      case rel => exact ⟨k + 1, by omega, by go_num, ⟨_, rfl, gcd_le_l _ _ _ (by omega) (by omega) hbd1 hbd2, Lib.hid (by rw [HSU.out, HX.out])⟩, below_drewN (HB.alloc HS.out _) _⟩
      case measure => simp [intOf]; omega
    · have hk : k = l.length := by omega
      have HA2 : Hid (x = dvF d l) := Lib.hid (by have := HX.out; rwa [hk, List.take_length] at this)
      clear HX hk
      go_wp2
      go_ret
      exact ⟨ret_int (by rw [HA2.out]), HB⟩

theorem divisor_at (d : Int) (v : Value) (l : List (Int × Int)) (w : World) (h : TermsAt w v l)
    (hd1 : -9000000000000000000 ≤ d) (hd2 : d ≤ 9000000000000000000) (hlb : Hid (∀ t ∈ l, -9000000000000000000 ≤ t.1 ∧ t.1 ≤ 9000000000000000000)) :
    Calls Tryz.prog 168 #[.int .i64 d, v] w fun e w' => e = .returned (.int .i64 (dvF d l)) ∧ Below w.heap.size w w' := by
  obtain ⟨hl, ⟨rfl, a, cap, rfl⟩ | ⟨b, off, cap, rfl, _, hb, hc⟩⟩ := h
  · go_enter Tryz.func168, Tryz.ntmps168
    go_wp2_with fail
    refine (gcd_any d 0 _ hd1 hd2 (by omega) (by omega)).mono ?_
    rintro e w1 ⟨rfl, n1, rfl⟩
    go_wp2_with fail
    refine wp_loop_rounds 1 ?_
    rw [rounds_succ]
    go_wp2
    go_ret
    exact ⟨ret_int (by simp [dvF]), below_drewN (Below.refl _ _) _⟩
  · exact divisor_cells d b off cap l w hb hc hl hd1 hd2 hlb

end Go.Proofs.YtkjclafbpocabaaGreatDoor
