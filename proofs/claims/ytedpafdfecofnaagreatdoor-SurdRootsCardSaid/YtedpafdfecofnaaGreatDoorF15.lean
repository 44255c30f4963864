/-
  Contracts of the program's own functions (and their plain mathematics), on the way to the law: each for all arguments that its hypotheses let.
-/
import Derived.Test.YtedpafdfecofnaaGreatDoorF14
import Derived.Test.YtedpafdfecofnaaGreatDoorF10
set_option linter.unusedSimpArgs false
set_option linter.unusedVariables false

/-! ## T2 -/
namespace Go.Proofs.YtedpafdfecofnaaGreatDoor
theorem isq_mono {a b : Nat} (h : a ≤ b) : isq a ≤ isq b := by
  have h1 := (isq_spec a).1
  have h2 := (isq_spec b).2
  apply Classical.byContradiction
  intro hc
  have := Nat.mul_le_mul (show isq b + 1 ≤ isq a by omega) (show isq b + 1 ≤ isq a by omega)
  omega
theorem isq_le {a b : Nat} (h : a ≤ b * b) : isq a ≤ b := by
  have h1 := (isq_spec a).1
  apply Classical.byContradiction
  intro hc
  have := Nat.mul_le_mul (show b + 1 ≤ isq a by omega) (show b + 1 ≤ isq a by omega)
  have e : (b + 1) * (b + 1) = b * b + 2 * b + 1 := by grind
  omega
def qD (D : Nat) (n : Nat) : Int := (isq (n * 4 ^ D) : Nat)
def wD (n : Nat) : Int := (isq n + 1 : Nat)
theorem appr_D (D : Nat) : Tw.Appr (2 ^ D) (qD D) wD := by
  have hx : (1 : Int) ≤ 2 ^ D := Tw.pow_pos' (by decide) D
  have e4 : ∀ n : Nat, ((n * 4 ^ D : Nat) : Int) = (n : Int) * (2 ^ D * 2 ^ D) := fun n => by
    rw [Int.natCast_mul, Int.natCast_pow, ← Int.mul_pow]; rfl
  have hlo : ∀ n : Nat, qD D n * qD D n ≤ (n : Int) * (2 ^ D * 2 ^ D) := fun n => by
    rw [← e4]
    have := (isq_spec (n * 4 ^ D)).1
    unfold qD
    rw [← Int.natCast_mul]
    exact Int.ofNat_le.2 this
  have hup : ∀ n : Nat, (n : Int) * (2 ^ D * 2 ^ D) < (qD D n + 1) * (qD D n + 1) := fun n => by
    rw [← e4]
    have := (isq_spec (n * 4 ^ D)).2
    unfold qD
    exact_mod_cast this
  have hw1 : ∀ n, 1 ≤ wD n := fun n => by unfold wD; omega
  have hn : ∀ n : Nat, (n : Int) ≤ wD n * wD n := fun n => by
    have := (isq_spec n).2
    unfold wD
    rw [← Int.natCast_mul]
    exact Int.ofNat_le.2 (by omega)
  have hq0 : ∀ n, 0 ≤ qD D n := fun n => Int.natCast_nonneg _
  have hqw : ∀ n, qD D n ≤ wD n * 2 ^ D := fun n => by
    apply Classical.byContradiction
    intro hc
    have hw := hw1 n
    have h1 : wD n * 2 ^ D < qD D n := by omega
    have h0 : 0 ≤ wD n * 2 ^ D := Int.mul_nonneg (by omega) (by omega)
    have h2 : (wD n * 2 ^ D) * (wD n * 2 ^ D) < qD D n * qD D n := by
      have a1 := Int.mul_lt_mul_of_pos_right h1 (show 0 < qD D n by omega)
      have a2 := Int.mul_le_mul_of_nonneg_left (show wD n * 2 ^ D ≤ qD D n by omega) h0
      omega
    have h3 := hlo n
    have h4 := Int.mul_le_mul_of_nonneg_right (hn n) (show (0 : Int) ≤ 2 ^ D * 2 ^ D from Int.mul_nonneg (by omega) (by omega))
    have e : (wD n * 2 ^ D) * (wD n * 2 ^ D) = wD n * wD n * (2 ^ D * 2 ^ D) := by grind
    omega
  refine ⟨hx, hw1, hq0, hqw, hlo, fun n => ?_, hn⟩
  have h1 := hup n
  have h2 := hqw n
  have e : (qD D n + 1) * (qD D n + 1) = qD D n * qD D n + 2 * qD D n + 1 := by grind
  omega
theorem appr_up (D : Nat) (n : Nat) : (n : Int) * (2 ^ D * 2 ^ D) < (qD D n + 1) * (qD D n + 1) := by
  have e4 : ((n * 4 ^ D : Nat) : Int) = (n : Int) * (2 ^ D * 2 ^ D) := by
    rw [Int.natCast_mul, Int.natCast_pow, ← Int.mul_pow]; rfl
  rw [← e4]
  have := (isq_spec (n * 4 ^ D)).2
  unfold qD
  exact_mod_cast this
/-- At most so many different roots up to 1000: their sum is not small. -/
theorem roots_far (D k : Nat) (T : Nat) (ts : List (Int × Nat)) (hne : ts ≠ []) (hlen : ts.length ≤ k + 1) (hk : k ≤ 7) (hr : ∀ t ∈ ts, Tw.SqFr t.2 ∧ t.2 ≤ 1000)
    (hn : (ts.map (·.2)).Nodup) (hc : ∀ t ∈ ts, t.1 ≠ 0) (hT : Tw.sumA ts ≤ (T : Int)) (hX : 153 * (1001 * T) ^ (2 ^ k) < 2 ^ D) :
    (T : Int) < ((Tw.sumQ (qD D) ts).natAbs : Int) := by
  have hT1 : 1 ≤ T := by
    match ts, hne with
    | t :: ts, _ =>
      have h1 := hc t (by simp)
      have h2 := Tw.sumA_nonneg ts
      have e : Tw.sumA (t :: ts) = (t.1.natAbs : Int) + Tw.sumA ts := rfl
      omega
  refine Tw.sums_far (appr_D D) (appr_up D) 1000 32 1001 T k ts hne hlen hr hn hc (fun n hn => ?_) (fun a b ha hb => ?_) (by decide) hT (by omega) ?_
  · have := isq_le (show n ≤ 31 * 31 + 39 by omega |> fun h => show n ≤ 32 * 32 by omega)
    have h2 : isq n ≤ 31 := by
      have h1 := (isq_spec n).1
      apply Classical.byContradiction
      intro hc
      have := Nat.mul_le_mul (show 32 ≤ isq n by omega) (show 32 ≤ isq n by omega)
      omega
    unfold wD; omega
  · have h1 : a * b ≤ 1000 * 1000 := Nat.mul_le_mul ha hb
    have := isq_le h1
    unfold wD; omega
  · have hX' : ((153 * (1001 * T) ^ (2 ^ k) : Nat) : Int) < ((2 ^ D : Nat) : Int) := Int.ofNat_lt.2 hX
    rw [Int.natCast_mul, Int.natCast_pow, Int.natCast_mul, Int.natCast_pow] at hX'
    refine Int.lt_of_le_of_lt ?_ hX'
    refine Int.mul_le_mul_of_nonneg_right ?_ (by
      exact Int.le_trans (by decide) (Tw.pow_pos' (X := 1001 * (T : Int)) (by omega) (2 ^ k)))
    have : (k : Int) * (k + 1) ≤ 7 * (7 + 1) := Int.mul_le_mul (by omega) (by omega) (by omega) (by omega)
    omega
theorem num_up (M e k D : Nat) (h1 : 1001 * M ≤ 2 ^ e) (h2 : 8 + e * 2 ^ k ≤ D) : 153 * (1001 * M) ^ (2 ^ k) < 2 ^ D := by
  have h3 := Nat.mul_le_mul_left 153 (Nat.pow_le_pow_left h1 (2 ^ k))
  rw [← Nat.pow_mul] at h3
  have h4 : 153 * 2 ^ (e * 2 ^ k) < 2 ^ 8 * 2 ^ (e * 2 ^ k) := Nat.mul_lt_mul_of_pos_right (by decide) (Nat.pow_pos (by decide))
  rw [← Nat.pow_add] at h4
  have h5 := Nat.pow_le_pow_right (show 0 < 2 by decide) h2
  omega
theorem num_37 : 153 * (1001 * 2 ^ 37) ^ (2 ^ 7) < 2 ^ 6656 := num_up (2 ^ 37) 47 7 6656 (by decide) (by decide)
end Go.Proofs.YtedpafdfecofnaaGreatDoor
