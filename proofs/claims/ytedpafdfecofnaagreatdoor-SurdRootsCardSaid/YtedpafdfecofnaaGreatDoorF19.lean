/-
  Contracts of the program's own functions (and their plain mathematics), on the way to the law: each for all arguments that its hypotheses let.
-/
import Derived.Test.YtedpafdfecofnaaGreatDoorF18
import Derived.Test.YtedpafdfecofnaaGreatDoorF15
import Derived.Test.YtedpafdfecofnaaGreatDoorF13
import Derived.WalkKit
import Derived.WalkSpells
import Derived.WalkLawsBesides
import Derived.Deep.QuietTactic
import Derived.BigQuiet
import Derived.Lib.Hide
import Derived.WalkSmall
import Derived.Maps.OwnSet
import Derived.Maps.RangeWalk
import Derived.Deep.RegionWith
import Derived.Deep.RegionHeld3
import Derived.OneCell
import Derived.KernelRfl
import Derived.Laws.StructEq
import Derived.StillTailTactics
import Derived.Laws.Externs
import Derived.RangeFuncBox
import Derived.Test.YtedpafdfecofnaaGreatDoorPlain
set_option linter.unusedSimpArgs false
set_option linter.unusedVariables false

/-! ## S42 -/
namespace Go.Proofs.YtedpafdfecofnaaGreatDoor
open Go.RowKit Go.Maps Go.Shelf Go.Sort

def natT (ts : List (Int × Int)) : List (Int × Nat) := ts.map fun t => (t.1, t.2.toNat)
theorem sumQ_enc (D : Nat) (ts : List (Int × Int)) : Tw.sumQ (qD D) (natT ts) = (encP (fQ D) ts : Int) - (encN (fQ D) ts : Int) := by
  induction ts with
  | nil => rfl
  | cons t ts ih =>
    have e1 : encP (fQ D) (t :: ts) = t.1.toNat * fQ D t.2 + encP (fQ D) ts := rfl
    have e2 : encN (fQ D) (t :: ts) = (-t.1).toNat * fQ D t.2 + encN (fQ D) ts := rfl
    have e3 : Tw.sumQ (qD D) (natT (t :: ts)) = t.1 * qD D t.2.toNat + Tw.sumQ (qD D) (natT ts) := rfl
    rw [e1, e2, e3, ih]
    have e4 : qD D t.2.toNat = (fQ D t.2 : Int) := rfl
    rw [e4]
    rcases Int.le_total 0 t.1 with h | h
    · have h0 : (-t.1).toNat = 0 := by omega
      have h1 : (t.1.toNat : Int) = t.1 := by omega
      rw [h0, Nat.zero_mul, Nat.zero_add, Int.natCast_add, Int.natCast_mul, h1]; omega
    · have h0 : t.1.toNat = 0 := by omega
      have h1 : ((-t.1).toNat : Int) = -t.1 := by omega
      rw [h0, Nat.zero_mul, Nat.zero_add, Int.natCast_add, Int.natCast_mul, h1, Int.neg_mul]; omega
def absS (ts : List (Int × Int)) : Int := Tw.sumA (natT ts)
theorem absS_cons (t : Int × Int) (ts : List (Int × Int)) : absS (t :: ts) = (t.1.natAbs : Int) + absS ts := rfl
theorem enc_one (D : Nat) (ts : List (Int × Int)) : (encP (fQ1 D) ts : Int) - encP (fQ D) ts + (encN (fQ1 D) ts - encN (fQ D) ts) = absS ts := by
  induction ts with
  | nil => rfl
  | cons t ts ih =>
    have e1 : ∀ f, encP f (t :: ts) = t.1.toNat * f t.2 + encP f ts := fun f => rfl
    have e2 : ∀ f, encN f (t :: ts) = (-t.1).toNat * f t.2 + encN f ts := fun f => rfl
    have e3 : fQ1 D t.2 = fQ D t.2 + 1 := rfl
    rw [e1, e2, e1, e2, e3, absS_cons, Nat.mul_add, Nat.mul_add, ← ih]
    omega
theorem sqfr_of {r : Int} (h1 : 1 ≤ r) (h : SqF r) : Tw.SqFr r.toNat := by
  refine ⟨by omega, fun d hd hdv => ?_⟩
  apply h (d : Int) (by omega)
  obtain ⟨k, hk⟩ := hdv
  refine ⟨(k : Int), ?_⟩
  have : (r.toNat : Int) = (d * d * k : Nat) := by rw [hk]
  rw [Int.natCast_mul, Int.natCast_mul] at this
  omega
/-- Different roots without squares, few and not too great: their signs are decided. -/
structure Fine (ts : List (Int × Int)) : Prop where
  len : ts.length ≤ 8
  rt : ∀ t ∈ ts, 1 ≤ t.2 ∧ t.2 ≤ 1000 ∧ SqF t.2
  nd : (ts.map (·.2)).Nodup
  cf : ∀ t ∈ ts, t.1 ≠ 0
  abs : absS ts ≤ 1099511627776
theorem natT_map (ts : List (Int × Int)) (h : ∀ t ∈ ts, 1 ≤ t.2) (hn : (ts.map (·.2)).Nodup) : ((natT ts).map (·.2)).Nodup := by
  unfold natT
  rw [List.map_map, List.Nodup, List.pairwise_map] at *
  refine hn.imp_of_mem ?_
  intro a b ha hb hab e
  have h1 := h a ha
  have h2 := h b hb
  apply hab
  have e' : a.2.toNat = b.2.toNat := e
  omega
theorem fine_far {ts : List (Int × Int)} (h : Fine ts) (hne : ts ≠ []) : absS ts < ((Tw.sumQ (qD 6656) (natT ts)).natAbs : Int) := by
  have h1 := roots_far 6656 7 1099511627776 (natT ts) (by simpa [natT] using hne) (by simpa [natT] using h.len) (by decide) (fun t ht => by
    obtain ⟨u, hu, rfl⟩ := List.mem_map.1 ht
    have := h.rt u hu
    exact ⟨sqfr_of this.1 this.2.2, by show u.2.toNat ≤ 1000; omega⟩) (natT_map ts (fun t ht => (h.rt t ht).1) h.nd) (fun t ht => by
    obtain ⟨u, hu, rfl⟩ := List.mem_map.1 ht
    exact h.cf u hu) h.abs (num_up 1099511627776 50 7 6656 (by decide) (by decide))
  have := h.abs
  omega
theorem fine_decides {ts : List (Int × Int)} (h : Fine ts) : Decides ts := by
  by_cases hne : ts = []
  · subst hne; left; simp [encP, encN]
  · have h1 := fine_far h hne
    rw [sumQ_enc] at h1
    have h2 := enc_one 6656 ts
    have h3 : encP (fQ 6656) ts ≤ encP (fQ1 6656) ts := encP_lt (fQ 6656) ts
    have h4 : encN (fQ 6656) ts ≤ encN (fQ1 6656) ts := encN_lt (fQ 6656) ts
    unfold Decides
    omega
end Go.Proofs.YtedpafdfecofnaaGreatDoor
