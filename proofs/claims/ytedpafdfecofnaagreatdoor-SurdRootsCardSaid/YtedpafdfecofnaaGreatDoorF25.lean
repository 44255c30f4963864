/-
  Contracts of the program's own functions (and their plain mathematics), on the way to the law: each for all arguments that its hypotheses let.
-/
import Derived.Test.YtedpafdfecofnaaGreatDoorF24
import Derived.WalkKit
import Derived.WalkSpells
import Derived.WalkLawsBesides
import Derived.Deep.QuietTactic
import Derived.BigQuiet
import Derived.Lib.Hide
import Derived.WalkSmall
import Derived.Maps.OwnSet
import Derived.Maps.RangeWalk
import Derived.Deep.RegionWith
import Derived.Deep.RegionHeld3
import Derived.OneCell
import Derived.KernelRfl
import Derived.Laws.StructEq
import Derived.StillTailTactics
import Derived.Laws.Externs
import Derived.RangeFuncBox
import Derived.Test.YtedpafdfecofnaaGreatDoorPlain
set_option linter.unusedSimpArgs false
set_option linter.unusedVariables false

/-! ## S54 -/
namespace Go.Proofs.YtedpafdfecofnaaGreatDoor
open Go.RowKit Go.Maps Go.Shelf Go.Sort

theorem terms_coll {c : Int → Int} {l : List (Int × Int)} (h : IsTerms c l) : IsColl c l := by
  refine ⟨?_, fun t ht => (h.2 t.1 t.2).1 ht, fun r hr => (h.2 (c r) r).2 ⟨rfl, hr⟩⟩
  rw [List.Nodup, List.pairwise_map]
  exact h.1.imp (fun hab => by omega)
theorem terms_uniq {c : Int → Int} {l l' : List (Int × Int)} (h : IsTerms c l) (g : IsTerms c l') : l = l' :=
  List.Perm.eq_of_pairwise (le := fun a b : Int × Int => a.2 < b.2) (fun a b _ _ h1 h2 => by omega) h.1 g.1 (coll_perm (terms_coll h) (terms_coll g))
/-- Terms by their roots, as a check. -/
theorem terms_of {c : Int → Int} {l : List (Int × Int)} (h1 : l.Pairwise (fun a b => a.2 < b.2)) (h2 : ∀ t ∈ l, c t.2 = t.1 ∧ t.1 ≠ 0) (h3 : ∀ r, c r ≠ 0 → ∃ t ∈ l, t.2 = r) : IsTerms c l := by
  refine ⟨h1, fun x r => ⟨fun h => h2 (x, r) h, ?_⟩⟩
  rintro ⟨rfl, h0⟩
  obtain ⟨t, ht, rfl⟩ := h3 r h0
  rw [(h2 t ht).1]; exact ht
theorem coefOf_nil (r : Int) : coefOf [] r = 0 := rfl
theorem dd (k : Nat) (h : k < 10) : Lib.decDigits k = [UInt8.ofNat (48 + k)] := by
  rw [Lib.decDigits]
  have : k = 0 ∨ k = 1 ∨ k = 2 ∨ k = 3 ∨ k = 4 ∨ k = 5 ∨ k = 6 ∨ k = 7 ∨ k = 8 ∨ k = 9 := by omega
  rcases this with rfl | rfl | rfl | rfl | rfl | rfl | rfl | rfl | rfl | rfl <;> rfl
theorem d577 : Lib.decDigits 577 = [53, 55, 55] := by
  rw [Lib.decDigits]; simp only [show ¬ 577 < 10 by decide, if_false, dite_false]
  rw [show 577 / 10 = 57 from rfl, Lib.decDigits]; simp only [show ¬ 57 < 10 by decide, if_false, dite_false]
  rw [show 57 / 10 = 5 from rfl, dd 5 (by decide)]; rfl
theorem d408 : Lib.decDigits 408 = [52, 48, 56] := by
  rw [Lib.decDigits]; simp only [show ¬ 408 < 10 by decide, if_false, dite_false]
  rw [show 408 / 10 = 40 from rfl, Lib.decDigits]; simp only [show ¬ 40 < 10 by decide, if_false, dite_false]
  rw [show 40 / 10 = 4 from rfl, dd 4 (by decide)]; rfl
theorem text_a : textB 3 [(2, 1), (2, 2)] = [40, 50, 43, 50, 114, 50, 41, 47, 51] := by
  simp [textB, bodyB, partB, termB, Lib.itoa, dd]
theorem text_b : textB 1 [(3, 1), (2, 2)] = [51, 43, 50, 114, 50] := by
  simp [textB, bodyB, partB, termB, Lib.itoa, dd]
theorem text_c : textB 1 [(1, 1), (1, 2)] = [49, 43, 114, 50] := by
  simp [textB, bodyB, partB, termB, Lib.itoa, dd, Lib.trimSuffix, Lib.hasSuffix]
theorem text_d : textB 408 [(577, 1), (-408, 2)] = [40, 53, 55, 55, 45, 52, 48, 56, 114, 50, 41, 47, 52, 48, 56] := by
  simp [textB, bodyB, partB, termB, Lib.itoa, dd, d577, d408]
theorem text_e : textB 1 [(-1, 1), (1, 2)] = [45, 49, 43, 114, 50] := by
  simp [textB, bodyB, partB, termB, Lib.itoa, dd, Lib.trimSuffix, Lib.hasSuffix]
theorem val_a : validF 3 [(2, 1), (2, 2)] = true := by kernel_rfl
theorem val_b : validF 1 [(3, 1), (2, 2)] = true := by kernel_rfl
theorem val_c : validF 1 [(1, 1), (1, 2)] = true := by kernel_rfl
theorem val_d : validF 408 [(577, 1), (-408, 2)] = true := by kernel_rfl
theorem val_e : validF 1 [(-1, 1), (1, 2)] = true := by kernel_rfl
theorem val_f : validF 1 [(1, 1)] = true := by kernel_rfl
theorem val_g : validF 1 [(1, 2)] = true := by kernel_rfl
theorem parse_b : parseF [51, 43, 50, 114, 50] = (1, [(3, 1), (2, 2)], 0) := by rw [← text_b]; exact (readsBack _ _ val_b).1
theorem parse_d : parseF [40, 53, 55, 55, 45, 52, 48, 56, 114, 50, 41, 47, 52, 48, 56] = (408, [(577, 1), (-408, 2)], 0) := by rw [← text_d]; exact (readsBack _ _ val_d).1
theorem make_a (r : Int × List (Int × Int) × Int) (h : makeF 6 [(3, 1), (2, 8), (1, 1)] r) : r = (3, [(2, 1), (2, 2)], 0) := by
  have e : ([(3, 1), (2, 8), (1, 1)] : List (Int × Int)).map mkT = [(3, 1), (4, 2), (1, 1)] := by kernel_rfl
  unfold makeF at h
  rw [if_neg (by decide), if_pos (by decide), e] at h
  obtain ⟨t, ht, rfl⟩ := h
  have hc : ∀ r, plusC zeroC 1 [(3, 1), (4, 2), (1, 1)] r = (if (1 : Int) = r then 4 else 0) + (if (2 : Int) = r then 4 else 0) := fun r => by
    simp only [plusC, zeroC, coefOf_cons, coefOf_nil]
    split <;> split <;> omega
  have g : IsTerms (plusC zeroC 1 [(3, 1), (4, 2), (1, 1)]) [(4, 1), (4, 2)] := terms_of (by decide) (fun t ht => by
    rw [hc]
    rcases List.mem_cons.1 ht with rfl | ht
    · decide
    · rcases List.mem_cons.1 ht with rfl | ht
      · decide
      · cases ht) (fun r hr => by
    rw [hc] at hr
    by_cases h1 : (1 : Int) = r
    · exact ⟨(4, 1), by simp, h1⟩
    · by_cases h2 : (2 : Int) = r
      · exact ⟨(4, 2), by simp, h2⟩
      · rw [if_neg h1, if_neg h2] at hr; exact absurd rfl hr)
  have hu := terms_uniq ht g
  subst hu
  exact (by kernel_rfl : finF 6 [(4, 1), (4, 2)] = (3, [(2, 1), (2, 2)], 0))
theorem quo_a (r : Int × List (Int × Int) × Int) (h : quoF 1 [(1, 1)] 1 [(1, 1), (1, 2)] r) : r = (1, [(-1, 1), (1, 2)], 0) := by
  have e : prodL [(1, 1)] (conjL [(1, 1), (1, 2)]) = [(1, 1), (-1, 2)] := by kernel_rfl
  unfold quoF at h
  rw [if_pos ⟨val_f, val_c⟩, if_neg (by decide), if_neg (by decide), e] at h
  obtain ⟨t, ht, rfl⟩ := h
  have hc : ∀ r, plusC zeroC 1 [(1, 1), (-1, 2)] r = (if (1 : Int) = r then 1 else 0) + (if (2 : Int) = r then -1 else 0) := fun r => by
    simp only [plusC, zeroC, coefOf_cons, coefOf_nil]
    split <;> split <;> omega
  have g : IsTerms (plusC zeroC 1 [(1, 1), (-1, 2)]) [(1, 1), (-1, 2)] := terms_of (by decide) (fun t ht => by
    rw [hc]
    rcases List.mem_cons.1 ht with rfl | ht
    · decide
    · rcases List.mem_cons.1 ht with rfl | ht
      · decide
      · cases ht) (fun r hr => by
    rw [hc] at hr
    by_cases h1 : (1 : Int) = r
    · exact ⟨(1, 1), by simp, h1⟩
    · by_cases h2 : (2 : Int) = r
      · exact ⟨(-1, 2), by simp, h2⟩
      · rw [if_neg h1, if_neg h2] at hr; exact absurd rfl hr)
  have hu := terms_uniq ht g
  subst hu
  exact (by kernel_rfl : finF (1 * normL [(1, 1), (1, 2)]) [(1, 1), (-1, 2)] = (1, [(-1, 1), (1, 2)], 0))
theorem isq_one : isq 1 = 1 := (isq_uniq (by decide) (by decide)).symm
theorem split_two {s q : Int} (h : SplitR 2 s q) : s = 1 ∧ q = 2 := by
  rcases h with ⟨h, _⟩ | ⟨_, h2, h3, h4, _⟩
  · omega
  · have h5 : s < 2 := by
      apply Classical.byContradiction
      intro hc
      have h6 := Int.mul_le_mul (show 2 ≤ s by omega) (show 2 ≤ s by omega) (by omega) (by omega)
      have h7 := Int.mul_le_mul h6 h3 (by omega) (by omega)
      omega
    obtain rfl : s = 1 := by omega
    omega
theorem split_one' {s q : Int} (h : SplitR 1 s q) : s = 1 ∧ q = 1 := by
  rcases h with ⟨h, _⟩ | ⟨_, h2, h3, h4, _⟩
  · omega
  · have h5 : s < 2 := by
      apply Classical.byContradiction
      intro hc
      have h6 := Int.mul_le_mul (show 2 ≤ s by omega) (show 2 ≤ s by omega) (by omega) (by omega)
      have h7 := Int.mul_le_mul h6 h3 (by omega) (by omega)
      omega
    obtain rfl : s = 1 := by omega
    omega
theorem sgn_b : sgnZ [(3, 1), (2, 2)] = 1 := by
  unfold sgnZ
  rw [if_neg (by simp)]
  apply sgn_pos (D := 0) (by omega)
  have e : encN (fQ1 0) [(3, 1), (2, 2)] = 0 := by simp [encN]
  rw [e]; exact Nat.zero_le _
theorem root_b (r : Int × List (Int × Int) × Int) (h : RootP 1 [(3, 1), (2, 2)] r) : r = (1, [(1, 1), (1, 2)], 0) := by
  have em : rootM [(3, 1), (2, 2)] = 1 := by decide
  unfold RootP at h
  rw [if_pos val_b, sgn_b, if_neg (by decide), if_neg (by decide), em] at h
  have e1 : (1 : Int).toNat = 1 := rfl
  rw [e1, isq_one, if_neg (by decide)] at h
  obtain ⟨f1, d1, f2, d2, ⟨s1, q1, s2, q2, h1, h2, rfl, rfl⟩, ⟨s3, q3, s4, q4, h3, h4, rfl, rfl⟩, t, ht, rfl⟩ := h
  have a1 : (binF [(3, 1), (2, 2)]).1 = 3 := by decide
  have a2 : (binF [(3, 1), (2, 2)]).2.1.1 = 2 := by decide
  rw [a1] at h1 h2 h3 h4
  rw [a2] at ht
  have g1 : ((3 : Int) + ((1 : Nat) : Int)) = 4 := by decide
  have g2 : ((3 : Int) - ((1 : Nat) : Int)) = 2 := by decide
  rw [g1] at h1 h2
  rw [g2] at h3 h4
  have k1 : (4 : Int) / (Int.gcd 4 (2 * 1) : Int) = 2 := by decide
  have k2 : (2 * 1 : Int) / (Int.gcd 4 (2 * 1) : Int) = 1 := by decide
  have k3 : (2 : Int) / (Int.gcd 2 (2 * 1) : Int) = 1 := by decide
  have k4 : (2 * 1 : Int) / (Int.gcd 2 (2 * 1) : Int) = 1 := by decide
  rw [k1] at h1
  rw [k2] at h2
  rw [k3] at h3
  rw [k4] at h4
  obtain ⟨rfl, rfl⟩ := split_two h1
  obtain ⟨rfl, rfl⟩ := split_one' h2
  obtain ⟨rfl, rfl⟩ := split_one' h3
  obtain ⟨rfl, rfl⟩ := split_one' h4
  rw [if_neg (by decide)] at ht
  have hc : ∀ r, plusC (plusC zeroC (1 * 1) [(1, 2 * 1)]) (1 * 1) [(1, 1 * 1)] r = (if (1 : Int) = r then 1 else 0) + (if (2 : Int) = r then 1 else 0) := fun r => by
    simp only [plusC, zeroC, coefOf_cons, coefOf_nil]
    by_cases b1 : (1 : Int) = r
    · subst b1; decide
    · by_cases b2 : (2 : Int) = r
      · subst b2; decide
      · rw [if_neg b1, if_neg b2]; simp [b1, b2]
  have g : IsTerms (plusC (plusC zeroC (1 * 1) [(1, 2 * 1)]) (1 * 1) [(1, 1 * 1)]) [(1, 1), (1, 2)] := terms_of (by decide) (fun t ht => by
    rw [hc]
    rcases List.mem_cons.1 ht with rfl | ht
    · decide
    · rcases List.mem_cons.1 ht with rfl | ht
      · decide
      · cases ht) (fun r hr => by
    rw [hc] at hr
    by_cases h1 : (1 : Int) = r
    · exact ⟨(1, 1), by simp, h1⟩
    · by_cases h2 : (2 : Int) = r
      · exact ⟨(1, 2), by simp, h2⟩
      · rw [if_neg h1, if_neg h2] at hr; exact absurd rfl hr)
  have hu := terms_uniq ht g
  subst hu
  exact (by kernel_rfl : finF (1 * 1 * (1 * 1)) [(1, 1), (1, 2)] = (1, [(1, 1), (1, 2)], 0))
theorem q26 : fQ 26 2 = 94906265 ∧ fQ1 26 2 = 94906266 ∧ fQ 26 1 = 67108864 ∧ fQ1 26 1 = 67108865 := by
  have e1 : isq 9007199254740992 = 94906265 := (isq_uniq (by decide) (by decide)).symm
  have e2 : isq 4503599627370496 = 67108864 := (isq_uniq (by decide) (by decide)).symm
  have f1 : (2 : Int).toNat * 4 ^ 26 = 9007199254740992 := by decide
  have f2 : (1 : Int).toNat * 4 ^ 26 = 4503599627370496 := by decide
  unfold fQ fQ1
  rw [f1, f2, e1, e2]
  decide
theorem sgn_d : sgnZ [(577, 1), (-408, 2)] = 1 := by
  unfold sgnZ
  rw [if_neg (by simp)]
  apply sgn_pos (D := 26) (by omega)
  obtain ⟨q1, q2, q3, q4⟩ := q26
  have e1 : ∀ f, encN f [(577, 1), (-408, 2)] = 0 * f 1 + (408 * f 2 + 0) := fun f => rfl
  have e2 : ∀ f, encP f [(577, 1), (-408, 2)] = 577 * f 1 + (0 * f 2 + 0) := fun f => rfl
  rw [e1, e2, q2, q3]
  omega
theorem fl_g : flBL 1 26 [(408, 2)] = true ∧ flNL 1 26 [(408, 2)] = 576 := by
  obtain ⟨q1, q2, q3, q4⟩ := q26
  have e1 : ∀ f, encP f [(408, 2)] = 408 * f 2 + 0 := fun f => rfl
  have e2 : ∀ f, encN f [(408, 2)] = 0 * f 2 + 0 := fun f => rfl
  unfold flBL flNL
  rw [e1, e2, e1, e2, q1, q2]
  unfold flB flN
  decide
theorem bounds_g : BoundsF 1 408 [(1, 2)] = (576, 577, 0) ∧ flBL 1 6656 (mulS 408 [(1, 2)]) = true := by
  obtain ⟨h1, h2⟩ := fl_g
  have em : mulS 408 [(1, 2)] = [(408, 2)] := rfl
  have hne : ([(408, 2)] : List (Int × Int)) ≠ [] := by simp
  have hc : ∀ t ∈ ([(408, 2)] : List (Int × Int)), t.1 ≠ 0 := sing (by decide)
  have h3 := fl_fin 1 26 (by decide) _ hne hc h1 (by omega)
  have h4 := fl_to 1 26 (by decide) _ hne hc h1 6630
  rw [em]
  refine ⟨?_, h4⟩
  unfold BoundsF
  rw [if_pos val_g, if_pos (by decide), if_neg (by decide), em]
  have e1 : (1 : Int).toNat = 1 := rfl
  rw [e1, h3, h2]; rfl
end Go.Proofs.YtedpafdfecofnaaGreatDoor
