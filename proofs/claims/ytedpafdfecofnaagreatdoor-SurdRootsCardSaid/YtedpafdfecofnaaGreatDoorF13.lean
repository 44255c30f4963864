/-
  Contracts of the program's own functions (and their plain mathematics), on the way to the law: each for all arguments that its hypotheses let.
-/
import Derived.Test.YtedpafdfecofnaaGreatDoorF12
import Derived.WalkKit
import Derived.WalkSpells
import Derived.WalkLawsBesides
import Derived.Deep.QuietTactic
import Derived.BigQuiet
import Derived.Lib.Hide
import Derived.WalkSmall
import Derived.Maps.OwnSet
import Derived.Maps.RangeWalk
import Derived.Deep.RegionWith
import Derived.Deep.RegionHeld3
import Derived.OneCell
import Derived.KernelRfl
import Derived.Laws.StructEq
import Derived.StillTailTactics
import Derived.Laws.Externs
import Derived.RangeFuncBox
import Derived.Test.YtedpafdfecofnaaGreatDoorPlain
set_option linter.unusedSimpArgs false
set_option linter.unusedVariables false

/-! ## S34 -/
namespace Go.Proofs.YtedpafdfecofnaaGreatDoor
open Go.RowKit Go.Maps Go.Shelf Go.Sort
/-- What stands behind a number: nothing, or no digit. -/
def NoDig (R : List UInt8) : Prop := ∀ b R', R = b :: R' → isDig b = false
theorem dig_of (k : Nat) (h : k < 10) : isDig (UInt8.ofNat (48 + k)) = true ∧ (dv (UInt8.ofNat (48 + k))).1 = (k : Int) := by
  have : ∀ k : Fin 10, isDig (UInt8.ofNat (48 + k.1)) = true ∧ (dv (UInt8.ofNat (48 + k.1))).1 = (k.1 : Int) := by decide
  exact this ⟨k, h⟩
theorem dec_dig (n : Nat) : ∀ b ∈ Lib.decDigits n, isDig b = true := by
  induction n using Nat.strongRecOn with
  | ind n ih =>
    rw [Lib.decDigits]
    split
    · intro b hb
      rw [List.mem_singleton] at hb
      subst hb
      exact (dig_of n (by omega)).1
    · intro b hb
      rcases List.mem_append.1 hb with h | h
      · exact ih _ (by omega) b h
      · rw [List.mem_singleton] at h; subst h; exact (dig_of (n % 10) (by omega)).1
theorem dec_num (n : Nat) (h : n ≤ 100001) : numF ((Lib.decDigits n).map dv) = n := by
  induction n using Nat.strongRecOn with
  | ind n ih =>
    rw [Lib.decDigits]
    split
    · simp only [List.map_cons, List.map_nil, numF, List.foldl_cons, List.foldl_nil]
      rw [(dig_of n (by omega)).2]; omega
    · rw [List.map_append, List.map_cons, List.map_nil, numF_snoc, ih _ (by omega) (by omega), (dig_of (n % 10) (by omega)).2]
      omega
theorem takeWhile_all {α : Type} (p : α → Bool) (A R : List α) (hA : ∀ b ∈ A, p b = true) (hR : ∀ b R', R = b :: R' → p b = false) : (A ++ R).takeWhile p = A := by
  induction A with
  | nil =>
    cases R with
    | nil => rfl
    | cons b R' => simp [hR b R' rfl]
  | cons a A ih =>
    simp [hA a (List.mem_cons_self ..), ih (fun b hb => hA b (List.mem_cons_of_mem _ hb))]
theorem digs_dec (n : Nat) (R : List UInt8) (hR : NoDig R) : digsV (Lib.decDigits n ++ R) = (Lib.decDigits n).map dv := by
  unfold digsV; rw [takeWhile_all _ _ _ (dec_dig n) hR]
theorem drop_dec (n : Nat) (R : List UInt8) (hR : NoDig R) : (Lib.decDigits n ++ R).drop (digsV (Lib.decDigits n ++ R)).length = R := by
  rw [digs_dec n R hR, List.length_map, List.drop_left]
theorem dec_ne (n : Nat) : Lib.decDigits n ≠ [] := by
  rw [Lib.decDigits]; split <;> simp
end Go.Proofs.YtedpafdfecofnaaGreatDoor

/-! ## S35 -/
namespace Go.Proofs.YtedpafdfecofnaaGreatDoor
open Go.RowKit Go.Maps Go.Shelf Go.Sort
/-- What may stand behind a term: nothing, or a sign. -/
def Behind (R : List UInt8) : Prop := ∀ b R', R = b :: R' → b = 43 ∨ b = 45
theorem Behind.noDig {R : List UInt8} (h : Behind R) : NoDig R := fun b R' e => by
  rcases h b R' e with rfl | rfl <;> decide
theorem pre1 (b x : UInt8) (R : List UInt8) : Lib.hasPrefix (b :: R) [x] = (x == b) := by
  simp [Lib.hasPrefix, List.isPrefixOf]
theorem pre0 (x : UInt8) : Lib.hasPrefix [] [x] = false := rfl
theorem trim_pre (x : UInt8) (R : List UInt8) : Lib.trimPrefix (x :: R) [x] = R := by
  unfold Lib.trimPrefix; rw [pre1]; simp
theorem trim_not (x : UInt8) (R : List UInt8) (h : Lib.hasPrefix R [x] = false) : Lib.trimPrefix R [x] = R := by
  unfold Lib.trimPrefix; rw [h]; simp
theorem pre_not {x : UInt8} {R : List UInt8} (h : ∀ b R', R = b :: R' → b ≠ x) : Lib.hasPrefix R [x] = false := by
  cases R with
  | nil => rfl
  | cons b R' => rw [pre1]; simp; exact fun e => h b R' rfl e.symm
def rootText (r : Nat) : List UInt8 := if r = 1 then [] else 114 :: Lib.decDigits r
theorem root_noDig (r : Nat) (R : List UInt8) (hR : Behind R) : NoDig (rootText r ++ R) := by
  unfold rootText
  split
  · simpa using hR.noDig
  · intro b R' e
    injection e with e1 _
    subst e1; decide
theorem readTail (r : Nat) (R C : List UInt8) (hR : Behind R) (hr : r ≤ 1000) (hC : C = rootText r ++ R) :
    (if Lib.hasPrefix C [114] = true then numF (digsV (Lib.trimPrefix C [114])) else 1) = (r : Int) ∧ (if Lib.hasPrefix C [114] = true then (Lib.trimPrefix C [114]).drop (digsV (Lib.trimPrefix C [114])).length else C) = R := by
  subst hC
  unfold rootText
  split
  · rename_i h
    have h0 : Lib.hasPrefix ([] ++ R) [114] = false := pre_not (fun b R' e => by
      rcases hR b R' (by simpa using e) with rfl | rfl <;> decide)
    rw [h0]
    simp [h]
  · have h1 : Lib.hasPrefix (114 :: Lib.decDigits r ++ R) [114] = true := by rw [List.cons_append, pre1]; rfl
    have h2 : Lib.trimPrefix (114 :: Lib.decDigits r ++ R) [114] = Lib.decDigits r ++ R := by rw [List.cons_append, trim_pre]
    rw [if_pos h1, if_pos h1, h2, digs_dec _ _ hR.noDig, dec_num _ (by omega)]
    refine ⟨rfl, ?_⟩
    rw [List.length_map, List.drop_left]

def coefText (n r : Nat) : List UInt8 := if n = 1 ∧ r ≠ 1 then [] else Lib.decDigits n
theorem coefPart (n r : Nat) (R : List UInt8) (hR : Behind R) (hn : n ≤ 100001) :
    (coefText n r ++ (rootText r ++ R)).drop (digsV (coefText n r ++ (rootText r ++ R))).length = rootText r ++ R ∧
    (if rootText r ++ R = coefText n r ++ (rootText r ++ R) then 1 else numF (digsV (coefText n r ++ (rootText r ++ R)))) = (n : Int) := by
  have hd := root_noDig r R hR
  unfold coefText
  split
  · rename_i h
    have h1 : digsV ([] ++ (rootText r ++ R)) = [] := by
      unfold digsV
      rw [List.nil_append]
      cases e : rootText r ++ R with
      | nil => rfl
      | cons b R' => simp [hd b R' e]
    refine ⟨by rw [h1]; simp, ?_⟩
    rw [if_pos (by simp), h.1]; rfl
  · refine ⟨drop_dec n _ hd, ?_⟩
    rw [if_neg, digs_dec n _ hd, dec_num n hn]
    intro e
    have := congrArg List.length e
    simp only [List.length_append] at this
    have h2 : (Lib.decDigits n).length ≠ 0 := fun h => dec_ne n (List.length_eq_zero_iff.1 h)
    omega
theorem head_no (n r : Nat) (R : List UInt8) (b : UInt8) (R' : List UInt8) (e : coefText n r ++ (rootText r ++ R) = b :: R') : b ≠ 45 ∧ b ≠ 43 := by
  unfold coefText at e
  split at e
  · rename_i h
    unfold rootText at e
    rw [if_neg h.2] at e
    simp at e
    rw [← e.1]; decide
  · cases hd : Lib.decDigits n with
    | nil => exact absurd hd (dec_ne n)
    | cons x D =>
      rw [hd] at e
      injection e with e1 _
      have := dec_dig n x (by rw [hd]; exact List.mem_cons_self ..)
      rw [e1] at this
      constructor <;> (intro h; rw [h] at this; revert this; decide)
/-- The sign ahead of a term. -/
def signText (plus : Bool) (c : Int) : List UInt8 := if c < 0 then [45] else if plus = true then [43] else []
theorem rtB_sign (plus : Bool) (c : Int) (X : List UInt8) (hX : ∀ b R', X = b :: R' → b ≠ 45 ∧ b ≠ 43) :
    rtB (signText plus c ++ X) = X ∧ (Lib.hasPrefix (signText plus c ++ X) [45] = decide (c < 0)) := by
  have h45 : Lib.hasPrefix X [45] = false := pre_not (fun b R' e => (hX b R' e).1)
  have h43 : Lib.hasPrefix X [43] = false := pre_not (fun b R' e => (hX b R' e).2)
  unfold rtB signText
  split
  · rename_i h
    rw [List.singleton_append, trim_pre, trim_not _ _ h43, pre1]
    simp [h]
  · rename_i h
    split
    · rw [List.singleton_append, trim_not 45 _ (by rw [pre1]; decide), trim_pre, pre1]
      exact ⟨rfl, by rw [decide_eq_false h]; decide⟩
    · rw [List.nil_append, trim_not _ _ h45, trim_not _ _ h43, h45]
      exact ⟨rfl, by rw [decide_eq_false h]⟩
/-- A term that was written is read again. -/
theorem readTerm_back (plus : Bool) (c : Int) (r : Nat) (R : List UInt8) (hR : Behind R) (hc : c.natAbs ≤ 100001) (hr : r ≤ 1000) :
    readTermF (signText plus c ++ (coefText c.natAbs r ++ (rootText r ++ R))) = ((c, (r : Int)), R) := by
  obtain ⟨h1, h2⟩ := rtB_sign plus c _ (head_no c.natAbs r R)
  obtain ⟨h3, h4⟩ := coefPart c.natAbs r R hR hc
  obtain ⟨h5, h6⟩ := readTail r R _ hR hr rfl
  have hC : rtC (signText plus c ++ (coefText c.natAbs r ++ (rootText r ++ R))) = rootText r ++ R := by unfold rtC; rw [h1, h3]
  have hCo : rtCoef (signText plus c ++ (coefText c.natAbs r ++ (rootText r ++ R))) = (c.natAbs : Int) := by unfold rtCoef; rw [hC, h1]; exact h4
  have hE : rtE (signText plus c ++ (coefText c.natAbs r ++ (rootText r ++ R))) = Lib.trimPrefix (rootText r ++ R) [114] := by unfold rtE; rw [hC]
  unfold readTermF
  rw [h2, hC, hCo, hE, h5, h6]
  by_cases h : c < 0
  · rw [if_pos (by simpa using h)]
    congr 2; omega
  · rw [if_neg (by simpa using h)]
    congr 2; omega
end Go.Proofs.YtedpafdfecofnaaGreatDoor

/-! ## S36 -/
namespace Go.Proofs.YtedpafdfecofnaaGreatDoor
open Go.RowKit Go.Maps Go.Shelf Go.Sort
theorem itoa_eq (c : Int) (hc : c ≠ 0) : Lib.itoa c = signText false c ++ Lib.decDigits c.natAbs := by
  unfold Lib.itoa signText
  split
  · rfl
  · rw [if_neg (by decide), List.nil_append]; congr 1; omega
theorem dec_one : Lib.decDigits 1 = [49] := by rw [Lib.decDigits]; rfl
theorem termB_eq (c : Int) (r : Nat) (hc : c ≠ 0) (hr : 1 ≤ r) : termB (c, (r : Int)) = signText false c ++ (coefText c.natAbs r ++ rootText r) := by
  unfold termB coefText rootText
  by_cases h1 : r = 1
  · subst h1
    simp [itoa_eq c hc]
  · have h2 : ¬ ((r : Int) = 1) := by omega
    have h3 : Lib.itoa (r : Int) = Lib.decDigits r := by unfold Lib.itoa; rw [if_neg (by omega)]; rfl
    rw [if_neg h2, if_neg h1, h3]
    by_cases h4 : c = 1 ∨ c = -1
    · rw [if_pos h4, if_pos ⟨by omega, h1⟩]
      rcases h4 with rfl | rfl
      · rw [itoa_eq 1 (by decide)]
        simp [signText, dec_one, Lib.trimSuffix, Lib.hasSuffix]
      · rw [itoa_eq (-1) (by decide)]
        simp [signText, dec_one, Lib.trimSuffix, Lib.hasSuffix]
    · rw [if_neg h4, if_neg (fun h => h4 (by omega)), itoa_eq c hc]
      simp
theorem partB_eq (i : Nat) (c : Int) (r : Nat) (hc : c ≠ 0) (hr : 1 ≤ r) : partB i (c, (r : Int)) = signText (decide (0 < i)) c ++ (coefText c.natAbs r ++ rootText r) := by
  unfold partB
  rw [termB_eq c r hc hr]
  unfold signText
  by_cases h : c < 0
  · simp [h, show ¬ 0 < c by omega]
  · have h0 : 0 < c := by omega
    by_cases hi : 0 < i <;> simp [h, h0, hi]

theorem part_ne (i : Nat) (c : Int) (r : Nat) (R : List UInt8) : signText (decide (0 < i)) c ++ (coefText c.natAbs r ++ (rootText r ++ R)) ≠ R := by
  intro e
  have h := congrArg List.length e
  simp only [List.length_append] at h
  have h1 : (coefText c.natAbs r).length + (rootText r).length ≠ 0 := by
    unfold coefText rootText
    have h2 : (Lib.decDigits c.natAbs).length ≠ 0 := fun h => dec_ne _ (List.length_eq_zero_iff.1 h)
    by_cases h4 : c.natAbs = 1 ∧ r ≠ 1
    · rw [if_pos h4, if_neg h4.2]; simp
    · rw [if_neg h4]; omega
  omega
theorem behind_part (i : Nat) (c : Int) (r : Nat) (R : List UInt8) (hc : c ≠ 0) (hi : 0 < i) : Behind (signText (decide (0 < i)) c ++ R) := by
  intro b R' e
  unfold signText at e
  rw [decide_eq_true hi] at e
  split at e
  · injection e with e1 _; exact .inr e1.symm
  · rw [if_pos rfl] at e; injection e with e1 _; exact .inl e1.symm
/-- The terms behind number i. -/
def bodyFrom : Nat → List (Int × Int) → List UInt8
  | _, [] => []
  | i, t :: l => partB i t ++ bodyFrom (i + 1) l
theorem bodyFrom_eq (i : Nat) (l : List (Int × Int)) : bodyFrom i l = (l.mapIdx (fun j => partB (i + j))).flatten := by
  induction l generalizing i with
  | nil => rfl
  | cons t l ih =>
    rw [bodyFrom, ih, List.mapIdx_cons, List.flatten_cons]
    congr 3
    funext j
    rw [show i + 1 + j = i + (j + 1) by omega]
theorem bodyB_from (l : List (Int × Int)) : bodyB l = bodyFrom 0 l := by
  rw [bodyFrom_eq]; unfold bodyB; congr 2; funext j; rw [Nat.zero_add]
theorem read_body (l : List (Int × Int)) (hl : ∀ t ∈ l, t.1 ≠ 0 ∧ t.1.natAbs ≤ 100001 ∧ 1 ≤ t.2 ∧ t.2 ≤ 1000) (i k : Nat) (acc : List (Int × Int)) (hk : (bodyFrom i l).length ≤ k) :
    readGo k (bodyFrom i l) acc = acc ++ l := by
  induction l generalizing i k acc with
  | nil => cases k <;> simp [readGo, bodyFrom]
  | cons t l ih =>
    obtain ⟨c, r'⟩ := t
    obtain ⟨h1, h2, h3, h4⟩ := hl _ (List.mem_cons_self ..)
    dsimp only at h1 h2 h3 h4
    obtain ⟨r, rfl⟩ := Int.eq_ofNat_of_zero_le (show 0 ≤ r' by omega)
    have hb : Behind (bodyFrom (i + 1) l) := by
      cases l with
      | nil => intro b R' e; cases e
      | cons t2 l2 =>
        obtain ⟨c2, r2'⟩ := t2
        obtain ⟨g1, g2, g3, g4⟩ := hl (c2, r2') (by simp)
        dsimp only at g1 g2 g3 g4
        obtain ⟨r2, rfl⟩ := Int.eq_ofNat_of_zero_le (show 0 ≤ r2' by omega)
        rw [bodyFrom, partB_eq _ _ _ g1 (by omega), List.append_assoc]
        exact behind_part (i + 1) c2 r2 _ g1 (by omega)
    have hrt := readTerm_back (decide (0 < i)) c r (bodyFrom (i + 1) l) hb h2 (by omega)
    have hne := part_ne i c r (bodyFrom (i + 1) l)
    have he : bodyFrom i ((c, (r : Int)) :: l) = signText (decide (0 < i)) c ++ (coefText c.natAbs r ++ (rootText r ++ bodyFrom (i + 1) l)) := by
      rw [bodyFrom, partB_eq _ _ _ h1 (by omega)]; simp only [List.append_assoc]
    rw [he] at hk ⊢
    have hlen : (bodyFrom (i + 1) l).length < (signText (decide (0 < i)) c ++ (coefText c.natAbs r ++ (rootText r ++ bodyFrom (i + 1) l))).length := by
      have := rt_len _ (by rw [hrt]; exact fun e => hne e.symm)
      rw [hrt] at this; exact this
    obtain ⟨k, rfl⟩ : ∃ k', k = k' + 1 := ⟨k - 1, by omega⟩
    rw [readGo, if_neg (by intro e; rw [e] at hlen; simp at hlen), hrt, if_neg (fun e => hne e.symm), if_neg h1, ih (fun t ht => hl t (List.mem_cons_of_mem _ ht)) _ _ _ (by omega)]
    simp
end Go.Proofs.YtedpafdfecofnaaGreatDoor

/-! ## S37 -/
namespace Go.Proofs.YtedpafdfecofnaaGreatDoor
open Go.RowKit Go.Maps Go.Shelf Go.Sort
theorem dec_len2 (n k : Nat) (h : n < 10 ^ (k + 1)) : (Lib.decDigits n).length ≤ k + 1 := by
  induction k generalizing n with
  | zero => rw [Lib.decDigits, dif_pos (by simpa using h)]; simp
  | succ k ih =>
    rw [Lib.decDigits]
    split
    · simp
    · have := ih (n / 10) (by rw [Nat.pow_succ] at h; exact Nat.div_lt_of_lt_mul (by rw [Nat.mul_comm]; exact h))
      simp; omega
theorem part_len (i : Nat) (c : Int) (r : Nat) (hc : c ≠ 0) (h2 : c.natAbs ≤ 100000) (h3 : 1 ≤ r) (h4 : r ≤ 1000) : (partB i (c, (r : Int))).length ≤ 12 := by
  rw [partB_eq i c r hc h3]
  have e1 := dec_len2 c.natAbs 5 (by omega)
  have e2 := dec_len2 r 3 (by omega)
  have e3 : (signText (decide (0 < i)) c).length ≤ 1 := by
    unfold signText; split
    · simp
    · split <;> simp
  simp only [List.length_append]
  have e4 : (coefText c.natAbs r).length ≤ 6 := by
    unfold coefText; split
    · simp
    · omega
  have e5 : (rootText r).length ≤ 5 := by
    unfold rootText; split
    · simp
    · rw [List.length_cons]; omega
  omega
theorem index_skip (A R : List UInt8) (x : UInt8) (hA : ∀ b ∈ A, b ≠ x) : Lib.index (A ++ x :: R) [x] = A.length := by
  induction A with
  | nil => simp [Lib.index, List.isPrefixOf]
  | cons a A ih =>
    have h1 := ih (fun b hb => hA b (List.mem_cons_of_mem _ hb))
    have h2 : (x == a) = false := by simpa using (hA a (List.mem_cons_self ..)).symm
    rw [List.cons_append, Lib.index]
    simp [List.isPrefixOf, h2, h1]
theorem index_none (A : List UInt8) (x : UInt8) (hA : ∀ b ∈ A, b ≠ x) : Lib.index A [x] = -1 := by
  induction A with
  | nil => rfl
  | cons a A ih =>
    have h1 := ih (fun b hb => hA b (List.mem_cons_of_mem _ hb))
    have h2 : (x == a) = false := by simpa using (hA a (List.mem_cons_self ..)).symm
    rw [Lib.index]
    simp [List.isPrefixOf, h2, h1]
theorem cut_skip (A R : List UInt8) (x : UInt8) (hA : ∀ b ∈ A, b ≠ x) : Lib.cut (A ++ x :: R) [x] = (A, R, true) := by
  unfold Lib.cut
  rw [index_skip A R x hA, if_pos (by omega)]
  simp
theorem cut_none (A : List UInt8) (x : UInt8) (hA : ∀ b ∈ A, b ≠ x) : Lib.cut A [x] = (A, [], false) := by
  unfold Lib.cut
  rw [index_none A x hA, if_neg (by omega)]
theorem body_len (l : List (Int × Int)) (hl : ∀ t ∈ l, t.1 ≠ 0 ∧ t.1.natAbs ≤ 100000 ∧ 1 ≤ t.2 ∧ t.2 ≤ 1000) (i : Nat) : (bodyFrom i l).length ≤ 12 * l.length := by
  induction l generalizing i with
  | nil => simp [bodyFrom]
  | cons t l ih =>
    obtain ⟨c, r'⟩ := t
    obtain ⟨h1, h2, h3, h4⟩ := hl _ (List.mem_cons_self ..)
    dsimp only at h1 h2 h3 h4
    obtain ⟨r, rfl⟩ := Int.eq_ofNat_of_zero_le (show 0 ≤ r' by omega)
    have := part_len i c r h1 h2 (by omega) (by omega)
    have := ih (fun t ht => hl t (List.mem_cons_of_mem _ ht)) (i + 1)
    rw [bodyFrom, List.length_append, List.length_cons]
    omega
end Go.Proofs.YtedpafdfecofnaaGreatDoor

/-! ## S38 -/
namespace Go.Proofs.YtedpafdfecofnaaGreatDoor
open Go.RowKit Go.Maps Go.Shelf Go.Sort
def Plain (b : UInt8) : Prop := b ≠ 47 ∧ b ≠ 40 ∧ b ≠ 41
theorem dig_plain (b : UInt8) (h : isDig b = true) : Plain b := by
  refine ⟨?_, ?_, ?_⟩ <;> (intro e; rw [e] at h; revert h; decide)
theorem part_plain (i : Nat) (c : Int) (r : Nat) (hc : c ≠ 0) (hr : 1 ≤ r) : ∀ b ∈ partB i (c, (r : Int)), Plain b := by
  rw [partB_eq i c r hc hr]
  intro b hb
  rcases List.mem_append.1 hb with hb | hb
  · unfold signText at hb
    split at hb
    · rw [List.mem_singleton] at hb; subst hb; exact ⟨by decide, by decide, by decide⟩
    · split at hb
      · rw [List.mem_singleton] at hb; subst hb; exact ⟨by decide, by decide, by decide⟩
      · cases hb
  · rcases List.mem_append.1 hb with hb | hb
    · unfold coefText at hb
      split at hb
      · cases hb
      · exact dig_plain b (dec_dig _ b hb)
    · unfold rootText at hb
      split at hb
      · cases hb
      · rcases List.mem_cons.1 hb with rfl | hb
        · exact ⟨by decide, by decide, by decide⟩
        · exact dig_plain b (dec_dig _ b hb)
theorem body_plain (l : List (Int × Int)) (hl : ∀ t ∈ l, t.1 ≠ 0 ∧ 1 ≤ t.2) (i : Nat) : ∀ b ∈ bodyFrom i l, Plain b := by
  induction l generalizing i with
  | nil => intro b hb; cases hb
  | cons t l ih =>
    obtain ⟨c, r'⟩ := t
    obtain ⟨h1, h3⟩ := hl _ (List.mem_cons_self ..)
    dsimp only at h1 h3
    obtain ⟨r, rfl⟩ := Int.eq_ofNat_of_zero_le (show 0 ≤ r' by omega)
    intro b hb
    rw [bodyFrom] at hb
    rcases List.mem_append.1 hb with hb | hb
    · exact part_plain i c r h1 (by omega) b hb
    · exact ih (fun t ht => hl t (List.mem_cons_of_mem _ ht)) _ b hb
theorem trimPar (B : List UInt8) : Lib.trimSuffix (Lib.trimPrefix ([40] ++ B ++ [41]) [40]) [41] = B := by
  rw [List.append_assoc, List.singleton_append, trim_pre]
  unfold Lib.trimSuffix
  rw [if_pos (by simp [Lib.hasSuffix])]
  simp
theorem trimNo (B : List UInt8) (h : ∀ b ∈ B, Plain b) : Lib.trimSuffix (Lib.trimPrefix B [40]) [41] = B := by
  rw [trim_not 40 B (pre_not (fun b R' e => (h b (by rw [e]; exact List.mem_cons_self ..)).2.1))]
  unfold Lib.trimSuffix
  rw [if_neg]
  intro hs
  have : [41] <:+ B := by simpa [Lib.hasSuffix] using hs
  obtain ⟨A, hA⟩ := this
  exact (h 41 (by rw [← hA]; simp)).2.2 rfl
theorem readsBack : ReadsBack := by
  intro d l hv
  have V := vld_of hv
  have hpt := vld_pt V
  have hd1 := V.d1
  have hd2 := V.d2
  have hlen := V.len
  have hl : ∀ t ∈ l, t.1 ≠ 0 ∧ t.1.natAbs ≤ 100000 ∧ 1 ≤ t.2 ∧ t.2 ≤ 1000 := fun t ht => by
    have h1 := V.cf t ht
    have h2 := hpt t ht
    exact ⟨h1.2.2, by omega, by omega, by omega⟩
  have hpl := body_plain l (fun t ht => ⟨(hl t ht).1, (hl t ht).2.2.1⟩) 0
  have hbl := body_len l hl 0
  obtain ⟨n, rfl⟩ := Int.eq_ofNat_of_zero_le (show 0 ≤ d by omega)
  have hit : Lib.itoa (n : Int) = Lib.decDigits n := by unfold Lib.itoa; rw [if_neg (by omega)]; rfl
  have hdl := dec_len2 n 5 (by omega)
  have hdn := dec_num n (by omega)
  have hdg : digsV (Lib.decDigits n) = (Lib.decDigits n).map dv := by
    have := digs_dec n [] (fun b R' e => by cases e)
    rwa [List.append_nil] at this
  have hbody : readGo (bodyFrom 0 l).length (bodyFrom 0 l) [] = l := by
    rw [read_body l (fun t ht => by have := hl t ht; omega) 0 _ [] (Nat.le_refl _), List.nil_append]
  have key : ∀ T, textB (n : Int) l = T → readDen T = (n : Int) → readL T = l → T.length ≤ 64 → parseF (textB (n : Int) l) = ((n : Int), l, 0) ∧ (textB (n : Int) l).length ≤ 64 := by
    intro T hT h1 h2 h3
    rw [hT]
    refine ⟨?_, h3⟩
    unfold parseF
    rw [if_neg (by omega), h1, h2, if_pos ⟨hv, hT⟩]
  have hp47 : ∀ b ∈ [40] ++ bodyFrom 0 l ++ [41], b ≠ 47 := by
    intro b hb
    rcases List.mem_append.1 hb with hb | hb
    · rcases List.mem_append.1 hb with hb | hb
      · rw [List.mem_singleton] at hb; subst hb; decide
      · exact (hpl b hb).1
    · rw [List.mem_singleton] at hb; subst hb; decide
  by_cases h0 : l.length = 0
  · have e : l = [] := List.length_eq_zero_iff.1 h0
    subst e
    have hn1 : (n : Int) = 1 := by
      have := V.dv
      simp [dvF] at this
      omega
    refine key [48] (by unfold textB; simp) ?_ ?_ (by decide)
    · rw [hn1]; rfl
    · rfl
  · by_cases h1 : (n : Int) = 1
    · refine key (bodyFrom 0 l) (by unfold textB; rw [if_neg h0, if_pos h1, bodyB_from]) ?_ ?_ (by omega)
      · unfold readDen; rw [cut_none _ 47 (fun b hb => (hpl b hb).1), h1]; rfl
      · unfold readL readT; rw [cut_none _ 47 (fun b hb => (hpl b hb).1)]
        exact hbody
    · by_cases h2 : 1 < l.length
      · refine key (([40] ++ bodyFrom 0 l ++ [41]) ++ 47 :: Lib.decDigits n) (by unfold textB; rw [if_neg h0, if_neg h1, if_pos h2, bodyB_from, hit]; simp) ?_ ?_ (by simp; omega)
        · unfold readDen; rw [cut_skip _ _ 47 hp47, if_pos rfl, hdg, hdn]
        · unfold readL readT; rw [cut_skip _ _ 47 hp47, if_pos rfl, trimPar]
          exact hbody
      · refine key (bodyFrom 0 l ++ 47 :: Lib.decDigits n) (by unfold textB; rw [if_neg h0, if_neg h1, if_neg h2, bodyB_from, hit]; simp) ?_ ?_ (by simp; omega)
        · unfold readDen; rw [cut_skip _ _ 47 (fun b hb => (hpl b hb).1), if_pos rfl, hdg, hdn]
        · unfold readL readT; rw [cut_skip _ _ 47 (fun b hb => (hpl b hb).1), if_pos rfl, trimNo _ hpl]
          exact hbody
end Go.Proofs.YtedpafdfecofnaaGreatDoor
