/-
  Contracts of the program's own functions (and their plain mathematics), on the way to the law: each for all arguments that its hypotheses let.
-/
import Derived.Test.YtedpafdfecofnaaGreatDoorF13
import Derived.Test.YtedpafdfecofnaaGreatDoorF50
import Derived.WalkKit
import Derived.WalkSpells
import Derived.WalkLawsBesides
import Derived.Deep.QuietTactic
import Derived.BigQuiet
import Derived.Lib.Hide
import Derived.WalkSmall
import Derived.Maps.OwnSet
import Derived.Maps.RangeWalk
import Derived.Deep.RegionWith
import Derived.Deep.RegionHeld3
import Derived.Deep.DrawnRows
import Derived.Deep.DeepCutAuto
import Derived.OneCell
import Derived.KernelRfl
import Derived.Laws.StructEq
import Derived.StillTailTactics
import Derived.Laws.Externs
import Derived.RangeFuncBox
import Derived.Test.YtedpafdfecofnaaGreatDoorPlain
set_option linter.unusedSimpArgs false
set_option linter.unusedVariables false

/-! ## S122 -/
namespace Go.Proofs.YtedpafdfecofnaaGreatDoor
open Go.RowKit Go.Maps Go.Shelf Go.Sort
/-- The state of the reference's Read. -/
structure RSt where
  d : Int
  ts : List (Int × Int)
  c : Int
  r : Int
  sg : Int
  n : Nat
  ro : Bool
  dn : Bool
def flushT (s : RSt) : List (Int × Int) :=
  if s.dn = false ∧ (0 < s.n ∨ s.ro = true) then (if IntKind.i64.wrap (s.c * s.sg) = 0 then s.ts else s.ts ++ [(IntKind.i64.wrap (s.c * s.sg), s.r)]) else s.ts
def digS (x : Int) (b : UInt8) : Int := IntKind.i64.wrap (IntKind.i64.wrap (10 * x) + ((b.toNat : Int) - 48))
def rstep (f : Bool) (b : UInt8) (s : RSt) : Option RSt :=
  if isDig b = true then
    if 6 < s.n + 1 then none
    else if s.dn = true then some ⟨digS s.d b, s.ts, s.c, s.r, s.sg, s.n + 1, s.ro, s.dn⟩
    else if s.ro = true then some ⟨s.d, s.ts, s.c, digS s.r b, s.sg, s.n + 1, s.ro, s.dn⟩
    else some ⟨s.d, s.ts, digS s.c b, s.r, s.sg, s.n + 1, s.ro, s.dn⟩
  else if b = 114 ∧ s.dn = false ∧ s.ro = false then some ⟨s.d, s.ts, if s.n = 0 then 1 else s.c, 0, s.sg, 0, true, s.dn⟩
  else if b = 40 ∧ f = true then some s
  else if b = 41 ∨ b = 43 ∨ b = 45 ∨ b = 47 ∨ b = 0 then some ⟨if b = 47 then 0 else s.d, flushT s, 0, 1, if b = 45 then -1 else 1, 0, false, if b = 47 then true else s.dn⟩
  else none
def rgo : Bool → List UInt8 → RSt → Option RSt
  | _, [], s => some s
  | f, b :: L, s => match rstep f b s with
    | none => none
    | some s' => rgo false L s'
theorem rgo_cons {f : Bool} {b : UInt8} {L : List UInt8} {s s' : RSt} (h : rstep f b s = some s') : rgo f (b :: L) s = rgo false L s' := by simp only [rgo, h]
theorem rgo_none {f : Bool} {b : UInt8} {L : List UInt8} {s : RSt} (h : rstep f b s = none) : rgo f (b :: L) s = none := by simp only [rgo, h]
theorem dig_nat (k : Nat) (h : k < 10) : (UInt8.ofNat (48 + k)).toNat = 48 + k := by
  have : ∀ k : Fin 10, (UInt8.ofNat (48 + k.1)).toNat = 48 + k.1 := by decide
  exact this ⟨k, h⟩
theorem digS_in (x : Int) (k : Nat) (h : k < 10) (h0 : 0 ≤ x) (h1 : x ≤ 1000000) : digS x (UInt8.ofNat (48 + k)) = 10 * x + k := by
  unfold digS
  rw [dig_nat k h, IntWalk.i64_in (10 * x) (by omega), IntWalk.i64_in _ (by omega)]
  omega
theorem rstep_d {f : Bool} (k : Nat) (h : k < 10) (d : Int) (ts : List (Int × Int)) (c r sg : Int) (n : Nat) (ro : Bool) (hn : n < 6) (h0 : 0 ≤ d) (h1 : d ≤ 1000000) :
    rstep f (UInt8.ofNat (48 + k)) ⟨d, ts, c, r, sg, n, ro, true⟩ = some ⟨10 * d + k, ts, c, r, sg, n + 1, ro, true⟩ := by
  unfold rstep
  rw [if_pos (dig_of k h).1, if_neg (by dsimp only; omega), if_pos rfl, digS_in _ k h h0 h1]
theorem rstep_r {f : Bool} (k : Nat) (h : k < 10) (d : Int) (ts : List (Int × Int)) (c r sg : Int) (n : Nat) (hn : n < 6) (h0 : 0 ≤ r) (h1 : r ≤ 1000000) :
    rstep f (UInt8.ofNat (48 + k)) ⟨d, ts, c, r, sg, n, true, false⟩ = some ⟨d, ts, c, 10 * r + k, sg, n + 1, true, false⟩ := by
  unfold rstep
  rw [if_pos (dig_of k h).1, if_neg (by dsimp only; omega), if_neg (by simp), if_pos rfl, digS_in _ k h h0 h1]
theorem rstep_c {f : Bool} (k : Nat) (h : k < 10) (d : Int) (ts : List (Int × Int)) (c r sg : Int) (n : Nat) (hn : n < 6) (h0 : 0 ≤ c) (h1 : c ≤ 1000000) :
    rstep f (UInt8.ofNat (48 + k)) ⟨d, ts, c, r, sg, n, false, false⟩ = some ⟨d, ts, 10 * c + k, r, sg, n + 1, false, false⟩ := by
  unfold rstep
  rw [if_pos (dig_of k h).1, if_neg (by dsimp only; omega), if_neg (by simp), if_neg (by simp), digS_in _ k h h0 h1]
/-- A numeral, read by whatever takes its digits. -/
theorem rgo_dec (S : Int → Nat → RSt) (hS : ∀ (f : Bool) (k : Nat) (x : Int) (n : Nat), k < 10 → n < 6 → 0 ≤ x → x ≤ 1000000 → rstep f (UInt8.ofNat (48 + k)) (S x n) = some (S (10 * x + k) (n + 1))) (n : Nat) :
    ∀ (f : Bool) (R : List UInt8), n ≤ 1000000 → (Lib.decDigits n).length ≤ 6 → rgo f (Lib.decDigits n ++ R) (S 0 0) = rgo false R (S n (Lib.decDigits n).length) := by
  induction n using Nat.strongRecOn with
  | ind n ih =>
  intro f R hn hl
  by_cases h : n < 10
  · rw [Lib.decDigits_one h] at hl ⊢
    rw [List.singleton_append, rgo_cons (hS f n 0 0 h (by omega) (by omega) (by omega))]
    simp
  · rw [dig_split n h, Lib.decDigits_one (Nat.mod_lt n (by omega : 0 < 10))] at hl ⊢
    rw [List.length_append, List.length_singleton] at hl ⊢
    rw [List.append_assoc, ih (n / 10) (by omega) f _ (by omega) (by omega), List.singleton_append, rgo_cons (hS false (n % 10) _ _ (Nat.mod_lt n (by omega)) (by omega) (by omega) (by omega))]
    have e : 10 * ((n / 10 : Nat) : Int) + ((n % 10 : Nat) : Int) = (n : Int) := by omega
    rw [e]
theorem dig6 (n : Nat) (h : n ≤ 100000) : (Lib.decDigits n).length ≤ 6 := dig_len n 6 (by omega) (by decide)
theorem dec_pos (n : Nat) : 0 < (Lib.decDigits n).length := Nat.pos_of_ne_zero fun h => dec_ne n (List.length_eq_zero_iff.1 h)
theorem rgo_c (n : Nat) (f : Bool) (R : List UInt8) (hn : n ≤ 100000) (d : Int) (ts : List (Int × Int)) (r sg : Int) :
    rgo f (Lib.decDigits n ++ R) ⟨d, ts, 0, r, sg, 0, false, false⟩ = rgo false R ⟨d, ts, n, r, sg, (Lib.decDigits n).length, false, false⟩ :=
  rgo_dec (fun x m => ⟨d, ts, x, r, sg, m, false, false⟩) (fun f k x m h1 h2 h3 h4 => rstep_c k h1 d ts x r sg m h2 h3 h4) n f R (by omega) (dig6 n hn)
theorem rgo_r (n : Nat) (f : Bool) (R : List UInt8) (hn : n ≤ 100000) (d : Int) (ts : List (Int × Int)) (c sg : Int) :
    rgo f (Lib.decDigits n ++ R) ⟨d, ts, c, 0, sg, 0, true, false⟩ = rgo false R ⟨d, ts, c, n, sg, (Lib.decDigits n).length, true, false⟩ :=
  rgo_dec (fun x m => ⟨d, ts, c, x, sg, m, true, false⟩) (fun f k x m h1 h2 h3 h4 => rstep_r k h1 d ts c x sg m h2 h3 h4) n f R (by omega) (dig6 n hn)
theorem rgo_d (n : Nat) (f : Bool) (R : List UInt8) (hn : n ≤ 100000) (ts : List (Int × Int)) (c r sg : Int) (ro : Bool) :
    rgo f (Lib.decDigits n ++ R) ⟨0, ts, c, r, sg, 0, ro, true⟩ = rgo false R ⟨n, ts, c, r, sg, (Lib.decDigits n).length, ro, true⟩ :=
  rgo_dec (fun x m => ⟨x, ts, c, r, sg, m, ro, true⟩) (fun f k x m h1 h2 h3 h4 => rstep_d k h1 x ts c r sg m ro h2 h3 h4) n f R (by omega) (dig6 n hn)
theorem rstep_root {f : Bool} (d : Int) (ts : List (Int × Int)) (c r sg : Int) (n : Nat) :
    rstep f 114 ⟨d, ts, c, r, sg, n, false, false⟩ = some ⟨d, ts, if n = 0 then 1 else c, 0, sg, 0, true, false⟩ := by
  unfold rstep
  rw [if_neg (by decide), if_pos ⟨rfl, rfl, rfl⟩]
/-- A term's digits and root, from a fresh state. -/
theorem rgo_term (f : Bool) (m r : Nat) (R : List UInt8) (hm : m ≤ 100000) (hr : r ≤ 1000) (hr1 : 1 ≤ r) (d : Int) (ts : List (Int × Int)) (sg : Int) :
    ∃ (n : Nat) (ro : Bool), (0 < n ∨ ro = true) ∧ rgo f (coefText m r ++ (rootText r ++ R)) ⟨d, ts, 0, 1, sg, 0, false, false⟩ = rgo false R ⟨d, ts, m, r, sg, n, ro, false⟩ := by
  unfold coefText rootText
  by_cases h1 : r = 1
  · subst h1
    rw [if_neg (by simp), if_pos rfl, List.nil_append, rgo_c m f R hm]
    exact ⟨_, _, .inl (dec_pos m), rfl⟩
  · rw [if_neg h1]
    by_cases h2 : m = 1
    · subst h2
      rw [if_pos ⟨rfl, h1⟩, List.nil_append, List.cons_append, rgo_cons (rstep_root ..), if_pos rfl, rgo_r r false R (by omega)]
      exact ⟨_, _, .inr rfl, rfl⟩
    · rw [if_neg (fun h => h2 h.1), rgo_c m f _ hm, List.cons_append, rgo_cons (rstep_root ..), if_neg (by have := dec_pos m; omega), rgo_r r false R (by omega)]
      exact ⟨_, _, .inr rfl, rfl⟩
def IsEnd (b : UInt8) : Prop := b = 41 ∨ b = 43 ∨ b = 45 ∨ b = 47 ∨ b = 0
theorem rstep_end {f : Bool} (b : UInt8) (h : IsEnd b) (s : RSt) : rstep f b s = some ⟨if b = 47 then 0 else s.d, flushT s, 0, 1, if b = 45 then -1 else 1, 0, false, if b = 47 then true else s.dn⟩ := by
  have h1 : ¬ isDig b = true := by rcases h with rfl | rfl | rfl | rfl | rfl <;> decide
  have h2 : b ≠ 114 := by rcases h with rfl | rfl | rfl | rfl | rfl <;> decide
  have h3 : b ≠ 40 := by rcases h with rfl | rfl | rfl | rfl | rfl <;> decide
  unfold rstep
  rw [if_neg h1, if_neg (fun e => h2 e.1), if_neg (fun e => h3 e.1), if_pos (show b = 41 ∨ b = 43 ∨ b = 45 ∨ b = 47 ∨ b = 0 from h)]
def sgOf (c : Int) : Int := if c < 0 then -1 else 1
theorem flush_pend (d : Int) (ts : List (Int × Int)) (c : Int) (r : Int) (n : Nat) (ro : Bool) (hc : c ≠ 0) (hb : c.natAbs ≤ 100000) (h : 0 < n ∨ ro = true) :
    flushT ⟨d, ts, (c.natAbs : Int), r, sgOf c, n, ro, false⟩ = ts ++ [(c, r)] := by
  have e : IntKind.i64.wrap ((c.natAbs : Int) * sgOf c) = c := by
    have e2 : (c.natAbs : Int) * sgOf c = c := by unfold sgOf; split <;> omega
    rw [e2, IntWalk.i64_in _ (by omega)]
  unfold flushT
  dsimp only
  rw [if_pos ⟨rfl, h⟩, e, if_neg hc]
theorem flush_fresh (d : Int) (ts : List (Int × Int)) (c r sg : Int) (dn : Bool) : flushT ⟨d, ts, c, r, sg, 0, false, dn⟩ = ts := by
  unfold flushT
  rw [if_neg (by simp)]
/-- The terms behind one that is still open, and the end behind them. -/
theorem rgo_rest (l : List (Int × Int)) (hl : ∀ t ∈ l, t.1 ≠ 0 ∧ t.1.natAbs ≤ 100000 ∧ 1 ≤ t.2 ∧ t.2 ≤ 1000) :
    ∀ (i : Nat) (f : Bool) (ts : List (Int × Int)) (c r : Int) (n : Nat) (ro : Bool) (b : UInt8) (R : List UInt8), 0 < i → c ≠ 0 → c.natAbs ≤ 100000 → (0 < n ∨ ro = true) → IsEnd b →
      rgo f (bodyFrom i l ++ b :: R) ⟨1, ts, (c.natAbs : Int), r, sgOf c, n, ro, false⟩ = rgo false R ⟨if b = 47 then 0 else 1, ts ++ (c, r) :: l, 0, 1, if b = 45 then -1 else 1, 0, false, if b = 47 then true else false⟩ := by
  induction l with
  | nil =>
    intro i f ts c r n ro b R hi hc hb hn he
    rw [bodyFrom, List.nil_append, rgo_cons (rstep_end b he _), flush_pend 1 ts c r n ro hc hb hn]
  | cons t l ih =>
    intro i f ts c r n ro b R hi hc hb hn he
    obtain ⟨c2, r2'⟩ := t
    obtain ⟨g1, g2, g3, g4⟩ := hl (c2, r2') (List.mem_cons_self ..)
    dsimp only at g1 g2 g3 g4
    obtain ⟨r2, rfl⟩ := Int.eq_ofNat_of_zero_le (show 0 ≤ r2' by omega)
    rw [bodyFrom, partB_eq _ _ _ g1 (by omega)]
    have hs : signText (decide (0 < i)) c2 = [if c2 < 0 then 45 else 43] := by
      unfold signText
      rw [decide_eq_true hi]
      split <;> rfl
    rw [hs]
    simp only [List.append_assoc, List.cons_append]
    have hend : IsEnd (if c2 < 0 then 45 else 43) := by
      split
      · exact .inr (.inr (.inl rfl))
      · exact .inr (.inl rfl)
    rw [rgo_cons (rstep_end _ hend _), flush_pend 1 ts c r n ro hc hb hn]
    have e1 : ¬ (if c2 < 0 then (45 : UInt8) else 43) = 47 := by split <;> decide
    have e2 : (if (if c2 < 0 then (45 : UInt8) else 43) = 45 then (-1 : Int) else 1) = sgOf c2 := by
      unfold sgOf
      by_cases h : c2 < 0
      · rw [if_pos h, if_pos h]; rfl
      · rw [if_neg h, if_neg h]; rfl
    rw [if_neg e1, if_neg e1, e2]
    obtain ⟨n2, ro2, hn2, hg⟩ := rgo_term false c2.natAbs r2 (bodyFrom (i + 1) l ++ b :: R) g2 (by omega) (by omega) 1 (ts ++ [(c, r)]) (sgOf c2)
    refine Eq.trans hg ?_
    rw [ih (fun t ht => hl t (List.mem_cons_of_mem _ ht)) (i + 1) false (ts ++ [(c, r)]) c2 r2 n2 ro2 b R (by omega) g1 g2 hn2 he]
    simp
/-- All terms, and the end behind them. -/
theorem rgo_body (l : List (Int × Int)) (hl : ∀ t ∈ l, t.1 ≠ 0 ∧ t.1.natAbs ≤ 100000 ∧ 1 ≤ t.2 ∧ t.2 ≤ 1000) (hne : l ≠ []) (f : Bool) (b : UInt8) (R : List UInt8) (he : IsEnd b) :
    rgo f (bodyFrom 0 l ++ b :: R) ⟨1, [], 0, 1, 1, 0, false, false⟩ = rgo false R ⟨if b = 47 then 0 else 1, l, 0, 1, if b = 45 then -1 else 1, 0, false, if b = 47 then true else false⟩ := by
  cases l with
  | nil => exact absurd rfl hne
  | cons t l =>
    obtain ⟨c2, r2'⟩ := t
    obtain ⟨g1, g2, g3, g4⟩ := hl (c2, r2') (List.mem_cons_self ..)
    dsimp only at g1 g2 g3 g4
    obtain ⟨r2, rfl⟩ := Int.eq_ofNat_of_zero_le (show 0 ≤ r2' by omega)
    rw [bodyFrom, partB_eq _ _ _ g1 (by omega)]
    have main : ∀ f, rgo f (coefText c2.natAbs r2 ++ (rootText r2 ++ (bodyFrom (0 + 1) l ++ b :: R))) ⟨1, [], 0, 1, sgOf c2, 0, false, false⟩ = rgo false R ⟨if b = 47 then 0 else 1, (c2, (r2 : Int)) :: l, 0, 1, if b = 45 then -1 else 1, 0, false, if b = 47 then true else false⟩ := by
      intro f
      obtain ⟨n2, ro2, hn2, hg⟩ := rgo_term f c2.natAbs r2 (bodyFrom (0 + 1) l ++ b :: R) g2 (by omega) (by omega) 1 [] (sgOf c2)
      rw [hg, rgo_rest l (fun t ht => hl t (List.mem_cons_of_mem _ ht)) (0 + 1) false [] c2 r2 n2 ro2 b R (by omega) g1 g2 hn2 he]
      simp
    unfold signText
    simp only [List.append_assoc]
    by_cases h : c2 < 0
    · rw [if_pos h, List.singleton_append, rgo_cons (rstep_end 45 (.inr (.inr (.inl rfl))) _), flush_fresh, if_neg (by decide), if_pos rfl, if_neg (by decide)]
      have e : sgOf c2 = -1 := by unfold sgOf; rw [if_pos h]
      have hm := main false
      rw [e] at hm
      exact hm
    · rw [if_neg h, if_neg (by simp), List.nil_append]
      have e : sgOf c2 = 1 := by unfold sgOf; rw [if_neg h]
      have hm := main f
      rw [e] at hm
      exact hm
def rinit : RSt := ⟨1, [], 0, 1, 1, 0, false, false⟩
/-- What is written is read by the reference. -/
theorem rgo_text (d : Int) (l : List (Int × Int)) (hv : validF d l = true) : ∃ s, rgo true (textB d l ++ [0]) rinit = some s ∧ s.d = d ∧ s.ts = l := by
  have V := vld_of hv
  have hpt := vld_pt V
  have hd1 := V.d1
  have hd2 := V.d2
  have hl : ∀ t ∈ l, t.1 ≠ 0 ∧ t.1.natAbs ≤ 100000 ∧ 1 ≤ t.2 ∧ t.2 ≤ 1000 := fun t ht => by
    have h1 := V.cf t ht
    have h2 := hpt t ht
    exact ⟨h1.2.2, by omega, by omega, by omega⟩
  obtain ⟨n, rfl⟩ := Int.eq_ofNat_of_zero_le (show 0 ≤ d by omega)
  have hit : Lib.itoa (n : Int) = Lib.decDigits n := Lib.itoa_nonneg n
  have z0 : IsEnd 0 := .inr (.inr (.inr (.inr rfl)))
  have z41 : IsEnd 41 := .inl rfl
  have z47 : IsEnd 47 := .inr (.inr (.inr (.inl rfl)))
  have hden : ∀ (f : Bool) (ts : List (Int × Int)) (c r sg : Int) (ro : Bool), rgo f (Lib.decDigits n ++ [0]) ⟨0, ts, c, r, sg, 0, ro, true⟩ = some ⟨n, ts, 0, 1, 1, 0, false, true⟩ := by
    intro f ts c r sg ro
    rw [rgo_d n f [0] (by omega), rgo_cons (rstep_end 0 z0 _)]
    unfold flushT rgo
    dsimp only
    rw [if_neg (by decide), if_neg (by simp), if_neg (by decide), if_neg (by decide)]
  by_cases h0 : l.length = 0
  · have e : l = [] := List.length_eq_zero_iff.1 h0
    subst e
    have hn1 : (n : Int) = 1 := by
      have := V.dv
      simp [dvF] at this
      omega
    rw [hn1]
    refine ⟨⟨1, [], 0, 1, 1, 0, false, false⟩, ?_, rfl, rfl⟩
    have e0 : textB 1 [] = [48] := by unfold textB; simp
    rw [e0]
    rfl
  · have hne : l ≠ [] := fun e => h0 (by rw [e]; rfl)
    by_cases h1 : (n : Int) = 1
    · have e : textB (n : Int) l = bodyFrom 0 l := by unfold textB; rw [if_neg h0, if_pos h1, bodyB_from]
      rw [e]
      refine ⟨_, (rgo_body l hl hne true 0 [] z0).trans rfl, ?_, rfl⟩
      exact h1.symm
    · by_cases h2 : 1 < l.length
      · have e : textB (n : Int) l = 40 :: (bodyFrom 0 l ++ 41 :: 47 :: Lib.decDigits n) := by unfold textB; rw [if_neg h0, if_neg h1, if_pos h2, bodyB_from, hit]; simp
        rw [e]
        have es : rstep true 40 rinit = some rinit := rfl
        refine ⟨⟨n, l, 0, 1, 1, 0, false, true⟩, ?_, rfl, rfl⟩
        rw [List.cons_append, rgo_cons es, List.append_assoc]
        unfold rinit
        rw [List.cons_append, List.cons_append, rgo_body l hl hne false 41 _ z41, rgo_cons (rstep_end 47 z47 _), flush_fresh, if_pos rfl, if_pos rfl]
        exact hden _ _ _ _ _ _
      · have e : textB (n : Int) l = bodyFrom 0 l ++ 47 :: Lib.decDigits n := by unfold textB; rw [if_neg h0, if_neg h1, if_neg h2, bodyB_from, hit]; simp
        rw [e]
        refine ⟨⟨n, l, 0, 1, 1, 0, false, true⟩, ?_, rfl, rfl⟩
        unfold rinit
        rw [List.append_assoc, List.cons_append, rgo_body l hl hne true 47 _ z47, if_pos rfl, if_pos rfl]
        exact hden _ _ _ _ _ _
end Go.Proofs.YtedpafdfecofnaaGreatDoor
