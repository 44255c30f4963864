/-
  Contracts of the program's own functions (and their plain mathematics), on the way to the law: each for all arguments that its hypotheses let.
-/
import Derived.Test.YtedpafdfecofnaaGreatDoorF25
import Derived.WalkKit
import Derived.Test.YtedpafdfecofnaaGreatDoorF29
import Derived.WalkSpells
import Derived.WalkLawsBesides
import Derived.Deep.QuietTactic
import Derived.BigQuiet
import Derived.Lib.Hide
import Derived.WalkSmall
import Derived.Maps.OwnSet
import Derived.Maps.RangeWalk
import Derived.Deep.RegionWith
import Derived.Deep.RegionHeld3
import Derived.Deep.DrawnRows
import Derived.Deep.DeepCutAuto
import Derived.OneCell
import Derived.KernelRfl
import Derived.Laws.StructEq
import Derived.StillTailTactics
import Derived.Laws.Externs
import Derived.RangeFuncBox
import Derived.Test.YtedpafdfecofnaaGreatDoorPlain
set_option linter.unusedSimpArgs false
set_option linter.unusedVariables false

/-! ## V1 -/
namespace Go.Proofs.YtedpafdfecofnaaGreatDoor
open Go.RowKit Go.Maps Go.Shelf Go.Sort

/-! Plain mathematics of the reference's Parts: parts are collected by their roots, and picked by the least root. -/
def gcdT (g : Nat) (t : Int × Int) : Nat := Int.gcd g t.1
theorem gcdT_comm (g : Nat) (x y : Int × Int) : gcdT (gcdT g x) y = gcdT (gcdT g y) x := by
  unfold gcdT
  simp only [Int.gcd, Int.natAbs_natCast]
  rw [Nat.gcd_assoc, Nat.gcd_assoc, Nat.gcd_comm x.1.natAbs]
theorem dv_perm {d : Int} {l m : List (Int × Int)} (h : l.Perm m) : dvF d l = dvF d m := by
  show l.foldl gcdT _ = m.foldl gcdT _
  exact h.foldl_eq' (fun x _ y _ z => gcdT_comm z x y) _
theorem dv_zero (d : Int) (l : List (Int × Int)) : dvF d (l.filter fun t => decide (t.1 ≠ 0)) = dvF d l := by
  unfold dvF
  generalize Int.gcd d 0 = g
  induction l generalizing g with
  | nil => rfl
  | cons t l ih =>
    by_cases h : t.1 = 0
    · rw [List.filter_cons_of_neg (by simpa using h), List.foldl_cons, h]
      rw [Int.gcd_zero_right, Int.natAbs_natCast]
      exact ih g
    · rw [List.filter_cons_of_pos (by simpa using h), List.foldl_cons, List.foldl_cons]
      exact ih _

/-- One part more: added to the term with its root, or put at the end. -/
theorem coef_set {ts : List (Int × Int)} (k : Nat) (hk : k < ts.length) (x r : Int) : coefOf (ts.set k (ts[k].1 + x, ts[k].2)) r = coefOf ts r + (if ts[k].2 = r then x else 0) := by
  induction ts generalizing k with
  | nil => simp at hk
  | cons t ts ih =>
    cases k with
    | zero =>
      simp only [List.set_cons_zero, List.getElem_cons_zero, coefOf_cons]
      split <;> omega
    | succ k =>
      simp only [List.set_cons_succ, List.getElem_cons_succ, coefOf_cons]
      rw [ih k (by simpa using hk)]
      omega
theorem set_roots {ts : List (Int × Int)} (k : Nat) (hk : k < ts.length) (x : Int) : (ts.set k (x, ts[k].2)).map (·.2) = ts.map (·.2) := by
  rw [List.map_set]
  apply List.ext_getElem
  · simp
  · intro i h1 h2
    simp only [List.getElem_set, List.getElem_map]
    split
    · rename_i h; subst h; rfl
    · rfl
theorem coef_snoc (ts : List (Int × Int)) (u : Int × Int) (r : Int) : coefOf (ts ++ [u]) r = coefOf ts r + (if u.2 = r then u.1 else 0) := by
  rw [coefOf_snoc]; split <;> omega

/-- How far the picking has come: xs are picked, us are left (those that were picked are 0). -/
structure Sel (ts xs us : List (Int × Int)) : Prop where
  asc : xs.Pairwise (fun a b => a.2 < b.2)
  all : ∀ t ∈ ts, t.1 ≠ 0 → t ∈ xs ∨ t ∈ us
  from' : ∀ t ∈ xs, t ∈ ts ∧ t.1 ≠ 0
  left : ∀ u ∈ us, u.1 ≠ 0 → u ∈ ts ∧ ∀ x ∈ xs, x.2 < u.2
  roots : us.map (·.2) = ts.map (·.2)
theorem sel_start (ts : List (Int × Int)) : Sel ts [] ts := ⟨.nil, fun t h _ => .inr h, fun t h => by simp at h, fun u h _ => ⟨h, fun x hx => by simp at hx⟩, rfl⟩
theorem sel_step {ts xs us : List (Int × Int)} (hn : (ts.map (·.2)).Nodup) (h : Sel ts xs us) (b : Nat) (hb : b < us.length) (h0 : us[b].1 ≠ 0) (hm : ∀ i (hi : i < us.length), us[i].1 ≠ 0 → us[b].2 ≤ us[i].2) :
    Sel ts (xs ++ [us[b]]) (us.set b (0, us[b].2)) := by
  obtain ⟨hu1, hu2⟩ := h.left us[b] (List.getElem_mem hb) h0
  have hnu : (us.map (·.2)).Nodup := by rw [h.roots]; exact hn
  refine ⟨?_, ?_, ?_, ?_, ?_⟩
  · rw [List.pairwise_append]
    refine ⟨h.asc, by simp, fun x hx y hy => ?_⟩
    simp at hy; subst hy
    exact hu2 x hx
  · intro t ht h1
    rcases h.all t ht h1 with h2 | h2
    · exact .inl (by simp [h2])
    · obtain ⟨i, hi, rfl⟩ := List.getElem_of_mem h2
      by_cases e : i = b
      · subst e; exact .inl (by simp)
      · right
        refine List.mem_iff_getElem.2 ⟨i, by simpa using hi, ?_⟩
        rw [List.getElem_set_ne (by omega)]
  · intro t ht
    rcases List.mem_append.1 ht with h1 | h1
    · exact h.from' t h1
    · simp at h1; subst h1; exact ⟨hu1, h0⟩
  · intro u hu h1
    obtain ⟨i, hi, rfl⟩ := List.getElem_of_mem hu
    have hi' : i < us.length := by simpa using hi
    by_cases e : b = i
    · subst e
      rw [List.getElem_set_self] at h1
      exact absurd rfl h1
    · rw [List.getElem_set_ne e] at h1 ⊢
      obtain ⟨h2, h3⟩ := h.left us[i] (List.getElem_mem hi') h1
      refine ⟨h2, fun x hx => ?_⟩
      rcases List.mem_append.1 hx with h4 | h4
      · exact h3 x h4
      · simp at h4; subst h4
        have h5 := hm i hi' h1
        have h6 : us[b].2 ≠ us[i].2 := by
          intro e2
          have := (List.getElem_inj (h₀ := by simpa using hb) (h₁ := by simpa using hi') hnu).1 (by simpa using e2)
          exact e this
        omega
  · rw [set_roots b hb 0, h.roots]
theorem sel_end {ts xs us : List (Int × Int)} (hn : (ts.map (·.2)).Nodup) (h : Sel ts xs us) (h0 : ∀ u ∈ us, u.1 = 0) : IsTerms (coefOf ts) xs := by
  refine ⟨h.asc, fun x r => ⟨fun hm => ?_, fun hc => ?_⟩⟩
  · obtain ⟨h1, h2⟩ := h.from' (x, r) hm
    exact ⟨coefOf_in hn h1, h2⟩
  · obtain ⟨h1, h2⟩ := hc
    have h3 : coefOf ts r ≠ 0 := by omega
    obtain ⟨t, ht, e⟩ := coefOf_ne h3
    have h4 := coefOf_in hn ht
    rw [e, h1] at h4
    obtain ⟨a, b⟩ := t
    dsimp only at e h4
    subst e h4
    rcases h.all _ ht h2 with h5 | h5
    · exact h5
    · exact absurd (h0 _ h5) h2
/-- The greatest divisor is that of what is picked. -/
theorem sel_dv {d : Int} {ts xs : List (Int × Int)} (hn : (ts.map (·.2)).Nodup) (h : IsTerms (coefOf ts) xs) : dvF d xs = dvF d ts := by
  rw [← dv_zero d ts]
  apply dv_perm
  have n1 : xs.Nodup := by
    refine h.1.imp ?_
    intro a b hab e
    subst e; omega
  have n2 : (ts.filter fun t => decide (t.1 ≠ 0)).Nodup := by
    have : ts.Nodup := (List.pairwise_map.1 hn).imp (fun h e => h (by rw [e]))
    exact this.filter _
  refine (List.perm_ext_iff_of_nodup n1 n2).2 fun t => ?_
  obtain ⟨x, r⟩ := t
  rw [h.2, List.mem_filter, decide_eq_true_eq]
  constructor
  · rintro ⟨h1, h2⟩
    have h3 : coefOf ts r ≠ 0 := by omega
    obtain ⟨t, ht, e⟩ := coefOf_ne h3
    have h4 := coefOf_in hn ht
    rw [e, h1] at h4
    obtain ⟨a, b⟩ := t
    dsimp only at e h4
    subst e h4
    exact ⟨ht, h2⟩
  · rintro ⟨h1, h2⟩
    exact ⟨coefOf_in hn h1, h2⟩
end Go.Proofs.YtedpafdfecofnaaGreatDoor

/-! ## S92 -/
namespace Go.Proofs.YtedpafdfecofnaaGreatDoor
open Go.RowKit Go.Maps Go.Shelf Go.Sort

/-- A part, its root's squares brought into the coefficient. -/
def Sp (t u : Int × Int) : Prop := ∃ s q, SplitR t.2 s q ∧ u = (t.1 * s, q)
def SpL (l us : List (Int × Int)) : Prop := us.length = l.length ∧ ∀ i, i < l.length → Sp (l[i]?.getD (0, 0)) (us[i]?.getD (0, 0))
theorem spL_snoc {l us : List (Int × Int)} {k : Nat} {u : Int × Int} (hk : k < l.length) (h : SpL (l.take k) us) (hu : Sp (l[k]?.getD (0, 0)) u) : SpL (l.take (k + 1)) (us ++ [u]) := by
  have hl : us.length = k := by have := h.1; simp at this; omega
  refine ⟨by simp [hl]; omega, fun i hi => ?_⟩
  have hi' : i < k + 1 := by simp at hi; omega
  by_cases e : i = k
  · subst e
    rw [List.getElem?_append_right (by omega), hl]
    simpa [List.getElem?_take] using hu
  · have := h.2 i (by simp; omega)
    rw [List.getElem?_append_left (by omega)]
    rw [List.getElem?_take_of_lt (by omega)] at this ⊢
    exact this
/-- The parts' bounds. -/
def PB (l : List (Int × Int)) (M : Int) : Prop := ∀ t ∈ l, 0 ≤ t.2 ∧ t.2 ≤ 1000000000000 ∧ ∀ s, 1 ≤ s → (s * s ≤ t.2 ∨ s = 1) → -M ≤ t.1 * s ∧ t.1 * s ≤ M
/-- While parts are collected: what lies in 'out'. -/
structure Col (l us ts : List (Int × Int)) (M : Int) : Prop where
  sp : SpL l us
  nd : (ts.map (·.2)).Nodup
  co : ∀ r, coefOf ts r = coefOf us r
  bd : ∀ u ∈ us, -M ≤ u.1 ∧ u.1 ≤ M
  rt : ∀ t ∈ ts, 1 ≤ t.2 ∧ t.2 ≤ 1000000000000 ∧ SqF t.2
  ln : ts.length ≤ l.length
theorem sq2_bd (e : Int) (h1 : 2 ≤ e) (h2 : e ≤ 1000002) : 4 ≤ e * e ∧ e * e ≤ 1000004000004 := by
  constructor
  · have := Int.mul_le_mul h1 h1 (by omega) (by omega); omega
  · have := Int.mul_le_mul h2 h2 (by omega) (by omega); omega
/-- While a part's root is looked for among the terms: how far. -/
def Upd (ts : List (Int × Int)) (q x : Int) (m : Nat) (fb : Bool) (ts' : List (Int × Int)) : Prop :=
  (fb = false ∧ ts' = ts ∧ ∀ i, i < m → (ts[i]?.getD (0, 0)).2 ≠ q) ∨ (∃ p, p < m ∧ ∃ hp : p < ts.length, fb = true ∧ ts[p].2 = q ∧ ts' = ts.set p (ts[p].1 + x, ts[p].2))
theorem upd_len {ts ts' : List (Int × Int)} {q x : Int} {m : Nat} {fb : Bool} (h : Upd ts q x m fb ts') : ts'.length = ts.length := by
  rcases h with ⟨_, rfl, _⟩ | ⟨p, _, hp, _, _, rfl⟩
  · rfl
  · simp
theorem upd_yes {ts ts' : List (Int × Int)} {q x : Int} {m : Nat} {fb : Bool} (hn : (ts.map (·.2)).Nodup) (hm : m < ts.length) (h : Upd ts q x m fb ts') (he : (ts'[m]?.getD (0, 0)).2 = q) :
    ts' = ts ∧ Upd ts q x (m + 1) true (ts'.set m ((ts'[m]?.getD (0, 0)).1 + x, (ts'[m]?.getD (0, 0)).2)) := by
  rcases h with ⟨rfl, rfl, h⟩ | ⟨p, hp1, hp, rfl, h1, rfl⟩
  · refine ⟨rfl, .inr ⟨m, by omega, hm, rfl, ?_, ?_⟩⟩
    · simpa [hm] using he
    · simp [hm]
  · exfalso
    have e : p ≠ m := by omega
    rw [List.getElem?_set_ne e, List.getElem?_eq_getElem hm] at he
    simp at he
    have := (List.getElem_inj (h₀ := by simpa using hp) (h₁ := by simpa using hm) hn).1 (by simp [h1, he])
    exact e this
theorem upd_no {ts ts' : List (Int × Int)} {q x : Int} {m : Nat} {fb : Bool} (hm : m < ts.length) (h : Upd ts q x m fb ts') (he : (ts'[m]?.getD (0, 0)).2 ≠ q) : Upd ts q x (m + 1) fb ts' := by
  rcases h with ⟨rfl, rfl, h⟩ | ⟨p, hp1, hp, rfl, h1, rfl⟩
  · refine .inl ⟨rfl, rfl, fun i hi => ?_⟩
    by_cases e : i = m
    · subst e; exact he
    · exact h i (by omega)
  · exact .inr ⟨p, by omega, hp, rfl, h1, rfl⟩
theorem col_step {l us ts ts' : List (Int × Int)} {M x q : Int} {k : Nat} {fb : Bool} (hk : k < l.length) (h : Col (l.take k) us ts M) (hsp : Sp (l[k]?.getD (0, 0)) (x, q)) (hx1 : -M ≤ x) (hx2 : x ≤ M) (hq : 1 ≤ q ∧ q ≤ 1000000000000 ∧ SqF q) (hU : Upd ts q x ts.length fb ts') :
    (fb = true → Col (l.take (k + 1)) (us ++ [(x, q)]) ts' M) ∧ (fb = false → Col (l.take (k + 1)) (us ++ [(x, q)]) (ts ++ [(x, q)]) M) := by
  have hsl := spL_snoc hk h.sp hsp
  have hb : ∀ u ∈ us ++ [(x, q)], -M ≤ u.1 ∧ u.1 ≤ M := fun u hu => by
    rcases List.mem_append.1 hu with h1 | h1
    · exact h.bd u h1
    · simp at h1; subst h1; exact ⟨hx1, hx2⟩
  have hl := h.ln
  rcases hU with ⟨rfl, rfl, hU⟩ | ⟨p, _, hp, rfl, h1, rfl⟩
  · refine ⟨fun e => (by cases e), fun _ => ⟨hsl, ?_, fun r => ?_, hb, fun t ht => ?_, by simp at hl ⊢; omega⟩⟩
    · rw [List.map_append, List.nodup_append]
      refine ⟨h.nd, by simp, ?_⟩
      intro a ha b hb' e
      simp at hb'
      obtain ⟨t, ht, rfl⟩ := List.mem_map.1 ha
      obtain ⟨i, hi, rfl⟩ := List.getElem_of_mem ht
      have := hU i hi
      simp [hi] at this
      omega
    · rw [coef_snoc, coef_snoc, h.co]
    · rcases List.mem_append.1 ht with h1 | h1
      · exact h.rt t h1
      · simp at h1; subst h1; exact hq
  · refine ⟨fun _ => ⟨hsl, ?_, fun r => ?_, hb, fun t ht => ?_, by simp at hl ⊢; omega⟩, fun e => (by cases e)⟩
    · rw [set_roots p hp]; exact h.nd
    · rw [coef_set p hp, coef_snoc, h.co, h1]
    · obtain ⟨i, hi, rfl⟩ := List.getElem_of_mem ht
      rw [List.getElem_set]
      split
      · exact h.rt ts[p] (List.getElem_mem hp)
      · exact h.rt _ (List.getElem_mem _)
theorem col_skip {l us ts : List (Int × Int)} {M : Int} {k : Nat} (hk : k < l.length) (h : Col (l.take k) us ts M) (hsp : Sp (l[k]?.getD (0, 0)) (0, 1)) (hM : 0 ≤ M) : Col (l.take (k + 1)) (us ++ [(0, 1)]) ts M := by
  have hl := h.ln
  refine ⟨spL_snoc hk h.sp hsp, h.nd, fun r => ?_, fun u hu => ?_, h.rt, by simp at hl ⊢; omega⟩
  · rw [coef_snoc, h.co]; simp
  · rcases List.mem_append.1 hu with h1 | h1
    · exact h.bd u h1
    · simp at h1; subst h1; exact ⟨by simp; omega, by simpa using hM⟩
theorem col_all {l us ts : List (Int × Int)} {M : Int} (h : Col l us ts M) (hM : 0 ≤ M) (hM2 : M * l.length ≤ 9000000000000000000) : ∀ t ∈ ts, -9000000000000000000 ≤ t.1 ∧ t.1 ≤ 9000000000000000000 := by
  intro t ht
  have e2 := coefOf_in h.nd ht
  rw [h.co] at e2
  have e3 := coefOf_bd us M hM h.bd t.2
  have e4 : us.length = l.length := h.sp.1
  rw [e4] at e3
  omega
theorem col_bd {l us ts : List (Int × Int)} {M : Int} {k m : Nat} (h : Col (l.take k) us ts M) (hk : k < l.length) (hM : 0 ≤ M) (hm : m < ts.length) (hM2 : M * l.length ≤ 9000000000000000000) (x : Int) (hx1 : -M ≤ x) (hx2 : x ≤ M) :
    (-9000000000000000000 ≤ (ts[m]?.getD (0, 0)).1 ∧ (ts[m]?.getD (0, 0)).1 ≤ 9000000000000000000) ∧ -9000000000000000000 ≤ (ts[m]?.getD (0, 0)).1 + x ∧ (ts[m]?.getD (0, 0)).1 + x ≤ 9000000000000000000 := by
  have e1 : (ts[m]?.getD (0, 0)) = ts[m] := by simp [hm]
  have e2 := coefOf_in h.nd (List.getElem_mem hm)
  rw [h.co] at e2
  have e3 := coefOf_bd us M hM h.bd ts[m].2
  have e4 : us.length = k := by have := h.sp.1; simp at this; omega
  have e5 : M * ((k : Int) + 1) ≤ M * l.length := Int.mul_le_mul_of_nonneg_left (by omega) hM
  rw [e4] at e3
  rw [Int.mul_add, Int.mul_one] at e5
  rw [e1]
  omega
def cellI (w : World) (b o : Nat) : Int := ((w.cell? ⟨b, o, none⟩).map intOf).getD 0
theorem split_step {r s q e : Int} (hs : 1 ≤ s) (hq : 1 ≤ q) (he : 2 ≤ e) (h : s * s * q = r) (hu : SqUp e q) (hx : q % (e * e) = 0) :
    1 ≤ s * e ∧ 1 ≤ q / (e * e) ∧ (s * e) * (s * e) * (q / (e * e)) = r ∧ SqUp e (q / (e * e)) ∧ q / (e * e) < q := by
  have hdd : 4 ≤ e * e := by have := Int.mul_le_mul he he (by omega) (by omega); omega
  obtain ⟨p, hp⟩ := Int.dvd_of_emod_eq_zero hx
  have hdiv : q / (e * e) = p := by rw [hp]; exact Int.mul_ediv_cancel_left _ (by omega)
  have hp1 : 1 ≤ p := by
    rcases Int.lt_or_le 0 p with h0 | h0
    · omega
    · have : e * e * p ≤ e * e * 0 := Int.mul_le_mul_of_nonneg_left h0 (by omega)
      omega
  have hlt : p < q := by
    have : 4 * p ≤ e * e * p := Int.mul_le_mul_of_nonneg_right hdd (by omega)
    omega
  have hse : 1 ≤ s * e := by
    have : 1 * 1 ≤ s * e := Int.mul_le_mul hs (by omega) (by omega) (by omega)
    omega
  rw [hdiv]
  refine ⟨hse, hp1, ?_, fun f h2 hl hdvd => hu f h2 hl (Int.dvd_trans hdvd ⟨e * e, by rw [hp, Int.mul_comm]⟩), hlt⟩
  rw [← h, hp]; simp only [Int.mul_assoc, Int.mul_left_comm, Int.mul_comm]
theorem s_le {r s q : Int} (hs : 1 ≤ s) (hq : 1 ≤ q) (h : s * s * q = r) : s * s ≤ r := by
  have : s * s * 1 ≤ s * s * q := Int.mul_le_mul_of_nonneg_left hq (Int.mul_nonneg (by omega) (by omega))
  omega
/-- What comes behind a region, or from it on. -/
def headIsP (k : Nat) : Code → Bool
  | .region id _ _ => id == k
  | _ => false
def tailFromP (k : Nat) : Code → Option Code
  | .seq a b => if headIsP k a then some (.seq a b) else match tailFromP k a with
    | some c => some (.seq c b)
    | none => tailFromP k b
  | .block _ c => tailFromP k c
  | .scope c => tailFromP k c
  | _ => none
noncomputable def ptail28 : Code := (Tryz.f56.body.bind (tailFromP 28)).getD .skip
set_option maxRecDepth 1000000 in
/-- What comes behind the divisor: the terms are picked and divided. -/
def PSeg28 : Prop := ∀ {Q : Ending → World → Prop} {w W1 W : World} {den : Int} {ts : List (Int × Int)} {a0 : Option Addr} {cap0 : Nat} {u1 u2 u3 u7 u8 u9 u10 u11 u13 u14 u15 u16 u17 u18 u19 u20 u21 u22 u23 u24 u25 u26 u27 u28 u29 u30 u31 u32 u33 u34 u35 u36 u37 u38 u39 u40 u41 u42 u43 u44 u45 u46 u47 u48 u49 u50 u51 u52 u53 u54 u55 u56 u57 u58 u59 u60 u61 u62 u63 u64 u65 u66 u67 u68 u69 u70 u71 u72 u73 u74 u75 u76 u77 u78 u79 u80 u81 u82 u83 u84 u85 u86 u87 u88 u89 u90 u91 u92 u93 u94 u95 u96 u97 u98 u99 u100 u101 u102 u103 u104 u105 u106 u107 u108 u109 u110 u111 u112 u113 u114 u115 u116 u117 u118 u119 u120 u121 u122 u123 u124 u125 u126 u127 u128 u129 u130 u131 u132 u133 u134 u135 u136 u137 u138 u139 u140 u141 u142 u143 u144 u145 u146 u147 u148 u149 u150 u151 u152 u153 u154 u155 u156 u157 u158 u159 u160 u161 u162 u163 u164 u165 u166 u167 u168 u169 u170 u171 u172 u173 u174 u175 u176 u177 u178 u179 u180 u181 u182 u183 u184 u185 u186 u187 u188 u189 u190 u191 u192 u193 u194 u195 u196 u197 u198 u199 u200 u201 u202 u203 u204 : Value}, -9000000000000000000 ≤ den → den ≤ 9000000000000000000 → Hid (den ≠ 0) → Hid (Below w.heap.size w W1) → Hid (Two W1 w.heap.size (.int .i64 0) (.slice none 0 0) 24) → Hid (W1.heap.size = w.heap.size + 1) → ts.length ≤ 1000 → Hid ((ts.map (·.2)).Nodup) → Hid (∀ t ∈ ts, -9000000000000000000 ≤ t.1 ∧ t.1 ≤ 9000000000000000000) → Hid (∀ t ∈ ts, 1 ≤ t.2 ∧ t.2 ≤ 1000000000000) →
  Hid (OwnT W W1.heap.size (.slice a0 ts.length cap0) ts) → Hid (Below W1.heap.size W1 W) → Hid (∀ e w', FinTo den (coefOf ts) w e w' → Q e w') → Code.wp Tryz.prog ptail28 (bodyPost Tryz.prog Tryz.f56 Q) ⟨List.toArray ((.int .i64 den) :: u1 :: u2 :: u3 :: (.pointer (some ⟨w.heap.size, 0, none⟩)) :: (.int .i64 0) :: (.slice a0 ts.length cap0) :: u7 :: u8 :: u9 :: u10 :: u11 :: (.int .i64 (sgnDv den ts)) :: u13 :: u14 :: u15 :: u16 :: u17 :: u18 :: u19 :: u20 :: u21 :: u22 :: u23 :: u24 :: u25 :: u26 :: u27 :: u28 :: u29 :: u30 :: u31 :: u32 :: u33 :: u34 :: u35 :: u36 :: u37 :: u38 :: u39 :: u40 :: u41 :: u42 :: u43 :: u44 :: u45 :: u46 :: u47 :: u48 :: u49 :: u50 :: u51 :: u52 :: u53 :: u54 :: u55 :: u56 :: u57 :: u58 :: u59 :: u60 :: u61 :: u62 :: u63 :: u64 :: u65 :: u66 :: u67 :: u68 :: u69 :: u70 :: u71 :: u72 :: u73 :: u74 :: u75 :: u76 :: u77 :: u78 :: u79 :: u80 :: u81 :: u82 :: u83 :: u84 :: u85 :: u86 :: u87 :: u88 :: u89 :: u90 :: u91 :: u92 :: u93 :: u94 :: u95 :: u96 :: u97 :: u98 :: u99 :: u100 :: u101 :: u102 :: u103 :: u104 :: u105 :: u106 :: u107 :: u108 :: u109 :: u110 :: u111 :: u112 :: u113 :: u114 :: u115 :: u116 :: u117 :: u118 :: u119 :: u120 :: u121 :: u122 :: u123 :: u124 :: u125 :: u126 :: u127 :: u128 :: u129 :: u130 :: u131 :: u132 :: u133 :: u134 :: u135 :: u136 :: u137 :: u138 :: u139 :: u140 :: u141 :: u142 :: u143 :: u144 :: u145 :: u146 :: u147 :: u148 :: u149 :: u150 :: u151 :: u152 :: u153 :: u154 :: u155 :: u156 :: u157 :: u158 :: u159 :: u160 :: u161 :: u162 :: u163 :: u164 :: u165 :: u166 :: u167 :: u168 :: u169 :: u170 :: u171 :: u172 :: u173 :: u174 :: u175 :: u176 :: u177 :: u178 :: u179 :: u180 :: u181 :: u182 :: u183 :: u184 :: u185 :: u186 :: u187 :: u188 :: u189 :: u190 :: u191 :: u192 :: u193 :: u194 :: u195 :: u196 :: u197 :: u198 :: u199 :: u200 :: u201 :: u202 :: u203 :: u204 :: []), []⟩ W
/-- What the reference's Parts gives. -/
def PartsTo (l : List (Int × Int)) (den : Int) (w : World) (e : Ending) (w' : World) : Prop := ∃ us, SpL l us ∧ FinTo den (plusC zeroC 1 us) w e w'
set_option maxRecDepth 100000 in
set_option maxHeartbeats 8000000 in
theorem parts_walk (den M : Int) (a : Option Addr) (cap : Nat) (l : List (Int × Int)) (w : World) (hpl : Placed w a l) (hl : l.length ≤ 1000) (hM : 0 ≤ M) (hM2 : M * l.length ≤ 9000000000000000000) (hP : PB l M) (hd1 : -9000000000000000000 ≤ den) (hd2 : den ≤ 9000000000000000000) (hd0 : den ≠ 0) (hnext : PSeg28) :
    Calls Tryz.prog 56 #[.int .i64 den, .slice a l.length cap] w (PartsTo l den w) := by
  have HP := Lib.hid hP
  have HM2 := Lib.hid hM2
  have HD0 := Lib.hid hd0
  clear hd0
  obtain ⟨W1, hW1⟩ : ∃ W1, w.alloc (.cells #[.int .i64 0, .slice none 0 0] 24) = W1 := ⟨_, rfl⟩
  have HB0 : Hid (Below w.heap.size w W1) := Lib.hid (by rw [← hW1]; exact (Below.refl _ w).alloc (Nat.le_refl _) _)
  have hs1 : W1.heap.size = w.heap.size + 1 := by rw [← hW1]; simp
  have R1 : Hid (Two W1 w.heap.size (.int .i64 0) (.slice none 0 0) 24) := Lib.hid (by rw [← hW1]; exact Two.new w _ _ 24)
  have HE : Hid (OwnT (W1.alloc (.cells #[] 34)) W1.heap.size (.slice (some ⟨W1.heap.size, 0, none⟩) 0 0) []) := Lib.hid (empty_own W1)
  have HPL := Lib.hid hpl
  have HS1 := Lib.hid hs1
  clear hpl hP hM2 hs1
  go_enter Tryz.func56, Tryz.ntmps56
  go_wp2
  clear hW1
  go_loopw [6, 7] (fun v i wr => ∃ k : Nat, k ≤ l.length ∧ i = .int .i64 k ∧ ∃ us ts, Hid (Col (l.take k) us ts M) ∧ Hid (OwnT wr W1.heap.size v ts) ∧ Hid (Below W1.heap.size W1 wr)) (fun _ i _ => l.length - (intOf i).toNat)
  case atStart => exact ⟨0, Nat.zero_le _, rfl, [], [], Lib.hid ⟨⟨rfl, fun i hi => by simp at hi⟩, List.nodup_nil, fun r => rfl, fun u hu => by simp at hu, fun t ht => by simp at ht, by simp⟩, HE, Lib.hid ((Below.refl _ _).alloc (Nat.le_refl _) _)⟩
  case round =>
    obtain ⟨k, hk, rfl, us, ts, HCO, HOW, HBR⟩ := hrel
    obtain ⟨v0, hv0⟩ : ∃ v : Value, v = u6 := ⟨_, rfl⟩
    subst hv0
    by_cases hlt : k < l.length
    rotate_left
    · have hkl : k = l.length := by omega
      have HCOL : Hid (Col l us ts M) := Lib.hid (by have := HCO.out; rwa [hkl, List.take_length] at this)
      have hts : ts.length ≤ l.length := HCOL.out.ln
      obtain ⟨a0, cap0, rfl, hsh⟩ := HOW.out.shape
      have HSH := Lib.hid hsh
      have HBDT := Lib.hid (col_all HCOL.out hM HM2.out)
      clear hkl hsh
      go_wp2_with fail
      refine (abs_any den _ hd1 hd2).mono ?_
      rintro e w2 ⟨rfl, rfl⟩
      obtain ⟨w5, hw5⟩ : ∃ w5, w5 = wr := ⟨_, rfl⟩
      subst hw5
      go_wp2
      go_loopw [12, 13] (fun y i wq => ∃ (j x : Nat), j ≤ ts.length ∧ i = .int .i64 j ∧ y = .int .i64 x ∧ (x : Int) ≤ 9000000000000000000 ∧ Hid (x = dvF den (ts.take j)) ∧ ∃ n, wq = w5.drewN n) (fun _ i _ => ts.length - (intOf i).toNat)
      case atStart => exact ⟨0, den.natAbs, Nat.zero_le _, rfl, rfl, by omega, Lib.hid (by simp [dvF]), 0, rfl⟩
      case round =>
        obtain ⟨j, x, hj, rfl, rfl, hx1, HX, n, rfl⟩ := hrel
        by_cases hlj : j < ts.length
        · obtain ⟨g, rfl, hgb⟩ := HSH.out j hlj
          have hcell1 : w5.cell? ⟨g, j * 2, none⟩ = some (.int .i64 (ts[j]?.getD (0, 0)).1) := (World.ownsRow.cellAt HOW.out (j * 2) (by omega)).trans (flatT_get ts j hlj).1
          have hbd := HBDT.out (ts[j]?.getD (0, 0)) (by simp [hlj])
          have HDS := Lib.hid (dv_take_succ den ts j hlj)
          have HDL := Lib.hid (dv_le den (ts.take (j + 1)) 9000000000000000000 hd1 hd2 (fun t ht => HBDT.out t (List.mem_of_mem_take ht)))
          obtain ⟨c', hc'⟩ : ∃ c', (ts[j]?.getD (0, 0)).1 = c' := ⟨_, rfl⟩
          rw [hc'] at hcell1 hbd
          obtain ⟨hb1, hb2⟩ := hbd
          have HCC := Lib.hid hc'
          clear hc'
          go_wp2_with fail
          refine (divides_any x c' _ (by omega) hx1 hb1 hb2).mono ?_
          rintro e w6 ⟨rfl, n6, rfl⟩
          go_wp2
          go_roundw
          case rel => exact ⟨j + 1, _, by omega, by go_num, rfl, by have h := HDL.out; rw [HDS.out, HCC.out, ← HX.out] at h; exact h, Lib.hid (by rw [HDS.out, HCC.out, ← HX.out]), _, rfl⟩
          case measure => simp only [intOf]; omega
        · have hjt : j = ts.length := by omega
          have HXD : Hid ((x : Int) = dvF den ts) := Lib.hid (by have := HX.out; rw [hjt, List.take_length] at this; rw [this])
          clear hjt
          obtain ⟨w6, hw6⟩ : ∃ w6, w5.drewN n = w6 := ⟨_, rfl⟩
          have HOW6 : Hid (OwnT w6 W1.heap.size (.slice a0 ts.length cap0) ts) := Lib.hid (by rw [← hw6]; exact HOW.out.below (below_drewN (Below.refl _ _) _))
          have HBR6 : Hid (Below W1.heap.size W1 w6) := Lib.hid (by rw [← hw6]; exact below_drewN HBR.out _)
          rw [hw6]
          clear hw6
          go_upto_if 106 with fail
          go_cut [12] (fun y wx => y = .int .i64 (sgnDv den ts) ∧ wx = w6)
          case first =>
            by_cases hneg : den < 0
            · have HSG : Hid (sgnDv den ts = -(x : Int)) := Lib.hid (by rw [sgnDv, if_pos hneg, HXD.out])
              go_wp2_with fail
              go_meet
              exact ⟨by rw [HSG.out], rfl⟩
            · have HSG : Hid (sgnDv den ts = (x : Int)) := Lib.hid (by rw [sgnDv, if_neg hneg, HXD.out])
              go_wp2_with fail
              go_meet
              exact ⟨by rw [HSG.out], rfl⟩
          case rest KK1 hKK1 KK0 hKK0 =>
            obtain ⟨rfl, rfl⟩ := hcut
            have HQ : Hid (∀ e w', FinTo den (coefOf ts) w e w' → PartsTo l den w e w') := Lib.hid (fun e w' h => ⟨us, HCOL.out.sp, by
              have e1 : coefOf ts = plusC zeroC 1 us := by funext r; rw [HCOL.out.co]; simp [plusC, zeroC]
              rw [← e1]; exact h⟩)
            exact hKK0 _ _ (hnext hd1 hd2 HD0 HB0 R1 HS1 (by omega) (Lib.hid HCOL.out.nd) HBDT (Lib.hid (fun t ht => ⟨(HCOL.out.rt t ht).1, (HCOL.out.rt t ht).2.1⟩)) HOW6 HBR6 HQ)
    obtain ⟨b, off, rfl, hb0, hp1, hp2⟩ := HPL.out k hlt
    have hbW : b < W1.heap.size := by have := HS1.out; omega
    have hc1 := (HBR.out.cell (p := ⟨b, _, none⟩) hbW).trans ((HB0.out.cell (p := ⟨b, _, none⟩) hb0).trans hp1)
    have hc2 := (HBR.out.cell (p := ⟨b, _, none⟩) hbW).trans ((HB0.out.cell (p := ⟨b, _, none⟩) hb0).trans hp2)
    clear hp1 hp2
    obtain ⟨c, r, hel⟩ : ∃ c r, l[k]?.getD (0, 0) = (c, r) := ⟨_, _, rfl⟩
    rw [hel] at hc1 hc2
    dsimp only at hc1 hc2
    obtain ⟨hr0, hr1, hPs⟩ := HP.out (c, r) (by rw [← hel]; simp [hlt])
    dsimp only at hr0 hr1 hPs
    have HPS := Lib.hid hPs
    have HEL := Lib.hid hel
    clear hel hPs
    by_cases h0 : r = 0
    · have g0 : (r == 0) = true := by simpa using h0
      have H0 := Lib.hid h0
      have HSP : Hid (Sp (l[k]?.getD (0, 0)) (0, 1)) := Lib.hid (by rw [HEL.out]; exact ⟨0, 1, .inl ⟨h0, rfl, rfl⟩, by simp⟩)
      clear h0
      go_wp2
      go_roundw
      case rel => exact ⟨k + 1, by omega, by go_num, us ++ [(0, 1)], ts, Lib.hid (col_skip hlt HCO.out HSP.out hM), Lib.hid (World.ownsRow.alloc HOW.out _), Lib.hid (HBR.out.alloc HBR.out.size _)⟩
      case measure => simp only [intOf]; omega
    have g0 : (r == 0) = false := by simpa using h0
    have hr2 : 1 ≤ r := by omega
    clear h0
    go_wp2
    obtain ⟨wo, hwo⟩ : ∃ wo : World, wr.alloc (.cells #[.int .i64 c, .int .i64 r] 34) = wo := ⟨_, rfl⟩
    obtain ⟨bt, hbt⟩ : ∃ n, wr.heap.size = n := ⟨_, rfl⟩
    have HT0 : Hid (Two wo bt (.int .i64 c) (.int .i64 r) 34) := Lib.hid (by rw [← hwo, ← hbt]; exact Two.new wr _ _ 34)
    have HBO : Hid (Below bt wr wo) := Lib.hid (by rw [← hwo, ← hbt]; exact (Below.refl _ wr).alloc (Nat.le_refl _) _)
    rw [hwo, hbt]
    have HBT := Lib.hid hbt
    clear hwo hbt hc1 hc2
    go_loopw [9] (fun d wq => ∃ s q e : Int, d = .int .i64 e ∧ 2 ≤ e ∧ e ≤ 1000002 ∧ 1 ≤ s ∧ 1 ≤ q ∧ q ≤ 1000000000000 ∧ Hid (s * s * q = r) ∧ Hid (SqUp e q) ∧ Hid (Two wq bt (.int .i64 (c * s)) (.int .i64 q) 34) ∧ Hid (Below bt wo wq)) (fun d wq => (cellI wq bt 1).toNat + (1000002 - (intOf d).toNat))
    case atStart => exact ⟨1, r, 2, rfl, by omega, by omega, by omega, hr2, hr1, Lib.hid (by omega), Lib.hid (fun e h2 hl => by omega), Lib.hid (by rw [Int.mul_one]; exact HT0.out), Lib.hid (Below.refl _ _)⟩
    case round =>
      obtain ⟨s, q, e, rfl, he1, he2, hs, hq1, hq2, H5, H6, HTW, HBQ⟩ := hrel
      obtain ⟨hee1, hee2⟩ := sq2_bd e he1 he2
      have t0 := HTW.out.c0
      have t1 := HTW.out.c1
      have t2 := HTW.out.fr (i := 0)
      have t3 := HTW.out.fr (i := 1)
      have t4 := HTW.out.lt
      have hcs := HPS.out s hs (.inl (s_le hs hq1 H5.out))
      obtain ⟨hcs1, hcs2⟩ := hcs
      by_cases hc : e * e ≤ q
      · by_cases hx : q % (e * e) = 0
        · have hx' : (q % (e * e) == 0) = true := by simpa using hx
          have HS := Lib.hid (split_step hs hq1 he1 H5.out H6.out hx)
          have hcse := HPS.out (s * e) HS.out.1 (.inl (s_le HS.out.1 HS.out.2.1 HS.out.2.2.1))
          rw [← Int.mul_assoc] at hcse
          obtain ⟨hcse1, hcse2⟩ := hcse
          have hMM : M ≤ 9000000000000000000 := by
            have := HM2.out
            have h1 : M * 1 ≤ M * l.length := Int.mul_le_mul_of_nonneg_left (by omega) hM
            omega
          clear hx
          go_wp2
          go_region
          go_wp2
          go_roundw
          case rel =>
            have HT2 : Two ((wr.setCell ⟨bt, 1, none⟩ (.int .i64 (q / (e * e)))).setCell ⟨bt, 0, none⟩ (.int .i64 (c * s * e))).drew bt (.int .i64 (c * (s * e))) (.int .i64 (q / (e * e))) 34 := by
              rw [← Int.mul_assoc]; exact (HTW.out.set1 _ rfl).set0 _
            exact ⟨s * e, q / (e * e), e, rfl, he1, he2, HS.out.1, HS.out.2.1, by have := HS.out.2.2.2.2; omega, Lib.hid HS.out.2.2.1, Lib.hid HS.out.2.2.2.1, Lib.hid HT2, Lib.hid ((HBQ.out.setCell (Nat.le_refl _) _).setCell (Nat.le_refl _) _).drew⟩
          case measure =>
            have HT2 : Two ((wr.setCell ⟨bt, 1, none⟩ (.int .i64 (q / (e * e)))).setCell ⟨bt, 0, none⟩ (.int .i64 (c * s * e))).drew bt (.int .i64 (c * s * e)) (.int .i64 (q / (e * e))) 34 := (HTW.out.set1 _ rfl).set0 _
            have m1 : cellI ((wr.setCell ⟨bt, 1, none⟩ (.int .i64 (q / (e * e)))).setCell ⟨bt, 0, none⟩ (.int .i64 (c * s * e))).drew bt 1 = q / (e * e) := by unfold cellI; rw [HT2.c1]; rfl
            have m2 : cellI wr bt 1 = q := by unfold cellI; rw [HTW.out.c1]; rfl
            rw [m1, m2]
            have := HS.out
            omega
        · have hx' : (q % (e * e) == 0) = false := by simpa using hx
          have HS := Lib.hid (squp_succ e q H6.out hx)
          have he3 : e ≤ 1000000 := by
            rcases Int.lt_or_le 1000000 e with h | h
            · have : 1000001 * 1000001 ≤ e * e := Int.mul_le_mul (by omega) (by omega) (by omega) (by omega)
              omega
            · exact h
          clear hx
          go_wp2
          go_roundw
          case rel => exact ⟨s, q, e + 1, rfl, by omega, by omega, hs, hq1, hq2, H5, HS, HTW, HBQ⟩
          case measure => simp only [intOf]; omega
      · have HSQ : Hid (SqF q) := Lib.hid (squp_fin e q he1 hq1 H6.out hc)
        have HSP : Hid (Sp (c, r) (c * s, q)) := Lib.hid ⟨s, q, .inr ⟨hr2, hs, hq1, H5.out, HSQ.out⟩, rfl⟩
        have HOQ : Hid (OwnT wr W1.heap.size v0 ts) := Lib.hid (by
          have h1 := HBT.out
          have h2 : OwnT wo W1.heap.size v0 ts := HOW.out.below (by rw [h1]; exact HBO.out)
          exact HOW.out.below (by rw [h1]; exact HBO.out.trans HBQ.out))
        have HBR2 : Hid (Below W1.heap.size W1 wr) := Lib.hid (HBR.out.trans ((HBO.out.trans HBQ.out).mono (by have := HBR.out.size; have := HBT.out; omega)))
        obtain ⟨x, hx⟩ : ∃ x, c * s = x := ⟨_, rfl⟩
        rw [hx] at HTW HSP hcs1 hcs2 t0
        have HXX := Lib.hid hx
        clear hx
        go_wp2
        clear hc t0 t1 t2 t3 t4 hee1 hee2
        obtain ⟨w3, hw3⟩ : ∃ w3, w3 = wr := ⟨_, rfl⟩
        subst hw3
        obtain ⟨a0, cap0, rfl, hsh⟩ := HOQ.out.shape
        have HSH := Lib.hid hsh
        have hts : ts.length ≤ 1000 := by have := HCO.out.ln; simp at this; omega
        clear hsh
        go_loopw [10, 11] (fun f j wq => ∃ (m : Nat) (fb : Bool) (ts' : List (Int × Int)), m ≤ ts.length ∧ j = .int .i64 m ∧ f = .bool fb ∧ Hid (Upd ts q x m fb ts') ∧ Hid (OwnT wq W1.heap.size (.slice a0 ts.length cap0) ts') ∧ Hid (Two wq bt (.int .i64 x) (.int .i64 q) 34) ∧ Hid (Below W1.heap.size W1 wq)) (fun _ j _ => ts.length - (intOf j).toNat)
        case atStart => exact ⟨0, false, ts, Nat.zero_le _, rfl, rfl, Lib.hid (.inl ⟨rfl, rfl, fun i hi => by omega⟩), HOQ, HTW, HBR2⟩
        case round =>
          obtain ⟨m, fb, ts', hm, rfl, rfl, HU, HO3, HT3, HB3⟩ := hrel
          by_cases hlm : m < ts.length
          · obtain ⟨g, rfl, hgb⟩ := HSH.out m hlm
            have hl' := upd_len HU.out
            have ho1 : OwnT wr W1.heap.size (.slice (some ⟨g, 0, none⟩) ts'.length cap0) ts' := by rw [hl']; exact HO3.out
            have hcell1 : wr.cell? ⟨g, m * 2, none⟩ = some (.int .i64 (ts'[m]?.getD (0, 0)).1) := (World.ownsRow.cellAt ho1 (m * 2) (by omega)).trans (flatT_get ts' m (by omega)).1
            have hcell2 : wr.cell? ⟨g, m * 2 + 1, none⟩ = some (.int .i64 (ts'[m]?.getD (0, 0)).2) := (World.ownsRow.cellAt ho1 (m * 2 + 1) (by omega)).trans (flatT_get ts' m (by omega)).2
            have hfz : wr.frozen? ⟨g, m * 2, none⟩ = false := World.ownsRow.frozenAt ho1 (m * 2)
            have t0 := HT3.out.c0
            have t1 := HT3.out.c1
            have hgbt : g ≠ bt := by have := (HOW.out.lt g rfl).2; have := HBT.out; omega
            have hyes := upd_yes HCO.out.nd hlm HU.out
            have hno := upd_no hlm HU.out
            have hst := fun (w' : World) (h : OwnT w' W1.heap.size (.slice (some ⟨g, 0, none⟩) ts.length cap0) ts') (z : Int) => show OwnT (w'.setCell ⟨g, m * 2, none⟩ (.int .i64 z)) W1.heap.size (.slice (some ⟨g, 0, none⟩) ts.length cap0) (ts'.set m (z, (ts'[m]?.getD (0, 0)).2)) from by
              have h2 : OwnT w' W1.heap.size (.slice (some ⟨g, 0, none⟩) ts'.length cap0) ts' := by rw [hl']; exact h
              have := OwnT.store h2 m z (by omega)
              rwa [hl'] at this
            have hbdd := fun h : ts' = ts => col_bd HCO.out hlt hM (m := m) hlm HM2.out x hcs1 hcs2
            obtain ⟨c', r', hel'⟩ : ∃ c' r', ts'[m]?.getD (0, 0) = (c', r') := ⟨_, _, rfl⟩
            rw [hel'] at hcell1 hcell2 hyes hno hst
            dsimp only at hcell1 hcell2 hyes hno hst
            have HEL' := Lib.hid hel'
            have HNO := Lib.hid hno
            have HST := Lib.hid hst
            have HYES := Lib.hid hyes
            have HBD := Lib.hid hbdd
            have HGB := Lib.hid hgbt
            clear hel' hyes hno hst hbdd ho1 hl' hgbt
            by_cases hqr : r' = q
            · have hqq : (r' == q) = true := by simpa using hqr
              obtain ⟨hy1, hy2⟩ := HYES.out hqr
              have hb2 := HBD.out hy1
              rw [← hy1, HEL'.out] at hb2
              dsimp only at hb2
              obtain ⟨⟨hb3, hb4⟩, hb5, hb6⟩ := hb2
              have HY2 := Lib.hid hy2
              have HY1 := Lib.hid hy1
              clear hqr hy1 hy2
              go_wp2
              go_quiet (fail)
              go_wp2
              go_region
              go_wp2
              go_roundw
              case rel =>
                have h1 := HO3.out.below (below_drewN (Below.refl wr.heap.size wr) nq)
                have h2 := (HST.out _ h1 (c' + x)).below ((Below.refl _ _).drew)
                have h3 := ((HT3.out.below (below_drewN (Below.refl wr.heap.size wr) nq) HT3.out.lt).kept (grownBy_setCell _ ⟨g, m * 2, none⟩ (.int .i64 (c' + x))) (by have := HGB.out; simp; omega))
                exact ⟨m + 1, true, _, by omega, by go_num, rfl, HY2, Lib.hid h2, Lib.hid (h3.below ((Below.refl _ _).drew) h3.lt), Lib.hid (((below_drewN HB3.out nq).setCell hgb _).drew)⟩
              case measure => simp only [intOf]; omega
            · have hqq : (r' == q) = false := by simpa using hqr
              have HN := Lib.hid (HNO.out hqr)
              clear hqr
              go_wp2
              go_quiet (fail)
              go_wp2
              go_roundw
              case rel => exact ⟨m + 1, fb, ts', by omega, by go_num, rfl, HN, Lib.hid (HO3.out.below (below_drewN (Below.refl _ _) _)), Lib.hid (HT3.out.below (below_drewN (Below.refl _ _) _) HT3.out.lt), Lib.hid (below_drewN HB3.out _)⟩
              case measure => simp only [intOf]; omega
          · have hmt : m = ts.length := by omega
            subst hmt
            have hq12 : 1 ≤ q ∧ q ≤ 1000000000000 ∧ SqF q := ⟨hq1, hq2, HSQ.out⟩
            have HCS := Lib.hid (col_step hlt HCO.out (by rw [HEL.out]; exact HSP.out) hcs1 hcs2 hq12 HU.out)
            have t0 := HT3.out.c0
            have t1 := HT3.out.c1
            have t4 := HT3.out.lt
            have HRE := Lib.hid (fun (u : World) (h : Below W1.heap.size W1 u) => h)
            clear hq12
            cases fb
            · have hu : ts' = ts := by
                rcases HU.out with ⟨_, h, _⟩ | ⟨_, _, _, h, _⟩
                · exact h
                · cases h
              subst hu
              have hgo : ∀ k, (Value.slice a0 ts'.length cap0).ownBlock = some k → W1.heap.size ≤ k ∧ k < bt := fun k hk => by
                have a := HOW.out.lt k hk
                have := HBT.out
                exact ⟨a.1, by omega⟩
              have HGO := Lib.hid hgo
              obtain ⟨i0, hi, hz0, hz1, hz2⟩ := info_parts info34
              clear hgo
              go_wp2_with (first | (at_builtin; refine wpList_append_own _ rfl _ _ 22 rfl W1.heap.size 34 i0 (.agg #[.int .i64 0, .int .i64 0]) 2 16 und22 hi hz0 hz1 hz2 rfl (by decide) (.slice a0 ts'.length cap0) ts'.length (flatT ts') rfl (World.ownsRow.alloc HO3.out _) ⟨wr.heap.size, 0, none⟩ 1 1 [.int .i64 x, .int .i64 q] rfl rfl (cell_two_new _ _ _ _) (by simp [Value.oneCell']) (by unfold maxLen; omega) (by omega) (by have := HB3.out.size; simp; omega) ?_; intro v' w2 hown2 hgrow2 _; obtain ⟨g', cap', rfl⟩ := ownsRow_succ hown2; have HGW2 := Lib.hid hgrow2; have HOW2 := Lib.hid hown2; clear hgrow2 hown2))
              go_roundw
              case rel =>
                refine ⟨k + 1, by omega, by go_num, us ++ [(x, q)], ts' ++ [(x, q)], Lib.hid (HCS.out.2 rfl), Lib.hid ?_, Lib.hid ?_⟩
                · unfold OwnT; rw [flatT_snoc, List.length_append]; exact HOW2.out
                · exact ((HB3.out.alloc HB3.out.size _).grown HGW2.out (by have := HB3.out.size; simp; omega) (fun k hk => (HGO.out k hk).1))
              case measure => simp only [intOf]; omega
            · go_wp2
              go_roundw
              case rel => exact ⟨k + 1, by omega, by go_num, us ++ [(x, q)], ts', Lib.hid (HCS.out.1 rfl), Lib.hid (by have e := upd_len HU.out; unfold OwnT; rw [e]; have h := HO3.out; unfold OwnT at h; rw [e] at h; exact h), HB3⟩
              case measure => simp only [intOf]; omega
end Go.Proofs.YtedpafdfecofnaaGreatDoor
