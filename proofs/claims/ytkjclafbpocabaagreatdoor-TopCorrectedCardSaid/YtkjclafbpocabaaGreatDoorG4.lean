/-
  Contracts of the program's own functions (and their plain mathematics), on the way to the law: each for all arguments that its hypotheses let.
-/
import Derived.Test.YtkjclafbpocabaaGreatDoorG3
import Derived.WalkKit
import Derived.WalkSpells
import Derived.WalkLawsBesides
import Derived.Deep.QuietTactic
import Derived.BigQuiet
import Derived.Lib.Hide
import Derived.WalkSmall
import Derived.Maps.OwnSet
import Derived.Maps.RangeWalk
import Derived.Deep.RegionWith
import Derived.Deep.RegionHeld3
import Derived.OneCell
import Derived.RangeFuncBox
set_option linter.unusedSimpArgs false
set_option linter.unusedVariables false

/-! ## S8 -/
namespace Go.Proofs.YtkjclafbpocabaaGreatDoor
open Go.RowKit Go.Maps
theorem info34 : (Tryz.prog.info? 85).map (fun i => (i.zero, i.size, i.bytes)) = some (some (.agg #[.int .i64 0, .int .i64 0]), 2, 16) := by kernel_rfl
theorem und22 : Tryz.prog.underlying 32 = some (.slice 85) := by kernel_rfl

/-- A block of two cells. -/
def Two (w : World) (b : Nat) (x y : Value) (T : TypeId) : Prop := w.heap[b]? = some (.cells #[x, y] T (0, 0))
theorem Two.c0 {w : World} {b : Nat} {x y : Value} {T : TypeId} (h : Two w b x y T) : w.cell? ⟨b, 0, none⟩ = some x := by unfold Two at h; simp [World.cell?, h]
theorem Two.c1 {w : World} {b : Nat} {x y : Value} {T : TypeId} (h : Two w b x y T) : w.cell? ⟨b, 1, none⟩ = some y := by unfold Two at h; simp [World.cell?, h]
theorem Two.fr {w : World} {b i : Nat} {x y : Value} {T : TypeId} (h : Two w b x y T) : w.frozen? ⟨b, i, none⟩ = false := by unfold Two at h; simp [World.frozen?, h]
theorem Two.lt {w : World} {b : Nat} {x y : Value} {T : TypeId} (h : Two w b x y T) : b < w.heap.size := lt_of_block h
theorem Two.new (w : World) (x y : Value) (T : TypeId) : Two (w.alloc (.cells #[x, y] T)) w.heap.size x y T := by unfold Two World.alloc; simp
theorem Two.kept {w w' : World} {b : Nat} {x y : Value} {T : TypeId} {row : Option Nat} (h : Two w b x y T) (hg : w.grownBy w' row) (hne : some b ≠ row) : Two w' b x y T := by
  unfold Two at h ⊢; rw [hg.block b (lt_of_block h) hne]; exact h
theorem Two.alloc {w : World} {b : Nat} {x y : Value} {T : TypeId} (h : Two w b x y T) (o : Obj) : Two (w.alloc o) b x y T := h.kept (World.grownBy_alloc w o none) (by simp)
theorem Two.below {w w' : World} {b B : Nat} {x y : Value} {T : TypeId} (h : Two w b x y T) (hw : Below B w w') (hb : b < B) : Two w' b x y T := by
  unfold Two at h ⊢; rw [hw.block b hb]; exact h
theorem Two.set1 {w : World} {b : Nat} {x y : Value} {T : TypeId} (h : Two w b x y T) (u : Value) (hu : u.cells = #[u]) : Two (w.setCell ⟨b, 1, none⟩ u) b x u T := by
  have hlt := lt_of_block h
  have h' : w.heap[b] = .cells #[x, y] T (0, 0) := by simpa [Two, Array.getElem?_eq_getElem hlt] using h
  show (w.heap.modify b _)[b]? = _
  rw [Array.getElem?_eq_getElem (by simpa using hlt), Array.getElem_modify_self, h']
  rfl
theorem Two.set0 {w : World} {b : Nat} {x y : Value} {T : TypeId} (h : Two w b x y T) (u : Value) : Two (w.setCell ⟨b, 0, none⟩ u) b u y T := by
  have hlt := lt_of_block h
  have h' : w.heap[b] = .cells #[x, y] T (0, 0) := by simpa [Two, Array.getElem?_eq_getElem hlt] using h
  show (w.heap.modify b _)[b]? = _
  rw [Array.getElem?_eq_getElem (by simpa using hlt), Array.getElem_modify_self, h']
  rfl
theorem grownBy_setCell (w : World) (a : Addr) (u : Value) : w.grownBy (w.setCell a u) (some a.block) :=
  ⟨rfl, rfl, rfl, by simp, fun i hi hne => Below.heap_setCell w a u i (fun e => hne (by rw [e]))⟩

def flatT (l : List (Int × Int)) : List Value := l.flatMap fun t => [Value.int .i64 t.1, Value.int .i64 t.2]
theorem TermsAt.kept {w w' : World} {v : Value} {l : List (Int × Int)} {row : Option Nat} (h : TermsAt w v l) (hg : w.grownBy w' row) (hne : v.ownBlock = none ∨ v.ownBlock ≠ row) : TermsAt w' v l := by
  obtain ⟨hl, h | ⟨b, off, cap, hv, hcap, hb, hc⟩⟩ := h
  · exact ⟨hl, .inl h⟩
  · have hne' : some b ≠ row := by
      rcases hne with h1 | h1
      · rw [hv] at h1; cases h1
      · rw [hv] at h1; exact h1
    exact ⟨hl, .inr ⟨b, off, cap, hv, hcap, Nat.lt_of_lt_of_le hb hg.size, fun i hi => ⟨hg.cell (hc i hi).1 hne', hg.cell (hc i hi).2 hne'⟩⟩⟩
/-- A struct of two cells is stored. -/
theorem two_after {W0 : World} {b : Nat} {u1 u2 : Value} {T : TypeId} (h : Two W0 b u1 u2 T) (x v : Value) (hv : v.cells = #[v]) :
    (W0.setCell ⟨b, 0, none⟩ x).cell? ⟨b, 0, none⟩ = some x ∧ ((W0.setCell ⟨b, 0, none⟩ x).setCell ⟨b, 1, none⟩ v).cell? ⟨b, 0, none⟩ = some x ∧ ((W0.setCell ⟨b, 0, none⟩ x).setCell ⟨b, 1, none⟩ v).cell? ⟨b, 1, none⟩ = some v ∧ W0.grownBy ((W0.setCell ⟨b, 0, none⟩ x).setCell ⟨b, 1, none⟩ v) (some b) := by
  have t5 := h.set0 x
  have t6 := t5.set1 v hv
  have g5 := grownBy_setCell W0 ⟨b, 0, none⟩ x
  have g6 := grownBy_setCell (W0.setCell ⟨b, 0, none⟩ x) ⟨b, 1, none⟩ v
  exact ⟨t5.c0, t6.c0, t6.c1, g5.trans g6⟩
theorem flatT_len (l : List (Int × Int)) : (flatT l).length = l.length * 2 := by
  unfold flatT
  induction l with
  | nil => rfl
  | cons t l ih => rw [List.flatMap_cons, List.length_append, ih]; simp; omega
theorem flatT_snoc (l : List (Int × Int)) (t : Int × Int) : flatT (l ++ [t]) = flatT l ++ [Value.int .i64 t.1, Value.int .i64 t.2] := by
  unfold flatT; rw [List.flatMap_append]; simp
theorem flatT_get (l : List (Int × Int)) (i : Nat) (h : i < l.length) : (flatT l)[i * 2]? = some (.int .i64 (l[i]?.getD (0, 0)).1) ∧ (flatT l)[i * 2 + 1]? = some (.int .i64 (l[i]?.getD (0, 0)).2) := by
  induction l generalizing i with
  | nil => simp at h
  | cons t l ih =>
    cases i with
    | zero => simp [flatT]
    | succ i =>
      have := ih i (by simpa using h)
      unfold flatT at this ⊢
      rw [List.flatMap_cons]
      have e1 : (i + 1) * 2 = i * 2 + 2 := by omega
      have e2 : (i + 1) * 2 + 1 = (i * 2 + 1) + 2 := by omega
      rw [e2, e1, List.getElem?_append_right (by simp), List.getElem?_append_right (by simp)]
      simpa using this

/-- A slice of terms of the call's own. -/
def OwnT (w : World) (base : Nat) (v : Value) (l : List (Int × Int)) : Prop := w.ownsRow base 85 2 v l.length (flatT l)
theorem OwnT.at {w : World} {base : Nat} {v : Value} {l : List (Int × Int)} (h : OwnT w base v l) (hl : l.length ≤ 8796093022208) : TermsAt w v l := by
  refine ⟨hl, ?_⟩
  have h' := h
  obtain ⟨_, ⟨hv, h0⟩ | ⟨g, cap, cur, rfl, hbase, hb, hcap, _⟩⟩ := h
  · exact .inl ⟨List.length_eq_zero_iff.1 h0, none, 0, hv⟩
  · refine .inr ⟨g, 0, cap, rfl, hcap, (Array.getElem?_eq_some_iff.1 hb).1, fun i hi => ?_⟩
    have hc := World.ownsRow.cells h' (g := g) rfl
    have hf := flatT_get l i hi
    have a1 := hc _ _ hf.1
    have a2 := hc _ _ hf.2
    have e : ∀ j, ((⟨g, 0, none⟩ : Addr).add j) = ⟨g, j, none⟩ := by intro j; unfold Addr.add; split <;> simp_all
    rw [e] at a1 a2
    simp only [Nat.zero_add]
    exact ⟨a1, a2⟩

/-- What has been collected so far. -/
def Coll (D : DataW Unit) (c : Int → Int) (left : Lit → Bool) (ts : List (Int × Int)) : Prop :=
  (ts.map (·.2)).Nodup ∧ (∀ t ∈ ts, c t.2 = t.1 ∧ t.1 ≠ 0) ∧ ∀ r, c r ≠ 0 → left (.int .i64 r) = false → (c r, r) ∈ ts
theorem Coll.step {D : DataW Unit} {c : Int → Int} {left : Lit → Bool} {ts : List (Int × Int)} (h : Coll D c left ts) (hn : ∀ t ∈ ts, left (.int .i64 t.2) = false) (hs : SumD D c) {r x : Int} (hl : left (.int .i64 r) = true) (hat : ∀ zd, D.atKey (.int .i64 r) zd = .lit (.int .i64 x)) :
    Coll D c (fun z => left z && !z.sameKey (.int .i64 r)) (ts ++ [(x, r)]) ∧ (∀ t ∈ ts ++ [(x, r)], (left (.int .i64 t.2) && !(Lit.int .i64 t.2).sameKey (.int .i64 r)) = false) ∧ c r = x ∧ x ≠ 0 := by
  have hh := has_true_of_atKey hat
  have hc0 : c r ≠ 0 := fun e => by rw [(hs.2 r).2 e] at hh; cases hh
  have hcx : c r = x := by have := (hs.2 r).1 hc0 .nil; rw [hat] at this; simp at this; exact this.symm
  refine ⟨⟨?_, ?_, ?_⟩, ?_, hcx, hcx ▸ hc0⟩
  · rw [List.map_append, List.nodup_append]
    refine ⟨h.1, by simp, fun a ha b hb e => ?_⟩
    simp at hb
    subst hb
    subst e
    obtain ⟨t, ht, rfl⟩ := List.mem_map.1 ha
    have := hn t ht
    rw [hl] at this; cases this
  · intro t ht
    rw [List.mem_append] at ht
    rcases ht with ht | ht
    · exact h.2.1 t ht
    · simp at ht; subst ht; exact ⟨hcx, hcx ▸ hc0⟩
  · intro s hs0 hf
    by_cases e : s = r
    · subst e; rw [hcx]; simp
    · have hf2 : left (.int .i64 s) = false := by
        have hf' : (left (.int .i64 s) && !(Lit.int .i64 s).sameKey (.int .i64 r)) = false := hf
        have hk : (Lit.int .i64 s).sameKey (.int .i64 r) = false := by simp [Lit.sameKey, e]
        rw [hk] at hf'; simpa using hf'
      exact List.mem_append.2 (.inl (h.2.2 s hs0 hf2))
  · intro t ht
    rw [List.mem_append] at ht
    rcases ht with ht | ht
    · rw [hn t ht]; rfl
    · simp at ht; subst ht; simp [Lit.sameKey]

/-- The terms that a sum has, in whatever order. -/
def IsColl (c : Int → Int) (ts : List (Int × Int)) : Prop := (ts.map (·.2)).Nodup ∧ (∀ t ∈ ts, c t.2 = t.1 ∧ t.1 ≠ 0) ∧ ∀ r, c r ≠ 0 → (c r, r) ∈ ts

def RedI (w wr : World) (B n : Nat) (D : DataW Unit) (c : Int → Int) (den : Int) (left : Lit → Bool) (cnt : Nat) (ts : List (Int × Int)) (v : Value) : Prop :=
  wr.ranges Tryz.prog 3 (plainElem Tryz.prog 3) B (w.heap.size + 1 + 1) n D left cnt ∧ OwnT wr (w.heap.size + 3) v ts ∧ Two wr (w.heap.size + 1) (.int .i64 den) v 34 ∧ Coll D c left ts ∧ (∀ t ∈ ts, left (.int .i64 t.2) = false) ∧ ts.length + cnt ≤ n ∧ Below w.heap.size w wr ∧ w.heap.size + 3 ≤ wr.heap.size ∧ Two wr w.heap.size (.int .i64 0) (.slice none 0 0) 34

def SortTo (base : Nat) (v : Value) (l : List (Int × Int)) (w : World) (e : Ending) (w' : World) : Prop :=
  e = .returned (.tuple #[]) ∧ (∃ l', l'.Perm l ∧ l'.Pairwise (fun a b => a.2 ≤ b.2) ∧ OwnT w' base v l') ∧ w.grownBy w' v.ownBlock

/-- A sum's terms, ascending by their roots. -/
def IsTerms (c : Int → Int) (l : List (Int × Int)) : Prop := l.Pairwise (fun a b => a.2 < b.2) ∧ ∀ x r, (x, r) ∈ l ↔ (c r = x ∧ x ≠ 0)
theorem isTerms_of {c : Int → Int} {ts l : List (Int × Int)} (h : IsColl c ts) (hp : l.Perm ts) (hs : l.Pairwise (fun a b => a.2 ≤ b.2)) : IsTerms c l := by
  have hn : (l.map (·.2)).Nodup := (hp.map _).nodup_iff.2 h.1
  constructor
  · have hn2 : l.Pairwise (fun a b => a.2 ≠ b.2) := List.pairwise_map.1 hn
    refine (hs.and hn2).imp ?_
    intro a b ⟨h1, h2⟩
    omega
  · intro x r
    rw [hp.mem_iff]
    constructor
    · intro hm; exact h.2.1 (x, r) hm
    · rintro ⟨rfl, h0⟩; exact h.2.2 r h0

def divS (s : Int) (l : List (Int × Int)) : List (Int × Int) := l.map fun t => (t.1.tdiv s, t.2)
def divUp (s : Int) (l : List (Int × Int)) (k : Nat) : List (Int × Int) := divS s (l.take k) ++ l.drop k
def sgnDv (den : Int) (l : List (Int × Int)) : Int := if den < 0 then -(dvF den l : Int) else dvF den l
/-- A sum divided by den, in lowest terms. -/
def RedTo (den : Int) (c : Int → Int) (w : World) (e : Ending) (w' : World) : Prop :=
  ∃ l v, IsTerms c l ∧ l.length ≤ 1000 ∧ e = .returned (.agg #[.int .i64 (den.tdiv (sgnDv den l)), v]) ∧ TermsAt w' v (divS (sgnDv den l) l) ∧ Below w.heap.size w w' ∧ ∀ k, v.ownBlock = some k → w.heap.size ≤ k


theorem dv_dvd (den : Int) (l : List (Int × Int)) : (dvF den l : Int) ∣ den ∧ ∀ t ∈ l, (dvF den l : Int) ∣ t.1 := by
  unfold dvF
  have key : ∀ (l : List (Int × Int)) (g : Nat), (l.foldl (fun g t => Int.gcd g t.1) g) ∣ g ∧ ∀ t ∈ l, ((l.foldl (fun g t => Int.gcd g t.1) g : Nat) : Int) ∣ t.1 := by
    intro l
    induction l with
    | nil => intro g; simp
    | cons t l ih =>
      intro g
      obtain ⟨h1, h2⟩ := ih (Int.gcd g t.1)
      simp only [List.foldl_cons]
      have hg : Int.gcd g t.1 ∣ g := by have := Int.gcd_dvd_natAbs_left (g : Int) t.1; simpa using this
      refine ⟨Nat.dvd_trans h1 hg, fun u hu => ?_⟩
      rcases List.mem_cons.1 hu with rfl | hu
      · exact Int.dvd_trans (Int.natCast_dvd_natCast.2 h1) (Int.gcd_dvd_right _ _)
      · exact h2 u hu
  obtain ⟨h1, h2⟩ := key l (Int.gcd den 0)
  exact ⟨Int.dvd_trans (Int.natCast_dvd_natCast.2 h1) (Int.gcd_dvd_left _ _), h2⟩
theorem dv_pos (den : Int) (l : List (Int × Int)) (h : den ≠ 0) : 1 ≤ (dvF den l : Int) := by
  have := (dv_dvd den l).1
  rcases Nat.eq_zero_or_pos (dvF den l) with h0 | h0
  · rw [h0] at this; simp at this; exact absurd this h
  · omega
def DomQ2 (x y : Int) : Prop := -9000000000000000000 ≤ x ∧ x ≤ 9000000000000000000 ∧ y ≠ 0
theorem tdiv_abs (x y : Int) (h : y ≠ 0) (M : Int) (h1 : -M ≤ x) (h2 : x ≤ M) : -M ≤ x.tdiv y ∧ x.tdiv y ≤ M := by
  have h3 : (x.tdiv y).natAbs = x.natAbs / y.natAbs := Int.natAbs_tdiv x y
  have h4 : x.natAbs / y.natAbs ≤ x.natAbs := Nat.div_le_self _ _
  omega
theorem domQ2_wrap : ∀ x y : Int, DomQ2 x y → IntKind.i64.wrap (x.tdiv y) = x.tdiv y := fun x y h => IntWalk.i64_in _ (by have := tdiv_abs x y h.2.2 _ h.1 h.2.1; omega)

theorem divUp_len (s : Int) (l : List (Int × Int)) (k : Nat) (h : k ≤ l.length) : (divUp s l k).length = l.length := by
  unfold divUp divS; simp; omega
theorem divUp_at (s : Int) (l : List (Int × Int)) (k : Nat) (h : k < l.length) : (divUp s l k)[k]?.getD (0, 0) = l[k]?.getD (0, 0) := by
  unfold divUp divS
  rw [List.getElem?_append_right (by simp; omega)]
  simp [Nat.min_eq_left (Nat.le_of_lt h)]
theorem flatT_set (l : List (Int × Int)) (k : Nat) (q : Int) (h : k < l.length) : (flatT l).set (k * 2) (.int .i64 q) = flatT (l.set k (q, (l[k]?.getD (0, 0)).2)) := by
  induction l generalizing k with
  | nil => simp at h
  | cons t l ih =>
    cases k with
    | zero => simp [flatT]
    | succ k =>
      have := ih k (by simpa using h)
      unfold flatT at this ⊢
      have e1 : (k + 1) * 2 = k * 2 + 1 + 1 := by omega
      rw [e1]
      simp only [List.flatMap_cons, List.cons_append, List.nil_append, List.set_cons_succ, List.getElem?_cons_succ]
      rw [this]
theorem divUp_set (s : Int) (l : List (Int × Int)) (k : Nat) (h : k < l.length) : (divUp s l k).set k ((l[k]?.getD (0, 0)).1.tdiv s, (l[k]?.getD (0, 0)).2) = divUp s l (k + 1) := by
  unfold divUp divS
  rw [List.set_append_right _ _ (by simp; omega), List.length_map, List.length_take, Nat.min_eq_left (Nat.le_of_lt h), Nat.sub_self, List.drop_eq_getElem_cons h, List.take_succ_eq_append_getElem h, List.map_append, List.append_assoc]
  simp only [List.set_cons_zero, List.map_cons, List.map_nil, List.cons_append, List.nil_append, List.getElem?_eq_getElem h, Option.getD_some]
theorem OwnT.shape {w : World} {base : Nat} {v : Value} {l : List (Int × Int)} (h : OwnT w base v l) : ∃ a cap, v = .slice a l.length cap ∧ ∀ i, i < l.length → ∃ g, a = some ⟨g, 0, none⟩ ∧ base ≤ g := by
  obtain ⟨_, ⟨hv, h0⟩ | ⟨g, cap, cur, rfl, hbase, _⟩⟩ := h
  · exact ⟨none, 0, by rw [hv, h0], fun i hi => by omega⟩
  · exact ⟨_, cap, rfl, fun i hi => ⟨g, rfl, hbase⟩⟩
theorem OwnT.kept {w w' : World} {base : Nat} {v : Value} {l : List (Int × Int)} {row : Option Nat} (h : OwnT w base v l) (hg : w.grownBy w' row) (hne : v.ownBlock = none ∨ v.ownBlock ≠ row) : OwnT w' base v l := World.ownsRow.kept h hg hne
theorem OwnT.below {w w' : World} {base : Nat} {v : Value} {l : List (Int × Int)} (h : OwnT w base v l) (hw : Below w.heap.size w w') : OwnT w' base v l := by
  obtain ⟨h1, h2 | ⟨g, cap, cur, h3, h4, h5, h6⟩⟩ := h
  · exact ⟨h1, .inl h2⟩
  · exact ⟨h1, .inr ⟨g, cap, cur, h3, h4, (hw.block g (Array.getElem?_eq_some_iff.1 h5).1).trans h5, h6⟩⟩
theorem OwnT.store {w : World} {base g cap : Nat} {l : List (Int × Int)} (h : OwnT w base (.slice (some ⟨g, 0, none⟩) l.length cap) l) (k : Nat) (q : Int) (hk : k < l.length) :
    OwnT (w.setCell ⟨g, k * 2, none⟩ (.int .i64 q)) base (.slice (some ⟨g, 0, none⟩) l.length cap) (l.set k (q, (l[k]?.getD (0, 0)).2)) := by
  have := World.ownsRow.stored h (k * 2) (.int .i64 q)
  unfold OwnT
  rw [← flatT_set l k q hk, List.length_set]
  exact this.1

/-- While the terms are divided. -/
def RedJ (w wr : World) (den s : Int) (l : List (Int × Int)) (a : Option Addr) (cap k : Nat) : Prop :=
  OwnT wr (w.heap.size + 3) (.slice a l.length cap) (divUp s l k) ∧ Two wr (w.heap.size + 1) (.int .i64 (den.tdiv s)) (.slice a l.length cap) 34 ∧ Two wr w.heap.size (.int .i64 0) (.slice none 0 0) 34 ∧ Below w.heap.size w wr ∧ w.heap.size + 3 ≤ wr.heap.size

set_option maxRecDepth 100000 in
set_option maxHeartbeats 4000000 in
theorem reduced_any (den : Int) (B n : Nat) (c : Int → Int) (w : World) (hs : OwnSum w B n c) (hn : n ≤ 1000) (hd1 : -9000000000000000000 ≤ den) (hd2 : den ≤ 9000000000000000000) (hd3 : den ≠ 0)
    (hsort : Hid (∀ base v l w, OwnT w base v l → l.length ≤ 1000 → (∀ t ∈ l, 0 ≤ t.2 ∧ t.2 ≤ 1000000000000) → Calls Tryz.prog 213 #[v, .func (.func 214) #[] #[]] w (SortTo base v l w)))
    (hcr : Hid (∀ r, c r ≠ 0 → 0 ≤ r ∧ r ≤ 1000000000000)) (hcb : Hid (∀ r, -9000000000000000000 ≤ c r ∧ c r ≤ 9000000000000000000)) :
    Calls Tryz.prog 171 #[.int .i64 den, .map (some B)] w (RedTo den c w) := by
  obtain ⟨D, hown, hsd⟩ := hs
  have HSD := Lib.hid hsd
  have hBl := hown.lt
  have HD3 := Lib.hid hd3
  clear hsd hd3
  go_enter Tryz.func171, Tryz.ntmps171
  go_wp2_with (first
    | (at_range; refine wpList_range_own _ rfl _ 152 rfl 3 3 law3 und67 _ B n _ rfl (((hown.alloc _).alloc _)) ?_; intro w0 hrg0 hg0 hs0)
    | go_in)
  go_frame
  have e1 : ∀ o1 o2, ((w.alloc o1).alloc o2).heap.size = w.heap.size + 1 + 1 := fun o1 o2 => by simp
  rw [e1] at hrg0 hs0 ⊢
  clear e1
  have HI0 : Hid (RedI w w0 B n D c den (Maps.has D) (Maps.size D) [] (.slice none 0 0)) := by
    have hb0 : Below w.heap.size w w0 := (((Below.refl _ _).alloc (Nat.le_refl _) _).alloc (by simp) _).grown hg0 (by simp; omega) (fun j hj => by cases hj)
    refine Lib.hid ⟨hrg0, World.ownsRow_nil _ _ _ _, ?_, ⟨by simp, by simp, fun r h0 hf => ?_⟩, by simp, by simpa using hown.size_le, hb0, by omega, ((Two.new w (.int .i64 0) (.slice none 0 0) 34).alloc _).kept hg0 (by simp)⟩
    · have := ((Two.new (w.alloc _) (.int .i64 den) (.slice none 0 0) 34)).kept hg0 (by simp)
      simpa using this
    · have := has_true_of_atKey ((HSD.out.2 r).1 h0)
      rw [this] at hf; cases hf
  have HDL : Hid (Maps.has D = Maps.has D) := Lib.hid rfl
  clear hrg0 hg0 hs0
  obtain ⟨i0, hi, hz0, hz1, hz2⟩ := info_parts info34
  go_loopw [6, 7] (fun _ _ wr => ∃ (left : Lit → Bool) (cnt : Nat) (ts : List (Int × Int)) (v : Value), Hid (RedI w wr B n D c den left cnt ts v)) (fun _ _ wr => wr.rangeLeft B (w.heap.size + 1 + 1))
  case atStart => exact ⟨_, _, _, _, HI0⟩
  case round =>
    obtain ⟨left, cnt, ts, v, HI⟩ := hrel
    obtain ⟨hrg, hrow, h2, hcoll, hleft, hcnt, hbw, hsz, hres⟩ := HI.out
    have HCO := Lib.hid hcoll
    have HLE := Lib.hid hleft
    have HBW := Lib.hid hbw
    have HRS := Lib.hid hres
    clear hres
    have HTW := Lib.hid h2
    have HROW := Lib.hid hrow
    clear hcoll hleft hbw h2 hrow
    go_wp2_with (first
      | (at_next; refine wpList_next_ranges_ii _ rfl _ rfl 3 3 .i64 .i64 law3 und3 und3 B (w.heap.size + 1 + 1) n _ _ _ rfl hrg ?_ ?_)
      | go_in)
    · intro hc0 hl0
      have c0 := HTW.out.c0
      have c1 := HTW.out.c1
      have hll : ts.length ≤ 1000 := by omega
      have hco : IsColl c ts := ⟨HCO.out.1, HCO.out.2.1, fun r h0 => HCO.out.2.2 r h0 (hl0 _)⟩
      have HS := Lib.hid (hsort.out _ v ts wr HROW.out hll (fun t ht => by have := hco.2.1 t ht; exact hcr.out t.2 (by rw [this.1]; exact this.2)))
      have HCOL := Lib.hid hco
      have hnb : ∀ k, v.ownBlock = some k → w.heap.size + 3 ≤ k := fun k hk => (HROW.out.lt k hk).1
      have HNB := Lib.hid hnb
      clear hco hnb hl0
      go_wp2_with fail
      refine HS.out.mono ?_
      rintro e w1 ⟨rfl, ⟨l, hp, hpw, hown1⟩, hg1⟩
      have hit := isTerms_of HCOL.out hp hpw
      have hlen : l.length ≤ 1000 := by have := hp.length_eq; omega
      have HIT := Lib.hid hit
      have HO1 := Lib.hid hown1
      have HT1 := Lib.hid (HTW.out.kept hg1 (by intro e; have := HNB.out _ e.symm; omega))
      have HR1 := Lib.hid (HRS.out.kept hg1 (by intro e; have := HNB.out _ e.symm; omega))
      have HB1 := Lib.hid (HBW.out.grown hg1 HBW.out.size (fun k hk => by have := HNB.out k hk; omega))
      have HTA := Lib.hid (HO1.out.at (by omega))
      have hlb : Hid (∀ t ∈ l, -9000000000000000000 ≤ t.1 ∧ t.1 ≤ 9000000000000000000) := Lib.hid (fun t ht => by
        have := (HIT.out.2 t.1 t.2).1 ht
        have := hcb.out t.2
        omega)
      have hsz1 : w.heap.size + 3 ≤ w1.heap.size := by have := hg1.size; omega
      clear hp hpw hown1 hg1 hit c0 c1 hc0 hrg
      have c0 := HT1.out.c0
      have c1 := HT1.out.c1
      go_wp2_with fail
      refine (divisor_at den v l _ HTA.out hd1 hd2 hlb).mono ?_
      rintro e w2 ⟨rfl, hb2⟩
      have hv1 := dv_pos den l HD3.out
      have hv2 := dv_le den l 9000000000000000000 hd1 hd2 hlb.out
      have hsd : sgnDv den l = if den < 0 then -(dvF den l : Int) else dvF den l := rfl
      have hsz2 := hb2.size
      have HB2 := Lib.hid (HB1.out.trans (hb2.mono HB1.out.size))
      have ht2 := HT1.out.below hb2 HT1.out.lt
      have hr2 := HR1.out.below hb2 HR1.out.lt
      have hown2 : OwnT w2 (w.heap.size + 3) v l := HO1.out.below hb2
      obtain ⟨a, cap, rfl, hpl⟩ := hown2.shape
      have HT2 := Lib.hid ht2
      have HR2 := Lib.hid hr2
      have HO2 := Lib.hid hown2
      have HPL := Lib.hid hpl
      generalize (dvF den l : Int) = gg at hv1 hv2 hsd ⊢
      have HSD2 := Lib.hid hsd
      clear c0 c1 hb2 ht2 hr2 hown2 hpl hsd
      have c0 := HT2.out.c0
      have c1 := HT2.out.c1
      have f0 := HT2.out.fr (i := 0)
      have hgg : ¬ gg = 0 := by omega
      have hq := domQ2_wrap
      have HDD := Lib.hid (And.intro hd1 hd2)
      have main : ∀ s : Int, Hid (sgnDv den l = s) → s ≠ 0 → True := fun _ _ _ => trivial
      clear main
      by_cases hneg : den < 0
      · have e41 : wrap64 (-den.tdiv gg) = den.tdiv (-gg) := by
          have := tdiv_abs den gg (by omega) _ hd1 hd2
          rw [IntWalk.wrap64_in _ ⟨by omega, by omega⟩, Int.tdiv_neg]
        have E41 := Lib.hid e41
        have HSG : Hid (sgnDv den l = -gg) := Lib.hid (by rw [HSD2.out, if_pos hneg])
        have hs0 : -gg ≠ 0 := by omega
        have HS0 := Lib.hid hs0
        clear e41 hq hs0
        go_wp2_with fail
        rw [E41.out]
        clear E41 HSD2 hv1 hv2 hgg hneg
        have hq := domQ2_wrap
        have hs0 := HS0.out
        generalize -gg = s at HSG hs0 ⊢
        clear HS0
        obtain ⟨wl, hwl⟩ : ∃ wl, wl = w2.setCell { block := w.heap.size + 1, off := 0 } (Value.int IntKind.i64 (den.tdiv s)) := ⟨_, rfl⟩
        rw [← hwl]
        have HWL := Lib.hid hwl
        clear hwl
        have hg0 : w2.grownBy wl (some (w.heap.size + 1)) := by rw [HWL.out]; exact grownBy_setCell w2 ⟨w.heap.size + 1, 0, none⟩ _
        have HI1 : Hid (RedJ w wl den s l a cap 0) := by
          refine Lib.hid ⟨?_, ?_, HR2.out.kept hg0 (by simp), ?_, by rw [HWL.out]; simp; omega⟩
          · have e : divUp s l 0 = l := by simp [divUp, divS]
            rw [e]
            exact HO2.out.kept hg0 (by cases hv : (Value.slice a l.length cap).ownBlock with
              | none => exact .inl rfl
              | some k => right; have := (HO2.out.lt k hv).1; simp; omega)
          · rw [HWL.out]; exact HT2.out.set0 _
          · exact HB2.out.grown hg0 HB2.out.size (by intro k hk; cases hk; omega)
        clear hg0 HWL c0 c1 f0
        go_loopw [9, 46] (fun _ i wr => ∃ k : Nat, k ≤ l.length ∧ i = .int .i64 k ∧ Hid (RedJ w wr den s l a cap k)) (fun _ i _ => l.length - (intOf i).toNat)
        case atStart => exact ⟨0, Nat.zero_le _, rfl, HI1⟩
        case round =>
          clear HI1
          obtain ⟨k, hk, rfl, HJ⟩ := hrel
          obtain ⟨ho, ht, hr, hbw3, hsz3⟩ := HJ.out
          have c0 := ht.c0
          have c1 := ht.c1
          have r0 := hr.c0
          have r1 := hr.c1
          have q0 := hr.fr (i := 0)
          have q1 := hr.fr (i := 1)
          have HOJ := Lib.hid ho
          have HTJ := Lib.hid ht
          have HRJ := Lib.hid hr
          have HBJ := Lib.hid hbw3
          clear ho ht hr hbw3
          by_cases hlt : k < l.length
          · obtain ⟨g, rfl, hgb⟩ := HPL.out k hlt
            have hll2 : (divUp s l k).length = l.length := divUp_len s l k hk
            have ho1 : OwnT wr (w.heap.size + 3) (.slice (some ⟨g, 0, none⟩) (divUp s l k).length cap) (divUp s l k) := by rw [hll2]; exact HOJ.out
            have hcell : wr.cell? ⟨g, k * 2, none⟩ = some (.int .i64 (l[k]?.getD (0, 0)).1) := by
              have h1 := World.ownsRow.cellAt ho1 (k * 2) (by omega)
              have h2 := (flatT_get (divUp s l k) k (by omega)).1
              rw [divUp_at s l k hlt] at h2
              exact h1.trans h2
            have hfz : wr.frozen? ⟨g, k * 2, none⟩ = false := World.ownsRow.frozenAt ho1 (k * 2)
            have hst := fun q => ho1.store k q (by omega)
            have hbd := hlb.out (l[k]?.getD (0, 0)) (by simp [hlt])
            have hse := divUp_set s l k hlt
            rw [divUp_at s l k hlt] at hst
            obtain ⟨x, r, hel⟩ : ∃ x r, l[k]?.getD (0, 0) = (x, r) := ⟨_, _, rfl⟩
            rw [hel] at hcell hbd hse hst
            dsimp only at hcell hbd hse hst
            have hst2 := hst (x.tdiv s)
            rw [hse, hll2] at hst2
            have hdq : DomQ2 x s := ⟨hbd.1, hbd.2, hs0⟩
            have HST := Lib.hid hst2
            clear hel hst hse hll2 ho1 hst2 hbd
            go_wp2
            go_roundw
            case rel =>
              have hg5 := grownBy_setCell wr ⟨g, k * 2, none⟩ (.int .i64 (x.tdiv s))
              exact ⟨k + 1, by omega, by go_num, Lib.hid ⟨HST.out, HTJ.out.kept hg5 (by simp; omega), HRJ.out.kept hg5 (by simp; omega), HBJ.out.grown hg5 HBJ.out.size (by intro q hq; cases hq; dsimp only; omega), by simp; omega⟩⟩
            case measure => simp [intOf]; omega
          · have hk : k = l.length := by omega
            have HF : Hid (OwnT wr (w.heap.size + 3) (.slice a l.length cap) (divS s l)) := Lib.hid (by
              have := HOJ.out
              have e : divUp s l k = divS s l := by rw [hk]; simp [divUp]
              rwa [e] at this)
            clear hk HOJ
            go_wp2
            have t5 := HRJ.out.set0 (.int .i64 (den.tdiv s))
            have t6 := t5.set1 (.slice a l.length cap) rfl
            have d0 := t5.c0
            have d1 := t6.c0
            have d2 := t6.c1
            have g5 := grownBy_setCell wr ⟨w.heap.size, 0, none⟩ (.int .i64 (den.tdiv s))
            have g6 := grownBy_setCell (wr.setCell ⟨w.heap.size, 0, none⟩ (.int .i64 (den.tdiv s))) ⟨w.heap.size, 1, none⟩ (.slice a l.length cap)
            have hne : (Value.slice a l.length cap).ownBlock = none ∨ (Value.slice a l.length cap).ownBlock ≠ some w.heap.size := by
              cases hv : (Value.slice a l.length cap).ownBlock with
              | none => exact .inl rfl
              | some q => right; have := (HF.out.lt q hv).1; simp; omega
            have hta := (((HF.out.kept g5 hne).kept g6 hne)).at (by unfold divS; simp; omega)
            have hbw := (HBJ.out.grown g5 HBJ.out.size (by intro q hq; cases hq; exact Nat.le_refl _)).grown g6 (by have := HBJ.out.size; simpa using this) (by intro q hq; cases hq; exact Nat.le_refl _)
            refine bodyPost_ret (v := .agg #[.int .i64 (den.tdiv s), .slice a l.length cap]) ?_ rfl ?_
            · simp [results, Tryz.results171, go_sem, d0, d1, d2]
            · refine ⟨l, .slice a l.length cap, HIT.out, hlen, by rw [HSG.out], ?_, hbw, fun q hv => by have := (HF.out.lt q hv).1; omega⟩
              rw [HSG.out]; exact hta
      · have e41 : den / gg = den.tdiv gg := by rw [Int.tdiv_eq_ediv_of_nonneg (by omega)]
        have E41 := Lib.hid e41
        have HSG : Hid (sgnDv den l = gg) := Lib.hid (by rw [HSD2.out, if_neg hneg])
        have hdec : decide (den < 0) = false := by simp; omega
        clear e41 hq
        go_wp2_with fail
        rw [E41.out]
        clear E41 HSD2 hv1 hv2 hneg hdec
        have hq := domQ2_wrap
        have hs0 : gg ≠ 0 := hgg
        clear hgg
        generalize gg = s at HSG hs0 ⊢
        obtain ⟨wl, hwl⟩ : ∃ wl, wl = w2.setCell { block := w.heap.size + 1, off := 0 } (Value.int IntKind.i64 (den.tdiv s)) := ⟨_, rfl⟩
        rw [← hwl]
        have HWL := Lib.hid hwl
        clear hwl
        have hg0 : w2.grownBy wl (some (w.heap.size + 1)) := by rw [HWL.out]; exact grownBy_setCell w2 ⟨w.heap.size + 1, 0, none⟩ _
        have HI1 : Hid (RedJ w wl den s l a cap 0) := by
          refine Lib.hid ⟨?_, ?_, HR2.out.kept hg0 (by simp), ?_, by rw [HWL.out]; simp; omega⟩
          · have e : divUp s l 0 = l := by simp [divUp, divS]
            rw [e]
            exact HO2.out.kept hg0 (by cases hv : (Value.slice a l.length cap).ownBlock with
              | none => exact .inl rfl
              | some k => right; have := (HO2.out.lt k hv).1; simp; omega)
          · rw [HWL.out]; exact HT2.out.set0 _
          · exact HB2.out.grown hg0 HB2.out.size (by intro k hk; cases hk; omega)
        clear hg0 HWL c0 c1 f0
        go_loopw [9, 46] (fun _ i wr => ∃ k : Nat, k ≤ l.length ∧ i = .int .i64 k ∧ Hid (RedJ w wr den s l a cap k)) (fun _ i _ => l.length - (intOf i).toNat)
        case atStart => exact ⟨0, Nat.zero_le _, rfl, HI1⟩
        case round =>
          clear HI1
          obtain ⟨k, hk, rfl, HJ⟩ := hrel
          obtain ⟨ho, ht, hr, hbw3, hsz3⟩ := HJ.out
          have c0 := ht.c0
          have c1 := ht.c1
          have r0 := hr.c0
          have r1 := hr.c1
          have q0 := hr.fr (i := 0)
          have q1 := hr.fr (i := 1)
          have HOJ := Lib.hid ho
          have HTJ := Lib.hid ht
          have HRJ := Lib.hid hr
          have HBJ := Lib.hid hbw3
          clear ho ht hr hbw3
          by_cases hlt : k < l.length
          · obtain ⟨g, rfl, hgb⟩ := HPL.out k hlt
            have hll2 : (divUp s l k).length = l.length := divUp_len s l k hk
            have ho1 : OwnT wr (w.heap.size + 3) (.slice (some ⟨g, 0, none⟩) (divUp s l k).length cap) (divUp s l k) := by rw [hll2]; exact HOJ.out
            have hcell : wr.cell? ⟨g, k * 2, none⟩ = some (.int .i64 (l[k]?.getD (0, 0)).1) := by
              have h1 := World.ownsRow.cellAt ho1 (k * 2) (by omega)
              have h2 := (flatT_get (divUp s l k) k (by omega)).1
              rw [divUp_at s l k hlt] at h2
              exact h1.trans h2
            have hfz : wr.frozen? ⟨g, k * 2, none⟩ = false := World.ownsRow.frozenAt ho1 (k * 2)
            have hst := fun q => ho1.store k q (by omega)
            have hbd := hlb.out (l[k]?.getD (0, 0)) (by simp [hlt])
            have hse := divUp_set s l k hlt
            rw [divUp_at s l k hlt] at hst
            obtain ⟨x, r, hel⟩ : ∃ x r, l[k]?.getD (0, 0) = (x, r) := ⟨_, _, rfl⟩
            rw [hel] at hcell hbd hse hst
            dsimp only at hcell hbd hse hst
            have hst2 := hst (x.tdiv s)
            rw [hse, hll2] at hst2
            have hdq : DomQ2 x s := ⟨hbd.1, hbd.2, hs0⟩
            have HST := Lib.hid hst2
            clear hel hst hse hll2 ho1 hst2 hbd
            go_wp2
            go_roundw
            case rel =>
              have hg5 := grownBy_setCell wr ⟨g, k * 2, none⟩ (.int .i64 (x.tdiv s))
              exact ⟨k + 1, by omega, by go_num, Lib.hid ⟨HST.out, HTJ.out.kept hg5 (by simp; omega), HRJ.out.kept hg5 (by simp; omega), HBJ.out.grown hg5 HBJ.out.size (by intro q hq; cases hq; dsimp only; omega), by simp; omega⟩⟩
            case measure => simp [intOf]; omega
          · have hk : k = l.length := by omega
            have HF : Hid (OwnT wr (w.heap.size + 3) (.slice a l.length cap) (divS s l)) := Lib.hid (by
              have := HOJ.out
              have e : divUp s l k = divS s l := by rw [hk]; simp [divUp]
              rwa [e] at this)
            clear hk HOJ
            go_wp2
            have t5 := HRJ.out.set0 (.int .i64 (den.tdiv s))
            have t6 := t5.set1 (.slice a l.length cap) rfl
            have d0 := t5.c0
            have d1 := t6.c0
            have d2 := t6.c1
            have g5 := grownBy_setCell wr ⟨w.heap.size, 0, none⟩ (.int .i64 (den.tdiv s))
            have g6 := grownBy_setCell (wr.setCell ⟨w.heap.size, 0, none⟩ (.int .i64 (den.tdiv s))) ⟨w.heap.size, 1, none⟩ (.slice a l.length cap)
            have hne : (Value.slice a l.length cap).ownBlock = none ∨ (Value.slice a l.length cap).ownBlock ≠ some w.heap.size := by
              cases hv : (Value.slice a l.length cap).ownBlock with
              | none => exact .inl rfl
              | some q => right; have := (HF.out.lt q hv).1; simp; omega
            have hta := (((HF.out.kept g5 hne).kept g6 hne)).at (by unfold divS; simp; omega)
            have hbw := (HBJ.out.grown g5 HBJ.out.size (by intro q hq; cases hq; exact Nat.le_refl _)).grown g6 (by have := HBJ.out.size; simpa using this) (by intro q hq; cases hq; exact Nat.le_refl _)
            refine bodyPost_ret (v := .agg #[.int .i64 (den.tdiv s), .slice a l.length cap]) ?_ rfl ?_
            · simp [results, Tryz.results171, go_sem, d0, d1, d2]
            · refine ⟨l, .slice a l.length cap, HIT.out, hlen, by rw [HSG.out], ?_, hbw, fun q hv => by have := (HF.out.lt q hv).1; omega⟩
              rw [HSG.out]; exact hta
    · intro x cc w1 cnt1 hwx hwc hlx hat hrg1 hlt hg1 hs1 hen
      have hst := HCO.out.step HLE.out HSD.out hlx hat
      have HST := Lib.hid hst
      have t1 := HTW.out.kept hg1 (by simp)
      have c0 := t1.c0
      have c1 := t1.c1
      have f1 := t1.fr (i := 1)
      have hrow1 : OwnT w1 (w.heap.size + 3) v ts := HROW.out.kept hg1 (by
        cases hv : v.ownBlock with
        | none => exact .inl rfl
        | some k => right; have := (HROW.out.lt k hv).1; simp; omega)
      have hvb : some (w.heap.size + 1) ≠ v.ownBlock := by
        intro e
        have := (HROW.out.lt _ e.symm).1
        omega
      have hvB : some B ≠ v.ownBlock := by
        intro e
        have := (HROW.out.lt _ e.symm).1
        omega
      have hvr : some (w.heap.size + 1 + 1) ≠ v.ownBlock := by
        intro e
        have := (HROW.out.lt _ e.symm).1
        omega
      have hbw1 : Below w.heap.size w w1 := HBW.out.grown hg1 HBW.out.size (by intro k hk; cases hk; omega)
      have HRG1 := Lib.hid hrg1
      have HT1 := Lib.hid t1
      have HBW1 := Lib.hid hbw1
      have HVB := Lib.hid hvb
      have HVV := Lib.hid (And.intro hvB hvr)
      have hlenr : ∀ k, v.ownBlock = some k → w.heap.size + 3 ≤ k := fun k hk => (HROW.out.lt k hk).1
      have HLR := Lib.hid hlenr
      have HS1 : Hid (w1.heap.size = wr.heap.size) := Lib.hid hs1
      have hsz1 : w.heap.size + 3 ≤ w1.heap.size := by omega
      clear hst hat hrg1 t1 hbw1 hvb hvB hvr hlenr hs1
      go_wp2_with (first
        | (at_builtin; refine wpList_append_own _ rfl _ _ 32 rfl (w.heap.size + 3) 85 i0 (.agg #[.int .i64 0, .int .i64 0]) 2 16 und22 hi hz0 hz1 hz2 rfl (by decide) v ts.length (flatT ts) rfl (World.ownsRow.alloc hrow1 _) ⟨w1.heap.size, 0, none⟩ 1 1 [.int .i64 cc, .int .i64 x] rfl rfl (cell_two_new _ _ _ _) (by simp [Value.oneCell']) (by unfold maxLen; omega) (by omega) (by simp; omega) ?_; intro v' w2 hown2 hgrow2 _; have t2 := (HT1.out.alloc (.cells #[.int .i64 cc, .int .i64 x] 85)).kept hgrow2 HVB.out; have d1 := t2.c1; have f2 := t2.fr (i := 1); have HT2 := Lib.hid t2; obtain ⟨g', cap', rfl⟩ := ownsRow_succ hown2; have HGW2 := Lib.hid hgrow2; have HOW2 := Lib.hid hown2; clear t2 hgrow2 hown2 hrow1))
      go_roundw
      case rel =>
        refine ⟨_, cnt1, ts ++ [(cc, x)], _, Lib.hid ⟨(HRG1.out.alloc _ |>.kept HGW2.out HVV.out.1 HVV.out.2).kept (grownBy_setCell _ _ _) (by simp; omega) (by simp), ?_, HT2.out.set1 _ rfl, HST.out.1, HST.out.2.1, by simp; omega, ?_, ?_, ?_⟩⟩
        · have h1 : OwnT w2 (w.heap.size + 3) (.slice (some ⟨g', 0, none⟩) (ts.length + 1) cap') (ts ++ [(cc, x)]) := by unfold OwnT; rw [flatT_snoc, List.length_append]; exact HOW2.out
          exact ownsRow_setCell_other h1 (by have := (HOW2.out.lt g' rfl).1; simp [Value.ownBlock]; omega) _
        · exact ((HBW1.out.alloc HBW1.out.size _).grown HGW2.out (by have := HBW1.out.size; simp; omega) (fun k hk => by have := HLR.out k hk; omega)).setCell (by simp) _
        · have := HGW2.out.size; simp at this ⊢; omega
        · exact ((((HRS.out.kept hg1 (by simp; omega)).alloc _).kept HGW2.out (by intro e; have := HLR.out _ e.symm; omega)).kept (grownBy_setCell _ _ _) (by simp))
      case measure =>
        have hrn := ((HRG1.out.alloc (.cells #[.int .i64 cc, .int .i64 x] 85) |>.kept HGW2.out HVV.out.1 HVV.out.2).kept (grownBy_setCell w2 ⟨w.heap.size + 1, 1, none⟩ (.slice (some ⟨g', 0, none⟩) (ts.length + 1) cap')) (by simp; omega) (by simp))
        rw [hrn.left_eq, hrg.left_eq]
        exact hlt
end Go.Proofs.YtkjclafbpocabaaGreatDoor
