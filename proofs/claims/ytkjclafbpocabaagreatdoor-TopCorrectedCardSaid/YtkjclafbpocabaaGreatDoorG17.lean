/-
  Contracts of the program's own functions (and their plain mathematics), on the way to the law: each for all arguments that its hypotheses let.
-/
import Derived.Test.YtkjclafbpocabaaGreatDoorG14
import Derived.Test.YtkjclafbpocabaaGreatDoorG16
import Derived.WalkKit
import Derived.WalkSpells
import Derived.WalkLawsBesides
import Derived.Deep.QuietTactic
import Derived.BigQuiet
import Derived.Lib.Hide
import Derived.WalkSmall
import Derived.Maps.OwnSet
import Derived.Maps.RangeWalk
import Derived.Deep.RegionWith
import Derived.Deep.RegionHeld3
import Derived.OneCell
import Derived.KernelRfl
import Derived.Laws.StructEq
import Derived.StillTailTactics
import Derived.Laws.Externs
import Derived.RangeFuncBox
import Derived.Test.YtkjclafbpocabaaGreatDoorPlain
import Derived.Test.YtkjclafbpocabaaGreatDoorG8
import Derived.Deep.DrawnRows
import Derived.Deep.DeepCutAuto
set_option linter.unusedSimpArgs false
set_option linter.unusedVariables false

/-! ## S42 -/
namespace Go.Proofs.YtkjclafbpocabaaGreatDoor
open Go.RowKit Go.Maps Go.Shelf Go.Sort

def natT (ts : List (Int × Int)) : List (Int × Nat) := ts.map fun t => (t.1, t.2.toNat)
theorem sumQ_enc (D : Nat) (ts : List (Int × Int)) : Tw.sumQ (qD D) (natT ts) = (encP (fQ D) ts : Int) - (encN (fQ D) ts : Int) := by
  induction ts with
  | nil => rfl
  | cons t ts ih =>
    have e1 : encP (fQ D) (t :: ts) = t.1.toNat * fQ D t.2 + encP (fQ D) ts := rfl
    have e2 : encN (fQ D) (t :: ts) = (-t.1).toNat * fQ D t.2 + encN (fQ D) ts := rfl
    have e3 : Tw.sumQ (qD D) (natT (t :: ts)) = t.1 * qD D t.2.toNat + Tw.sumQ (qD D) (natT ts) := rfl
    rw [e1, e2, e3, ih]
    have e4 : qD D t.2.toNat = (fQ D t.2 : Int) := rfl
    rw [e4]
    rcases Int.le_total 0 t.1 with h | h
    · have h0 : (-t.1).toNat = 0 := by omega
      have h1 : (t.1.toNat : Int) = t.1 := by omega
      rw [h0, Nat.zero_mul, Nat.zero_add, Int.natCast_add, Int.natCast_mul, h1]; omega
    · have h0 : t.1.toNat = 0 := by omega
      have h1 : ((-t.1).toNat : Int) = -t.1 := by omega
      rw [h0, Nat.zero_mul, Nat.zero_add, Int.natCast_add, Int.natCast_mul, h1, Int.neg_mul]; omega
def absS (ts : List (Int × Int)) : Int := Tw.sumA (natT ts)
theorem absS_cons (t : Int × Int) (ts : List (Int × Int)) : absS (t :: ts) = (t.1.natAbs : Int) + absS ts := rfl
theorem enc_one (D : Nat) (ts : List (Int × Int)) : (encP (fQ1 D) ts : Int) - encP (fQ D) ts + (encN (fQ1 D) ts - encN (fQ D) ts) = absS ts := by
  induction ts with
  | nil => rfl
  | cons t ts ih =>
    have e1 : ∀ f, encP f (t :: ts) = t.1.toNat * f t.2 + encP f ts := fun f => rfl
    have e2 : ∀ f, encN f (t :: ts) = (-t.1).toNat * f t.2 + encN f ts := fun f => rfl
    have e3 : fQ1 D t.2 = fQ D t.2 + 1 := rfl
    rw [e1, e2, e1, e2, e3, absS_cons, Nat.mul_add, Nat.mul_add, ← ih]
    omega
theorem sqfr_of {r : Int} (h1 : 1 ≤ r) (h : SqF r) : Tw.SqFr r.toNat := by
  refine ⟨by omega, fun d hd hdv => ?_⟩
  apply h (d : Int) (by omega)
  obtain ⟨k, hk⟩ := hdv
  refine ⟨(k : Int), ?_⟩
  have : (r.toNat : Int) = (d * d * k : Nat) := by rw [hk]
  rw [Int.natCast_mul, Int.natCast_mul] at this
  omega
/-- Different roots without squares, few and not too great: their signs are decided. -/
structure Fine (ts : List (Int × Int)) : Prop where
  len : ts.length ≤ 8
  rt : ∀ t ∈ ts, 1 ≤ t.2 ∧ t.2 ≤ 1000 ∧ SqF t.2
  nd : (ts.map (·.2)).Nodup
  cf : ∀ t ∈ ts, t.1 ≠ 0
  abs : absS ts ≤ 1099511627776
theorem natT_map (ts : List (Int × Int)) (h : ∀ t ∈ ts, 1 ≤ t.2) (hn : (ts.map (·.2)).Nodup) : ((natT ts).map (·.2)).Nodup := by
  unfold natT
  rw [List.map_map, List.Nodup, List.pairwise_map] at *
  refine hn.imp_of_mem ?_
  intro a b ha hb hab e
  have h1 := h a ha
  have h2 := h b hb
  apply hab
  have e' : a.2.toNat = b.2.toNat := e
  omega
theorem fine_far {ts : List (Int × Int)} (h : Fine ts) (hne : ts ≠ []) : absS ts < ((Tw.sumQ (qD 6656) (natT ts)).natAbs : Int) := by
  have h1 := roots_far 6656 7 1099511627776 (natT ts) (by simpa [natT] using hne) (by simpa [natT] using h.len) (by decide) (fun t ht => by
    obtain ⟨u, hu, rfl⟩ := List.mem_map.1 ht
    have := h.rt u hu
    exact ⟨sqfr_of this.1 this.2.2, by show u.2.toNat ≤ 1000; omega⟩) (natT_map ts (fun t ht => (h.rt t ht).1) h.nd) (fun t ht => by
    obtain ⟨u, hu, rfl⟩ := List.mem_map.1 ht
    exact h.cf u hu) h.abs (num_up 1099511627776 50 7 6656 (by decide) (by decide))
  have := h.abs
  omega
theorem fine_decides {ts : List (Int × Int)} (h : Fine ts) : Decides ts := by
  by_cases hne : ts = []
  · subst hne; left; simp [encP, encN]
  · have h1 := fine_far h hne
    rw [sumQ_enc] at h1
    have h2 := enc_one 6656 ts
    have h3 : encP (fQ 6656) ts ≤ encP (fQ1 6656) ts := encP_lt (fQ 6656) ts
    have h4 : encN (fQ 6656) ts ≤ encN (fQ1 6656) ts := encN_lt (fQ 6656) ts
    unfold Decides
    omega
end Go.Proofs.YtkjclafbpocabaaGreatDoor

/-! ## S43 -/
namespace Go.Proofs.YtkjclafbpocabaaGreatDoor
open Go.RowKit Go.Maps Go.Shelf Go.Sort

theorem own_keys {w : World} {b n : Nat} {D : DataW Unit} (h : w.ownsMap Tryz.prog 3 (plainElem Tryz.prog 3) b n D) : ∃ es, D = .map es ∧ ∀ p ∈ es, ∃ r : Int, p.1 = .int .i64 r := by
  obtain ⟨es, clock, _, F, _, rfl⟩ := h
  refine ⟨_, rfl, fun p hp => ?_⟩
  obtain ⟨x, hx, rfl⟩ := List.mem_map.1 (mem_sorted.1 hp)
  obtain ⟨y, hy⟩ := F.reads x hx
  rw [WideElems.rg_of hy]
  obtain ⟨r, _, hr, _⟩ := Maps.keyOf_int_inv und3 (WideElems.rd_key hy)
  exact ⟨r, hr⟩
theorem own_size {w : World} {b n : Nat} {D : DataW Unit} {c : Int → Int} (h : w.ownsMap Tryz.prog 3 (plainElem Tryz.prog 3) b n D) (hs : SumD D c) : (∃ r, c r ≠ 0) ↔ Maps.size D ≠ 0 := by
  obtain ⟨es, rfl, hk⟩ := own_keys h
  constructor
  · rintro ⟨r, hr⟩ h0
    have h1 := has_true_of_atKey ((hs.2 r).1 hr)
    have : es = [] := List.length_eq_zero_iff.1 h0
    subst this
    cases h1
  · intro h0
    match es, h0 with
    | p :: es, _ =>
      obtain ⟨r, hr⟩ := hk p (by simp)
      refine ⟨r, fun hc => ?_⟩
      have := (hs.2 r).2 hc
      rw [has_eq, List.any_cons, hr] at this
      simp [Lit.sameKey] at this
/-- A sum's terms are fine. -/
theorem fine_of {c : Int → Int} {ts : List (Int × Int)} (h : IsColl c ts) (hr : ∀ r, c r ≠ 0 → 1 ≤ r ∧ r ≤ 1000 ∧ SqF r) (hl : ts.length ≤ 8) (ha : absS ts ≤ 1099511627776) : Fine ts :=
  ⟨hl, fun t ht => by have := h.2.1 t ht; exact hr t.2 (by rw [this.1]; exact this.2), h.1, fun t ht => (h.2.1 t ht).2, ha⟩
theorem coll_perm {c : Int → Int} {ts us : List (Int × Int)} (h : IsColl c ts) (g : IsColl c us) : ts.Perm us := by
  have nd : ∀ {l : List (Int × Int)}, (l.map (·.2)).Nodup → l.Nodup := fun {l} hn => by
    rw [List.Nodup, List.pairwise_map] at hn
    exact hn.imp (fun hab e => hab (by rw [e]))
  refine (List.perm_ext_iff_of_nodup (nd h.1) (nd g.1)).2 (fun t => ⟨fun ht => ?_, fun ht => ?_⟩)
  · have h1 := h.2.1 t ht
    have := g.2.2 t.2 (by rw [h1.1]; exact h1.2)
    rwa [h1.1] at this
  · have h1 := g.2.1 t ht
    have := h.2.2 t.2 (by rw [h1.1]; exact h1.2)
    rwa [h1.1] at this
theorem encP_perm (f : Int → Nat) {ts us : List (Int × Int)} (h : ts.Perm us) : encP f ts = encP f us := by
  unfold encP; exact (h.map _).sum_nat
theorem encN_perm (f : Int → Nat) {ts us : List (Int × Int)} (h : ts.Perm us) : encN f ts = encN f us := by
  unfold encN; exact (h.map _).sum_nat
theorem sgnL_perm {ts us : List (Int × Int)} (h : ts.Perm us) : sgnL ts = sgnL us := by
  unfold sgnL; rw [encP_perm _ h, encN_perm _ h]
/-- The sign of a sum; 0 for none. -/
def sgnZ (ts : List (Int × Int)) : Int := if ts = [] then 0 else sgnL ts

def SgnZTo (c : Int → Int) (w : World) (e : Ending) (w' : World) : Prop := ∃ ts, IsColl c ts ∧ ts.length ≤ 1000 ∧ e = .returned (.int .i64 (sgnZ ts)) ∧ Below w.heap.size w w'
set_option maxRecDepth 100000 in
set_option maxHeartbeats 2000000 in
theorem sign_sum (B n : Nat) (c : Int → Int) (w : World) (hs : OwnSum w B n c) (hn : n ≤ 1000)
    (hcr : Hid (∀ r, c r ≠ 0 → 1 ≤ r ∧ r ≤ 1000)) (hcb : Hid (∀ r, -9000000000000000000 ≤ c r ∧ c r ≤ 9000000000000000000)) (hdec : Hid (∀ ts, IsColl c ts → Decides ts)) :
    Calls Tryz.prog 118 #[.map (some B)] w (SgnZTo c w) := by
  obtain ⟨D, hown, hsd⟩ := hs
  have hsz := own_size hown hsd
  have hsl := hown.size_le
  have HS : Hid (OwnSum w B n c) := Lib.hid ⟨D, hown, hsd⟩
  clear hsd
  obtain ⟨sz, hsz'⟩ : ∃ sz, Maps.size D = sz := ⟨_, rfl⟩
  rw [hsz'] at hsz hsl
  have HSZ := Lib.hid hsz'
  clear hsz'
  by_cases h0 : ∃ r, c r ≠ 0
  · have hz : sz ≠ 0 := hsz.1 h0
    have hz' : ((sz : Int) == 0) = false := by simp; omega
    have HREF := Lib.hid (refine_sign B n c w HS.out hn hcr hcb (Lib.hid h0) hdec)
    have H0 := Lib.hid h0
    clear hsz hz h0
    go_enter Tryz.func118, Tryz.ntmps118
    go_wp2_with (at_len; refine wpList_len_own _ rfl _ 152 rfl 3 3 und67 _ B n D rfl hown ?_; rw [HSZ.out])
    refine HREF.out.mono ?_
    rintro e w2 ⟨ts, hcoll, hlen, rfl, hb2⟩
    have HR : Hid (sgnZ ts = sgnL ts) := Lib.hid (by
      unfold sgnZ; rw [if_neg]
      obtain ⟨r, hr⟩ := H0.out
      intro e; subst e; exact absurd (hcoll.2.2 r hr) (by simp))
    have HC := Lib.hid hcoll
    have HB := Lib.hid hb2
    clear hcoll hb2
    go_wp2
    go_ret
    exact ⟨ts, HC.out, hlen, by rw [HR.out]; rfl, HB.out⟩
  · have hz : sz = 0 := by
      apply Classical.byContradiction
      intro h; exact h0 (hsz.2 h)
    subst hz
    have hco : Hid (IsColl c []) := Lib.hid ⟨by simp, by simp, fun r hr => absurd ⟨r, hr⟩ h0⟩
    clear hsz h0
    go_enter Tryz.func118, Tryz.ntmps118
    go_wp2_with (at_len; refine wpList_len_own _ rfl _ 152 rfl 3 3 und67 _ B n D rfl hown ?_; rw [HSZ.out])
    go_ret
    exact ⟨[], hco.out, by simp, rfl, Below.refl _ _⟩
end Go.Proofs.YtkjclafbpocabaaGreatDoor

/-! ## S44 -/
namespace Go.Proofs.YtkjclafbpocabaaGreatDoor
open Go.RowKit Go.Maps Go.Shelf Go.Sort

def mulS (m : Int) (l : List (Int × Int)) : List (Int × Int) := l.map fun t => (m * t.1, t.2)
theorem coefOf_cons (t : Int × Int) (l : List (Int × Int)) (r : Int) : coefOf (t :: l) r = (if t.2 = r then t.1 else 0) + coefOf l r := by
  have key : ∀ (l : List (Int × Int)) (s : Int), l.foldl (fun s t => if t.2 = r then s + t.1 else s) s = s + l.foldl (fun s t => if t.2 = r then s + t.1 else s) 0 := by
    intro l
    induction l with
    | nil => intro s; simp
    | cons t l ih =>
      intro s
      simp only [List.foldl_cons]
      rw [ih, ih (if t.2 = r then 0 + t.1 else 0)]
      by_cases h : t.2 = r <;> simp [h] <;> omega
  unfold coefOf
  rw [List.foldl_cons, key]
  by_cases h : t.2 = r <;> simp [h]
theorem coefOf_in {l : List (Int × Int)} (hn : (l.map (·.2)).Nodup) {t : Int × Int} (ht : t ∈ l) : coefOf l t.2 = t.1 := by
  induction l with
  | nil => cases ht
  | cons u l ih =>
    rw [List.map_cons, List.nodup_cons] at hn
    rw [coefOf_cons]
    rcases List.mem_cons.1 ht with rfl | ht
    · have : coefOf l t.2 = 0 := by
        apply Classical.byContradiction
        intro h
        obtain ⟨v, hv, e⟩ := coefOf_ne h
        exact hn.1 (List.mem_map.2 ⟨v, hv, e⟩)
      rw [this]; simp
    · have hne : u.2 ≠ t.2 := fun e => hn.1 (List.mem_map.2 ⟨t, ht, e.symm⟩)
      rw [if_neg hne, ih hn.2 ht]; omega
theorem coll_mulS {l : List (Int × Int)} (hn : (l.map (·.2)).Nodup) (h0 : ∀ t ∈ l, t.1 ≠ 0) {m : Int} (hm : m ≠ 0) : IsColl (plusC zeroC m l) (mulS m l) := by
  have e : ∀ r, plusC zeroC m l r = m * coefOf l r := fun r => by simp [plusC, zeroC]
  refine ⟨?_, ?_, ?_⟩
  · unfold mulS; rw [List.map_map]; exact hn
  · intro t ht
    obtain ⟨u, hu, rfl⟩ := List.mem_map.1 ht
    refine ⟨?_, ?_⟩
    · show plusC zeroC m l u.2 = m * u.1
      rw [e, coefOf_in hn hu]
    · exact Int.mul_ne_zero hm (h0 u hu)
  · intro r hr
    rw [e] at hr ⊢
    have hr' : coefOf l r ≠ 0 := fun h => hr (by rw [h]; simp)
    obtain ⟨t, ht, rfl⟩ := coefOf_ne hr'
    rw [coefOf_in hn ht]
    exact List.mem_map.2 ⟨t, ht, rfl⟩
theorem mulS_one (l : List (Int × Int)) : mulS 1 l = l := by
  unfold mulS
  conv => rhs; rw [← List.map_id l]
  congr 1; funext t; simp
theorem vld_nodup {d : Int} {l : List (Int × Int)} (h : Vld d l) : (l.map (·.2)).Nodup := by
  have key : ∀ i j, i < j → j < l.length → (l[i]?.getD (0, 0)).2 < (l[j]?.getD (0, 0)).2 := by
    intro i j hij hj
    induction j with
    | zero => omega
    | succ j ih =>
      have h1 := h.asc (j + 1) (by omega) hj
      rw [Nat.add_sub_cancel] at h1
      by_cases e : i = j
      · rw [e]; exact h1
      · have := ih (by omega) (by omega); omega
  rw [List.Nodup, List.pairwise_map, List.pairwise_iff_getElem]
  intro i j hi hj hij e
  have := key i j hij hj
  simp [hi, hj] at this
  omega
theorem vld_coll {d : Int} {l : List (Int × Int)} (h : Vld d l) : IsColl (plusC zeroC 1 l) l := by
  have := coll_mulS (vld_nodup h) (fun t ht => (h.cf t ht).2.2) (m := 1) (by decide)
  rwa [mulS_one] at this
theorem absS_le (l : List (Int × Int)) (K : Int) (h : ∀ t ∈ l, -K ≤ t.1 ∧ t.1 ≤ K) : absS l ≤ K * l.length := by
  induction l with
  | nil => simp [absS, natT, Tw.sumA]
  | cons t l ih =>
    rw [absS_cons, List.length_cons]
    have h1 := ih (fun u hu => h u (by simp [hu]))
    have h2 := h t (by simp)
    rw [Int.natCast_add, Int.mul_add]
    omega
theorem vld_fine {d : Int} {l : List (Int × Int)} (h : Vld d l) : Fine l := by
  refine ⟨by have := h.len; omega, fun t ht => ⟨(h.rt t ht).1, (h.rt t ht).2, h.sq t ht⟩, vld_nodup h, fun t ht => (h.cf t ht).2.2, ?_⟩
  have h1 := absS_le l 100000 (fun t ht => ⟨(h.cf t ht).1, (h.cf t ht).2.1⟩)
  have := h.len
  omega
theorem plus1 {d : Int} {l : List (Int × Int)} (h : Vld d l) : ∀ r, plusC zeroC 1 l r ≠ 0 → 1 ≤ r ∧ r ≤ 1000 := by
  intro r hr
  have : coefOf l r ≠ 0 := fun e => hr (by simp [plusC, zeroC, e])
  obtain ⟨t, ht, rfl⟩ := coefOf_ne this
  exact h.rt t ht
/-- The terms of a difference of numbers are fine. -/
theorem comb_fine {dx dy s : Int} {lx ly ts : List (Int × Int)} (vx : Vld dx lx) (vy : Vld dy ly) (hs : s = 1 ∨ s = -1) (h : IsColl (combC dx lx dy ly s) ts) : Fine ts := by
  have hroot : ∀ r, combC dx lx dy ly s r ≠ 0 → ∃ t ∈ lx ++ ly, t.2 = r := by
    intro r hr
    by_cases h1 : coefOf lx r = 0
    · by_cases h2 : coefOf ly r = 0
      · exact absurd (by simp [combC, plusC, zeroC, h1, h2]) hr
      · obtain ⟨t, ht, e⟩ := coefOf_ne h2; exact ⟨t, by simp [ht], e⟩
    · obtain ⟨t, ht, e⟩ := coefOf_ne h1; exact ⟨t, by simp [ht], e⟩
  have hmem : ∀ t ∈ ts, ∃ u ∈ lx ++ ly, u.2 = t.2 := fun t ht => by
    have := h.2.1 t ht
    exact hroot t.2 (by rw [this.1]; exact this.2)
  have hlen : ts.length ≤ 8 := by
    have h1 : (ts.map (·.2)) ⊆ ((lx ++ ly).map (·.2)) := by
      intro r hr
      obtain ⟨t, ht, rfl⟩ := List.mem_map.1 hr
      obtain ⟨u, hu, e⟩ := hmem t ht
      exact List.mem_map.2 ⟨u, hu, e⟩
    have h2 := List.Nodup.length_le_of_subset h.1 h1
    simp at h2
    have := vx.len
    have := vy.len
    omega
  have hcf : ∀ t ∈ ts, -80000000000 ≤ t.1 ∧ t.1 ≤ 80000000000 := fun t ht => by
    have h1 := h.2.1 t ht
    have hd1 := vx.d1
    have hd2 := vx.d2
    have hd3 := vy.d1
    have hd4 := vy.d2
    have hs1 : -100000 ≤ s * dx := by rcases hs with rfl | rfl <;> omega
    have hs2 : s * dx ≤ 100000 := by rcases hs with rfl | rfl <;> omega
    have hB1 := plus_bd zeroC dy lx 0 100000 100000 (fun r => by simp [zeroC]) (by omega) (by omega) (by omega) (fun t ht => ⟨(vx.cf t ht).1, (vx.cf t ht).2.1⟩) (by omega) 4 vx.len
    have hB1f : ∀ r, -40000000000 ≤ plusC zeroC dy lx r ∧ plusC zeroC dy lx r ≤ 40000000000 := fun r => by have := hB1 lx.length (Nat.le_refl _) r; rw [List.take_length] at this; omega
    have hB2 := plus_bd (plusC zeroC dy lx) (s * dx) ly 40000000000 100000 100000 hB1f (by omega) (by omega) (by omega) (fun t ht => ⟨(vy.cf t ht).1, (vy.cf t ht).2.1⟩) (by omega) 4 vy.len
    have := hB2 ly.length (Nat.le_refl _) t.2
    rw [List.take_length] at this
    have e : combC dx lx dy ly s t.2 = plusC (plusC zeroC dy lx) (s * dx) ly t.2 := rfl
    rw [e] at h1
    omega
  refine ⟨hlen, fun t ht => ?_, h.1, fun t ht => (h.2.1 t ht).2, ?_⟩
  · obtain ⟨u, hu, e⟩ := hmem t ht
    rw [← e]
    rcases List.mem_append.1 hu with h1 | h1
    · exact ⟨(vx.rt u h1).1, (vx.rt u h1).2, vx.sq u h1⟩
    · exact ⟨(vy.rt u h1).1, (vy.rt u h1).2, vy.sq u h1⟩
  · have := absS_le ts 80000000000 hcf
    omega
theorem comb_rt {dx dy s : Int} {lx ly : List (Int × Int)} (vx : Vld dx lx) (vy : Vld dy ly) : ∀ r, combC dx lx dy ly s r ≠ 0 → 1 ≤ r ∧ r ≤ 1000 := by
  intro r hr
  by_cases h1 : coefOf lx r = 0
  · by_cases h2 : coefOf ly r = 0
    · exact absurd (by simp [combC, plusC, zeroC, h1, h2]) hr
    · obtain ⟨t, ht, e⟩ := coefOf_ne h2; rw [← e]; exact vy.rt t ht
  · obtain ⟨t, ht, e⟩ := coefOf_ne h1; rw [← e]; exact vx.rt t ht

def IntTo (n : Int) (w : World) (e : Ending) (w' : World) : Prop := e = .returned (.int .i64 n) ∧ Below w.heap.size w w'
set_option maxRecDepth 100000 in
set_option maxHeartbeats 2000000 in
theorem signOf_any (d : Int) (v : Value) (l : List (Int × Int)) (w : World) (ht : TermsAt w v l) (hv : Vld d l) :
    Calls Tryz.prog 108 #[.agg #[.int .i64 d, v]] w (IntTo (sgnZ l) w) := by
  have hmm := @run_makeMap Tryz.prog
  have HT := Lib.hid ht
  have HV := Lib.hid hv
  clear ht hv
  have K1 : Hid (∀ t ∈ l, -1000000000000 ≤ t.2 ∧ t.2 ≤ 1000000000000 ∧ -9000000000000000000 ≤ 1 * t.1 ∧ 1 * t.1 ≤ 9000000000000000000) := Lib.hid (fun t ht => by have := HV.out.cf t ht; have := HV.out.rt t ht; omega)
  have hB := plus_bd zeroC 1 l 0 1 100000 (fun r => by simp [zeroC]) (by omega) (by omega) (by omega) (fun t ht => ⟨(HV.out.cf t ht).1, (HV.out.cf t ht).2.1⟩) (by omega) 4 HV.out.len
  have C1 : Hid (∀ k, k ≤ l.length → ∀ r, -9000000000000000000 ≤ plusC zeroC 1 (l.take k) r ∧ plusC zeroC 1 (l.take k) r ≤ 9000000000000000000) := Lib.hid (fun k hk r => by have := hB k hk r; omega)
  have C2 : Hid (∀ r, -9000000000000000000 ≤ plusC zeroC 1 l r ∧ plusC zeroC 1 l r ≤ 9000000000000000000) := Lib.hid (fun r => by have := hB l.length (Nat.le_refl _) r; rw [List.take_length] at this; omega)
  have R2 : Hid (∀ r, plusC zeroC 1 l r ≠ 0 → 1 ≤ r ∧ r ≤ 1000) := Lib.hid (plus1 HV.out)
  have DD : Hid (∀ ts, IsColl (plusC zeroC 1 l) ts → Decides ts) := Lib.hid (fun ts hts => by
    have hp := coll_perm (vld_coll HV.out) hts
    have := fine_decides (vld_fine HV.out)
    unfold Decides at this ⊢
    rwa [encP_perm _ hp, encN_perm _ hp, encP_perm _ hp, encN_perm _ hp] at this)
  clear hB
  go_enter Tryz.func108, Tryz.ntmps108
  go_wp2_with fail
  refine (add_at (w.heap.size + 1) 0 zeroC 1 v l _ ((HT.out.alloc _).alloc _) (HT.out.blk (by omega)) (by have := HV.out.len; omega) (by omega) (ownSum_made (by simp)) K1 C1).mono ?_
  rintro e w1 ⟨rfl, ho1, hg1⟩
  have HB1 : Hid (Below w.heap.size w w1) := Lib.hid ((((Below.refl _ _).alloc (Nat.le_refl _) _).alloc (by simp) _).grown hg1 (by simp; omega) (by intro k hk; cases hk; omega))
  have HO1 := Lib.hid ho1
  clear hg1 ho1
  go_wp2_with fail
  refine (sign_sum (w.heap.size + 1) (0 + l.length) _ _ HO1.out (by have := HV.out.len; omega) R2 C2 DD).mono ?_
  rintro e w2 ⟨ts, hcoll, hlen, rfl, hb2⟩
  have HE : Hid (sgnZ ts = sgnZ l) := Lib.hid (by
    have hp := coll_perm hcoll (vld_coll HV.out)
    unfold sgnZ
    rw [sgnL_perm hp]
    by_cases e : ts = []
    · subst e; rw [List.nil_perm.1 hp]
    · have : l ≠ [] := by intro e2; subst e2; exact e (List.perm_nil.1 hp)
      rw [if_neg e, if_neg this])
  have HB2 := Lib.hid (HB1.out.trans (hb2.mono HB1.out.size))
  clear hcoll hlen hb2
  rw [HE.out]
  go_wp2
  go_ret
  exact ⟨rfl, HB2.out⟩
def Int2To (n e0 : Int) (w : World) (e : Ending) (w' : World) : Prop := e = .returned (.tuple #[.int .i64 n, .int .i64 e0]) ∧ Below w.heap.size w w'
set_option maxRecDepth 100000 in
set_option maxHeartbeats 2000000 in
theorem sign_any (d : Int) (v : Value) (l : List (Int × Int)) (w : World) (ht : TermsAt w v l) :
    Calls Tryz.prog 57 #[.agg #[.int .i64 d, v]] w (Int2To (if validF d l = true then sgnZ l else 0) (if validF d l = true then 0 else 2) w) := by
  have HT := Lib.hid ht
  have XX := Lib.hid (Two.new w (.int .i64 d) v 34)
  have BB : Hid (Below w.heap.size w (w.alloc (.cells #[.int .i64 d, v] 34))) := Lib.hid ((Below.refl _ _).alloc (Nat.le_refl _) _)
  clear ht
  cases hv : validF d l
  · have HV := Lib.hid hv
    simp only [Bool.false_eq_true, if_false]
    clear hv
    go_enter Tryz.func57, Tryz.ntmps57
    go_wp2_with fail
    refine (valid_any d v l _ (HT.out.alloc _)).mono ?_
    rintro e w1 ⟨rfl, hb⟩
    have HB := Lib.hid (BB.out.trans (hb.mono BB.out.size))
    rw [HV.out]
    clear hb
    go_wp2
    go_ret2
    exact ⟨rfl, HB.out⟩
  · have HV := Lib.hid hv
    have HVL := Lib.hid (vld_of hv)
    simp only [if_true]
    clear hv
    go_enter Tryz.func57, Tryz.ntmps57
    go_wp2_with fail
    refine (valid_any d v l _ (HT.out.alloc _)).mono ?_
    rintro e w1 ⟨rfl, hb⟩
    have X1 := XX.out.below hb XX.out.lt
    have HB := Lib.hid (BB.out.trans (hb.mono BB.out.size))
    have x0 := X1.c0
    have x1 := X1.c1
    rw [HV.out]
    clear hb X1
    go_wp2_with fail
    refine (signOf_any d v l _ (HT.out.below HB.out) HVL.out).mono ?_
    rintro e w2 ⟨rfl, hb2⟩
    have HB2 := Lib.hid (HB.out.trans (hb2.mono HB.out.size))
    clear hb2 x0 x1
    go_wp2
    go_ret2
    exact ⟨rfl, HB2.out⟩
def CmpTo (dx : Int) (lx : List (Int × Int)) (dy : Int) (ly : List (Int × Int)) (w : World) (e : Ending) (w' : World) : Prop :=
  (if validF dx lx = true ∧ validF dy ly = true then ∃ ts, IsColl (combC dx lx dy ly (-1)) ts ∧ e = .returned (.tuple #[.int .i64 (sgnZ ts), .int .i64 0]) else e = .returned (.tuple #[.int .i64 0, .int .i64 2])) ∧ Below w.heap.size w w'
set_option maxRecDepth 100000 in
set_option maxHeartbeats 2000000 in
theorem compareN_any (dx dy : Int) (vx vy : Value) (lx ly : List (Int × Int)) (w : World) (hx : TermsAt w vx lx) (hy : TermsAt w vy ly) :
    Calls Tryz.prog 61 #[.agg #[.int .i64 dx, vx], .agg #[.int .i64 dy, vy]] w (CmpTo dx lx dy ly w) := by
  have HX := Lib.hid hx
  have HY := Lib.hid hy
  clear hx hy
  go_enter Tryz.func61, Tryz.ntmps61
  go_wp2_with fail
  refine (valid_any dx vx lx _ ((HX.out.alloc _).alloc _)).mono ?_
  rintro e w1 ⟨rfl, hb⟩
  have X1 : Two w1 w.heap.size (.int .i64 dx) vx 34 := ((Two.new w (.int .i64 dx) vx 34).alloc _).below hb (by simp; omega)
  have Y1 : Two w1 (w.heap.size + 1) (.int .i64 dy) vy 34 := by
    have := (Two.new (w.alloc (.cells #[.int .i64 dx, vx] 34)) (.int .i64 dy) vy 34).below hb (by simp)
    simpa using this
  have B1 : Below w.heap.size w w1 := (((Below.refl _ _).alloc (Nat.le_refl _) _).alloc (by simp) _).trans (hb.mono (by simp; omega))
  have XX := Lib.hid X1
  have YY := Lib.hid Y1
  have BB := Lib.hid B1
  have x0 := X1.c0
  have x1 := X1.c1
  have y0 := Y1.c0
  have y1 := Y1.c1
  clear hb X1 Y1 B1
  cases hvx : validF dx lx
  · have HP : Hid (¬ (validF dx lx = true ∧ validF dy ly = true)) := Lib.hid (by rw [hvx]; simp)
    clear hvx
    go_wp2
    go_ret2
    exact ⟨by rw [if_neg HP.out]; rfl, BB.out⟩
  · have HVX := Lib.hid hvx
    clear hvx
    go_wp2_with fail
    refine (valid_any dy vy ly _ (HY.out.below BB.out)).mono ?_
    rintro e w2 ⟨rfl, hb⟩
    have X2 := XX.out.below hb XX.out.lt
    have Y2 := YY.out.below hb YY.out.lt
    have BB2 := Lib.hid (BB.out.trans (hb.mono BB.out.size))
    clear x0 x1 y0 y1 XX YY
    have x0 := X2.c0
    have x1 := X2.c1
    have y0 := Y2.c0
    have y1 := Y2.c1
    clear hb X2 Y2
    cases hvy : validF dy ly
    · have HP : Hid (¬ (validF dx lx = true ∧ validF dy ly = true)) := Lib.hid (by rw [hvy]; simp)
      clear hvy
      go_wp2
      go_ret2
      exact ⟨by rw [if_neg HP.out]; rfl, BB2.out⟩
    · have HP : Hid (validF dx lx = true ∧ validF dy ly = true) := Lib.hid ⟨HVX.out, hvy⟩
      have VX := Lib.hid (vld_of HVX.out)
      have VY := Lib.hid (vld_of hvy)
      clear hvy
      go_wp2_with fail
      refine (combined_any dx dy (-1) vx vy lx ly _ (HX.out.below BB2.out) (HY.out.below BB2.out) VX.out VY.out (.inr rfl)).mono ?_
      rintro e w3 ⟨B, rfl, ho, hb3⟩
      have HO := Lib.hid ho
      have HB3 := Lib.hid (BB2.out.trans (hb3.mono BB2.out.size))
      clear ho hb3 x0 x1 y0 y1
      go_wp2_with fail
      refine (sign_sum B 1000 _ _ HO.out (by omega) (Lib.hid (comb_rt VX.out VY.out)) (Lib.hid (combC_bd VX.out VY.out (.inr rfl)).2) (Lib.hid (fun ts hts => fine_decides (comb_fine VX.out VY.out (.inr rfl) hts)))).mono ?_
      rintro e w4 ⟨ts, hcoll, hlen, rfl, hb4⟩
      have HC := Lib.hid hcoll
      have HB4 := Lib.hid (HB3.out.trans (hb4.mono HB3.out.size))
      clear hcoll hlen hb4
      go_wp2
      go_ret2
      exact ⟨by rw [if_pos HP.out]; exact ⟨ts, HC.out, rfl⟩, HB4.out⟩
end Go.Proofs.YtkjclafbpocabaaGreatDoor

/-! ## A3 -/
namespace Go.Proofs.YtkjclafbpocabaaGreatDoor
open Go.RowKit Go.Maps
theorem isAbove0_any (d : Int) (v : Value) (l : List (Int × Int)) (w : World) (h : TermsAt w v l) (hv : Hid (validF d l = true)) (hs : Hid (sgnZ l = 1)) :
    Calls Tryz.prog 180 #[.agg #[.int .i64 d, v]] w (AnsB true w) := by
  have BB : Hid (Below w.heap.size w (w.alloc (.cells #[.int .i64 d, v] 34))) := Lib.hid ((Below.refl _ _).alloc (Nat.le_refl _) _)
  have HS := Lib.hid (sign_any d v l _ (h.below BB.out))
  clear h
  go_enter Tryz.func180, Tryz.ntmps180
  go_wp2_with fail
  refine HS.out.mono ?_
  rintro e w2 ⟨rfl, hb⟩
  have HB := Lib.hid (BB.out.trans (hb.mono BB.out.size))
  rw [hv.out, hs.out]
  clear hb
  go_wp2
  go_ret
  exact ⟨rfl, HB.out⟩
theorem nums_lit2 {w : World} {b : Nat} (hb : w.heap.size = b) (x y : Int × List (Int × Int)) (u v : Value) (hx : TermsAt w u x.2) (hy : TermsAt w v y.2) (T : TypeId) : NumsAt (w.alloc (.cells #[.int .i64 x.1, u, .int .i64 y.1, v] T)) (.slice (some ⟨b, 0, none⟩) 2 2) [x, y] := by
  subst hb
  refine ⟨w.heap.size, 0, 2, rfl, by simp, by simp, by simp, fun i hi => ?_⟩
  have hn := World.alloc_heap_new w (.cells #[.int .i64 x.1, u, .int .i64 y.1, v] T)
  have tx := hx.alloc (.cells #[.int .i64 x.1, u, .int .i64 y.1, v] T)
  have ty := hy.alloc (.cells #[.int .i64 x.1, u, .int .i64 y.1, v] T)
  have hi' : i = 0 ∨ i = 1 := by simp at hi; omega
  generalize w.alloc (.cells #[.int .i64 x.1, u, .int .i64 y.1, v] T) = W at hn tx ty ⊢
  rcases hi' with rfl | rfl
  · exact ⟨by simp [World.cell?, hn], u, by simp [World.cell?, hn], tx⟩
  · exact ⟨by simp [World.cell?, hn], v, by simp [World.cell?, hn], ty⟩
set_option maxRecDepth 100000 in
set_option maxHeartbeats 1000000 in
theorem checkGrowth_ok (d1 d2 : Int) (v1 v2 vy : Value) (l1 l2 : List (Int × Int)) (ys : List Int) (w : World) (h1 : TermsAt w v1 l1) (h2 : TermsAt w v2 l2) (hy : MarksAt w vy ys)
    (k1 : Hid (validF d1 l1 = true)) (k2 : Hid (validF d2 l2 = true)) (k3 : Hid (sgnZ l1 = 1)) (k4 : Hid (0 ≤ sgnZ l2)) (k5 : Hid (ys.all isYearF = true)) :
    Calls Tryz.prog 124 #[.agg #[.int .i64 d1, v1], .agg #[.int .i64 d2, v2], vy] w fun e w' => e = .returned (.int .i64 0) ∧ Below w.heap.size w w' := by
  obtain ⟨a1, c1, rfl, _⟩ := h1.placed
  obtain ⟨a2, c2, rfl, _⟩ := h2.placed
  obtain ⟨ay, cy, rfl, _⟩ := hy.placed
  have b2 : Below w.heap.size w ((w.alloc (.cells #[.int .i64 d1, .slice a1 l1.length c1] 34)).alloc (.cells #[.int .i64 d2, .slice a2 l2.length c2] 34)) := ((Below.refl _ w).alloc (Nat.le_refl _) _).alloc (by simp) _
  have X := (Two.new w (.int .i64 d1) (.slice a1 l1.length c1) 34).alloc (.cells #[.int .i64 d2, .slice a2 l2.length c2] 34)
  have Y : Two ((w.alloc (.cells #[.int .i64 d1, .slice a1 l1.length c1] 34)).alloc (.cells #[.int .i64 d2, .slice a2 l2.length c2] 34)) (w.heap.size + 1) (.int .i64 d2) (.slice a2 l2.length c2) 34 := by
    have := Two.new (w.alloc (.cells #[.int .i64 d1, .slice a1 l1.length c1] 34)) (.int .i64 d2) (.slice a2 l2.length c2) 34
    simpa using this
  have hn := nums_lit2 (w := (w.alloc (.cells #[.int .i64 d1, .slice a1 l1.length c1] 34)).alloc (.cells #[.int .i64 d2, .slice a2 l2.length c2] 34)) (b := w.heap.size + 1 + 1) (by simp) (d1, l1) (d2, l2) _ _ (h1.below b2) (h2.below b2) 34
  have hall : List.all [(d1, l1), (d2, l2)] isNumF = true := by simp [isNumF, k1.out, k2.out]
  have he := aevery_num _ _ _ hn
  rw [hall] at he
  have b3 := b2.alloc b2.size (.cells #[.int .i64 d1, .slice a1 l1.length c1, .int .i64 d2, .slice a2 l2.length c2] 34)
  have X3 := X.alloc (.cells #[.int .i64 d1, .slice a1 l1.length c1, .int .i64 d2, .slice a2 l2.length c2] 34)
  have Y3 := Y.alloc (.cells #[.int .i64 d1, .slice a1 l1.length c1, .int .i64 d2, .slice a2 l2.length c2] 34)
  have HE := Lib.hid he
  have HX := Lib.hid X3
  have HY := Lib.hid Y3
  have HB := Lib.hid b3
  have H1 := Lib.hid h1
  have H2 := Lib.hid h2
  have H3 := Lib.hid hy
  clear b2 X Y hn hall he b3 X3 Y3 h1 h2 hy
  go_enter Tryz.func124, Tryz.ntmps124
  go_wp2_with fail
  refine HE.out.mono ?_
  rintro e w2 ⟨rfl, hb⟩
  have X2 := HX.out.below hb HX.out.lt
  have Y2 := HY.out.below hb HY.out.lt
  have HB2 := Lib.hid (HB.out.trans (hb.mono HB.out.size))
  have x0 := X2.c0
  have x1 := X2.c1
  have y0 := Y2.c0
  have y1 := Y2.c1
  have HX2 := Lib.hid X2
  clear hb X2 Y2 HE HX HY
  go_wp2_with fail
  refine (sign_any d2 _ l2 _ (H2.out.below HB2.out)).mono ?_
  rintro e w3 ⟨rfl, hb⟩
  have X3 := HX2.out.below hb HX2.out.lt
  have HB3 := Lib.hid (HB2.out.trans (hb.mono HB2.out.size))
  rw [if_pos k2.out, if_pos k2.out]
  obtain ⟨s2, hs2⟩ : ∃ s, sgnZ l2 = s := ⟨_, rfl⟩
  have hs0 : 0 ≤ s2 := by rw [← hs2]; exact k4.out
  rw [hs2]
  clear x0 x1 y0 y1 hb hs2
  have x0 := X3.c0
  have x1 := X3.c1
  clear X3
  go_wp2_with fail
  refine (isAbove0_any d1 _ l1 _ (H1.out.below HB3.out) k1 k3).mono ?_
  rintro e w4 ⟨rfl, hb⟩
  have HB4 := Lib.hid (HB3.out.trans (hb.mono HB3.out.size))
  clear x0 x1 hb
  go_wp2_with fail
  refine (aevery_int _ ys _ (H3.out.below HB4.out)).mono ?_
  rintro e w5 ⟨rfl, hb⟩
  have HB5 := Lib.hid (HB4.out.trans (hb.mono HB4.out.size))
  rw [k5.out]
  clear hb
  go_wp2
  go_ret
  exact ⟨rfl, HB5.out⟩
end Go.Proofs.YtkjclafbpocabaaGreatDoor
