/-
  Contracts of the program's own functions (and their plain mathematics), on the way to the law: each for all arguments that its hypotheses let.
-/
import Derived.Test.YtedpafdfecofnaaGreatDoorF19
import Derived.WalkKit
import Derived.WalkSpells
import Derived.WalkLawsBesides
import Derived.Deep.QuietTactic
import Derived.BigQuiet
import Derived.Lib.Hide
import Derived.WalkSmall
import Derived.Maps.OwnSet
import Derived.Maps.RangeWalk
import Derived.Deep.RegionWith
import Derived.Deep.RegionHeld3
import Derived.OneCell
import Derived.KernelRfl
import Derived.Laws.StructEq
import Derived.StillTailTactics
import Derived.Laws.Externs
import Derived.RangeFuncBox
import Derived.Test.YtedpafdfecofnaaGreatDoorPlain
set_option linter.unusedSimpArgs false
set_option linter.unusedVariables false

/-! ## S43 -/
namespace Go.Proofs.YtedpafdfecofnaaGreatDoor
open Go.RowKit Go.Maps Go.Shelf Go.Sort

theorem own_keys {w : World} {b n : Nat} {D : DataW Unit} (h : w.ownsMap Tryz.prog 3 (plainElem Tryz.prog 3) b n D) : ∃ es, D = .map es ∧ ∀ p ∈ es, ∃ r : Int, p.1 = .int .i64 r := by
  obtain ⟨es, clock, _, F, _, rfl⟩ := h
  refine ⟨_, rfl, fun p hp => ?_⟩
  obtain ⟨x, hx, rfl⟩ := List.mem_map.1 (mem_sorted.1 hp)
  obtain ⟨y, hy⟩ := F.reads x hx
  rw [WideElems.rg_of hy]
  obtain ⟨r, _, hr, _⟩ := Maps.keyOf_int_inv und3 (WideElems.rd_key hy)
  exact ⟨r, hr⟩
theorem own_size {w : World} {b n : Nat} {D : DataW Unit} {c : Int → Int} (h : w.ownsMap Tryz.prog 3 (plainElem Tryz.prog 3) b n D) (hs : SumD D c) : (∃ r, c r ≠ 0) ↔ Maps.size D ≠ 0 := by
  obtain ⟨es, rfl, hk⟩ := own_keys h
  constructor
  · rintro ⟨r, hr⟩ h0
    have h1 := has_true_of_atKey ((hs.2 r).1 hr)
    have : es = [] := List.length_eq_zero_iff.1 h0
    subst this
    cases h1
  · intro h0
    match es, h0 with
    | p :: es, _ =>
      obtain ⟨r, hr⟩ := hk p (by simp)
      refine ⟨r, fun hc => ?_⟩
      have := (hs.2 r).2 hc
      rw [has_eq, List.any_cons, hr] at this
      simp [Lit.sameKey] at this
/-- A sum's terms are fine. -/
theorem fine_of {c : Int → Int} {ts : List (Int × Int)} (h : IsColl c ts) (hr : ∀ r, c r ≠ 0 → 1 ≤ r ∧ r ≤ 1000 ∧ SqF r) (hl : ts.length ≤ 8) (ha : absS ts ≤ 1099511627776) : Fine ts :=
  ⟨hl, fun t ht => by have := h.2.1 t ht; exact hr t.2 (by rw [this.1]; exact this.2), h.1, fun t ht => (h.2.1 t ht).2, ha⟩
theorem coll_perm {c : Int → Int} {ts us : List (Int × Int)} (h : IsColl c ts) (g : IsColl c us) : ts.Perm us := by
  have nd : ∀ {l : List (Int × Int)}, (l.map (·.2)).Nodup → l.Nodup := fun {l} hn => by
    rw [List.Nodup, List.pairwise_map] at hn
    exact hn.imp (fun hab e => hab (by rw [e]))
  refine (List.perm_ext_iff_of_nodup (nd h.1) (nd g.1)).2 (fun t => ⟨fun ht => ?_, fun ht => ?_⟩)
  · have h1 := h.2.1 t ht
    have := g.2.2 t.2 (by rw [h1.1]; exact h1.2)
    rwa [h1.1] at this
  · have h1 := g.2.1 t ht
    have := h.2.2 t.2 (by rw [h1.1]; exact h1.2)
    rwa [h1.1] at this
theorem encP_perm (f : Int → Nat) {ts us : List (Int × Int)} (h : ts.Perm us) : encP f ts = encP f us := by
  unfold encP; exact (h.map _).sum_nat
theorem encN_perm (f : Int → Nat) {ts us : List (Int × Int)} (h : ts.Perm us) : encN f ts = encN f us := by
  unfold encN; exact (h.map _).sum_nat
theorem sgnL_perm {ts us : List (Int × Int)} (h : ts.Perm us) : sgnL ts = sgnL us := by
  unfold sgnL; rw [encP_perm _ h, encN_perm _ h]
/-- The sign of a sum; 0 for none. -/
def sgnZ (ts : List (Int × Int)) : Int := if ts = [] then 0 else sgnL ts

def SgnZTo (c : Int → Int) (w : World) (e : Ending) (w' : World) : Prop := ∃ ts, IsColl c ts ∧ ts.length ≤ 1000 ∧ e = .returned (.int .i64 (sgnZ ts)) ∧ Below w.heap.size w w'
set_option maxRecDepth 100000 in
set_option maxHeartbeats 2000000 in
theorem sign_sum (B n : Nat) (c : Int → Int) (w : World) (hs : OwnSum w B n c) (hn : n ≤ 1000)
    (hcr : Hid (∀ r, c r ≠ 0 → 1 ≤ r ∧ r ≤ 1000)) (hcb : Hid (∀ r, -9000000000000000000 ≤ c r ∧ c r ≤ 9000000000000000000)) (hdec : Hid (∀ ts, IsColl c ts → Decides ts)) :
    Calls Tryz.prog 68 #[.map (some B)] w (SgnZTo c w) := by
  obtain ⟨D, hown, hsd⟩ := hs
  have hsz := own_size hown hsd
  have hsl := hown.size_le
  have HS : Hid (OwnSum w B n c) := Lib.hid ⟨D, hown, hsd⟩
  clear hsd
  obtain ⟨sz, hsz'⟩ : ∃ sz, Maps.size D = sz := ⟨_, rfl⟩
  rw [hsz'] at hsz hsl
  have HSZ := Lib.hid hsz'
  clear hsz'
  by_cases h0 : ∃ r, c r ≠ 0
  · have hz : sz ≠ 0 := hsz.1 h0
    have hz' : ((sz : Int) == 0) = false := by simp; omega
    have HREF := Lib.hid (refine_sign B n c w HS.out hn hcr hcb (Lib.hid h0) hdec)
    have H0 := Lib.hid h0
    clear hsz hz h0
    go_enter Tryz.func68, Tryz.ntmps68
    go_wp2_with (at_len; refine wpList_len_own _ rfl _ 67 rfl 3 3 und67 _ B n D rfl hown ?_; rw [HSZ.out])
    refine HREF.out.mono ?_
    rintro e w2 ⟨ts, hcoll, hlen, rfl, hb2⟩
    have HR : Hid (sgnZ ts = sgnL ts) := Lib.hid (by
      unfold sgnZ; rw [if_neg]
      obtain ⟨r, hr⟩ := H0.out
      intro e; subst e; exact absurd (hcoll.2.2 r hr) (by simp))
    have HC := Lib.hid hcoll
    have HB := Lib.hid hb2
    clear hcoll hb2
    go_wp2
    go_ret
    exact ⟨ts, HC.out, hlen, by rw [HR.out]; rfl, HB.out⟩
  · have hz : sz = 0 := by
      apply Classical.byContradiction
      intro h; exact h0 (hsz.2 h)
    subst hz
    have hco : Hid (IsColl c []) := Lib.hid ⟨by simp, by simp, fun r hr => absurd ⟨r, hr⟩ h0⟩
    clear hsz h0
    go_enter Tryz.func68, Tryz.ntmps68
    go_wp2_with (at_len; refine wpList_len_own _ rfl _ 67 rfl 3 3 und67 _ B n D rfl hown ?_; rw [HSZ.out])
    go_ret
    exact ⟨[], hco.out, by simp, rfl, Below.refl _ _⟩
end Go.Proofs.YtedpafdfecofnaaGreatDoor

/-! ## S44 -/
namespace Go.Proofs.YtedpafdfecofnaaGreatDoor
open Go.RowKit Go.Maps Go.Shelf Go.Sort

def mulS (m : Int) (l : List (Int × Int)) : List (Int × Int) := l.map fun t => (m * t.1, t.2)
theorem coefOf_cons (t : Int × Int) (l : List (Int × Int)) (r : Int) : coefOf (t :: l) r = (if t.2 = r then t.1 else 0) + coefOf l r := by
  have key : ∀ (l : List (Int × Int)) (s : Int), l.foldl (fun s t => if t.2 = r then s + t.1 else s) s = s + l.foldl (fun s t => if t.2 = r then s + t.1 else s) 0 := by
    intro l
    induction l with
    | nil => intro s; simp
    | cons t l ih =>
      intro s
      simp only [List.foldl_cons]
      rw [ih, ih (if t.2 = r then 0 + t.1 else 0)]
      by_cases h : t.2 = r <;> simp [h] <;> omega
  unfold coefOf
  rw [List.foldl_cons, key]
  by_cases h : t.2 = r <;> simp [h]
theorem coefOf_in {l : List (Int × Int)} (hn : (l.map (·.2)).Nodup) {t : Int × Int} (ht : t ∈ l) : coefOf l t.2 = t.1 := by
  induction l with
  | nil => cases ht
  | cons u l ih =>
    rw [List.map_cons, List.nodup_cons] at hn
    rw [coefOf_cons]
    rcases List.mem_cons.1 ht with rfl | ht
    · have : coefOf l t.2 = 0 := by
        apply Classical.byContradiction
        intro h
        obtain ⟨v, hv, e⟩ := coefOf_ne h
        exact hn.1 (List.mem_map.2 ⟨v, hv, e⟩)
      rw [this]; simp
    · have hne : u.2 ≠ t.2 := fun e => hn.1 (List.mem_map.2 ⟨t, ht, e.symm⟩)
      rw [if_neg hne, ih hn.2 ht]; omega
theorem coll_mulS {l : List (Int × Int)} (hn : (l.map (·.2)).Nodup) (h0 : ∀ t ∈ l, t.1 ≠ 0) {m : Int} (hm : m ≠ 0) : IsColl (plusC zeroC m l) (mulS m l) := by
  have e : ∀ r, plusC zeroC m l r = m * coefOf l r := fun r => by simp [plusC, zeroC]
  refine ⟨?_, ?_, ?_⟩
  · unfold mulS; rw [List.map_map]; exact hn
  · intro t ht
    obtain ⟨u, hu, rfl⟩ := List.mem_map.1 ht
    refine ⟨?_, ?_⟩
    · show plusC zeroC m l u.2 = m * u.1
      rw [e, coefOf_in hn hu]
    · exact Int.mul_ne_zero hm (h0 u hu)
  · intro r hr
    rw [e] at hr ⊢
    have hr' : coefOf l r ≠ 0 := fun h => hr (by rw [h]; simp)
    obtain ⟨t, ht, rfl⟩ := coefOf_ne hr'
    rw [coefOf_in hn ht]
    exact List.mem_map.2 ⟨t, ht, rfl⟩
theorem mulS_one (l : List (Int × Int)) : mulS 1 l = l := by
  unfold mulS
  conv => rhs; rw [← List.map_id l]
  congr 1; funext t; simp
theorem vld_nodup {d : Int} {l : List (Int × Int)} (h : Vld d l) : (l.map (·.2)).Nodup := by
  have key : ∀ i j, i < j → j < l.length → (l[i]?.getD (0, 0)).2 < (l[j]?.getD (0, 0)).2 := by
    intro i j hij hj
    induction j with
    | zero => omega
    | succ j ih =>
      have h1 := h.asc (j + 1) (by omega) hj
      rw [Nat.add_sub_cancel] at h1
      by_cases e : i = j
      · rw [e]; exact h1
      · have := ih (by omega) (by omega); omega
  rw [List.Nodup, List.pairwise_map, List.pairwise_iff_getElem]
  intro i j hi hj hij e
  have := key i j hij hj
  simp [hi, hj] at this
  omega
theorem vld_coll {d : Int} {l : List (Int × Int)} (h : Vld d l) : IsColl (plusC zeroC 1 l) l := by
  have := coll_mulS (vld_nodup h) (fun t ht => (h.cf t ht).2.2) (m := 1) (by decide)
  rwa [mulS_one] at this
theorem absS_le (l : List (Int × Int)) (K : Int) (h : ∀ t ∈ l, -K ≤ t.1 ∧ t.1 ≤ K) : absS l ≤ K * l.length := by
  induction l with
  | nil => simp [absS, natT, Tw.sumA]
  | cons t l ih =>
    rw [absS_cons, List.length_cons]
    have h1 := ih (fun u hu => h u (by simp [hu]))
    have h2 := h t (by simp)
    rw [Int.natCast_add, Int.mul_add]
    omega
theorem vld_fine {d : Int} {l : List (Int × Int)} (h : Vld d l) : Fine l := by
  refine ⟨by have := h.len; omega, fun t ht => ⟨(h.rt t ht).1, (h.rt t ht).2, h.sq t ht⟩, vld_nodup h, fun t ht => (h.cf t ht).2.2, ?_⟩
  have h1 := absS_le l 100000 (fun t ht => ⟨(h.cf t ht).1, (h.cf t ht).2.1⟩)
  have := h.len
  omega
theorem plus1 {d : Int} {l : List (Int × Int)} (h : Vld d l) : ∀ r, plusC zeroC 1 l r ≠ 0 → 1 ≤ r ∧ r ≤ 1000 := by
  intro r hr
  have : coefOf l r ≠ 0 := fun e => hr (by simp [plusC, zeroC, e])
  obtain ⟨t, ht, rfl⟩ := coefOf_ne this
  exact h.rt t ht
/-- The terms of a difference of numbers are fine. -/
theorem comb_fine {dx dy s : Int} {lx ly ts : List (Int × Int)} (vx : Vld dx lx) (vy : Vld dy ly) (hs : s = 1 ∨ s = -1) (h : IsColl (combC dx lx dy ly s) ts) : Fine ts := by
  have hroot : ∀ r, combC dx lx dy ly s r ≠ 0 → ∃ t ∈ lx ++ ly, t.2 = r := by
    intro r hr
    by_cases h1 : coefOf lx r = 0
    · by_cases h2 : coefOf ly r = 0
      · exact absurd (by simp [combC, plusC, zeroC, h1, h2]) hr
      · obtain ⟨t, ht, e⟩ := coefOf_ne h2; exact ⟨t, by simp [ht], e⟩
    · obtain ⟨t, ht, e⟩ := coefOf_ne h1; exact ⟨t, by simp [ht], e⟩
  have hmem : ∀ t ∈ ts, ∃ u ∈ lx ++ ly, u.2 = t.2 := fun t ht => by
    have := h.2.1 t ht
    exact hroot t.2 (by rw [this.1]; exact this.2)
  have hlen : ts.length ≤ 8 := by
    have h1 : (ts.map (·.2)) ⊆ ((lx ++ ly).map (·.2)) := by
      intro r hr
      obtain ⟨t, ht, rfl⟩ := List.mem_map.1 hr
      obtain ⟨u, hu, e⟩ := hmem t ht
      exact List.mem_map.2 ⟨u, hu, e⟩
    have h2 := List.Nodup.length_le_of_subset h.1 h1
    simp at h2
    have := vx.len
    have := vy.len
    omega
  have hcf : ∀ t ∈ ts, -80000000000 ≤ t.1 ∧ t.1 ≤ 80000000000 := fun t ht => by
    have h1 := h.2.1 t ht
    have hd1 := vx.d1
    have hd2 := vx.d2
    have hd3 := vy.d1
    have hd4 := vy.d2
    have hs1 : -100000 ≤ s * dx := by rcases hs with rfl | rfl <;> omega
    have hs2 : s * dx ≤ 100000 := by rcases hs with rfl | rfl <;> omega
    have hB1 := plus_bd zeroC dy lx 0 100000 100000 (fun r => by simp [zeroC]) (by omega) (by omega) (by omega) (fun t ht => ⟨(vx.cf t ht).1, (vx.cf t ht).2.1⟩) (by omega) 4 vx.len
    have hB1f : ∀ r, -40000000000 ≤ plusC zeroC dy lx r ∧ plusC zeroC dy lx r ≤ 40000000000 := fun r => by have := hB1 lx.length (Nat.le_refl _) r; rw [List.take_length] at this; omega
    have hB2 := plus_bd (plusC zeroC dy lx) (s * dx) ly 40000000000 100000 100000 hB1f (by omega) (by omega) (by omega) (fun t ht => ⟨(vy.cf t ht).1, (vy.cf t ht).2.1⟩) (by omega) 4 vy.len
    have := hB2 ly.length (Nat.le_refl _) t.2
    rw [List.take_length] at this
    have e : combC dx lx dy ly s t.2 = plusC (plusC zeroC dy lx) (s * dx) ly t.2 := rfl
    rw [e] at h1
    omega
  refine ⟨hlen, fun t ht => ?_, h.1, fun t ht => (h.2.1 t ht).2, ?_⟩
  · obtain ⟨u, hu, e⟩ := hmem t ht
    rw [← e]
    rcases List.mem_append.1 hu with h1 | h1
    · exact ⟨(vx.rt u h1).1, (vx.rt u h1).2, vx.sq u h1⟩
    · exact ⟨(vy.rt u h1).1, (vy.rt u h1).2, vy.sq u h1⟩
  · have := absS_le ts 80000000000 hcf
    omega
theorem comb_rt {dx dy s : Int} {lx ly : List (Int × Int)} (vx : Vld dx lx) (vy : Vld dy ly) : ∀ r, combC dx lx dy ly s r ≠ 0 → 1 ≤ r ∧ r ≤ 1000 := by
  intro r hr
  by_cases h1 : coefOf lx r = 0
  · by_cases h2 : coefOf ly r = 0
    · exact absurd (by simp [combC, plusC, zeroC, h1, h2]) hr
    · obtain ⟨t, ht, e⟩ := coefOf_ne h2; rw [← e]; exact vy.rt t ht
  · obtain ⟨t, ht, e⟩ := coefOf_ne h1; rw [← e]; exact vx.rt t ht

def IntTo (n : Int) (w : World) (e : Ending) (w' : World) : Prop := e = .returned (.int .i64 n) ∧ Below w.heap.size w w'
set_option maxRecDepth 100000 in
set_option maxHeartbeats 2000000 in
theorem signOf_any (d : Int) (v : Value) (l : List (Int × Int)) (w : World) (ht : TermsAt w v l) (hv : Vld d l) :
    Calls Tryz.prog 62 #[.agg #[.int .i64 d, v]] w (IntTo (sgnZ l) w) := by
  have hmm := @run_makeMap Tryz.prog
  have HT := Lib.hid ht
  have HV := Lib.hid hv
  clear ht hv
  have K1 : Hid (∀ t ∈ l, -1000000000000 ≤ t.2 ∧ t.2 ≤ 1000000000000 ∧ -9000000000000000000 ≤ 1 * t.1 ∧ 1 * t.1 ≤ 9000000000000000000) := Lib.hid (fun t ht => by have := HV.out.cf t ht; have := HV.out.rt t ht; omega)
  have hB := plus_bd zeroC 1 l 0 1 100000 (fun r => by simp [zeroC]) (by omega) (by omega) (by omega) (fun t ht => ⟨(HV.out.cf t ht).1, (HV.out.cf t ht).2.1⟩) (by omega) 4 HV.out.len
  have C1 : Hid (∀ k, k ≤ l.length → ∀ r, -9000000000000000000 ≤ plusC zeroC 1 (l.take k) r ∧ plusC zeroC 1 (l.take k) r ≤ 9000000000000000000) := Lib.hid (fun k hk r => by have := hB k hk r; omega)
  have C2 : Hid (∀ r, -9000000000000000000 ≤ plusC zeroC 1 l r ∧ plusC zeroC 1 l r ≤ 9000000000000000000) := Lib.hid (fun r => by have := hB l.length (Nat.le_refl _) r; rw [List.take_length] at this; omega)
  have R2 : Hid (∀ r, plusC zeroC 1 l r ≠ 0 → 1 ≤ r ∧ r ≤ 1000) := Lib.hid (plus1 HV.out)
  have DD : Hid (∀ ts, IsColl (plusC zeroC 1 l) ts → Decides ts) := Lib.hid (fun ts hts => by
    have hp := coll_perm (vld_coll HV.out) hts
    have := fine_decides (vld_fine HV.out)
    unfold Decides at this ⊢
    rwa [encP_perm _ hp, encN_perm _ hp, encP_perm _ hp, encN_perm _ hp] at this)
  clear hB
  go_enter Tryz.func62, Tryz.ntmps62
  go_wp2_with fail
  refine (add_at (w.heap.size + 1) 0 zeroC 1 v l _ ((HT.out.alloc _).alloc _) (HT.out.blk (by omega)) (by have := HV.out.len; omega) (by omega) (ownSum_made (by simp)) K1 C1).mono ?_
  rintro e w1 ⟨rfl, ho1, hg1⟩
  have HB1 : Hid (Below w.heap.size w w1) := Lib.hid ((((Below.refl _ _).alloc (Nat.le_refl _) _).alloc (by simp) _).grown hg1 (by simp; omega) (by intro k hk; cases hk; omega))
  have HO1 := Lib.hid ho1
  clear hg1 ho1
  go_wp2_with fail
  refine (sign_sum (w.heap.size + 1) (0 + l.length) _ _ HO1.out (by have := HV.out.len; omega) R2 C2 DD).mono ?_
  rintro e w2 ⟨ts, hcoll, hlen, rfl, hb2⟩
  have HE : Hid (sgnZ ts = sgnZ l) := Lib.hid (by
    have hp := coll_perm hcoll (vld_coll HV.out)
    unfold sgnZ
    rw [sgnL_perm hp]
    by_cases e : ts = []
    · subst e; rw [List.nil_perm.1 hp]
    · have : l ≠ [] := by intro e2; subst e2; exact e (List.perm_nil.1 hp)
      rw [if_neg e, if_neg this])
  have HB2 := Lib.hid (HB1.out.trans (hb2.mono HB1.out.size))
  clear hcoll hlen hb2
  rw [HE.out]
  go_wp2
  go_ret
  exact ⟨rfl, HB2.out⟩
def Int2To (n e0 : Int) (w : World) (e : Ending) (w' : World) : Prop := e = .returned (.tuple #[.int .i64 n, .int .i64 e0]) ∧ Below w.heap.size w w'
set_option maxRecDepth 100000 in
set_option maxHeartbeats 2000000 in
theorem sign_any (d : Int) (v : Value) (l : List (Int × Int)) (w : World) (ht : TermsAt w v l) :
    Calls Tryz.prog 33 #[.agg #[.int .i64 d, v]] w (Int2To (if validF d l = true then sgnZ l else 0) (if validF d l = true then 0 else 2) w) := by
  have HT := Lib.hid ht
  have XX := Lib.hid (Two.new w (.int .i64 d) v 24)
  have BB : Hid (Below w.heap.size w (w.alloc (.cells #[.int .i64 d, v] 24))) := Lib.hid ((Below.refl _ _).alloc (Nat.le_refl _) _)
  clear ht
  cases hv : validF d l
  · have HV := Lib.hid hv
    simp only [Bool.false_eq_true, if_false]
    clear hv
    go_enter Tryz.func33, Tryz.ntmps33
    go_wp2_with fail
    refine (valid_any d v l _ (HT.out.alloc _)).mono ?_
    rintro e w1 ⟨rfl, hb⟩
    have HB := Lib.hid (BB.out.trans (hb.mono BB.out.size))
    rw [HV.out]
    clear hb
    go_wp2
    go_ret2
    exact ⟨rfl, HB.out⟩
  · have HV := Lib.hid hv
    have HVL := Lib.hid (vld_of hv)
    simp only [if_true]
    clear hv
    go_enter Tryz.func33, Tryz.ntmps33
    go_wp2_with fail
    refine (valid_any d v l _ (HT.out.alloc _)).mono ?_
    rintro e w1 ⟨rfl, hb⟩
    have X1 := XX.out.below hb XX.out.lt
    have HB := Lib.hid (BB.out.trans (hb.mono BB.out.size))
    have x0 := X1.c0
    have x1 := X1.c1
    rw [HV.out]
    clear hb X1
    go_wp2_with fail
    refine (signOf_any d v l _ (HT.out.below HB.out) HVL.out).mono ?_
    rintro e w2 ⟨rfl, hb2⟩
    have HB2 := Lib.hid (HB.out.trans (hb2.mono HB.out.size))
    clear hb2 x0 x1
    go_wp2
    go_ret2
    exact ⟨rfl, HB2.out⟩
def CmpTo (dx : Int) (lx : List (Int × Int)) (dy : Int) (ly : List (Int × Int)) (w : World) (e : Ending) (w' : World) : Prop :=
  (if validF dx lx = true ∧ validF dy ly = true then ∃ ts, IsColl (combC dx lx dy ly (-1)) ts ∧ e = .returned (.tuple #[.int .i64 (sgnZ ts), .int .i64 0]) else e = .returned (.tuple #[.int .i64 0, .int .i64 2])) ∧ Below w.heap.size w w'
set_option maxRecDepth 100000 in
set_option maxHeartbeats 2000000 in
theorem compareN_any (dx dy : Int) (vx vy : Value) (lx ly : List (Int × Int)) (w : World) (hx : TermsAt w vx lx) (hy : TermsAt w vy ly) :
    Calls Tryz.prog 34 #[.agg #[.int .i64 dx, vx], .agg #[.int .i64 dy, vy]] w (CmpTo dx lx dy ly w) := by
  have HX := Lib.hid hx
  have HY := Lib.hid hy
  clear hx hy
  go_enter Tryz.func34, Tryz.ntmps34
  go_wp2_with fail
  refine (valid_any dx vx lx _ ((HX.out.alloc _).alloc _)).mono ?_
  rintro e w1 ⟨rfl, hb⟩
  have X1 : Two w1 w.heap.size (.int .i64 dx) vx 24 := ((Two.new w (.int .i64 dx) vx 24).alloc _).below hb (by simp; omega)
  have Y1 : Two w1 (w.heap.size + 1) (.int .i64 dy) vy 24 := by
    have := (Two.new (w.alloc (.cells #[.int .i64 dx, vx] 24)) (.int .i64 dy) vy 24).below hb (by simp)
    simpa using this
  have B1 : Below w.heap.size w w1 := (((Below.refl _ _).alloc (Nat.le_refl _) _).alloc (by simp) _).trans (hb.mono (by simp; omega))
  have XX := Lib.hid X1
  have YY := Lib.hid Y1
  have BB := Lib.hid B1
  have x0 := X1.c0
  have x1 := X1.c1
  have y0 := Y1.c0
  have y1 := Y1.c1
  clear hb X1 Y1 B1
  cases hvx : validF dx lx
  · have HP : Hid (¬ (validF dx lx = true ∧ validF dy ly = true)) := Lib.hid (by rw [hvx]; simp)
    clear hvx
    go_wp2
    go_ret2
    exact ⟨by rw [if_neg HP.out]; rfl, BB.out⟩
  · have HVX := Lib.hid hvx
    clear hvx
    go_wp2_with fail
    refine (valid_any dy vy ly _ (HY.out.below BB.out)).mono ?_
    rintro e w2 ⟨rfl, hb⟩
    have X2 := XX.out.below hb XX.out.lt
    have Y2 := YY.out.below hb YY.out.lt
    have BB2 := Lib.hid (BB.out.trans (hb.mono BB.out.size))
    clear x0 x1 y0 y1 XX YY
    have x0 := X2.c0
    have x1 := X2.c1
    have y0 := Y2.c0
    have y1 := Y2.c1
    clear hb X2 Y2
    cases hvy : validF dy ly
    · have HP : Hid (¬ (validF dx lx = true ∧ validF dy ly = true)) := Lib.hid (by rw [hvy]; simp)
      clear hvy
      go_wp2
      go_ret2
      exact ⟨by rw [if_neg HP.out]; rfl, BB2.out⟩
    · have HP : Hid (validF dx lx = true ∧ validF dy ly = true) := Lib.hid ⟨HVX.out, hvy⟩
      have VX := Lib.hid (vld_of HVX.out)
      have VY := Lib.hid (vld_of hvy)
      clear hvy
      go_wp2_with fail
      refine (combined_any dx dy (-1) vx vy lx ly _ (HX.out.below BB2.out) (HY.out.below BB2.out) VX.out VY.out (.inr rfl)).mono ?_
      rintro e w3 ⟨B, rfl, ho, hb3⟩
      have HO := Lib.hid ho
      have HB3 := Lib.hid (BB2.out.trans (hb3.mono BB2.out.size))
      clear ho hb3 x0 x1 y0 y1
      go_wp2_with fail
      refine (sign_sum B 1000 _ _ HO.out (by omega) (Lib.hid (comb_rt VX.out VY.out)) (Lib.hid (combC_bd VX.out VY.out (.inr rfl)).2) (Lib.hid (fun ts hts => fine_decides (comb_fine VX.out VY.out (.inr rfl) hts)))).mono ?_
      rintro e w4 ⟨ts, hcoll, hlen, rfl, hb4⟩
      have HC := Lib.hid hcoll
      have HB4 := Lib.hid (HB3.out.trans (hb4.mono HB3.out.size))
      clear hcoll hlen hb4
      go_wp2
      go_ret2
      exact ⟨by rw [if_pos HP.out]; exact ⟨ts, HC.out, rfl⟩, HB4.out⟩
end Go.Proofs.YtedpafdfecofnaaGreatDoor
