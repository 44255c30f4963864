import Derived.Test.YtopnlcjbklmicaaMB5
import Derived.WalkKit
import Derived.WalkSpells
import Derived.WalkLawsBesides
import Derived.Deep.QuietTactic
import Derived.BigQuiet
import Derived.Lib.Hide
import Derived.WalkSmall
import Derived.Maps.OwnSet
import Derived.Maps.RangeWalk
import Derived.Deep.RegionWith
import Derived.Deep.RegionHeld3
import Derived.Deep.DrawnRows
import Derived.Deep.DeepCutAuto
import Derived.OneCell
import Derived.KernelRfl
import Derived.Laws.StructEq
import Derived.StillTailTactics
import Derived.Laws.Externs
import Derived.RangeFuncBox
import Derived.Outline
import Derived.RangeFuncNested
import Derived.RangeFuncBound
import Derived.RangeFuncCalls
import Derived.RangeFuncLeaves
import Derived.Shelf.RegionOpen
import Derived.OwnWalkIn
import Derived.TacticsInMore
import Derived.LoopNIn
import Derived.LoopIn
import Derived.Test.YtopnlcjbklmicaaProg
namespace Go.Proofs.Ytopnlcjbklmicaa
open Go.RowKit Go.Maps Go.Shelf
set_option linter.unusedVariables false
set_option linter.unusedSimpArgs false
/-- How far the batches have been put in, by the reference, that looks at the book as it was. -/
structure FRelR (l : List St) (bs : BatL) (k : Nat) (seen : List Int) (li : List St) (s : Int) : Prop where
  r : FRel l bs k seen li s
  old : ∀ i : Nat, (i : Int) ∉ seen → li[i]?.getD St.zero = l[i]?.getD St.zero
theorem FRelR.init {l : List St} {bs : BatL} (h : BInv l []) : FRelR l bs 0 [] l 0 := ⟨⟨by simp, by simpa using h, by simp, rfl, by omega, by omega⟩, fun _ _ => rfl⟩
theorem burn_few {n : Int} {s : St} (hg : s.Good) (hn : 1 ≤ n) : chF (burnF n s) = if s.dry < n then (St.zero, 9) else ({ s with dry := s.dry - n, burn := s.burn + n }, 0) := by
  obtain ⟨a, b, c, d, e, f, g, sp⟩ := s
  simp only [St.Good, St.Ok] at hg
  unfold chF burnF
  dsimp only
  rw [if_neg (by simp)]
  by_cases h : b < n
  · rw [if_pos (by omega), if_pos h]
  · rw [if_neg (by omega), if_neg h]
theorem FRelR.low {l : List St} {bs : BatL} {k : Nat} {seen : List Int} {li : List St} {s : Int} (h : FRelR l bs k seen li s) (hk : k < bs.length) {kd : Nat} {n : Int} (hp : bs[k]?.getD (0, 0) = ((kd : Int), n))
    (h1 : inB (kd : Int) 0 ((l.length : Int) - 1) = true) (h2 : (kd : Int) ∉ seen) (h3 : inB n 1 1000000000 = true) (h4 : (l[kd]?.getD St.zero).dry < n) : (fillF bs [] l 0).1 = 9 := by
  have hkd := kind_nat h1
  have h0 := h.r.next hk hp
  rw [if_neg (by simp [h1]), if_neg h2, if_neg (by simp [h3])] at h0
  simp only [Int.toNat_natCast] at h0 hkd
  have hg := h.r.inv.good kd (by rw [h.r.len]; exact hkd.1)
  rw [burn_few hg (inB_parts h3).1, h.old kd h2, if_pos h4, if_pos (by simp)] at h0
  rw [h0]
theorem FRelR.step {l : List St} {bs : BatL} {k : Nat} {seen : List Int} {li : List St} {s : Int} (h : FRelR l bs k seen li s) (hk : k < bs.length) {kd : Nat} {n : Int} (hp : bs[k]?.getD (0, 0) = ((kd : Int), n))
    (h1 : inB (kd : Int) 0 ((l.length : Int) - 1) = true) (h2 : (kd : Int) ∉ seen) (h3 : inB n 1 1000000000 = true) {y0 y1 y2 y3 y4 y5 y6 y7 : Int} (hy : l[kd]?.getD St.zero = ⟨y0, y1, y2, y3, y4, y5, y6, y7⟩) (h4 : n ≤ y1) :
    FRelR l bs (k + 1) ((kd : Int) :: seen) (li.set kd ⟨y0, y1 - n, y2 + n, y3, y4, y5, y6, y7⟩) (s + n * y7) ∧ 0 ≤ n * y7 ∧ n * y7 ≤ 1000000000000 := by
  have hkd := kind_nat h1
  simp only [Int.toNat_natCast] at hkd
  have hg := h.r.inv.good kd (by rw [h.r.len]; exact hkd.1)
  have hb := burn_few hg (inB_parts h3).1
  rw [h.old kd h2, hy, if_neg (by show ¬ y1 < n; omega)] at hb
  have hs := h.r.step hk hp h1 h2 h3 (s' := ⟨y0, y1 - n, y2 + n, y3, y4, y5, y6, y7⟩) (by simp only [Int.toNat_natCast]; rw [h.old kd h2, hy]; exact hb)
  simp only [Int.toNat_natCast] at hs
  refine ⟨⟨hs.1, fun i hi => ?_⟩, hs.2⟩
  simp only [List.mem_cons, not_or] at hi
  rw [set_at _ _ _ _ (by rw [h.r.len]; exact hkd.1), if_neg (by omega)]
  exact h.old i hi.2
theorem FRelR.bad {l : List St} {bs : BatL} {k : Nat} {seen : List Int} {li : List St} {s : Int} (h : FRelR l bs k seen li s) (hk : k < bs.length) {kd n : Int} (hp : bs[k]?.getD (0, 0) = (kd, n)) :
    (inB kd 0 ((l.length : Int) - 1) = false → (fillF bs [] l 0).1 = 7) ∧ (inB kd 0 ((l.length : Int) - 1) = true → kd ∈ seen → (fillF bs [] l 0).1 = 6) ∧ (inB kd 0 ((l.length : Int) - 1) = true → kd ∉ seen → inB n 1 1000000000 = false → (fillF bs [] l 0).1 = 2) := by
  have h0 := h.r.next hk hp
  refine ⟨fun h1 => ?_, fun h1 h2 => ?_, fun h1 h2 h3 => ?_⟩
  · rw [h0, if_pos h1]
  · rw [h0, if_neg (by simp [h1]), if_pos h2]
  · rw [h0, if_neg (by simp [h1]), if_neg h2, if_pos h3]
theorem FRelR.whole {l : List St} {bs : BatL} {seen : List Int} {li : List St} {s : Int} (h : FRelR l bs bs.length seen li s) : fillF bs [] l 0 = (0, li, s) := by
  rw [h.r.eq, List.drop_length]; rfl
theorem FRelR.twin {l : List St} {bs : BatL} {k : Nat} {seen : List Int} {li : List St} {s : Int} (h : FRelR l bs k seen li s) {j : Nat} (hj : j < k) (hk : k ≤ bs.length) : (bs[j]?.getD (0, 0)).1 ∈ seen := by
  rw [h.r.seen]
  have hjb : j < bs.length := by omega
  refine List.mem_map.2 ⟨bs[j], ?_, by simp [hjb]⟩
  rw [List.mem_take_iff_getElem]
  exact ⟨j, by omega, rfl⟩
theorem FRelR.fresh {l : List St} {bs : BatL} {k : Nat} {seen : List Int} {li : List St} {s : Int} (h : FRelR l bs k seen li s) (hk : k ≤ bs.length) {kd : Int} (hn : ∀ j, j < k → (bs[j]?.getD (0, 0)).1 ≠ kd) : kd ∉ seen := by
  intro hm
  obtain ⟨p, hp, he⟩ := List.mem_map.1 ((h.r.seen kd).1 hm)
  obtain ⟨j, hj, hj2⟩ := List.mem_take_iff_getElem.1 hp
  refine hn j (by omega) ?_
  rw [List.getElem?_eq_getElem (by omega), hj2]
  exact he
theorem fireF_err {room : Int} {l : List St} {bs : BatL} {er : Int} (h0 : bs ≠ []) (h1 : ¬ 20 < bs.length) (h2 : (fillF bs [] l 0).1 = er) (h3 : er ≠ 0) {L : BatL} (hL : L = []) : fireF room l L bs = (er, l, L) := by
  subst hL
  unfold fireF
  rw [if_neg (by simp), if_neg h0, if_neg h1, if_pos (by rw [h2]; exact h3), h2]
theorem fireF_full {room : Int} {l : List St} {bs : BatL} {li : List St} {s : Int} (h0 : bs ≠ []) (h1 : ¬ 20 < bs.length) (h2 : fillF bs [] l 0 = (0, li, s)) {L : BatL} (hL : L = []) : fireF room l L bs = if s > room then (8, l, L) else (0, li, bs) := by
  subst hL
  unfold fireF
  rw [if_neg (by simp), if_neg h0, if_neg h1, h2, if_neg (by simp)]
/-- A slice of batches that came in. -/
def SrcB (w : World) (v : Value) (bs : BatL) : Prop :=
  bs.length ≤ 8796093022208 ∧ ((v = .slice none 0 0 ∧ bs = []) ∨ (∃ ad c, v = .slice (some ad) 0 c ∧ bs = []) ∨ (∃ b off c, v = .slice (some ⟨b, off, none⟩) bs.length c ∧ b < w.heap.size ∧ PairsC w b off bs))
theorem SrcB.past {w w' : World} {v : Value} {bs : BatL} (h : SrcB w v bs) (hb : Below w.heap.size w w') : SrcB w' v bs := by
  obtain ⟨h0, h | h | ⟨b, off, c, h1, h3, h4⟩⟩ := h
  · exact ⟨h0, .inl h⟩
  · exact ⟨h0, .inr (.inl h)⟩
  · exact ⟨h0, .inr (.inr ⟨b, off, c, h1, Nat.lt_of_lt_of_le h3 hb.size, h4.below h3 hb⟩)⟩
theorem SrcB.shape {w : World} {v : Value} {bs : BatL} (h : SrcB w v bs) : ∃ a c, v = .slice a bs.length c := by
  obtain ⟨h0, ⟨rfl, rfl⟩ | ⟨ad, c, rfl, rfl⟩ | ⟨b, off, c, rfl, _⟩⟩ := h
  · exact ⟨_, _, rfl⟩
  · exact ⟨_, _, rfl⟩
  · exact ⟨_, _, rfl⟩
theorem SrcB.src {w : World} {v : Value} {bs : BatL} (h : SrcB w v bs) : SrcAt w v bs := by
  obtain ⟨h0, h | ⟨ad, c, rfl, rfl⟩ | ⟨b, off, c, rfl, h3, h4⟩⟩ := h
  · exact .inl h
  · exact .inr ⟨ad, c, rfl, fun j u hj => by simp [flatQ] at hj⟩
  · refine .inr ⟨_, c, rfl, fun j u hj => ?_⟩
    rw [addr_addT]
    refine ⟨h3, ?_⟩
    have hlt : j < bs.length * 2 := by rw [← flatQ_len bs]; exact (List.getElem?_eq_some_iff.1 hj).1
    obtain ⟨a1, a2⟩ := flatQ_at bs (j / 2) (by omega)
    obtain ⟨c1, c2⟩ := h4 (j / 2) (by omega)
    rcases Nat.mod_two_eq_zero_or_one j with e | e
    · have e2 : j / 2 * 2 = j := by omega
      rw [e2] at a1 c1
      rw [c1, ← a1, hj]
    · have e2 : j / 2 * 2 + 1 = j := by omega
      rw [e2] at a2
      rw [show off + j / 2 * 2 + 1 = off + j by omega] at c2
      rw [c2, ← a2, hj]
theorem SrcB.at {w : World} {a : Option Addr} {n c : Nat} {bs : BatL} (h : SrcB w (.slice a n c) bs) {k : Nat} (hk : k < bs.length) {kd m : Int} (hp : bs[k]?.getD (0, 0) = (kd, m)) :
    ∃ b off, a = some ⟨b, off, none⟩ ∧ b < w.heap.size ∧ w.cell? ⟨b, off + k * 2, none⟩ = some (.int .i64 kd) ∧ w.cell? ⟨b, off + k * 2 + 1, none⟩ = some (.int .i64 m) := by
  obtain ⟨h0, ⟨h, rfl⟩ | ⟨ad, c, h, rfl⟩ | ⟨b, off, c', h, h3, h4⟩⟩ := h
  · simp at hk
  · simp at hk
  · simp only [Value.slice.injEq] at h
    obtain ⟨c1, c2⟩ := h4 k hk
    rw [hp] at c1 c2
    exact ⟨b, off, h.1, h3, c1, c2⟩
/-- A condition on the world that falls away store by store: c holds as long as operation c.1 has not come up. -/
def TS (cs : List (Nat × Addr × Value)) (S0 : World → Prop) (L : Array Bool) (w : World) : Prop := S0 w ∧ ∀ c ∈ cs, L.getD c.1 true = false → w.cell? c.2.1 = some c.2.2
/-- Whatever order is picked, and S holds, by what has come up, behind every operation. -/
def wpAnyT (P : Program) (md : Region.Mode) (ops : Array Oper) (Q : Exit → Act → World → Prop) (S : Array Bool → World → Prop) : Nat → Array Bool → Act → World → Prop
  | 0, L, a, w => Region.ready md ops L = [] ∧ Q .normal a w
  | fuel + 1, L, a, w => (Region.ready md ops L = [] → Q .normal a w) ∧
    ∀ i ∈ Region.ready md ops L, wpOp P ops Q i (fun a' w' => S (L.setIfInBounds i true) w' ∧ wpAnyT P md ops Q S fuel (L.setIfInBounds i true) a' w') a w
/-- b waits for i. -/
def blockedBy (md : Region.Mode) (ops : Array Oper) (i b : Nat) : Bool := match ops[b]? with
  | some ob => ob.after.toList.any fun e => Region.binds md e && e.on == i
  | none => false
section
variable {P : Program} {md : Region.Mode} {ops : Array Oper} {Q : Exit → Act → World → Prop} {S : Array Bool → World → Prop}
theorem wpAny_of_T : ∀ (fuel : Nat) (L : Array Bool) (a : Act) (w : World), wpAnyT P md ops Q S fuel L a w → wpAny P md ops Q fuel L a w
  | 0, _, _, _, h => h
  | fuel + 1, _, _, _, h => ⟨h.1, fun i hi => wpOp_mono (fun a' w' h' => wpAny_of_T fuel _ a' w' h'.2) (h.2 i hi)⟩
theorem wpAnyT_first {S1 : World → Prop} {i : Nat} {oi : Oper} {v : Value} {bl : List Nat} (hi : ops[i]? = some oi) (hsel : ∀ (j : Nat) (o : Oper) cs b, ops[j]? = some o → o.op ≠ .select cs b)
    (hQ : ∀ c a w, Q (.panic c) (a.put oi.dst v) w → Q (.panic c) a w) (hbl : ∀ b ∈ bl, blockedBy md ops i b = true) (hSi : ∀ L w, S (L.setIfInBounds i true) w ↔ S L w)
    (hS1 : ∀ (L : Array Bool) w, (∀ b ∈ bl, L.getD b true = false) → S L w → S1 w) :
    ∀ (fuel : Nat) (L : Array Bool) (a : Act) (w : World),
      (∀ j oj, ops[j]? = some oj → j ≠ i → L.getD j true = false → (∀ e ∈ oj.after, Region.binds md e = true → e.on ≠ i) → oi.apart ops oj = true) →
      i ∈ Region.ready md ops L → (∀ b ∈ bl, L.getD b true = false) → YieldsIf P ops S1 oi v a → S L w →
      wpAnyT P md ops Q S fuel (L.setIfInBounds i true) (a.put oi.dst v) w → wpAnyT P md ops Q S (fuel + 1) L a w := by
  intro fuel
  induction fuel with
  | zero =>
    intro L a w _ hr hub hy hS H
    refine ⟨fun h => (by rw [h] at hr; cases hr), fun j hj => ?_⟩
    by_cases hji : j = i
    · subst hji; exact hy.wpOp hi (hS1 L w hub hS) ⟨(hSi _ _).2 hS, H⟩
    · have := ready_mono hj hji
      rw [H.1] at this
      cases this
  | succ fuel ih =>
    intro L a w hfree hr hub hy hS H
    refine ⟨fun h => (by rw [h] at hr; cases hr), fun j hj => ?_⟩
    by_cases hji : j = i
    · subst hji; exact hy.wpOp hi (hS1 L w hub hS) ⟨(hSi _ _).2 hS, H⟩
    · have h1 := H.2 j (ready_mono hj hji)
      obtain ⟨hjun, oj, hoj, hall⟩ := mem_ready.1 hj
      have hnot : ∀ e ∈ oj.after, Region.binds md e = true → e.on ≠ i := fun e he hb heq => by
        have h1 := hall e he hb
        have h0 := (mem_ready.1 hr).1
        rw [heq] at h1
        rcases Nat.lt_or_ge i L.size with h' | h'
        · simp [h'] at h0 h1; rw [h0] at h1; cases h1
        · simp [Array.getElem?_eq_none h'] at h1
      have hjb : j ∉ bl := fun hm => by
        have h4 := hbl j hm
        unfold blockedBy at h4
        rw [hoj] at h4
        obtain ⟨e, he, hb⟩ := List.any_eq_true.1 h4
        rw [Bool.and_eq_true] at hb
        exact hnot e (by simpa using he) hb.1 (by simpa using hb.2)
      have h2 := wpOp_putIf hoj (hfree j oj hoj hji hjun hnot) (fun cs b => hsel i oi cs b hi) (fun cs b => hsel j oj cs b hoj) hQ hy h1
      have hfree' : ∀ k ok, ops[k]? = some ok → k ≠ i → (L.setIfInBounds j true).getD k true = false →
          (∀ e ∈ ok.after, Region.binds md e = true → e.on ≠ i) → oi.apart ops ok = true := fun k ok hk hki hun hno => by
        refine hfree k ok hk hki ?_ hno
        by_cases hjk : j = k
        · subst hjk; exact hjun
        · rw [getD_set_ne true hjk] at hun; exact hun
      have hub' : ∀ b ∈ bl, (L.setIfInBounds j true).getD b true = false := fun b hb => by
        rw [getD_set_ne true (fun e : j = b => hjb (by rw [e]; exact hb))]; exact hub b hb
      refine wpOp_mono (fun a' w' h3 => ?_) h2
      have h5 : S (L.setIfInBounds j true) w' := (hSi _ _).1 (by rw [Array.setIfInBounds_comm _ _ hji]; exact h3.2.1)
      refine ⟨h5, ih (L.setIfInBounds j true) a' w' hfree' (ready_mono hr (Ne.symm hji)) hub' h3.1 h5 ?_⟩
      rw [Array.setIfInBounds_comm _ _ hji]
      exact h3.2.2
theorem wpAnyT_done {L : Array Bool} {a : Act} {w : World} (hr : Region.ready md ops L = []) (h : Q .normal a w) : ∀ fuel, wpAnyT P md ops Q S fuel L a w
  | 0 => ⟨hr, h⟩
  | _ + 1 => ⟨fun _ => h, by rw [hr]; simp⟩
variable {cs : List (Nat × Addr × Value)} {S0 : World → Prop}
theorem TS.nil {L : Array Bool} {w : World} (h : S0 w) : TS [] S0 L w := ⟨h, by simp⟩
theorem TS.gone {L : Array Bool} {w : World} {b : Nat} {p : Addr} {v : Value} (hl : L.getD b true = true) (h : TS cs S0 L w) : TS ((b, p, v) :: cs) S0 L w :=
  ⟨h.1, fun c hc hu => by
    rcases List.mem_cons.1 hc with rfl | hc
    · rw [hl] at hu; cases hu
    · exact h.2 c hc hu⟩
theorem TS.holds {L : Array Bool} {w : World} {b : Nat} {p : Addr} {v : Value} (hc : w.cell? p = some v) (h : TS cs S0 L w) : TS ((b, p, v) :: cs) S0 L w :=
  ⟨h.1, fun c hm hu => by
    rcases List.mem_cons.1 hm with rfl | hm
    · exact hc
    · exact h.2 c hm hu⟩
theorem TS.indep {i : Nat} (hc : cs.all (fun c => c.1 != i) = true) (L : Array Bool) (w : World) : TS cs S0 (L.setIfInBounds i true) w ↔ TS cs S0 L w := by
  have h : ∀ c ∈ cs, (L.setIfInBounds i true).getD c.1 true = L.getD c.1 true := fun c hm => by
    have := List.all_eq_true.1 hc c hm
    exact getD_set_ne true (fun e => by simp [e] at this)
  constructor
  · intro hh; exact ⟨hh.1, fun c hm hu => hh.2 c hm (by rw [h c hm]; exact hu)⟩
  · intro hh; exact ⟨hh.1, fun c hm hu => hh.2 c hm (by rw [← h c hm]; exact hu)⟩
/-- A drawn region that stores late. -/
theorem region_T {id : Nat} (cs : List (Nat × Addr × Value)) (S0 : World → Prop) (N : Nat) (L : Array Bool) {a : Act} {w : World} (hN : ops.size = N) (hL0 : Array.replicate N false = L) (hm : P.follows .mixedOrders = true)
    (hS : TS cs S0 L w.drew) (h : TS cs S0 L w.drew → wpAnyT P .any ops Q (TS cs S0) N L a w.drew) : (Code.region id ops true).wp P Q a w := by
  subst hN hL0
  exact wp_region_any hm (wpAny_of_T _ _ _ _ (h hS))
/-- Number i first: it yields in every world that meets S0. -/
theorem takeT {i : Nat} {o : Oper} {v : Value} {fuel : Nat} {L : Array Bool} {a : Act} {w : World} (hi : ops.toList[i]? = some o)
    (hs : Region.noSelect ops = true) (hf : Region.free md ops L i = true) (hr : (Region.ready md ops L).contains i = true)
    (hQ : ∀ c a w, Q (.panic c) (a.put o.dst v) w → Q (.panic c) a w) (hw : Region.wanted o (yielded ops a.tmps) = true) (hc : cs.all (fun c => c.1 != i) = true) (hS : TS cs S0 L w)
    (hy : ∀ w, S0 w → (execOp a.eval o).run P w = .ok (.value v) w)
    (h : TS cs S0 (L.setIfInBounds i true) w → wpAnyT P md ops Q (TS cs S0) fuel (L.setIfInBounds i true) (a.put o.dst v) w) : wpAnyT P md ops Q (TS cs S0) (fuel + 1) L a w :=
  have hi' : ops[i]? = some o := by rw [← Array.getElem?_toList]; exact hi
  wpAnyT_first (S1 := S0) (bl := []) hi' (Region.noSelect_spec hs) hQ (by simp) (TS.indep hc) (fun _ _ _ h => h.1) fuel L a w (Region.free_spec hi' hf) (by simpa using hr) (by simp) (.inl ⟨hw, hy⟩) hS (h ((TS.indep hc _ _).2 hS))
/-- Number i first: it yields as long as b, that waits for it, has not come up. -/
theorem loadT {i : Nat} {o : Oper} {v : Value} {fuel : Nat} {L : Array Bool} {a : Act} {w : World} (b m : Nat) {p : Addr} {u : Value} (hm : cs[m]? = some (b, p, u)) (hb : blockedBy md ops i b = true) (hub : L.getD b true = false) (hi : ops.toList[i]? = some o)
    (hs : Region.noSelect ops = true) (hf : Region.free md ops L i = true) (hr : (Region.ready md ops L).contains i = true)
    (hQ : ∀ c a w, Q (.panic c) (a.put o.dst v) w → Q (.panic c) a w) (hw : Region.wanted o (yielded ops a.tmps) = true) (hc : cs.all (fun c => c.1 != i) = true) (hS : TS cs S0 L w)
    (hy : ∀ w, S0 w → w.cell? p = some u → (execOp a.eval o).run P w = .ok (.value v) w)
    (h : TS cs S0 (L.setIfInBounds i true) w → wpAnyT P md ops Q (TS cs S0) fuel (L.setIfInBounds i true) (a.put o.dst v) w) : wpAnyT P md ops Q (TS cs S0) (fuel + 1) L a w :=
  have hi' : ops[i]? = some o := by rw [← Array.getElem?_toList]; exact hi
  wpAnyT_first (S1 := fun w => S0 w ∧ w.cell? p = some u) (bl := [b]) hi' (Region.noSelect_spec hs) hQ (by simpa using hb) (TS.indep hc)
    (fun L w h1 h2 => ⟨h2.1, h2.2 _ (List.mem_of_getElem? hm) (h1 b (by simp))⟩) fuel L a w (Region.free_spec hi' hf) (by simpa using hr) (by simpa using hub) (.inl ⟨hw, fun w h => hy w h.1 h.2⟩) hS (h ((TS.indep hc _ _).2 hS))
/-- One operation alone may come up. -/
theorem only_oneT {i : Nat} {o : Oper} {fuel : Nat} {L : Array Bool} {a : Act} {w : World} (hr : Region.ready md ops L = [i]) (hi : ops.toList[i]? = some o)
    (hw : Region.wanted o (yielded ops a.tmps) = true) (h : ∀ K : Act → World → Prop, Hid (∀ a' w', TS cs S0 (L.setIfInBounds i true) w' → (TS cs S0 (L.setIfInBounds i true) w' → wpAnyT P md ops Q (TS cs S0) fuel (L.setIfInBounds i true) a' w') → K a' w') → o.wp P a w K Q) : wpAnyT P md ops Q (TS cs S0) (fuel + 1) L a w := by
  refine ⟨fun h0 => absurd (hr ▸ h0) (by simp), ?_⟩
  rw [hr]
  intro j hj
  rw [List.mem_singleton.1 hj]
  unfold wpOp
  rw [show ops[i]? = some o from by rw [← Array.getElem?_toList]; exact hi]
  simp only [hw, if_true]
  exact .inl (h _ (Lib.hid fun a' w' h1 h2 => ⟨h1, h2 h1⟩))
end
theorem cell_far {W : World} {b i c j : Nat} {u : Value} (hne : c ≠ b) : (W.setCell ⟨b, i, none⟩ u).cell? ⟨c, j, none⟩ = W.cell? ⟨c, j, none⟩ := by
  unfold World.cell?
  rw [Below.heap_setCell W ⟨b, i, none⟩ u c (fun e => hne (by simpa using e))]
theorem below_f7x {B b : Nat} {A W : World} (h : Below B A W) (hb : B ≤ b) (y0 y1 y2 y3 y4 y5 y6 : Int) : Below B A (((((((W.setCell ⟨b, 0, none⟩ (.int .i64 y0)).setCell ⟨b, 1, none⟩ (.int .i64 y1)).setCell ⟨b, 2, none⟩ (.int .i64 y2)).setCell ⟨b, 3, none⟩ (.int .i64 y3)).setCell ⟨b, 4, none⟩ (.int .i64 y4)).setCell ⟨b, 5, none⟩ (.int .i64 y5)).setCell ⟨b, 6, none⟩ (.int .i64 y6)) :=
  ((((((h.setCell (p := ⟨b, 0, none⟩) hb _).setCell (p := ⟨b, 1, none⟩) hb _).setCell (p := ⟨b, 2, none⟩) hb _).setCell (p := ⟨b, 3, none⟩) hb _).setCell (p := ⟨b, 4, none⟩) hb _).setCell (p := ⟨b, 5, none⟩) hb _).setCell (p := ⟨b, 6, none⟩) hb _
theorem cell_far5 {W : World} {b c j : Nat} (hne : c ≠ b) (y0 y1 y2 y3 y4 : Value) : (((((W.setCell ⟨b, 0, none⟩ y0).setCell ⟨b, 1, none⟩ y1).setCell ⟨b, 2, none⟩ y2).setCell ⟨b, 3, none⟩ y3).setCell ⟨b, 4, none⟩ y4).cell? ⟨c, j, none⟩ = W.cell? ⟨c, j, none⟩ := by
  rw [cell_far hne, cell_far hne, cell_far hne, cell_far hne, cell_far hne]
set_option maxRecDepth 100000 in
set_option maxHeartbeats 16000000 in
theorem refFire_any (ps : Option Addr) (cs gw cw : Nat) (pb : Option Addr) (cb base : Nat) (sp : List Int) (room : Int) (l : List St) (L : BatL) (v : Value) (bs : BatL) (w : World) (hb : RefAt w base sp l L ps cs gw cw pb cb) (hbase : base ≤ w.heap.size)
    (hq : SrcB w v bs) (hl : l.length ≤ 1000) (hl0 : 0 < l.length) (hinv : BInv l L) (hroom : 0 ≤ room ∧ room ≤ 1000000000) (hsp : sp = l.map St.space) :
    Calls Try.prog 63 #[.agg #[.bool false, .slice ps sp.length cs, .int .i64 room, .slice (some ⟨gw, 0, none⟩) l.length cw, .slice pb L.length cb], v] w (RefTo w base sp room ps cs (fireF room l L bs)) := by
  obtain ⟨av, capb, rfl⟩ := hq.shape
  obtain ⟨xb, hxb⟩ : ∃ x, w.heap.size = x := ⟨_, rfl⟩
  have B1 := (Below.refl w.heap.size w).alloc (Nat.le_refl _) (.cells #[.bool false, .slice ps sp.length cs, .int .i64 room, .slice (some ⟨gw, 0, none⟩) l.length cw, .slice pb L.length cb] 56)
  have X1 := Blk.newI w xb #[.bool false, .slice ps sp.length cs, .int .i64 room, .slice (some ⟨gw, 0, none⟩) l.length cw, .slice pb L.length cb] 56 hxb
  have B2 := B1.alloc B1.size (.cells #[.bool false, .slice none 0 0, .int .i64 0, .slice none 0 0, .slice none 0 0] 56)
  have Z1 := Blk.newI (w.alloc (.cells #[.bool false, .slice ps sp.length cs, .int .i64 room, .slice (some ⟨gw, 0, none⟩) l.length cw, .slice pb L.length cb] 56)) (xb + 1) #[.bool false, .slice none 0 0, .int .i64 0, .slice none 0 0, .slice none 0 0] 56 (by simp [hxb])
  have X2 := X1.alloc (.cells #[.bool false, .slice none 0 0, .int .i64 0, .slice none 0 0, .slice none 0 0] 56)
  have HRF2 := Lib.hid (hb.past B2)
  have HW2 := Lib.hid B2
  have HS2 := Lib.hid (hq.past B2)
  have HINV := Lib.hid hinv
  have HSP := Lib.hid hsp
  have HRW := Lib.hid hb
  have HSW := Lib.hid hq
  obtain ⟨w2, hw2⟩ : ∃ Z, (w.alloc (.cells #[.bool false, .slice ps sp.length cs, .int .i64 room, .slice (some ⟨gw, 0, none⟩) l.length cw, .slice pb L.length cb] 56)).alloc (.cells #[.bool false, .slice none 0 0, .int .i64 0, .slice none 0 0, .slice none 0 0] 56) = Z := ⟨_, rfl⟩
  have hsz2 : w2.heap.size = xb + 2 := by rw [← hw2]; simp [hxb]
  have HSZ2 := Lib.hid hsz2
  rw [hw2] at HRF2 HW2 HS2 X2 Z1
  have HX2 := Lib.hid X2
  have HZ2 := Lib.hid Z1
  have x4 := X2.cell (i := 4) (v := .slice pb L.length cb) rfl
  obtain ⟨R, hR⟩ : ∃ R, fireF room l L bs = R := ⟨_, rfl⟩
  have HR := Lib.hid hR
  rw [hR]
  have hxw : w.heap.size ≤ xb := Nat.le_of_eq hxb
  clear X1 X2 Z1 B1 B2 hsz2 hb hq hinv hR hsp
  go_enter Try.func63, Try.ntmps63
  go_upto_region 1 with fail
  try rw [hw2]
  clear hw2
  by_cases hL : 0 < L.length
  · have HV : Hid (R = (9, l, L)) := Lib.hid (by rw [← HR.out]; unfold fireF; rw [if_pos (List.length_pos_iff.1 hL)])
    have e0z := HX2.out.cell (i := 0) (v := (.bool false)) rfl
    have e1z := HX2.out.cell (i := 1) (v := (.slice ps sp.length cs)) rfl
    have e2z := HX2.out.cell (i := 2) (v := (.int .i64 room)) rfl
    have e3z := HX2.out.cell (i := 3) (v := (.slice (some ⟨gw, 0, none⟩) l.length cw)) rfl
    have e4z := HX2.out.cell (i := 4) (v := (.slice pb L.length cb)) rfl
    have z0z := HZ2.out.cell (i := 0) (v := (.bool false)) rfl
    have y0z := HZ2.out.fr (i := 0)
    have z1z := HZ2.out.cell (i := 1) (v := (.slice none 0 0)) rfl
    have y1z := HZ2.out.fr (i := 1)
    have z2z := HZ2.out.cell (i := 2) (v := (.int .i64 0)) rfl
    have y2z := HZ2.out.fr (i := 2)
    have z3z := HZ2.out.cell (i := 3) (v := (.slice none 0 0)) rfl
    have y3z := HZ2.out.fr (i := 3)
    have z4z := HZ2.out.cell (i := 4) (v := (.slice none 0 0)) rfl
    have y4z := HZ2.out.fr (i := 4)
    have HZ8 := Lib.hid (blk_set5 HZ2.out (.bool false) (.slice ps sp.length cs) (.int .i64 room) (.slice (some ⟨gw, 0, none⟩) l.length cw) (.slice pb L.length cb) rfl rfl rfl rfl rfl)
    have HB8 := Lib.hid (below_set5 (b := xb + 1) HW2.out (by omega) (.bool false) (.slice ps sp.length cs) (.int .i64 room) (.slice (some ⟨gw, 0, none⟩) l.length cw) (.slice pb L.length cb))
    have HR8 := Lib.hid (HRF2.out.set5 HZ2.out (.bool false) (.slice ps sp.length cs) (.int .i64 room) (.slice (some ⟨gw, 0, none⟩) l.length cw) (.slice pb L.length cb))
    go_wp2
    obtain ⟨w8, hw8⟩ : ∃ Z, ((((w2.setCell ⟨xb + 1, 0, none⟩ (.bool false)).setCell ⟨xb + 1, 1, none⟩ (.slice ps sp.length cs)).setCell ⟨xb + 1, 2, none⟩ (.int .i64 room)).setCell ⟨xb + 1, 3, none⟩ (.slice (some ⟨gw, 0, none⟩) l.length cw)).setCell ⟨xb + 1, 4, none⟩ (.slice pb L.length cb) = Z := ⟨_, rfl⟩
    rw [hw8] at HZ8 HB8 HR8
    try rw [hw8]
    have g0 := HZ8.out.cell (i := 0) (v := (.bool false)) rfl
    have g1 := HZ8.out.cell (i := 1) (v := (.slice ps sp.length cs)) rfl
    have g2 := HZ8.out.cell (i := 2) (v := (.int .i64 room)) rfl
    have g3 := HZ8.out.cell (i := 3) (v := (.slice (some ⟨gw, 0, none⟩) l.length cw)) rfl
    have g4 := HZ8.out.cell (i := 4) (v := (.slice pb L.length cb)) rfl
    refine bodyPost_ret (v := .tuple #[.agg #[.bool false, .slice ps sp.length cs, .int .i64 room, .slice (some ⟨gw, 0, none⟩) l.length cw, .slice pb L.length cb], .int .i64 9]) (by simp [results, Try.results63, go_sem, g0, g1, g2, g3, g4]) rfl ⟨HB8.out, _, _, _, _, by rw [HV.out], by rw [HV.out]; exact HR8.out⟩
  have HL0 : Hid (L = []) := Lib.hid (List.length_eq_zero_iff.1 (by omega))
  have hLi : ¬ ((0 : Int) < (L.length : Int)) := by omega
  by_cases hb0 : bs.length = 0
  · have HV : Hid (R = (2, l, L)) := Lib.hid (by rw [← HR.out]; unfold fireF; rw [if_neg (by simp [HL0.out]), if_pos (List.length_eq_zero_iff.1 hb0)])
    have e0z := HX2.out.cell (i := 0) (v := (.bool false)) rfl
    have e1z := HX2.out.cell (i := 1) (v := (.slice ps sp.length cs)) rfl
    have e2z := HX2.out.cell (i := 2) (v := (.int .i64 room)) rfl
    have e3z := HX2.out.cell (i := 3) (v := (.slice (some ⟨gw, 0, none⟩) l.length cw)) rfl
    have e4z := HX2.out.cell (i := 4) (v := (.slice pb L.length cb)) rfl
    have z0z := HZ2.out.cell (i := 0) (v := (.bool false)) rfl
    have y0z := HZ2.out.fr (i := 0)
    have z1z := HZ2.out.cell (i := 1) (v := (.slice none 0 0)) rfl
    have y1z := HZ2.out.fr (i := 1)
    have z2z := HZ2.out.cell (i := 2) (v := (.int .i64 0)) rfl
    have y2z := HZ2.out.fr (i := 2)
    have z3z := HZ2.out.cell (i := 3) (v := (.slice none 0 0)) rfl
    have y3z := HZ2.out.fr (i := 3)
    have z4z := HZ2.out.cell (i := 4) (v := (.slice none 0 0)) rfl
    have y4z := HZ2.out.fr (i := 4)
    have HZ8 := Lib.hid (blk_set5 HZ2.out (.bool false) (.slice ps sp.length cs) (.int .i64 room) (.slice (some ⟨gw, 0, none⟩) l.length cw) (.slice pb L.length cb) rfl rfl rfl rfl rfl)
    have HB8 := Lib.hid (below_set5 (b := xb + 1) HW2.out (by omega) (.bool false) (.slice ps sp.length cs) (.int .i64 room) (.slice (some ⟨gw, 0, none⟩) l.length cw) (.slice pb L.length cb))
    have HR8 := Lib.hid (HRF2.out.set5 HZ2.out (.bool false) (.slice ps sp.length cs) (.int .i64 room) (.slice (some ⟨gw, 0, none⟩) l.length cw) (.slice pb L.length cb))
    go_wp2
    obtain ⟨w8, hw8⟩ : ∃ Z, ((((w2.setCell ⟨xb + 1, 0, none⟩ (.bool false)).setCell ⟨xb + 1, 1, none⟩ (.slice ps sp.length cs)).setCell ⟨xb + 1, 2, none⟩ (.int .i64 room)).setCell ⟨xb + 1, 3, none⟩ (.slice (some ⟨gw, 0, none⟩) l.length cw)).setCell ⟨xb + 1, 4, none⟩ (.slice pb L.length cb) = Z := ⟨_, rfl⟩
    rw [hw8] at HZ8 HB8 HR8
    try rw [hw8]
    have g0 := HZ8.out.cell (i := 0) (v := (.bool false)) rfl
    have g1 := HZ8.out.cell (i := 1) (v := (.slice ps sp.length cs)) rfl
    have g2 := HZ8.out.cell (i := 2) (v := (.int .i64 room)) rfl
    have g3 := HZ8.out.cell (i := 3) (v := (.slice (some ⟨gw, 0, none⟩) l.length cw)) rfl
    have g4 := HZ8.out.cell (i := 4) (v := (.slice pb L.length cb)) rfl
    refine bodyPost_ret (v := .tuple #[.agg #[.bool false, .slice ps sp.length cs, .int .i64 room, .slice (some ⟨gw, 0, none⟩) l.length cw, .slice pb L.length cb], .int .i64 2]) (by simp [results, Try.results63, go_sem, g0, g1, g2, g3, g4]) rfl ⟨HB8.out, _, _, _, _, by rw [HV.out], by rw [HV.out]; exact HR8.out⟩
  have HB0 : Hid (bs ≠ []) := Lib.hid (fun e => hb0 (by rw [e]; rfl))
  by_cases hb20 : 20 < bs.length
  · have hb20i : (20 : Int) < (bs.length : Int) := by omega
    have hb0i : ((bs.length : Int) == 0) = false := by simpa using hb0
    have HV : Hid (R = (5, l, L)) := Lib.hid (by rw [← HR.out]; unfold fireF; rw [if_neg (by simp [HL0.out]), if_neg HB0.out, if_pos hb20])
    have e0z := HX2.out.cell (i := 0) (v := (.bool false)) rfl
    have e1z := HX2.out.cell (i := 1) (v := (.slice ps sp.length cs)) rfl
    have e2z := HX2.out.cell (i := 2) (v := (.int .i64 room)) rfl
    have e3z := HX2.out.cell (i := 3) (v := (.slice (some ⟨gw, 0, none⟩) l.length cw)) rfl
    have e4z := HX2.out.cell (i := 4) (v := (.slice pb L.length cb)) rfl
    have z0z := HZ2.out.cell (i := 0) (v := (.bool false)) rfl
    have y0z := HZ2.out.fr (i := 0)
    have z1z := HZ2.out.cell (i := 1) (v := (.slice none 0 0)) rfl
    have y1z := HZ2.out.fr (i := 1)
    have z2z := HZ2.out.cell (i := 2) (v := (.int .i64 0)) rfl
    have y2z := HZ2.out.fr (i := 2)
    have z3z := HZ2.out.cell (i := 3) (v := (.slice none 0 0)) rfl
    have y3z := HZ2.out.fr (i := 3)
    have z4z := HZ2.out.cell (i := 4) (v := (.slice none 0 0)) rfl
    have y4z := HZ2.out.fr (i := 4)
    have HZ8 := Lib.hid (blk_set5 HZ2.out (.bool false) (.slice ps sp.length cs) (.int .i64 room) (.slice (some ⟨gw, 0, none⟩) l.length cw) (.slice pb L.length cb) rfl rfl rfl rfl rfl)
    have HB8 := Lib.hid (below_set5 (b := xb + 1) HW2.out (by omega) (.bool false) (.slice ps sp.length cs) (.int .i64 room) (.slice (some ⟨gw, 0, none⟩) l.length cw) (.slice pb L.length cb))
    have HR8 := Lib.hid (HRF2.out.set5 HZ2.out (.bool false) (.slice ps sp.length cs) (.int .i64 room) (.slice (some ⟨gw, 0, none⟩) l.length cw) (.slice pb L.length cb))
    go_wp2
    obtain ⟨w8, hw8⟩ : ∃ Z, ((((w2.setCell ⟨xb + 1, 0, none⟩ (.bool false)).setCell ⟨xb + 1, 1, none⟩ (.slice ps sp.length cs)).setCell ⟨xb + 1, 2, none⟩ (.int .i64 room)).setCell ⟨xb + 1, 3, none⟩ (.slice (some ⟨gw, 0, none⟩) l.length cw)).setCell ⟨xb + 1, 4, none⟩ (.slice pb L.length cb) = Z := ⟨_, rfl⟩
    rw [hw8] at HZ8 HB8 HR8
    try rw [hw8]
    have g0 := HZ8.out.cell (i := 0) (v := (.bool false)) rfl
    have g1 := HZ8.out.cell (i := 1) (v := (.slice ps sp.length cs)) rfl
    have g2 := HZ8.out.cell (i := 2) (v := (.int .i64 room)) rfl
    have g3 := HZ8.out.cell (i := 3) (v := (.slice (some ⟨gw, 0, none⟩) l.length cw)) rfl
    have g4 := HZ8.out.cell (i := 4) (v := (.slice pb L.length cb)) rfl
    refine bodyPost_ret (v := .tuple #[.agg #[.bool false, .slice ps sp.length cs, .int .i64 room, .slice (some ⟨gw, 0, none⟩) l.length cw, .slice pb L.length cb], .int .i64 5]) (by simp [results, Try.results63, go_sem, g0, g1, g2, g3, g4]) rfl ⟨HB8.out, _, _, _, _, by rw [HV.out], by rw [HV.out]; exact HR8.out⟩
  have HB20 := Lib.hid hb20
  go_upto_region 7 with fail
  clear x4 hL hLi hb0
  refine region_plain (fun W => W.cell? ⟨xb, 0, none⟩ = some (.bool false) ∧ W.cell? ⟨xb, 1, none⟩ = some (.slice ps sp.length cs) ∧ W.cell? ⟨xb, 2, none⟩ = some (.int .i64 room) ∧ W.cell? ⟨xb, 3, none⟩ = some (.slice (some ⟨gw, 0, none⟩) l.length cw) ∧ W.cell? ⟨xb, 4, none⟩ = some (.slice pb L.length cb)) 6 #[false, false, false, false, false, false] rfl rfl (by kernel_rfl) ?_
  have HX3 := Lib.hid (HX2.out.past ((Below.refl w2.heap.size w2).drew))
  have HZ3 := Lib.hid (HZ2.out.past ((Below.refl w2.heap.size w2).drew))
  have HRF3 := Lib.hid (HRF2.out.past ((Below.refl w2.heap.size w2).drew))
  have HS3 := Lib.hid (HS2.out.past ((Below.refl w2.heap.size w2).drew))
  have HW3 : Hid (Below w.heap.size w w2.drew) := Lib.hid HW2.out.drew
  have HSZ3 : Hid (w2.drew.heap.size = xb + 2) := HSZ2
  obtain ⟨w3, hww3⟩ : ∃ Z, w2.drew = Z := ⟨_, rfl⟩
  rw [hww3] at HX3 HZ3 HRF3 HS3 HW3 HSZ3
  try rw [hww3]
  clear hww3
  have hSS : w3.cell? ⟨xb, 0, none⟩ = some (.bool false) ∧ w3.cell? ⟨xb, 1, none⟩ = some (.slice ps sp.length cs) ∧ w3.cell? ⟨xb, 2, none⟩ = some (.int .i64 room) ∧ w3.cell? ⟨xb, 3, none⟩ = some (.slice (some ⟨gw, 0, none⟩) l.length cw) ∧ w3.cell? ⟨xb, 4, none⟩ = some (.slice pb L.length cb) := ⟨HX3.out.cell (i := 0) rfl, HX3.out.cell (i := 1) rfl, HX3.out.cell (i := 2) rfl, HX3.out.cell (i := 3) rfl, HX3.out.cell (i := 4) rfl⟩
  refine take_first (i := 0) (v := ?_) rfl (by kernel_rfl) (by kernel_rfl) (by kernel_rfl) (fun _ _ _ h => h) (by rfl) (by assumption) ?_ ?_
  rotate_left 1
  · intro X hSX
    (try dsimp only at hSX)
    first | (go_simp; done) | (go_simp; with_reducible rfl)
  try simp only [Act.put, List.setIfInBounds_toArray, List.set_cons_zero, List.set_cons_succ]
  refine take_first (i := 1) (v := ?_) rfl (by kernel_rfl) (by kernel_rfl) (by kernel_rfl) (fun _ _ _ h => h) (by rfl) (by assumption) ?_ ?_
  rotate_left 1
  · intro X hSX
    (try dsimp only at hSX)
    first | (go_simp; done) | (go_simp; with_reducible rfl)
  try simp only [Act.put, List.setIfInBounds_toArray, List.set_cons_zero, List.set_cons_succ]
  refine take_first (i := 2) (v := ?_) rfl (by kernel_rfl) (by kernel_rfl) (by kernel_rfl) (fun _ _ _ h => h) (by rfl) (by assumption) ?_ ?_
  rotate_left 1
  · intro X hSX
    (try dsimp only at hSX)
    first | (go_simp; done) | (go_simp; with_reducible rfl)
  try simp only [Act.put, List.setIfInBounds_toArray, List.set_cons_zero, List.set_cons_succ]
  refine only_one (i := 3) (by kernel_rfl) rfl (by rfl) ?_
  intro K hK
  go_simp
  have B4 := (Below.refl w3.heap.size w3).alloc (Nat.le_refl _) (.cells #[.bool false, .slice none 0 0, .int .i64 0, .slice none 0 0, .slice none 0 0] 56)
  have HN4 := Lib.hid (Blk.newI w3 (xb + 2) #[.bool false, .slice none 0 0, .int .i64 0, .slice none 0 0, .slice none 0 0] 56 HSZ3.out)
  have HX4 := Lib.hid (HX3.out.past (B4))
  have HZ4 := Lib.hid (HZ3.out.past (B4))
  have HRF4 := Lib.hid (HRF3.out.past (B4))
  have HS4 := Lib.hid (HS3.out.past (B4))
  have HW4 := Lib.hid (HW3.out.trans ((B4).mono HW3.out.size))
  have HB4 := Lib.hid B4
  clear B4
  try rw [HSZ3.out]
  obtain ⟨w4, hww4⟩ : ∃ Z, w3.alloc (.cells #[.bool false, .slice none 0 0, .int .i64 0, .slice none 0 0, .slice none 0 0] 56) = Z := ⟨_, rfl⟩
  rw [hww4] at HN4 HX4 HZ4 HRF4 HS4 HW4 HB4
  try rw [hww4]
  clear hww4
  clear hSS
  have hSS : w4.cell? ⟨xb, 0, none⟩ = some (.bool false) ∧ w4.cell? ⟨xb, 1, none⟩ = some (.slice ps sp.length cs) ∧ w4.cell? ⟨xb, 2, none⟩ = some (.int .i64 room) ∧ w4.cell? ⟨xb, 3, none⟩ = some (.slice (some ⟨gw, 0, none⟩) l.length cw) ∧ w4.cell? ⟨xb, 4, none⟩ = some (.slice pb L.length cb) := ⟨HX4.out.cell (i := 0) rfl, HX4.out.cell (i := 1) rfl, HX4.out.cell (i := 2) rfl, HX4.out.cell (i := 3) rfl, HX4.out.cell (i := 4) rfl⟩
  refine hK.out _ _ hSS ?_
  clear hK K
  try simp only [Act.put, List.setIfInBounds_toArray, List.set_cons_zero, List.set_cons_succ]
  refine take_first (i := 4) (v := ?_) rfl (by kernel_rfl) (by kernel_rfl) (by kernel_rfl) (fun _ _ _ h => h) (by rfl) (by assumption) ?_ ?_
  rotate_left 1
  · intro X hSX
    (try dsimp only at hSX)
    first | (go_simp; done) | (go_simp; with_reducible rfl)
  try simp only [Act.put, List.setIfInBounds_toArray, List.set_cons_zero, List.set_cons_succ]
  have m0 := HN4.out.cell (i := 0) (v := .bool false) rfl
  have m1 := HN4.out.cell (i := 1) (v := .slice none 0 0) rfl
  have m2 := HN4.out.cell (i := 2) (v := .int .i64 0) rfl
  have m3 := HN4.out.cell (i := 3) (v := .slice none 0 0) rfl
  have m4 := HN4.out.cell (i := 4) (v := .slice none 0 0) rfl
  have p0 := HN4.out.fr (i := 0)
  have p1 := HN4.out.fr (i := 1)
  have p2 := HN4.out.fr (i := 2)
  have p3 := HN4.out.fr (i := 3)
  have p4 := HN4.out.fr (i := 4)
  have HN5 := Lib.hid (blk_set5 HN4.out (.bool false) (.slice ps sp.length cs) (.int .i64 room) (.slice (some ⟨gw, 0, none⟩) l.length cw) (.slice pb L.length cb) rfl rfl rfl rfl rfl)
  have HX5 := Lib.hid (blk_f5 (b' := xb + 2) HX4.out (by omega) (.bool false) (.slice ps sp.length cs) (.int .i64 room) (.slice (some ⟨gw, 0, none⟩) l.length cw) (.slice pb L.length cb))
  have HZ5 := Lib.hid (blk_f5 (b' := xb + 2) HZ4.out (by omega) (.bool false) (.slice ps sp.length cs) (.int .i64 room) (.slice (some ⟨gw, 0, none⟩) l.length cw) (.slice pb L.length cb))
  have HRF5 := Lib.hid (HRF4.out.set5 HN4.out (.bool false) (.slice ps sp.length cs) (.int .i64 room) (.slice (some ⟨gw, 0, none⟩) l.length cw) (.slice pb L.length cb))
  have B5 := below_set5 (b := xb + 2) ((HB4.out)) (by rw [HSZ3.out]; exact Nat.le_refl _) (.bool false) (.slice ps sp.length cs) (.int .i64 room) (.slice (some ⟨gw, 0, none⟩) l.length cw) (.slice pb L.length cb)
  have HS5 := Lib.hid (HS3.out.past B5)
  have HW5 := Lib.hid (below_set5 (b := xb + 2) HW4.out (by omega) (.bool false) (.slice ps sp.length cs) (.int .i64 room) (.slice (some ⟨gw, 0, none⟩) l.length cw) (.slice pb L.length cb))
  clear B5
  refine only_one (i := 5) (by kernel_rfl) rfl (by rfl) ?_
  intro K hK
  go_simp
  obtain ⟨w5, hww5⟩ : ∃ Z, ((((w4.setCell ⟨xb + 2, 0, none⟩ (.bool false)).setCell ⟨xb + 2, 1, none⟩ (.slice ps sp.length cs)).setCell ⟨xb + 2, 2, none⟩ (.int .i64 room)).setCell ⟨xb + 2, 3, none⟩ (.slice (some ⟨gw, 0, none⟩) l.length cw)).setCell ⟨xb + 2, 4, none⟩ (.slice pb L.length cb) = Z := ⟨_, rfl⟩
  rw [hww5] at HN5 HX5 HZ5 HRF5 HS5 HW5
  try rw [hww5]
  clear hww5
  clear hSS m0 p0 m1 p1 m2 p2 m3 p3 m4 p4
  refine hK.out _ _ ⟨HX5.out.cell (i := 0) rfl, HX5.out.cell (i := 1) rfl, HX5.out.cell (i := 2) rfl, HX5.out.cell (i := 3) rfl, HX5.out.cell (i := 4) rfl⟩ ?_
  clear hK K
  try simp only [Act.put, List.setIfInBounds_toArray, List.set_cons_zero, List.set_cons_succ]
  refine wpAnyH_done (by kernel_rfl) ?_ _
  go_wp2
  go_loopw [6, 8] (fun rm i wr => ∃ (k gk ck : Nat) (seen : List Int) (li : List St) (s : Int), k ≤ bs.length ∧ rm = .int .i64 (room - s) ∧ i = .int .i64 k ∧ Hid (FRelR l bs k seen li s) ∧ Hid (Blk wr (xb + 2) #[.bool false, .slice ps sp.length cs, .int .i64 room, .slice (some ⟨gk, 0, none⟩) l.length ck, .slice pb L.length cb] 56) ∧ Hid (WarR wr base (.slice (some ⟨gk, 0, none⟩) l.length ck) li) ∧ Hid (Blk wr xb #[.bool false, .slice ps sp.length cs, .int .i64 room, .slice (some ⟨gw, 0, none⟩) l.length cw, .slice pb L.length cb] 56) ∧ Hid (Blk wr (xb + 1) #[.bool false, .slice none 0 0, .int .i64 0, .slice none 0 0, .slice none 0 0] 56) ∧ Hid (Below w.heap.size w wr)) (fun _ i _ => bs.length - (intOf i).toNat)
  case atStart => exact ⟨0, gw, cw, [], l, 0, Nat.zero_le _, by simp, rfl, Lib.hid (FRelR.init (by have := HINV.out; rwa [HL0.out] at this)), HN5, Lib.hid HRF5.out.war, HX5, HZ5, HW5⟩
  case round =>
    obtain ⟨k, gk, ck, seen, li, s, hk, rfl, rfl, HFR, HN, HWK, HX, HZ, HW⟩ := hrel
    have HRF := Lib.hid (HRW.out.past HW.out)
    have HS := Lib.hid (HSW.out.past HW.out)
    by_cases hlt : k < bs.length
    · obtain ⟨kd, n, hel⟩ : ∃ x y, bs[k]?.getD (0, 0) = (x, y) := ⟨_, _, rfl⟩
      obtain ⟨b9, off9, rfl, hb9, c1, c2⟩ := HS.out.at hlt hel
      have hb9w : b9 < w.heap.size := by
        obtain ⟨b', o', e', h', _⟩ := HSW.out.at hlt hel
        obtain rfl : b9 = b' := by simp only [Option.some.injEq, Addr.mk.injEq] at e'; exact e'.1
        exact h'
      have HEL := Lib.hid hel
      have HC1 := Lib.hid c1
      have HC2 := Lib.hid c2
      have hi0 : (0 : Int) ≤ (k : Int) := by omega
      have hi1 : (k : Int) < (bs.length : Int) := by omega
      have hlw : IntKind.i64.wrap ((l.length : Int) - 1) = (l.length : Int) - 1 := wrap_id (by omega) (by omega)
      obtain ⟨q, hq⟩ : ∃ q, inB kd 0 ((l.length : Int) - 1) = q := ⟨_, rfl⟩
      have HQQ := Lib.hid hq
      have hbad := HFR.out.bad hlt hel
      have HBAD := Lib.hid hbad
      clear hel c1 c2 hbad
      go_upto_region 11 with fail
      refine region_plain (fun W => W.cell? ⟨b9, off9 + k * 2, none⟩ = some (.int .i64 kd) ∧ W.cell? ⟨xb, 3, none⟩ = some (.slice (some ⟨gw, 0, none⟩) l.length cw)) 11 #[false, false, false, false, false, false, false, false, false, false, false] rfl rfl (by kernel_rfl) ?_
      have HNx := Lib.hid (HN.out.past ((Below.refl wr.heap.size wr).drew))
      have HXx := Lib.hid (HX.out.past ((Below.refl wr.heap.size wr).drew))
      have HZx := Lib.hid (HZ.out.past ((Below.refl wr.heap.size wr).drew))
      have HWKx := Lib.hid (own_past HWK.out ((Below.refl wr.heap.size wr).drew))
      have HRFx := Lib.hid (HRF.out.past ((Below.refl wr.heap.size wr).drew))
      have HSx := Lib.hid (HS.out.past ((Below.refl wr.heap.size wr).drew))
      have HWx := Lib.hid (HW.out.trans (((Below.refl wr.heap.size wr).drew).mono HW.out.size))
      have hb9x : b9 < wr.drew.heap.size := hb9
      obtain ⟨wx, hwwx⟩ : ∃ Z, wr.drew = Z := ⟨_, rfl⟩
      rw [hwwx] at HNx HXx HZx HWKx HRFx HSx HWx hb9x
      try rw [hwwx]
      clear hwwx
      obtain ⟨b9', off9', e9, _, c1x, c2x⟩ := HSx.out.at hlt HEL.out
      obtain ⟨rfl, rfl⟩ : b9 = b9' ∧ off9 = off9' := by simp only [Option.some.injEq, Addr.mk.injEq] at e9; exact ⟨e9.1, e9.2.1⟩
      clear e9
      have HC1x := Lib.hid c1x
      have HC2x := Lib.hid c2x
      have hSS : wx.cell? ⟨b9, off9 + k * 2, none⟩ = some (.int .i64 kd) ∧ wx.cell? ⟨xb, 3, none⟩ = some (.slice (some ⟨gw, 0, none⟩) l.length cw) := ⟨c1x, HXx.out.cell (i := 3) rfl⟩
      clear c1x c2x
      have HIN := Lib.hid (refInB_any kd 0 ((l.length : Int) - 1) wx)
      rw [hq] at HIN
      clear hq
      refine take_first (i := 0) (v := ?_) rfl (by kernel_rfl) (by kernel_rfl) (by kernel_rfl) (fun _ _ _ h => h) (by rfl) (by assumption) ?_ ?_
      rotate_left 1
      · intro X hSX
        (try dsimp only at hSX)
        first | (go_simp; done) | (go_simp; with_reducible rfl)
      try simp only [Act.put, List.setIfInBounds_toArray, List.set_cons_zero, List.set_cons_succ]
      refine take_first (i := 1) (v := ?_) rfl (by kernel_rfl) (by kernel_rfl) (by kernel_rfl) (fun _ _ _ h => h) (by rfl) (by assumption) ?_ ?_
      rotate_left 1
      · intro X hSX
        (try dsimp only at hSX)
        first | (go_simp; done) | (go_simp; with_reducible rfl)
      try simp only [Act.put, List.setIfInBounds_toArray, List.set_cons_zero, List.set_cons_succ]
      refine take_first (i := 2) (v := ?_) rfl (by kernel_rfl) (by kernel_rfl) (by kernel_rfl) (fun _ _ _ h => h) (by rfl) (by assumption) ?_ ?_
      rotate_left 1
      · intro X hSX
        (try dsimp only at hSX)
        first | (go_simp; done) | (go_simp; with_reducible rfl)
      try simp only [Act.put, List.setIfInBounds_toArray, List.set_cons_zero, List.set_cons_succ]
      refine take_first (i := 3) (v := ?_) rfl (by kernel_rfl) (by kernel_rfl) (by kernel_rfl) (fun _ _ _ h => h) (by rfl) (by assumption) ?_ ?_
      rotate_left 1
      · intro X hSX
        (try dsimp only at hSX)
        first | (go_simp; done) | (go_simp; with_reducible rfl)
      try simp only [Act.put, List.setIfInBounds_toArray, List.set_cons_zero, List.set_cons_succ]
      refine take_first (i := 4) (v := ?_) rfl (by kernel_rfl) (by kernel_rfl) (by kernel_rfl) (fun _ _ _ h => h) (by rfl) (by assumption) ?_ ?_
      rotate_left 1
      · intro X hSX
        (try dsimp only at hSX)
        first | (go_simp; done) | (go_simp; with_reducible rfl)
      try simp only [Act.put, List.setIfInBounds_toArray, List.set_cons_zero, List.set_cons_succ]
      refine take_first (i := 5) (v := ?_) rfl (by kernel_rfl) (by kernel_rfl) (by kernel_rfl) (fun _ _ _ h => h) (by rfl) (by assumption) ?_ ?_
      rotate_left 1
      · intro X hSX
        (try dsimp only at hSX)
        first | (go_simp; done) | (go_simp; with_reducible rfl)
      try simp only [Act.put, List.setIfInBounds_toArray, List.set_cons_zero, List.set_cons_succ]
      refine take_first (i := 6) (v := ?_) rfl (by kernel_rfl) (by kernel_rfl) (by kernel_rfl) (fun _ _ _ h => h) (by rfl) (by assumption) ?_ ?_
      rotate_left 1
      · intro X hSX
        (try dsimp only at hSX)
        first | (go_simp; done) | (go_simp; with_reducible rfl)
      try simp only [Act.put, List.setIfInBounds_toArray, List.set_cons_zero, List.set_cons_succ]
      refine take_first (i := 7) (v := ?_) rfl (by kernel_rfl) (by kernel_rfl) (by kernel_rfl) (fun _ _ _ h => h) (by rfl) (by assumption) ?_ ?_
      rotate_left 1
      · intro X hSX
        (try dsimp only at hSX)
        first | (go_simp; done) | (go_simp; with_reducible rfl)
      try simp only [Act.put, List.setIfInBounds_toArray, List.set_cons_zero, List.set_cons_succ]
      refine take_first (i := 8) (v := ?_) rfl (by kernel_rfl) (by kernel_rfl) (by kernel_rfl) (fun _ _ _ h => h) (by rfl) (by assumption) ?_ ?_
      rotate_left 1
      · intro X hSX
        (try dsimp only at hSX)
        first | (go_simp; done) | (go_simp; with_reducible rfl)
      try simp only [Act.put, List.setIfInBounds_toArray, List.set_cons_zero, List.set_cons_succ]
      refine only_one (i := 9) (by kernel_rfl) rfl (by rfl) ?_
      intro K hK
      go_simp
      refine HIN.out.mono ?_
      rintro e w99 ⟨rfl, hw99⟩
      subst w99
      refine hK.out _ _ hSS ?_
      clear hK K
      try simp only [Act.put, List.setIfInBounds_toArray, List.set_cons_zero, List.set_cons_succ]
      refine take_first (i := 10) (v := ?_) rfl (by kernel_rfl) (by kernel_rfl) (by kernel_rfl) (fun _ _ _ h => h) (by rfl) (by assumption) ?_ ?_
      rotate_left 1
      · intro X hSX
        (try dsimp only at hSX)
        first | (go_simp; done) | (go_simp; with_reducible rfl)
      try simp only [Act.put, List.setIfInBounds_toArray, List.set_cons_zero, List.set_cons_succ]
      refine wpAnyH_done (by kernel_rfl) ?_ _
      clear hSS HIN hlw
      cases q
      · skip
        go_upto_region 12 with fail
        have HV : Hid (R = (7, l, L)) := Lib.hid (by rw [← HR.out]; exact fireF_err HB0.out HB20.out (HBAD.out.1 HQQ.out) (by decide) HL0.out)
        have e0z := HXx.out.cell (i := 0) (v := (.bool false)) rfl
        have e1z := HXx.out.cell (i := 1) (v := (.slice ps sp.length cs)) rfl
        have e2z := HXx.out.cell (i := 2) (v := (.int .i64 room)) rfl
        have e3z := HXx.out.cell (i := 3) (v := (.slice (some ⟨gw, 0, none⟩) l.length cw)) rfl
        have e4z := HXx.out.cell (i := 4) (v := (.slice pb L.length cb)) rfl
        have z0z := HZx.out.cell (i := 0) (v := (.bool false)) rfl
        have y0z := HZx.out.fr (i := 0)
        have z1z := HZx.out.cell (i := 1) (v := (.slice none 0 0)) rfl
        have y1z := HZx.out.fr (i := 1)
        have z2z := HZx.out.cell (i := 2) (v := (.int .i64 0)) rfl
        have y2z := HZx.out.fr (i := 2)
        have z3z := HZx.out.cell (i := 3) (v := (.slice none 0 0)) rfl
        have y3z := HZx.out.fr (i := 3)
        have z4z := HZx.out.cell (i := 4) (v := (.slice none 0 0)) rfl
        have y4z := HZx.out.fr (i := 4)
        have HZ8 := Lib.hid (blk_set5 HZx.out (.bool false) (.slice ps sp.length cs) (.int .i64 room) (.slice (some ⟨gw, 0, none⟩) l.length cw) (.slice pb L.length cb) rfl rfl rfl rfl rfl)
        have HB8 := Lib.hid (below_set5 (b := xb + 1) HWx.out (by omega) (.bool false) (.slice ps sp.length cs) (.int .i64 room) (.slice (some ⟨gw, 0, none⟩) l.length cw) (.slice pb L.length cb))
        have HR8 := Lib.hid (HRFx.out.set5 HZx.out (.bool false) (.slice ps sp.length cs) (.int .i64 room) (.slice (some ⟨gw, 0, none⟩) l.length cw) (.slice pb L.length cb))
        go_wp2
        obtain ⟨w8, hw8⟩ : ∃ Z, ((((wx.setCell ⟨xb + 1, 0, none⟩ (.bool false)).setCell ⟨xb + 1, 1, none⟩ (.slice ps sp.length cs)).setCell ⟨xb + 1, 2, none⟩ (.int .i64 room)).setCell ⟨xb + 1, 3, none⟩ (.slice (some ⟨gw, 0, none⟩) l.length cw)).setCell ⟨xb + 1, 4, none⟩ (.slice pb L.length cb) = Z := ⟨_, rfl⟩
        rw [hw8] at HZ8 HB8 HR8
        try rw [hw8]
        have g0 := HZ8.out.cell (i := 0) (v := (.bool false)) rfl
        have g1 := HZ8.out.cell (i := 1) (v := (.slice ps sp.length cs)) rfl
        have g2 := HZ8.out.cell (i := 2) (v := (.int .i64 room)) rfl
        have g3 := HZ8.out.cell (i := 3) (v := (.slice (some ⟨gw, 0, none⟩) l.length cw)) rfl
        have g4 := HZ8.out.cell (i := 4) (v := (.slice pb L.length cb)) rfl
        refine bodyPost_ret (v := .tuple #[.agg #[.bool false, .slice ps sp.length cs, .int .i64 room, .slice (some ⟨gw, 0, none⟩) l.length cw, .slice pb L.length cb], .int .i64 7]) (by simp [results, Try.results63, go_sem, g0, g1, g2, g3, g4]) rfl ⟨HB8.out, _, _, _, _, by rw [HV.out], by rw [HV.out]; exact HR8.out⟩
      have hkd := kind_nat HQQ.out
      obtain ⟨kk, rfl⟩ : ∃ kk : Nat, kd = kk := ⟨kd.toNat, by omega⟩
      have hkl : kk < l.length := by simpa using hkd.1
      clear hkd
      go_wp2
      go_loopw [9] (fun i wy => ∃ j : Nat, j ≤ k ∧ i = .int .i64 j ∧ Hid (∀ q, q < j → (bs[q]?.getD (0, 0)).1 ≠ (kk : Int)) ∧ Hid (Below wx.heap.size wx wy)) (fun i _ => k - (intOf i).toNat)
      case atStart => exact ⟨0, Nat.zero_le _, rfl, Lib.hid (fun q hq => by omega), Lib.hid (Below.refl _ _)⟩
      case round =>
        obtain ⟨j, hj, rfl, HJ, HBJ⟩ := hrel
        have HNy := Lib.hid (HNx.out.past (HBJ.out))
        have HXy := Lib.hid (HXx.out.past (HBJ.out))
        have HZy := Lib.hid (HZx.out.past (HBJ.out))
        have HWKy := Lib.hid (own_past HWKx.out (HBJ.out))
        have HRFy := Lib.hid (HRFx.out.past (HBJ.out))
        have HSy := Lib.hid (HSx.out.past (HBJ.out))
        have HWy := Lib.hid (HWx.out.trans ((HBJ.out).mono HWx.out.size))
        have hb9y : b9 < wr.heap.size := Nat.lt_of_lt_of_le hb9x HBJ.out.size
        by_cases hjl : j < k
        · obtain ⟨kj, nj, helj⟩ : ∃ x y, bs[j]?.getD (0, 0) = (x, y) := ⟨_, _, rfl⟩
          obtain ⟨b9', off9', e9, _, d1, _⟩ := HSy.out.at (k := j) (by omega) helj
          obtain ⟨rfl, rfl⟩ : b9 = b9' ∧ off9 = off9' := by simp only [Option.some.injEq, Addr.mk.injEq] at e9; exact ⟨e9.1, e9.2.1⟩
          clear e9
          have HELJ := Lib.hid helj
          have HD1 := Lib.hid d1
          have hj0 : (0 : Int) ≤ (j : Int) := by omega
          have hj1 : (j : Int) < (bs.length : Int) := by omega
          clear helj d1
          go_upto_region 16 with fail
          refine region_plain (fun W => W.cell? ⟨b9, off9 + j * 2, none⟩ = some (.int .i64 kj) ∧ W.cell? ⟨b9, off9 + k * 2, none⟩ = some (.int .i64 (kk : Int))) 11 #[false, false, false, false, false, false, false, false, false, false, false] rfl rfl (by kernel_rfl) ?_
          have HNz := Lib.hid (HNy.out.past ((Below.refl wr.heap.size wr).drew))
          have HXz := Lib.hid (HXy.out.past ((Below.refl wr.heap.size wr).drew))
          have HZz := Lib.hid (HZy.out.past ((Below.refl wr.heap.size wr).drew))
          have HWKz := Lib.hid (own_past HWKy.out ((Below.refl wr.heap.size wr).drew))
          have HRFz := Lib.hid (HRFy.out.past ((Below.refl wr.heap.size wr).drew))
          have HSz := Lib.hid (HSy.out.past ((Below.refl wr.heap.size wr).drew))
          have HWz := Lib.hid (HWy.out.trans (((Below.refl wr.heap.size wr).drew).mono HWy.out.size))
          have HBZ : Hid (Below wx.heap.size wx wr.drew) := Lib.hid HBJ.out.drew
          have hd1z := HD1.out
          have c1z := (HBJ.out.cell (p := ⟨b9, off9 + k * 2, none⟩) hb9x).trans HC1x.out
          obtain ⟨wz, hwz⟩ : ∃ Z, wr.drew = Z := ⟨_, rfl⟩
          have hd1z : wz.cell? ⟨b9, off9 + j * 2, none⟩ = some (.int .i64 kj) := by rw [← hwz]; exact hd1z
          have c1z : wz.cell? ⟨b9, off9 + k * 2, none⟩ = some (.int .i64 (kk : Int)) := by rw [← hwz]; exact c1z
          rw [hwz] at HNz HXz HZz HWKz HRFz HSz HWz HBZ ⊢
          clear hwz
          have hSS : wz.cell? ⟨b9, off9 + j * 2, none⟩ = some (.int .i64 kj) ∧ wz.cell? ⟨b9, off9 + k * 2, none⟩ = some (.int .i64 (kk : Int)) := ⟨hd1z, c1z⟩
          clear hd1z c1z
          refine take_first (i := 0) (v := ?_) rfl (by kernel_rfl) (by kernel_rfl) (by kernel_rfl) (fun _ _ _ h => h) (by rfl) (by assumption) ?_ ?_
          rotate_left 1
          · intro X hSX
            (try dsimp only at hSX)
            first | (go_simp; done) | (go_simp; with_reducible rfl)
          try simp only [Act.put, List.setIfInBounds_toArray, List.set_cons_zero, List.set_cons_succ]
          refine take_first (i := 1) (v := ?_) rfl (by kernel_rfl) (by kernel_rfl) (by kernel_rfl) (fun _ _ _ h => h) (by rfl) (by assumption) ?_ ?_
          rotate_left 1
          · intro X hSX
            (try dsimp only at hSX)
            first | (go_simp; done) | (go_simp; with_reducible rfl)
          try simp only [Act.put, List.setIfInBounds_toArray, List.set_cons_zero, List.set_cons_succ]
          refine take_first (i := 2) (v := ?_) rfl (by kernel_rfl) (by kernel_rfl) (by kernel_rfl) (fun _ _ _ h => h) (by rfl) (by assumption) ?_ ?_
          rotate_left 1
          · intro X hSX
            (try dsimp only at hSX)
            first | (go_simp; done) | (go_simp; with_reducible rfl)
          try simp only [Act.put, List.setIfInBounds_toArray, List.set_cons_zero, List.set_cons_succ]
          refine take_first (i := 3) (v := ?_) rfl (by kernel_rfl) (by kernel_rfl) (by kernel_rfl) (fun _ _ _ h => h) (by rfl) (by assumption) ?_ ?_
          rotate_left 1
          · intro X hSX
            (try dsimp only at hSX)
            first | (go_simp; done) | (go_simp; with_reducible rfl)
          try simp only [Act.put, List.setIfInBounds_toArray, List.set_cons_zero, List.set_cons_succ]
          refine take_first (i := 4) (v := ?_) rfl (by kernel_rfl) (by kernel_rfl) (by kernel_rfl) (fun _ _ _ h => h) (by rfl) (by assumption) ?_ ?_
          rotate_left 1
          · intro X hSX
            (try dsimp only at hSX)
            first | (go_simp; done) | (go_simp; with_reducible rfl)
          try simp only [Act.put, List.setIfInBounds_toArray, List.set_cons_zero, List.set_cons_succ]
          refine take_first (i := 5) (v := ?_) rfl (by kernel_rfl) (by kernel_rfl) (by kernel_rfl) (fun _ _ _ h => h) (by rfl) (by assumption) ?_ ?_
          rotate_left 1
          · intro X hSX
            (try dsimp only at hSX)
            first | (go_simp; done) | (go_simp; with_reducible rfl)
          try simp only [Act.put, List.setIfInBounds_toArray, List.set_cons_zero, List.set_cons_succ]
          refine take_first (i := 6) (v := ?_) rfl (by kernel_rfl) (by kernel_rfl) (by kernel_rfl) (fun _ _ _ h => h) (by rfl) (by assumption) ?_ ?_
          rotate_left 1
          · intro X hSX
            (try dsimp only at hSX)
            first | (go_simp; done) | (go_simp; with_reducible rfl)
          try simp only [Act.put, List.setIfInBounds_toArray, List.set_cons_zero, List.set_cons_succ]
          refine take_first (i := 7) (v := ?_) rfl (by kernel_rfl) (by kernel_rfl) (by kernel_rfl) (fun _ _ _ h => h) (by rfl) (by assumption) ?_ ?_
          rotate_left 1
          · intro X hSX
            (try dsimp only at hSX)
            first | (go_simp; done) | (go_simp; with_reducible rfl)
          try simp only [Act.put, List.setIfInBounds_toArray, List.set_cons_zero, List.set_cons_succ]
          refine take_first (i := 8) (v := ?_) rfl (by kernel_rfl) (by kernel_rfl) (by kernel_rfl) (fun _ _ _ h => h) (by rfl) (by assumption) ?_ ?_
          rotate_left 1
          · intro X hSX
            (try dsimp only at hSX)
            first | (go_simp; done) | (go_simp; with_reducible rfl)
          try simp only [Act.put, List.setIfInBounds_toArray, List.set_cons_zero, List.set_cons_succ]
          refine take_first (i := 9) (v := ?_) rfl (by kernel_rfl) (by kernel_rfl) (by kernel_rfl) (fun _ _ _ h => h) (by rfl) (by assumption) ?_ ?_
          rotate_left 1
          · intro X hSX
            (try dsimp only at hSX)
            first | (go_simp; done) | (go_simp; with_reducible rfl)
          try simp only [Act.put, List.setIfInBounds_toArray, List.set_cons_zero, List.set_cons_succ]
          refine take_first (i := 10) (v := ?_) rfl (by kernel_rfl) (by kernel_rfl) (by kernel_rfl) (fun _ _ _ h => h) (by rfl) (by assumption) ?_ ?_
          rotate_left 1
          · intro X hSX
            (try dsimp only at hSX)
            first | (go_simp; done) | (go_simp; with_reducible rfl)
          try simp only [Act.put, List.setIfInBounds_toArray, List.set_cons_zero, List.set_cons_succ]
          refine wpAnyH_done (by kernel_rfl) ?_ _
          clear hSS
          by_cases hjk : kj = (kk : Int)
          · have hjb : (kj == (kk : Int)) = true := by simpa using hjk
            go_upto_region 17 with fail
            have HV : Hid (R = (6, l, L)) := Lib.hid (by rw [← HR.out]; exact fireF_err HB0.out HB20.out (HBAD.out.2.1 HQQ.out (by have := HFR.out.twin hjl hk; rw [HELJ.out] at this; rw [← hjk]; exact this)) (by decide) HL0.out)
            have e0z := HXz.out.cell (i := 0) (v := (.bool false)) rfl
            have e1z := HXz.out.cell (i := 1) (v := (.slice ps sp.length cs)) rfl
            have e2z := HXz.out.cell (i := 2) (v := (.int .i64 room)) rfl
            have e3z := HXz.out.cell (i := 3) (v := (.slice (some ⟨gw, 0, none⟩) l.length cw)) rfl
            have e4z := HXz.out.cell (i := 4) (v := (.slice pb L.length cb)) rfl
            have z0z := HZz.out.cell (i := 0) (v := (.bool false)) rfl
            have y0z := HZz.out.fr (i := 0)
            have z1z := HZz.out.cell (i := 1) (v := (.slice none 0 0)) rfl
            have y1z := HZz.out.fr (i := 1)
            have z2z := HZz.out.cell (i := 2) (v := (.int .i64 0)) rfl
            have y2z := HZz.out.fr (i := 2)
            have z3z := HZz.out.cell (i := 3) (v := (.slice none 0 0)) rfl
            have y3z := HZz.out.fr (i := 3)
            have z4z := HZz.out.cell (i := 4) (v := (.slice none 0 0)) rfl
            have y4z := HZz.out.fr (i := 4)
            have HZ8 := Lib.hid (blk_set5 HZz.out (.bool false) (.slice ps sp.length cs) (.int .i64 room) (.slice (some ⟨gw, 0, none⟩) l.length cw) (.slice pb L.length cb) rfl rfl rfl rfl rfl)
            have HB8 := Lib.hid (below_set5 (b := xb + 1) HWz.out (by omega) (.bool false) (.slice ps sp.length cs) (.int .i64 room) (.slice (some ⟨gw, 0, none⟩) l.length cw) (.slice pb L.length cb))
            have HR8 := Lib.hid (HRFz.out.set5 HZz.out (.bool false) (.slice ps sp.length cs) (.int .i64 room) (.slice (some ⟨gw, 0, none⟩) l.length cw) (.slice pb L.length cb))
            go_wp2
            obtain ⟨w8, hw8⟩ : ∃ Z, ((((wz.setCell ⟨xb + 1, 0, none⟩ (.bool false)).setCell ⟨xb + 1, 1, none⟩ (.slice ps sp.length cs)).setCell ⟨xb + 1, 2, none⟩ (.int .i64 room)).setCell ⟨xb + 1, 3, none⟩ (.slice (some ⟨gw, 0, none⟩) l.length cw)).setCell ⟨xb + 1, 4, none⟩ (.slice pb L.length cb) = Z := ⟨_, rfl⟩
            rw [hw8] at HZ8 HB8 HR8
            try rw [hw8]
            have g0 := HZ8.out.cell (i := 0) (v := (.bool false)) rfl
            have g1 := HZ8.out.cell (i := 1) (v := (.slice ps sp.length cs)) rfl
            have g2 := HZ8.out.cell (i := 2) (v := (.int .i64 room)) rfl
            have g3 := HZ8.out.cell (i := 3) (v := (.slice (some ⟨gw, 0, none⟩) l.length cw)) rfl
            have g4 := HZ8.out.cell (i := 4) (v := (.slice pb L.length cb)) rfl
            refine bodyPost_ret (v := .tuple #[.agg #[.bool false, .slice ps sp.length cs, .int .i64 room, .slice (some ⟨gw, 0, none⟩) l.length cw, .slice pb L.length cb], .int .i64 6]) (by simp [results, Try.results63, go_sem, g0, g1, g2, g3, g4]) rfl ⟨HB8.out, _, _, _, _, by rw [HV.out], by rw [HV.out]; exact HR8.out⟩
          have hjb : (kj == (kk : Int)) = false := by simpa using hjk
          have HJ2 : Hid (∀ q, q < j + 1 → (bs[q]?.getD (0, 0)).1 ≠ (kk : Int)) := Lib.hid (fun q hq => by
            rcases Nat.lt_or_ge q j with h | h
            · exact HJ.out q h
            · obtain rfl : q = j := by omega
              rw [HELJ.out]; exact hjk)
          go_wp2
          go_roundw
          case rel => exact ⟨j + 1, by omega, by go_num, HJ2, HBZ⟩
          case measure => simp [intOf]; omega
        · have hje : j = k := by omega
          subst hje
          have HFRESH : Hid ((kk : Int) ∉ seen) := Lib.hid (HFR.out.fresh hk HJ.out)
          clear HJ hjl
          have c2y := (HBJ.out.cell (p := ⟨b9, off9 + j * 2 + 1, none⟩) hb9x).trans HC2x.out
          have c1y := (HBJ.out.cell (p := ⟨b9, off9 + j * 2, none⟩) hb9x).trans HC1x.out
          have HC1y := Lib.hid c1y
          have HC2y := Lib.hid c2y
          clear c1y
          obtain ⟨q3, hq3⟩ : ∃ q, inB n 1 1000000000 = q := ⟨_, rfl⟩
          have HQ3 := Lib.hid hq3
          have HIN3 := Lib.hid (refInB_any n 1 1000000000 wr)
          rw [hq3] at HIN3
          clear hq3
          go_wp2_with fail
          refine HIN3.out.mono ?_
          rintro e w99 ⟨rfl, hw99⟩
          subst w99
          cases q3
          · go_upto_region 19 with fail
            have HV : Hid (R = (2, l, L)) := Lib.hid (by rw [← HR.out]; exact fireF_err HB0.out HB20.out (HBAD.out.2.2 HQQ.out HFRESH.out HQ3.out) (by decide) HL0.out)
            have e0z := HXy.out.cell (i := 0) (v := (.bool false)) rfl
            have e1z := HXy.out.cell (i := 1) (v := (.slice ps sp.length cs)) rfl
            have e2z := HXy.out.cell (i := 2) (v := (.int .i64 room)) rfl
            have e3z := HXy.out.cell (i := 3) (v := (.slice (some ⟨gw, 0, none⟩) l.length cw)) rfl
            have e4z := HXy.out.cell (i := 4) (v := (.slice pb L.length cb)) rfl
            have z0z := HZy.out.cell (i := 0) (v := (.bool false)) rfl
            have y0z := HZy.out.fr (i := 0)
            have z1z := HZy.out.cell (i := 1) (v := (.slice none 0 0)) rfl
            have y1z := HZy.out.fr (i := 1)
            have z2z := HZy.out.cell (i := 2) (v := (.int .i64 0)) rfl
            have y2z := HZy.out.fr (i := 2)
            have z3z := HZy.out.cell (i := 3) (v := (.slice none 0 0)) rfl
            have y3z := HZy.out.fr (i := 3)
            have z4z := HZy.out.cell (i := 4) (v := (.slice none 0 0)) rfl
            have y4z := HZy.out.fr (i := 4)
            have HZ8 := Lib.hid (blk_set5 HZy.out (.bool false) (.slice ps sp.length cs) (.int .i64 room) (.slice (some ⟨gw, 0, none⟩) l.length cw) (.slice pb L.length cb) rfl rfl rfl rfl rfl)
            have HB8 := Lib.hid (below_set5 (b := xb + 1) HWy.out (by omega) (.bool false) (.slice ps sp.length cs) (.int .i64 room) (.slice (some ⟨gw, 0, none⟩) l.length cw) (.slice pb L.length cb))
            have HR8 := Lib.hid (HRFy.out.set5 HZy.out (.bool false) (.slice ps sp.length cs) (.int .i64 room) (.slice (some ⟨gw, 0, none⟩) l.length cw) (.slice pb L.length cb))
            go_wp2
            obtain ⟨w8, hw8⟩ : ∃ Z, ((((wr.setCell ⟨xb + 1, 0, none⟩ (.bool false)).setCell ⟨xb + 1, 1, none⟩ (.slice ps sp.length cs)).setCell ⟨xb + 1, 2, none⟩ (.int .i64 room)).setCell ⟨xb + 1, 3, none⟩ (.slice (some ⟨gw, 0, none⟩) l.length cw)).setCell ⟨xb + 1, 4, none⟩ (.slice pb L.length cb) = Z := ⟨_, rfl⟩
            rw [hw8] at HZ8 HB8 HR8
            try rw [hw8]
            have g0 := HZ8.out.cell (i := 0) (v := (.bool false)) rfl
            have g1 := HZ8.out.cell (i := 1) (v := (.slice ps sp.length cs)) rfl
            have g2 := HZ8.out.cell (i := 2) (v := (.int .i64 room)) rfl
            have g3 := HZ8.out.cell (i := 3) (v := (.slice (some ⟨gw, 0, none⟩) l.length cw)) rfl
            have g4 := HZ8.out.cell (i := 4) (v := (.slice pb L.length cb)) rfl
            refine bodyPost_ret (v := .tuple #[.agg #[.bool false, .slice ps sp.length cs, .int .i64 room, .slice (some ⟨gw, 0, none⟩) l.length cw, .slice pb L.length cb], .int .i64 2]) (by simp [results, Try.results63, go_sem, g0, g1, g2, g3, g4]) rfl ⟨HB8.out, _, _, _, _, by rw [HV.out], by rw [HV.out]; exact HR8.out⟩
          go_upto_region 20 with fail
          clear c2y HIN3
          obtain ⟨s0, hs0⟩ : ∃ s0, l[kk]?.getD St.zero = s0 := ⟨_, rfl⟩
          have hok := (HINV.out.good kk hkl)
          have hrm := HINV.out.room kk hkl
          rw [hs0] at hok hrm
          obtain ⟨y0, y1, y2, y3, y4, y5, y6, y7⟩ := s0
          have HS0 := Lib.hid hs0
          have HOK := Lib.hid hok
          have HRM := Lib.hid hrm
          clear hs0 hok hrm
          refine region_plain (fun W => W.cell? ⟨b9, off9 + j * 2, none⟩ = some (.int .i64 (kk : Int)) ∧ W.cell? ⟨xb, 3, none⟩ = some (.slice (some ⟨gw, 0, none⟩) l.length cw) ∧ W.cell? ⟨gw, kk * 7, none⟩ = some (.int .i64 y0) ∧ W.cell? ⟨gw, kk * 7 + 1, none⟩ = some (.int .i64 y1) ∧ W.cell? ⟨gw, kk * 7 + 2, none⟩ = some (.int .i64 y2) ∧ W.cell? ⟨gw, kk * 7 + 3, none⟩ = some (.int .i64 y3) ∧ W.cell? ⟨gw, kk * 7 + 4, none⟩ = some (.int .i64 y4) ∧ W.cell? ⟨gw, kk * 7 + 5, none⟩ = some (.int .i64 y5) ∧ W.cell? ⟨gw, kk * 7 + 6, none⟩ = some (.int .i64 y6)) 11 #[false, false, false, false, false, false, false, false, false, false, false] rfl rfl (by kernel_rfl) ?_
          have HNq := Lib.hid (HNy.out.past ((Below.refl wr.heap.size wr).drew))
          have HXq := Lib.hid (HXy.out.past ((Below.refl wr.heap.size wr).drew))
          have HZq := Lib.hid (HZy.out.past ((Below.refl wr.heap.size wr).drew))
          have HWKq := Lib.hid (own_past HWKy.out ((Below.refl wr.heap.size wr).drew))
          have HRFq := Lib.hid (HRFy.out.past ((Below.refl wr.heap.size wr).drew))
          have HSq := Lib.hid (HSy.out.past ((Below.refl wr.heap.size wr).drew))
          have HWq := Lib.hid (HWy.out.trans (((Below.refl wr.heap.size wr).drew).mono HWy.out.size))
          have hb9q : b9 < wr.drew.heap.size := hb9y
          obtain ⟨wq, hwwq⟩ : ∃ Z, wr.drew = Z := ⟨_, rfl⟩
          rw [hwwq] at HNq HXq HZq HWKq HRFq HSq HWq hb9q
          try rw [hwwq]
          clear hwwq
          obtain ⟨b9', off9', e9, _, c1q, c2q⟩ := HSq.out.at hlt HEL.out
          obtain ⟨rfl, rfl⟩ : b9 = b9' ∧ off9 = off9' := by simp only [Option.some.injEq, Addr.mk.injEq] at e9; exact ⟨e9.1, e9.2.1⟩
          clear e9
          have HC1q := Lib.hid c1q
          have HC2q := Lib.hid c2q
          have HWQ := HRFq.out.war
          unfold WarR at HWQ
          have q0 : wq.cell? ⟨gw, kk * 7, none⟩ = some (.int .i64 y0) := (World.ownsRow.cellAt HWQ (kk * 7 + 0) (by omega)).trans ((wl_get l kk 0 hkl (by omega)).trans (by rw [HS0.out]; rfl))
          have q1 : wq.cell? ⟨gw, kk * 7 + 1, none⟩ = some (.int .i64 y1) := (World.ownsRow.cellAt HWQ (kk * 7 + 1) (by omega)).trans ((wl_get l kk 1 hkl (by omega)).trans (by rw [HS0.out]; rfl))
          have q2 : wq.cell? ⟨gw, kk * 7 + 2, none⟩ = some (.int .i64 y2) := (World.ownsRow.cellAt HWQ (kk * 7 + 2) (by omega)).trans ((wl_get l kk 2 hkl (by omega)).trans (by rw [HS0.out]; rfl))
          have q3 : wq.cell? ⟨gw, kk * 7 + 3, none⟩ = some (.int .i64 y3) := (World.ownsRow.cellAt HWQ (kk * 7 + 3) (by omega)).trans ((wl_get l kk 3 hkl (by omega)).trans (by rw [HS0.out]; rfl))
          have q4 : wq.cell? ⟨gw, kk * 7 + 4, none⟩ = some (.int .i64 y4) := (World.ownsRow.cellAt HWQ (kk * 7 + 4) (by omega)).trans ((wl_get l kk 4 hkl (by omega)).trans (by rw [HS0.out]; rfl))
          have q5 : wq.cell? ⟨gw, kk * 7 + 5, none⟩ = some (.int .i64 y5) := (World.ownsRow.cellAt HWQ (kk * 7 + 5) (by omega)).trans ((wl_get l kk 5 hkl (by omega)).trans (by rw [HS0.out]; rfl))
          have q6 : wq.cell? ⟨gw, kk * 7 + 6, none⟩ = some (.int .i64 y6) := (World.ownsRow.cellAt HWQ (kk * 7 + 6) (by omega)).trans ((wl_get l kk 6 hkl (by omega)).trans (by rw [HS0.out]; rfl))
          have hgw : gw < wq.heap.size := cell_block q0
          have hk0 : (0 : Int) ≤ (kk : Int) := by omega
          have hk1 : (kk : Int) < (l.length : Int) := by omega
          have hSS : wq.cell? ⟨b9, off9 + j * 2, none⟩ = some (.int .i64 (kk : Int)) ∧ wq.cell? ⟨xb, 3, none⟩ = some (.slice (some ⟨gw, 0, none⟩) l.length cw) ∧ wq.cell? ⟨gw, kk * 7, none⟩ = some (.int .i64 y0) ∧ wq.cell? ⟨gw, kk * 7 + 1, none⟩ = some (.int .i64 y1) ∧ wq.cell? ⟨gw, kk * 7 + 2, none⟩ = some (.int .i64 y2) ∧ wq.cell? ⟨gw, kk * 7 + 3, none⟩ = some (.int .i64 y3) ∧ wq.cell? ⟨gw, kk * 7 + 4, none⟩ = some (.int .i64 y4) ∧ wq.cell? ⟨gw, kk * 7 + 5, none⟩ = some (.int .i64 y5) ∧ wq.cell? ⟨gw, kk * 7 + 6, none⟩ = some (.int .i64 y6) := ⟨c1q, HXq.out.cell (i := 3) rfl, q0, q1, q2, q3, q4, q5, q6⟩
          have HSSQ := Lib.hid hSS
          clear c1q c2q q0 q1 q2 q3 q4 q5 q6 HWQ
          refine take_first (i := 0) (v := ?_) rfl (by kernel_rfl) (by kernel_rfl) (by kernel_rfl) (fun _ _ _ h => h) (by rfl) (by assumption) ?_ ?_
          rotate_left 1
          · intro X hSX
            (try dsimp only at hSX)
            first | (go_simp; done) | (go_simp; with_reducible rfl)
          try simp only [Act.put, List.setIfInBounds_toArray, List.set_cons_zero, List.set_cons_succ]
          refine take_first (i := 1) (v := ?_) rfl (by kernel_rfl) (by kernel_rfl) (by kernel_rfl) (fun _ _ _ h => h) (by rfl) (by assumption) ?_ ?_
          rotate_left 1
          · intro X hSX
            (try dsimp only at hSX)
            first | (go_simp; done) | (go_simp; with_reducible rfl)
          try simp only [Act.put, List.setIfInBounds_toArray, List.set_cons_zero, List.set_cons_succ]
          refine take_first (i := 2) (v := ?_) rfl (by kernel_rfl) (by kernel_rfl) (by kernel_rfl) (fun _ _ _ h => h) (by rfl) (by assumption) ?_ ?_
          rotate_left 1
          · intro X hSX
            (try dsimp only at hSX)
            first | (go_simp; done) | (go_simp; with_reducible rfl)
          try simp only [Act.put, List.setIfInBounds_toArray, List.set_cons_zero, List.set_cons_succ]
          refine take_first (i := 3) (v := ?_) rfl (by kernel_rfl) (by kernel_rfl) (by kernel_rfl) (fun _ _ _ h => h) (by rfl) (by assumption) ?_ ?_
          rotate_left 1
          · intro X hSX
            (try dsimp only at hSX)
            first | (go_simp; done) | (go_simp; with_reducible rfl)
          try simp only [Act.put, List.setIfInBounds_toArray, List.set_cons_zero, List.set_cons_succ]
          refine take_first (i := 4) (v := ?_) rfl (by kernel_rfl) (by kernel_rfl) (by kernel_rfl) (fun _ _ _ h => h) (by rfl) (by assumption) ?_ ?_
          rotate_left 1
          · intro X hSX
            (try dsimp only at hSX)
            first | (go_simp; done) | (go_simp; with_reducible rfl)
          try simp only [Act.put, List.setIfInBounds_toArray, List.set_cons_zero, List.set_cons_succ]
          refine take_first (i := 5) (v := ?_) rfl (by kernel_rfl) (by kernel_rfl) (by kernel_rfl) (fun _ _ _ h => h) (by rfl) (by assumption) ?_ ?_
          rotate_left 1
          · intro X hSX
            (try dsimp only at hSX)
            first | (go_simp; done) | (go_simp; with_reducible rfl)
          try simp only [Act.put, List.setIfInBounds_toArray, List.set_cons_zero, List.set_cons_succ]
          refine take_first (i := 6) (v := ?_) rfl (by kernel_rfl) (by kernel_rfl) (by kernel_rfl) (fun _ _ _ h => h) (by rfl) (by assumption) ?_ ?_
          rotate_left 1
          · intro X hSX
            (try dsimp only at hSX)
            first | (go_simp; done) | (go_simp; with_reducible rfl)
          try simp only [Act.put, List.setIfInBounds_toArray, List.set_cons_zero, List.set_cons_succ]
          refine take_first (i := 7) (v := ?_) rfl (by kernel_rfl) (by kernel_rfl) (by kernel_rfl) (fun _ _ _ h => h) (by rfl) (by assumption) ?_ ?_
          rotate_left 1
          · intro X hSX
            (try dsimp only at hSX)
            first | (go_simp; done) | (go_simp; with_reducible rfl)
          try simp only [Act.put, List.setIfInBounds_toArray, List.set_cons_zero, List.set_cons_succ]
          refine take_first (i := 8) (v := ?_) rfl (by kernel_rfl) (by kernel_rfl) (by kernel_rfl) (fun _ _ _ h => h) (by rfl) (by assumption) ?_ ?_
          rotate_left 1
          · intro X hSX
            (try dsimp only at hSX)
            first | (go_simp; done) | (go_simp; with_reducible rfl)
          try simp only [Act.put, List.setIfInBounds_toArray, List.set_cons_zero, List.set_cons_succ]
          obtain ⟨ub, hub⟩ : ∃ ub, wq.heap.size = ub := ⟨_, rfl⟩
          have BU := (Below.refl wq.heap.size wq).alloc (Nat.le_refl _) (.cells #[.int .i64 0, .int .i64 0, .int .i64 0, .int .i64 0, .int .i64 0, .int .i64 0, .int .i64 0] 63)
          have HU0 := Lib.hid (Blk.newI wq ub #[.int .i64 0, .int .i64 0, .int .i64 0, .int .i64 0, .int .i64 0, .int .i64 0, .int .i64 0] 63 hub)
          have HBU := Lib.hid BU
          have HNu := Lib.hid (HNq.out.past (BU))
          have HXu := Lib.hid (HXq.out.past (BU))
          have HZu := Lib.hid (HZq.out.past (BU))
          have HWKu := Lib.hid (own_past HWKq.out (BU))
          have HRFu := Lib.hid (HRFq.out.past (BU))
          have HSu := Lib.hid (HSq.out.past (BU))
          have HWu := Lib.hid (HWq.out.trans ((BU).mono HWq.out.size))
          have hxq : xb < wq.heap.size := HXq.out.lt
          have HSSU := Lib.hid (show (wq.alloc (.cells #[.int .i64 0, .int .i64 0, .int .i64 0, .int .i64 0, .int .i64 0, .int .i64 0, .int .i64 0] 63)).cell? ⟨b9, off9 + j * 2, none⟩ = some (.int .i64 (kk : Int)) ∧ (wq.alloc (.cells #[.int .i64 0, .int .i64 0, .int .i64 0, .int .i64 0, .int .i64 0, .int .i64 0, .int .i64 0] 63)).cell? ⟨xb, 3, none⟩ = some (.slice (some ⟨gw, 0, none⟩) l.length cw) ∧ (wq.alloc (.cells #[.int .i64 0, .int .i64 0, .int .i64 0, .int .i64 0, .int .i64 0, .int .i64 0, .int .i64 0] 63)).cell? ⟨gw, kk * 7, none⟩ = some (.int .i64 y0) ∧ (wq.alloc (.cells #[.int .i64 0, .int .i64 0, .int .i64 0, .int .i64 0, .int .i64 0, .int .i64 0, .int .i64 0] 63)).cell? ⟨gw, kk * 7 + 1, none⟩ = some (.int .i64 y1) ∧ (wq.alloc (.cells #[.int .i64 0, .int .i64 0, .int .i64 0, .int .i64 0, .int .i64 0, .int .i64 0, .int .i64 0] 63)).cell? ⟨gw, kk * 7 + 2, none⟩ = some (.int .i64 y2) ∧ (wq.alloc (.cells #[.int .i64 0, .int .i64 0, .int .i64 0, .int .i64 0, .int .i64 0, .int .i64 0, .int .i64 0] 63)).cell? ⟨gw, kk * 7 + 3, none⟩ = some (.int .i64 y3) ∧ (wq.alloc (.cells #[.int .i64 0, .int .i64 0, .int .i64 0, .int .i64 0, .int .i64 0, .int .i64 0, .int .i64 0] 63)).cell? ⟨gw, kk * 7 + 4, none⟩ = some (.int .i64 y4) ∧ (wq.alloc (.cells #[.int .i64 0, .int .i64 0, .int .i64 0, .int .i64 0, .int .i64 0, .int .i64 0, .int .i64 0] 63)).cell? ⟨gw, kk * 7 + 5, none⟩ = some (.int .i64 y5) ∧ (wq.alloc (.cells #[.int .i64 0, .int .i64 0, .int .i64 0, .int .i64 0, .int .i64 0, .int .i64 0, .int .i64 0] 63)).cell? ⟨gw, kk * 7 + 6, none⟩ = some (.int .i64 y6) from ⟨(BU.cell (p := ⟨b9, off9 + j * 2, none⟩) hb9q).trans HSSQ.out.1, (BU.cell (p := ⟨xb, 3, none⟩) hxq).trans HSSQ.out.2.1, (BU.cell (p := ⟨gw, kk * 7, none⟩) hgw).trans HSSQ.out.2.2.1, (BU.cell (p := ⟨gw, kk * 7 + 1, none⟩) hgw).trans HSSQ.out.2.2.2.1, (BU.cell (p := ⟨gw, kk * 7 + 2, none⟩) hgw).trans HSSQ.out.2.2.2.2.1, (BU.cell (p := ⟨gw, kk * 7 + 3, none⟩) hgw).trans HSSQ.out.2.2.2.2.2.1, (BU.cell (p := ⟨gw, kk * 7 + 4, none⟩) hgw).trans HSSQ.out.2.2.2.2.2.2.1, (BU.cell (p := ⟨gw, kk * 7 + 5, none⟩) hgw).trans HSSQ.out.2.2.2.2.2.2.2.1, (BU.cell (p := ⟨gw, kk * 7 + 6, none⟩) hgw).trans HSSQ.out.2.2.2.2.2.2.2.2⟩)
          clear BU hSS
          refine only_one (i := 9) (by kernel_rfl) rfl (by rfl) ?_
          intro K hK
          go_simp
          try rw [hub]
          obtain ⟨wu, hwwu⟩ : ∃ Z, wq.alloc (.cells #[.int .i64 0, .int .i64 0, .int .i64 0, .int .i64 0, .int .i64 0, .int .i64 0, .int .i64 0] 63) = Z := ⟨_, rfl⟩
          rw [hwwu] at HU0 HBU HNu HXu HZu HWKu HRFu HSu HWu HSSU
          try rw [hwwu]
          clear hwwu
          refine hK.out _ _ HSSU.out ?_
          clear hK K
          try simp only [Act.put, List.setIfInBounds_toArray, List.set_cons_zero, List.set_cons_succ]
          have hSS : True := trivial
          have m0 := HU0.out.cell (i := 0) (v := .int .i64 0) rfl
          have m1 := HU0.out.cell (i := 1) (v := .int .i64 0) rfl
          have m2 := HU0.out.cell (i := 2) (v := .int .i64 0) rfl
          have m3 := HU0.out.cell (i := 3) (v := .int .i64 0) rfl
          have m4 := HU0.out.cell (i := 4) (v := .int .i64 0) rfl
          have m5 := HU0.out.cell (i := 5) (v := .int .i64 0) rfl
          have m6 := HU0.out.cell (i := 6) (v := .int .i64 0) rfl
          have p0 := HU0.out.fr (i := 0)
          have p1 := HU0.out.fr (i := 1)
          have p2 := HU0.out.fr (i := 2)
          have p3 := HU0.out.fr (i := 3)
          have p4 := HU0.out.fr (i := 4)
          have p5 := HU0.out.fr (i := 5)
          have p6 := HU0.out.fr (i := 6)
          have HUt : Hid (Blk (((((((wu.setCell ⟨ub, 0, none⟩ (.int .i64 y0)).setCell ⟨ub, 1, none⟩ (.int .i64 y1)).setCell ⟨ub, 2, none⟩ (.int .i64 y2)).setCell ⟨ub, 3, none⟩ (.int .i64 y3)).setCell ⟨ub, 4, none⟩ (.int .i64 y4)).setCell ⟨ub, 5, none⟩ (.int .i64 y5)).setCell ⟨ub, 6, none⟩ (.int .i64 y6)) ub #[.int .i64 y0, .int .i64 y1, .int .i64 y2, .int .i64 y3, .int .i64 y4, .int .i64 y5, .int .i64 y6] 63) := Lib.hid (blk_set7 HU0.out y0 y1 y2 y3 y4 y5 y6)
          have hbt : Below wq.heap.size wq (((((((wu.setCell ⟨ub, 0, none⟩ (.int .i64 y0)).setCell ⟨ub, 1, none⟩ (.int .i64 y1)).setCell ⟨ub, 2, none⟩ (.int .i64 y2)).setCell ⟨ub, 3, none⟩ (.int .i64 y3)).setCell ⟨ub, 4, none⟩ (.int .i64 y4)).setCell ⟨ub, 5, none⟩ (.int .i64 y5)).setCell ⟨ub, 6, none⟩ (.int .i64 y6)) := below_f7x HBU.out (Nat.le_of_eq hub) y0 y1 y2 y3 y4 y5 y6
          have HBt := Lib.hid hbt
          have HNt := Lib.hid (HNq.out.past (hbt))
          have HXt := Lib.hid (HXq.out.past (hbt))
          have HZt := Lib.hid (HZq.out.past (hbt))
          have HWKt := Lib.hid (own_past HWKq.out (hbt))
          have HRFt := Lib.hid (HRFq.out.past (hbt))
          have HSt := Lib.hid (HSq.out.past (hbt))
          have HWt := Lib.hid (HWq.out.trans ((hbt).mono HWq.out.size))
          have HSSt := Lib.hid (show (((((((wu.setCell ⟨ub, 0, none⟩ (.int .i64 y0)).setCell ⟨ub, 1, none⟩ (.int .i64 y1)).setCell ⟨ub, 2, none⟩ (.int .i64 y2)).setCell ⟨ub, 3, none⟩ (.int .i64 y3)).setCell ⟨ub, 4, none⟩ (.int .i64 y4)).setCell ⟨ub, 5, none⟩ (.int .i64 y5)).setCell ⟨ub, 6, none⟩ (.int .i64 y6)).cell? ⟨b9, off9 + j * 2, none⟩ = some (.int .i64 (kk : Int)) ∧ (((((((wu.setCell ⟨ub, 0, none⟩ (.int .i64 y0)).setCell ⟨ub, 1, none⟩ (.int .i64 y1)).setCell ⟨ub, 2, none⟩ (.int .i64 y2)).setCell ⟨ub, 3, none⟩ (.int .i64 y3)).setCell ⟨ub, 4, none⟩ (.int .i64 y4)).setCell ⟨ub, 5, none⟩ (.int .i64 y5)).setCell ⟨ub, 6, none⟩ (.int .i64 y6)).cell? ⟨xb, 3, none⟩ = some (.slice (some ⟨gw, 0, none⟩) l.length cw) ∧ (((((((wu.setCell ⟨ub, 0, none⟩ (.int .i64 y0)).setCell ⟨ub, 1, none⟩ (.int .i64 y1)).setCell ⟨ub, 2, none⟩ (.int .i64 y2)).setCell ⟨ub, 3, none⟩ (.int .i64 y3)).setCell ⟨ub, 4, none⟩ (.int .i64 y4)).setCell ⟨ub, 5, none⟩ (.int .i64 y5)).setCell ⟨ub, 6, none⟩ (.int .i64 y6)).cell? ⟨gw, kk * 7, none⟩ = some (.int .i64 y0) ∧ (((((((wu.setCell ⟨ub, 0, none⟩ (.int .i64 y0)).setCell ⟨ub, 1, none⟩ (.int .i64 y1)).setCell ⟨ub, 2, none⟩ (.int .i64 y2)).setCell ⟨ub, 3, none⟩ (.int .i64 y3)).setCell ⟨ub, 4, none⟩ (.int .i64 y4)).setCell ⟨ub, 5, none⟩ (.int .i64 y5)).setCell ⟨ub, 6, none⟩ (.int .i64 y6)).cell? ⟨gw, kk * 7 + 1, none⟩ = some (.int .i64 y1) ∧ (((((((wu.setCell ⟨ub, 0, none⟩ (.int .i64 y0)).setCell ⟨ub, 1, none⟩ (.int .i64 y1)).setCell ⟨ub, 2, none⟩ (.int .i64 y2)).setCell ⟨ub, 3, none⟩ (.int .i64 y3)).setCell ⟨ub, 4, none⟩ (.int .i64 y4)).setCell ⟨ub, 5, none⟩ (.int .i64 y5)).setCell ⟨ub, 6, none⟩ (.int .i64 y6)).cell? ⟨gw, kk * 7 + 2, none⟩ = some (.int .i64 y2) ∧ (((((((wu.setCell ⟨ub, 0, none⟩ (.int .i64 y0)).setCell ⟨ub, 1, none⟩ (.int .i64 y1)).setCell ⟨ub, 2, none⟩ (.int .i64 y2)).setCell ⟨ub, 3, none⟩ (.int .i64 y3)).setCell ⟨ub, 4, none⟩ (.int .i64 y4)).setCell ⟨ub, 5, none⟩ (.int .i64 y5)).setCell ⟨ub, 6, none⟩ (.int .i64 y6)).cell? ⟨gw, kk * 7 + 3, none⟩ = some (.int .i64 y3) ∧ (((((((wu.setCell ⟨ub, 0, none⟩ (.int .i64 y0)).setCell ⟨ub, 1, none⟩ (.int .i64 y1)).setCell ⟨ub, 2, none⟩ (.int .i64 y2)).setCell ⟨ub, 3, none⟩ (.int .i64 y3)).setCell ⟨ub, 4, none⟩ (.int .i64 y4)).setCell ⟨ub, 5, none⟩ (.int .i64 y5)).setCell ⟨ub, 6, none⟩ (.int .i64 y6)).cell? ⟨gw, kk * 7 + 4, none⟩ = some (.int .i64 y4) ∧ (((((((wu.setCell ⟨ub, 0, none⟩ (.int .i64 y0)).setCell ⟨ub, 1, none⟩ (.int .i64 y1)).setCell ⟨ub, 2, none⟩ (.int .i64 y2)).setCell ⟨ub, 3, none⟩ (.int .i64 y3)).setCell ⟨ub, 4, none⟩ (.int .i64 y4)).setCell ⟨ub, 5, none⟩ (.int .i64 y5)).setCell ⟨ub, 6, none⟩ (.int .i64 y6)).cell? ⟨gw, kk * 7 + 5, none⟩ = some (.int .i64 y5) ∧ (((((((wu.setCell ⟨ub, 0, none⟩ (.int .i64 y0)).setCell ⟨ub, 1, none⟩ (.int .i64 y1)).setCell ⟨ub, 2, none⟩ (.int .i64 y2)).setCell ⟨ub, 3, none⟩ (.int .i64 y3)).setCell ⟨ub, 4, none⟩ (.int .i64 y4)).setCell ⟨ub, 5, none⟩ (.int .i64 y5)).setCell ⟨ub, 6, none⟩ (.int .i64 y6)).cell? ⟨gw, kk * 7 + 6, none⟩ = some (.int .i64 y6) from ⟨(hbt.cell (p := ⟨b9, off9 + j * 2, none⟩) hb9q).trans HSSQ.out.1, (hbt.cell (p := ⟨xb, 3, none⟩) hxq).trans HSSQ.out.2.1, (hbt.cell (p := ⟨gw, kk * 7, none⟩) hgw).trans HSSQ.out.2.2.1, (hbt.cell (p := ⟨gw, kk * 7 + 1, none⟩) hgw).trans HSSQ.out.2.2.2.1, (hbt.cell (p := ⟨gw, kk * 7 + 2, none⟩) hgw).trans HSSQ.out.2.2.2.2.1, (hbt.cell (p := ⟨gw, kk * 7 + 3, none⟩) hgw).trans HSSQ.out.2.2.2.2.2.1, (hbt.cell (p := ⟨gw, kk * 7 + 4, none⟩) hgw).trans HSSQ.out.2.2.2.2.2.2.1, (hbt.cell (p := ⟨gw, kk * 7 + 5, none⟩) hgw).trans HSSQ.out.2.2.2.2.2.2.2.1, (hbt.cell (p := ⟨gw, kk * 7 + 6, none⟩) hgw).trans HSSQ.out.2.2.2.2.2.2.2.2⟩)
          clear hbt
          refine only_one (i := 10) (by kernel_rfl) rfl (by rfl) ?_
          intro K hK
          go_simp
          obtain ⟨wt, hwwt⟩ : ∃ Z, ((((((wu.setCell ⟨ub, 0, none⟩ (.int .i64 y0)).setCell ⟨ub, 1, none⟩ (.int .i64 y1)).setCell ⟨ub, 2, none⟩ (.int .i64 y2)).setCell ⟨ub, 3, none⟩ (.int .i64 y3)).setCell ⟨ub, 4, none⟩ (.int .i64 y4)).setCell ⟨ub, 5, none⟩ (.int .i64 y5)).setCell ⟨ub, 6, none⟩ (.int .i64 y6) = Z := ⟨_, rfl⟩
          rw [hwwt] at HUt HBt HNt HXt HZt HWKt HRFt HSt HWt HSSt
          try rw [hwwt]
          clear hwwt
          refine hK.out _ _ HSSt.out ?_
          clear hK K
          try simp only [Act.put, List.setIfInBounds_toArray, List.set_cons_zero, List.set_cons_succ]
          refine wpAnyH_done (by kernel_rfl) ?_ _
          clear hSS m0 p0 m1 p1 m2 p2 m3 p3 m4 p4 m5 p5 m6 p6 HSSQ HSSU HSSt
          go_upto_region 21 with fail
          refine region_plain (fun W => W.cell? ⟨ub, 1, none⟩ = some (.int .i64 y1) ∧ W.cell? ⟨b9, off9 + j * 2 + 1, none⟩ = some (.int .i64 n)) 8 #[false, false, false, false, false, false, false, false] rfl rfl (by kernel_rfl) ?_
          have HUv : Hid (Blk wt.drew ub #[.int .i64 y0, .int .i64 y1, .int .i64 y2, .int .i64 y3, .int .i64 y4, .int .i64 y5, .int .i64 y6] 63) := Lib.hid HUt.out.drew
          have HBv : Hid (Below wq.heap.size wq wt.drew) := Lib.hid HBt.out.drew
          have HNv := Lib.hid (HNq.out.past (HBv.out))
          have HXv := Lib.hid (HXq.out.past (HBv.out))
          have HZv := Lib.hid (HZq.out.past (HBv.out))
          have HWKv := Lib.hid (own_past HWKq.out (HBv.out))
          have HRFv := Lib.hid (HRFq.out.past (HBv.out))
          have HSv := Lib.hid (HSq.out.past (HBv.out))
          have HWv := Lib.hid (HWq.out.trans ((HBv.out).mono HWq.out.size))
          obtain ⟨wv, hwwv⟩ : ∃ Z, wt.drew = Z := ⟨_, rfl⟩
          rw [hwwv] at HUv HBv HNv HXv HZv HWKv HRFv HSv HWv
          try rw [hwwv]
          clear hwwv
          have c2v := (HBv.out.cell (p := ⟨b9, off9 + j * 2 + 1, none⟩) hb9q).trans HC2q.out
          have hSS : wv.cell? ⟨ub, 1, none⟩ = some (.int .i64 y1) ∧ wv.cell? ⟨b9, off9 + j * 2 + 1, none⟩ = some (.int .i64 n) := ⟨HUv.out.cell (i := 1) rfl, c2v⟩
          clear c2v
          refine take_first (i := 0) (v := ?_) rfl (by kernel_rfl) (by kernel_rfl) (by kernel_rfl) (fun _ _ _ h => h) (by rfl) (by assumption) ?_ ?_
          rotate_left 1
          · intro X hSX
            (try dsimp only at hSX)
            first | (go_simp; done) | (go_simp; with_reducible rfl)
          try simp only [Act.put, List.setIfInBounds_toArray, List.set_cons_zero, List.set_cons_succ]
          refine take_first (i := 1) (v := ?_) rfl (by kernel_rfl) (by kernel_rfl) (by kernel_rfl) (fun _ _ _ h => h) (by rfl) (by assumption) ?_ ?_
          rotate_left 1
          · intro X hSX
            (try dsimp only at hSX)
            first | (go_simp; done) | (go_simp; with_reducible rfl)
          try simp only [Act.put, List.setIfInBounds_toArray, List.set_cons_zero, List.set_cons_succ]
          refine take_first (i := 2) (v := ?_) rfl (by kernel_rfl) (by kernel_rfl) (by kernel_rfl) (fun _ _ _ h => h) (by rfl) (by assumption) ?_ ?_
          rotate_left 1
          · intro X hSX
            (try dsimp only at hSX)
            first | (go_simp; done) | (go_simp; with_reducible rfl)
          try simp only [Act.put, List.setIfInBounds_toArray, List.set_cons_zero, List.set_cons_succ]
          refine take_first (i := 3) (v := ?_) rfl (by kernel_rfl) (by kernel_rfl) (by kernel_rfl) (fun _ _ _ h => h) (by rfl) (by assumption) ?_ ?_
          rotate_left 1
          · intro X hSX
            (try dsimp only at hSX)
            first | (go_simp; done) | (go_simp; with_reducible rfl)
          try simp only [Act.put, List.setIfInBounds_toArray, List.set_cons_zero, List.set_cons_succ]
          refine take_first (i := 4) (v := ?_) rfl (by kernel_rfl) (by kernel_rfl) (by kernel_rfl) (fun _ _ _ h => h) (by rfl) (by assumption) ?_ ?_
          rotate_left 1
          · intro X hSX
            (try dsimp only at hSX)
            first | (go_simp; done) | (go_simp; with_reducible rfl)
          try simp only [Act.put, List.setIfInBounds_toArray, List.set_cons_zero, List.set_cons_succ]
          refine take_first (i := 5) (v := ?_) rfl (by kernel_rfl) (by kernel_rfl) (by kernel_rfl) (fun _ _ _ h => h) (by rfl) (by assumption) ?_ ?_
          rotate_left 1
          · intro X hSX
            (try dsimp only at hSX)
            first | (go_simp; done) | (go_simp; with_reducible rfl)
          try simp only [Act.put, List.setIfInBounds_toArray, List.set_cons_zero, List.set_cons_succ]
          refine take_first (i := 6) (v := ?_) rfl (by kernel_rfl) (by kernel_rfl) (by kernel_rfl) (fun _ _ _ h => h) (by rfl) (by assumption) ?_ ?_
          rotate_left 1
          · intro X hSX
            (try dsimp only at hSX)
            first | (go_simp; done) | (go_simp; with_reducible rfl)
          try simp only [Act.put, List.setIfInBounds_toArray, List.set_cons_zero, List.set_cons_succ]
          refine take_first (i := 7) (v := ?_) rfl (by kernel_rfl) (by kernel_rfl) (by kernel_rfl) (fun _ _ _ h => h) (by rfl) (by assumption) ?_ ?_
          rotate_left 1
          · intro X hSX
            (try dsimp only at hSX)
            first | (go_simp; done) | (go_simp; with_reducible rfl)
          try simp only [Act.put, List.setIfInBounds_toArray, List.set_cons_zero, List.set_cons_succ]
          refine wpAnyH_done (by kernel_rfl) ?_ _
          clear hSS
          by_cases hyn : y1 < n
          · skip
            go_upto_region 22 with fail
            have HV : Hid (R = (9, l, L)) := Lib.hid (by rw [← HR.out]; exact fireF_err HB0.out HB20.out (HFR.out.low hlt HEL.out HQQ.out HFRESH.out HQ3.out (by rw [HS0.out]; exact hyn)) (by decide) HL0.out)
            have e0z := HXv.out.cell (i := 0) (v := (.bool false)) rfl
            have e1z := HXv.out.cell (i := 1) (v := (.slice ps sp.length cs)) rfl
            have e2z := HXv.out.cell (i := 2) (v := (.int .i64 room)) rfl
            have e3z := HXv.out.cell (i := 3) (v := (.slice (some ⟨gw, 0, none⟩) l.length cw)) rfl
            have e4z := HXv.out.cell (i := 4) (v := (.slice pb L.length cb)) rfl
            have z0z := HZv.out.cell (i := 0) (v := (.bool false)) rfl
            have y0z := HZv.out.fr (i := 0)
            have z1z := HZv.out.cell (i := 1) (v := (.slice none 0 0)) rfl
            have y1z := HZv.out.fr (i := 1)
            have z2z := HZv.out.cell (i := 2) (v := (.int .i64 0)) rfl
            have y2z := HZv.out.fr (i := 2)
            have z3z := HZv.out.cell (i := 3) (v := (.slice none 0 0)) rfl
            have y3z := HZv.out.fr (i := 3)
            have z4z := HZv.out.cell (i := 4) (v := (.slice none 0 0)) rfl
            have y4z := HZv.out.fr (i := 4)
            have HZ8 := Lib.hid (blk_set5 HZv.out (.bool false) (.slice ps sp.length cs) (.int .i64 room) (.slice (some ⟨gw, 0, none⟩) l.length cw) (.slice pb L.length cb) rfl rfl rfl rfl rfl)
            have HB8 := Lib.hid (below_set5 (b := xb + 1) HWv.out (by omega) (.bool false) (.slice ps sp.length cs) (.int .i64 room) (.slice (some ⟨gw, 0, none⟩) l.length cw) (.slice pb L.length cb))
            have HR8 := Lib.hid (HRFv.out.set5 HZv.out (.bool false) (.slice ps sp.length cs) (.int .i64 room) (.slice (some ⟨gw, 0, none⟩) l.length cw) (.slice pb L.length cb))
            go_wp2
            obtain ⟨w8, hw8⟩ : ∃ Z, ((((wv.setCell ⟨xb + 1, 0, none⟩ (.bool false)).setCell ⟨xb + 1, 1, none⟩ (.slice ps sp.length cs)).setCell ⟨xb + 1, 2, none⟩ (.int .i64 room)).setCell ⟨xb + 1, 3, none⟩ (.slice (some ⟨gw, 0, none⟩) l.length cw)).setCell ⟨xb + 1, 4, none⟩ (.slice pb L.length cb) = Z := ⟨_, rfl⟩
            rw [hw8] at HZ8 HB8 HR8
            try rw [hw8]
            have g0 := HZ8.out.cell (i := 0) (v := (.bool false)) rfl
            have g1 := HZ8.out.cell (i := 1) (v := (.slice ps sp.length cs)) rfl
            have g2 := HZ8.out.cell (i := 2) (v := (.int .i64 room)) rfl
            have g3 := HZ8.out.cell (i := 3) (v := (.slice (some ⟨gw, 0, none⟩) l.length cw)) rfl
            have g4 := HZ8.out.cell (i := 4) (v := (.slice pb L.length cb)) rfl
            refine bodyPost_ret (v := .tuple #[.agg #[.bool false, .slice ps sp.length cs, .int .i64 room, .slice (some ⟨gw, 0, none⟩) l.length cw, .slice pb L.length cb], .int .i64 9]) (by simp [results, Try.results63, go_sem, g0, g1, g2, g3, g4]) rfl ⟨HB8.out, _, _, _, _, by rw [HV.out], by rw [HV.out]; exact HR8.out⟩
          go_upto_region 23 with fail
          have hny : n ≤ y1 := by omega
          have hn3 := inB_parts HQ3.out
          have hok := HOK.out
          simp only [St.Good, St.Ok] at hok
          have w1 : IntKind.i64.wrap (y1 - n) = y1 - n := wrap_id (by omega) (by omega)
          have w2v : IntKind.i64.wrap (y2 + n) = y2 + n := wrap_id (by omega) (by omega)
          clear hok hn3 hyn
          have HUz : Hid (Blk wv.drew ub #[.int .i64 y0, .int .i64 y1, .int .i64 y2, .int .i64 y3, .int .i64 y4, .int .i64 y5, .int .i64 y6] 63) := Lib.hid HUv.out.drew
          have HBz : Hid (Below wq.heap.size wq wv.drew) := Lib.hid HBv.out.drew
          have c2z := (HBz.out.cell (p := ⟨b9, off9 + j * 2 + 1, none⟩) hb9q).trans HC2q.out
          refine region_T [(17, ⟨ub, 1, none⟩, .int .i64 y1), (19, ⟨ub, 2, none⟩, .int .i64 y2)] (fun W => W.cell? ⟨b9, off9 + j * 2 + 1, none⟩ = some (.int .i64 n)) 20 #[false, false, false, false, false, false, false, false, false, false, false, false, false, false, false, false, false, false, false, false] rfl rfl (by kernel_rfl) (TS.holds (HUz.out.cell (i := 1) rfl) (TS.holds (HUz.out.cell (i := 2) rfl) (TS.nil c2z))) ?_
          intro hTS
          obtain ⟨wz, hwwz⟩ : ∃ Z, wv.drew = Z := ⟨_, rfl⟩
          rw [hwwz] at HUz HBz c2z hTS
          try rw [hwwz]
          clear hwwz
          have hbu : b9 ≠ ub := by omega
          refine takeT (i := 0) (v := ?_) rfl (by kernel_rfl) (by kernel_rfl) (by kernel_rfl) (fun _ _ _ h => h) (by rfl) (by rfl) hTS ?_ ?_
          rotate_left 1
          · intro X hSX
            (try dsimp only at hSX)
            first | (go_simp; done) | (go_simp; with_reducible rfl)
          clear hTS
          intro hTS
          try simp only [Act.put, List.setIfInBounds_toArray, List.set_cons_zero, List.set_cons_succ]
          refine loadT 17 0 (i := 1) (v := ?_) rfl (by kernel_rfl) (by kernel_rfl) rfl (by kernel_rfl) (by kernel_rfl) (by kernel_rfl) (fun _ _ _ h => h) (by rfl) (by rfl) hTS ?_ ?_
          rotate_left 1
          · intro X hSX hSC
            (try dsimp only at hSX)
            first | (go_simp; done) | (go_simp; with_reducible rfl)
          clear hTS
          intro hTS
          try simp only [Act.put, List.setIfInBounds_toArray, List.set_cons_zero, List.set_cons_succ]
          refine takeT (i := 2) (v := ?_) rfl (by kernel_rfl) (by kernel_rfl) (by kernel_rfl) (fun _ _ _ h => h) (by rfl) (by rfl) hTS ?_ ?_
          rotate_left 1
          · intro X hSX
            (try dsimp only at hSX)
            first | (go_simp; done) | (go_simp; with_reducible rfl)
          clear hTS
          intro hTS
          try simp only [Act.put, List.setIfInBounds_toArray, List.set_cons_zero, List.set_cons_succ]
          refine takeT (i := 3) (v := ?_) rfl (by kernel_rfl) (by kernel_rfl) (by kernel_rfl) (fun _ _ _ h => h) (by rfl) (by rfl) hTS ?_ ?_
          rotate_left 1
          · intro X hSX
            (try dsimp only at hSX)
            first | (go_simp; done) | (go_simp; with_reducible rfl)
          clear hTS
          intro hTS
          try simp only [Act.put, List.setIfInBounds_toArray, List.set_cons_zero, List.set_cons_succ]
          refine takeT (i := 4) (v := ?_) rfl (by kernel_rfl) (by kernel_rfl) (by kernel_rfl) (fun _ _ _ h => h) (by rfl) (by rfl) hTS ?_ ?_
          rotate_left 1
          · intro X hSX
            (try dsimp only at hSX)
            first | (go_simp; done) | (go_simp; with_reducible rfl)
          clear hTS
          intro hTS
          try simp only [Act.put, List.setIfInBounds_toArray, List.set_cons_zero, List.set_cons_succ]
          refine takeT (i := 5) (v := ?_) rfl (by kernel_rfl) (by kernel_rfl) (by kernel_rfl) (fun _ _ _ h => h) (by rfl) (by rfl) hTS ?_ ?_
          rotate_left 1
          · intro X hSX
            (try dsimp only at hSX)
            first | (go_simp; done) | (go_simp; with_reducible rfl)
          clear hTS
          intro hTS
          try simp only [Act.put, List.setIfInBounds_toArray, List.set_cons_zero, List.set_cons_succ]
          refine takeT (i := 6) (v := ?_) rfl (by kernel_rfl) (by kernel_rfl) (by kernel_rfl) (fun _ _ _ h => h) (by rfl) (by rfl) hTS ?_ ?_
          rotate_left 1
          · intro X hSX
            (try dsimp only at hSX)
            first | (go_simp; done) | (go_simp; with_reducible rfl)
          clear hTS
          intro hTS
          try simp only [Act.put, List.setIfInBounds_toArray, List.set_cons_zero, List.set_cons_succ]
          refine takeT (i := 7) (v := ?_) rfl (by kernel_rfl) (by kernel_rfl) (by kernel_rfl) (fun _ _ _ h => h) (by rfl) (by rfl) hTS ?_ ?_
          rotate_left 1
          · intro X hSX
            (try dsimp only at hSX)
            first | (go_simp; done) | (go_simp; with_reducible rfl)
          clear hTS
          intro hTS
          try simp only [Act.put, List.setIfInBounds_toArray, List.set_cons_zero, List.set_cons_succ]
          refine takeT (i := 8) (v := ?_) rfl (by kernel_rfl) (by kernel_rfl) (by kernel_rfl) (fun _ _ _ h => h) (by rfl) (by rfl) hTS ?_ ?_
          rotate_left 1
          · intro X hSX
            (try dsimp only at hSX)
            first | (go_simp; done) | (go_simp; with_reducible rfl)
          clear hTS
          intro hTS
          try simp only [Act.put, List.setIfInBounds_toArray, List.set_cons_zero, List.set_cons_succ]
          refine loadT 19 1 (i := 9) (v := ?_) rfl (by kernel_rfl) (by kernel_rfl) rfl (by kernel_rfl) (by kernel_rfl) (by kernel_rfl) (fun _ _ _ h => h) (by rfl) (by rfl) hTS ?_ ?_
          rotate_left 1
          · intro X hSX hSC
            (try dsimp only at hSX)
            first | (go_simp; done) | (go_simp; with_reducible rfl)
          clear hTS
          intro hTS
          try simp only [Act.put, List.setIfInBounds_toArray, List.set_cons_zero, List.set_cons_succ]
          refine takeT (i := 10) (v := ?_) rfl (by kernel_rfl) (by kernel_rfl) (by kernel_rfl) (fun _ _ _ h => h) (by rfl) (by rfl) hTS ?_ ?_
          rotate_left 1
          · intro X hSX
            (try dsimp only at hSX)
            first | (go_simp; done) | (go_simp; with_reducible rfl)
          clear hTS
          intro hTS
          try simp only [Act.put, List.setIfInBounds_toArray, List.set_cons_zero, List.set_cons_succ]
          refine takeT (i := 11) (v := ?_) rfl (by kernel_rfl) (by kernel_rfl) (by kernel_rfl) (fun _ _ _ h => h) (by rfl) (by rfl) hTS ?_ ?_
          rotate_left 1
          · intro X hSX
            (try dsimp only at hSX)
            first | (go_simp; done) | (go_simp; with_reducible rfl)
          clear hTS
          intro hTS
          try simp only [Act.put, List.setIfInBounds_toArray, List.set_cons_zero, List.set_cons_succ]
          refine takeT (i := 12) (v := ?_) rfl (by kernel_rfl) (by kernel_rfl) (by kernel_rfl) (fun _ _ _ h => h) (by rfl) (by rfl) hTS ?_ ?_
          rotate_left 1
          · intro X hSX
            (try dsimp only at hSX)
            first | (go_simp; done) | (go_simp; with_reducible rfl)
          clear hTS
          intro hTS
          try simp only [Act.put, List.setIfInBounds_toArray, List.set_cons_zero, List.set_cons_succ]
          refine takeT (i := 13) (v := ?_) rfl (by kernel_rfl) (by kernel_rfl) (by kernel_rfl) (fun _ _ _ h => h) (by rfl) (by rfl) hTS ?_ ?_
          rotate_left 1
          · intro X hSX
            (try dsimp only at hSX)
            first | (go_simp; done) | (go_simp; with_reducible rfl)
          clear hTS
          intro hTS
          try simp only [Act.put, List.setIfInBounds_toArray, List.set_cons_zero, List.set_cons_succ]
          refine takeT (i := 14) (v := ?_) rfl (by kernel_rfl) (by kernel_rfl) (by kernel_rfl) (fun _ _ _ h => h) (by rfl) (by rfl) hTS ?_ ?_
          rotate_left 1
          · intro X hSX
            (try dsimp only at hSX)
            first | (go_simp; done) | (go_simp; with_reducible rfl)
          clear hTS
          intro hTS
          try simp only [Act.put, List.setIfInBounds_toArray, List.set_cons_zero, List.set_cons_succ]
          refine takeT (i := 15) (v := ?_) rfl (by kernel_rfl) (by kernel_rfl) (by kernel_rfl) (fun _ _ _ h => h) (by rfl) (by rfl) hTS ?_ ?_
          rotate_left 1
          · intro X hSX
            (try dsimp only at hSX)
            first | (go_simp; done) | (go_simp; with_reducible rfl)
          clear hTS
          intro hTS
          try simp only [Act.put, List.setIfInBounds_toArray, List.set_cons_zero, List.set_cons_succ]
          refine takeT (i := 16) (v := ?_) rfl (by kernel_rfl) (by kernel_rfl) (by kernel_rfl) (fun _ _ _ h => h) (by rfl) (by rfl) hTS ?_ ?_
          rotate_left 1
          · intro X hSX
            (try dsimp only at hSX)
            first | (go_simp; done) | (go_simp; with_reducible rfl)
          clear hTS
          intro hTS
          try simp only [Act.put, List.setIfInBounds_toArray, List.set_cons_zero, List.set_cons_succ]
          have u1 := HUz.out.cell (i := 1) (v := .int .i64 y1) rfl
          have v1 := HUz.out.fr (i := 1)
          have HUA := Lib.hid (HUz.out.set 1 (by simp) (.int .i64 (y1 - n)) rfl)
          refine only_oneT (i := 17) (by kernel_rfl) rfl (by rfl) ?_
          intro K hK
          go_simp
          refine hK.out _ _ (TS.gone (by kernel_rfl) (TS.holds (HUA.out.cell (i := 2) rfl) (TS.nil ((cell_far hbu).trans c2z)))) ?_
          clear hK K hTS
          intro hTS
          try simp only [Act.put, List.setIfInBounds_toArray, List.set_cons_zero, List.set_cons_succ]
          clear u1 v1
          refine takeT (i := 18) (v := ?_) rfl (by kernel_rfl) (by kernel_rfl) (by kernel_rfl) (fun _ _ _ h => h) (by rfl) (by rfl) hTS ?_ ?_
          rotate_left 1
          · intro X hSX
            (try dsimp only at hSX)
            first | (go_simp; done) | (go_simp; with_reducible rfl)
          clear hTS
          intro hTS
          try simp only [Act.put, List.setIfInBounds_toArray, List.set_cons_zero, List.set_cons_succ]
          have u2 := HUA.out.cell (i := 2) (v := .int .i64 y2) rfl
          have v2 := HUA.out.fr (i := 2)
          have HUB := Lib.hid (HUA.out.set 2 (by simp) (.int .i64 (y2 + n)) rfl)
          have HBa := Lib.hid ((HBz.out.setCell (p := ⟨ub, 1, none⟩) (Nat.le_of_eq hub) (.int .i64 (y1 - n))).setCell (p := ⟨ub, 2, none⟩) (Nat.le_of_eq hub) (.int .i64 (y2 + n)))
          refine only_oneT (i := 19) (by kernel_rfl) rfl (by rfl) ?_
          intro K hK
          go_simp
          refine hK.out _ _ (TS.gone (by kernel_rfl) (TS.gone (by kernel_rfl) (TS.nil ((cell_far hbu).trans ((cell_far hbu).trans c2z))))) ?_
          clear hK K hTS
          intro hTS
          try simp only [Act.put, List.setIfInBounds_toArray, List.set_cons_zero, List.set_cons_succ]
          refine wpAnyT_done (by kernel_rfl) ?_ _
          clear hTS u2 v2 c2z w1 w2v
          have HNa := Lib.hid (HNq.out.past (HBa.out))
          have HXa := Lib.hid (HXq.out.past (HBa.out))
          have HZa := Lib.hid (HZq.out.past (HBa.out))
          have HWKa := Lib.hid (own_past HWKq.out (HBa.out))
          have HRFa := Lib.hid (HRFq.out.past (HBa.out))
          have HSa := Lib.hid (HSq.out.past (HBa.out))
          have HWa := Lib.hid (HWq.out.trans ((HBa.out).mono HWq.out.size))
          obtain ⟨wa, hwwa⟩ : ∃ Z, (wz.setCell ⟨ub, 1, none⟩ (.int .i64 (y1 - n))).setCell ⟨ub, 2, none⟩ (.int .i64 (y2 + n)) = Z := ⟨_, rfl⟩
          rw [hwwa] at HUB HBa HNa HXa HZa HWKa HRFa HSa HWa
          try rw [hwwa]
          clear hwwa
          have HUa : Hid (Blk wa ub #[.int .i64 y0, .int .i64 (y1 - n), .int .i64 (y2 + n), .int .i64 y3, .int .i64 y4, .int .i64 y5, .int .i64 y6] 63) := Lib.hid (by simpa using HUB.out)
          clear HUB
          go_upto_region 24 with fail
          obtain ⟨gs, rfl⟩ : ∃ gs, ps = some ⟨gs, 0, none⟩ := by
            have hlsp : sp.length = l.length := by rw [HSP.out]; simp
            rcases HRFa.out.sp.2 with ⟨_, h⟩ | ⟨g, ci, cur, h, _⟩
            · omega
            · simp only [Value.slice.injEq] at h; exact ⟨g, h.1⟩
          have hks : (kk : Int) < (sp.length : Int) := by rw [HSP.out]; simp; exact hkl
          have HNc := Lib.hid (HNa.out.past ((Below.refl wa.heap.size wa).drew))
          have HXc := Lib.hid (HXa.out.past ((Below.refl wa.heap.size wa).drew))
          have HZc := Lib.hid (HZa.out.past ((Below.refl wa.heap.size wa).drew))
          have HWKc := Lib.hid (own_past HWKa.out ((Below.refl wa.heap.size wa).drew))
          have HRFc := Lib.hid (HRFa.out.past ((Below.refl wa.heap.size wa).drew))
          have HSc := Lib.hid (HSa.out.past ((Below.refl wa.heap.size wa).drew))
          have HWc := Lib.hid (HWa.out.trans (((Below.refl wa.heap.size wa).drew).mono HWa.out.size))
          have HUc : Hid (Blk wa.drew ub #[.int .i64 y0, .int .i64 (y1 - n), .int .i64 (y2 + n), .int .i64 y3, .int .i64 y4, .int .i64 y5, .int .i64 y6] 63) := Lib.hid HUa.out.drew
          have HBc : Hid (Below wq.heap.size wq wa.drew) := Lib.hid HBa.out.drew
          refine region_plain (fun W => W.cell? ⟨b9, off9 + j * 2, none⟩ = some (.int .i64 (kk : Int)) ∧ W.cell? ⟨b9, off9 + j * 2 + 1, none⟩ = some (.int .i64 n) ∧ W.cell? ⟨xb, 1, none⟩ = some (.slice (some ⟨gs, 0, none⟩) sp.length cs) ∧ W.cell? ⟨gs, kk, none⟩ = some (.int .i64 y7) ∧ W.cell? ⟨ub, 0, none⟩ = some (.int .i64 y0) ∧ W.cell? ⟨ub, 1, none⟩ = some (.int .i64 (y1 - n)) ∧ W.cell? ⟨ub, 2, none⟩ = some (.int .i64 (y2 + n)) ∧ W.cell? ⟨ub, 3, none⟩ = some (.int .i64 y3) ∧ W.cell? ⟨ub, 4, none⟩ = some (.int .i64 y4) ∧ W.cell? ⟨ub, 5, none⟩ = some (.int .i64 y5) ∧ W.cell? ⟨ub, 6, none⟩ = some (.int .i64 y6)) 27 #[false, false, false, false, false, false, false, false, false, false, false, false, false, false, false, false, false, false, false, false, false, false, false, false, false, false, false] rfl rfl (by kernel_rfl) ?_
          obtain ⟨wc, hwwc⟩ : ∃ Z, wa.drew = Z := ⟨_, rfl⟩
          rw [hwwc] at HUc HBc HNc HXc HZc HWKc HRFc HSc HWc
          try rw [hwwc]
          clear hwwc
          have c1c := (HBc.out.cell (p := ⟨b9, off9 + j * 2, none⟩) hb9q).trans HC1q.out
          have c2c := (HBc.out.cell (p := ⟨b9, off9 + j * 2 + 1, none⟩) hb9q).trans HC2q.out
          have hlk : l[kk] = ⟨y0, y1, y2, y3, y4, y5, y6, y7⟩ := by have := HS0.out; simpa [hkl] using this
          have c3c : wc.cell? ⟨gs, kk, none⟩ = some (.int .i64 y7) := by
            have h5 := World.ownsRow.cellAt HRFc.out.sp kk (by rw [HSP.out]; simpa using hkl)
            rw [h5, HSP.out]
            simp [iM, hkl, hlk]
          have hSS : wc.cell? ⟨b9, off9 + j * 2, none⟩ = some (.int .i64 (kk : Int)) ∧ wc.cell? ⟨b9, off9 + j * 2 + 1, none⟩ = some (.int .i64 n) ∧ wc.cell? ⟨xb, 1, none⟩ = some (.slice (some ⟨gs, 0, none⟩) sp.length cs) ∧ wc.cell? ⟨gs, kk, none⟩ = some (.int .i64 y7) ∧ wc.cell? ⟨ub, 0, none⟩ = some (.int .i64 y0) ∧ wc.cell? ⟨ub, 1, none⟩ = some (.int .i64 (y1 - n)) ∧ wc.cell? ⟨ub, 2, none⟩ = some (.int .i64 (y2 + n)) ∧ wc.cell? ⟨ub, 3, none⟩ = some (.int .i64 y3) ∧ wc.cell? ⟨ub, 4, none⟩ = some (.int .i64 y4) ∧ wc.cell? ⟨ub, 5, none⟩ = some (.int .i64 y5) ∧ wc.cell? ⟨ub, 6, none⟩ = some (.int .i64 y6) := ⟨c1c, c2c, HXc.out.cell (i := 1) rfl, c3c, HUc.out.cell (i := 0) rfl, HUc.out.cell (i := 1) rfl, HUc.out.cell (i := 2) rfl, HUc.out.cell (i := 3) rfl, HUc.out.cell (i := 4) rfl, HUc.out.cell (i := 5) rfl, HUc.out.cell (i := 6) rfl⟩
          have HSSC := Lib.hid hSS
          clear c1c c2c hlk c3c
          have hst := HFR.out.step hlt HEL.out HQQ.out HFRESH.out HQ3.out HS0.out hny
          have HST := Lib.hid hst.1
          have hlow := HFR.out.r.low
          have hhigh := HFR.out.r.high
          have h20 := HB20.out
          have w3v : IntKind.i64.wrap (n * y7) = n * y7 := wrap_id (by omega) (by omega)
          have w4v : IntKind.i64.wrap (room - s - n * y7) = room - s - n * y7 := wrap_id (by omega) (by omega)
          clear hst hlow hhigh h20
          refine take_first (i := 1) (v := ?_) rfl (by kernel_rfl) (by kernel_rfl) (by kernel_rfl) (fun _ _ _ h => h) (by rfl) (by assumption) ?_ ?_
          rotate_left 1
          · intro X hSX
            (try dsimp only at hSX)
            first | (go_simp; done) | (go_simp; with_reducible rfl)
          try simp only [Act.put, List.setIfInBounds_toArray, List.set_cons_zero, List.set_cons_succ]
          refine take_first (i := 2) (v := ?_) rfl (by kernel_rfl) (by kernel_rfl) (by kernel_rfl) (fun _ _ _ h => h) (by rfl) (by assumption) ?_ ?_
          rotate_left 1
          · intro X hSX
            (try dsimp only at hSX)
            first | (go_simp; done) | (go_simp; with_reducible rfl)
          try simp only [Act.put, List.setIfInBounds_toArray, List.set_cons_zero, List.set_cons_succ]
          refine take_first (i := 3) (v := ?_) rfl (by kernel_rfl) (by kernel_rfl) (by kernel_rfl) (fun _ _ _ h => h) (by rfl) (by assumption) ?_ ?_
          rotate_left 1
          · intro X hSX
            (try dsimp only at hSX)
            first | (go_simp; done) | (go_simp; with_reducible rfl)
          try simp only [Act.put, List.setIfInBounds_toArray, List.set_cons_zero, List.set_cons_succ]
          refine take_first (i := 4) (v := ?_) rfl (by kernel_rfl) (by kernel_rfl) (by kernel_rfl) (fun _ _ _ h => h) (by rfl) (by assumption) ?_ ?_
          rotate_left 1
          · intro X hSX
            (try dsimp only at hSX)
            first | (go_simp; done) | (go_simp; with_reducible rfl)
          try simp only [Act.put, List.setIfInBounds_toArray, List.set_cons_zero, List.set_cons_succ]
          refine take_first (i := 5) (v := ?_) rfl (by kernel_rfl) (by kernel_rfl) (by kernel_rfl) (fun _ _ _ h => h) (by rfl) (by assumption) ?_ ?_
          rotate_left 1
          · intro X hSX
            (try dsimp only at hSX)
            first | (go_simp; done) | (go_simp; with_reducible rfl)
          try simp only [Act.put, List.setIfInBounds_toArray, List.set_cons_zero, List.set_cons_succ]
          refine take_first (i := 6) (v := ?_) rfl (by kernel_rfl) (by kernel_rfl) (by kernel_rfl) (fun _ _ _ h => h) (by rfl) (by assumption) ?_ ?_
          rotate_left 1
          · intro X hSX
            (try dsimp only at hSX)
            first | (go_simp; done) | (go_simp; with_reducible rfl)
          try simp only [Act.put, List.setIfInBounds_toArray, List.set_cons_zero, List.set_cons_succ]
          refine take_first (i := 8) (v := ?_) rfl (by kernel_rfl) (by kernel_rfl) (by kernel_rfl) (fun _ _ _ h => h) (by rfl) (by assumption) ?_ ?_
          rotate_left 1
          · intro X hSX
            (try dsimp only at hSX)
            first | (go_simp; done) | (go_simp; with_reducible rfl)
          try simp only [Act.put, List.setIfInBounds_toArray, List.set_cons_zero, List.set_cons_succ]
          refine take_first (i := 9) (v := ?_) rfl (by kernel_rfl) (by kernel_rfl) (by kernel_rfl) (fun _ _ _ h => h) (by rfl) (by assumption) ?_ ?_
          rotate_left 1
          · intro X hSX
            (try dsimp only at hSX)
            first | (go_simp; done) | (go_simp; with_reducible rfl)
          try simp only [Act.put, List.setIfInBounds_toArray, List.set_cons_zero, List.set_cons_succ]
          refine take_first (i := 10) (v := ?_) rfl (by kernel_rfl) (by kernel_rfl) (by kernel_rfl) (fun _ _ _ h => h) (by rfl) (by assumption) ?_ ?_
          rotate_left 1
          · intro X hSX
            (try dsimp only at hSX)
            first | (go_simp; done) | (go_simp; with_reducible rfl)
          try simp only [Act.put, List.setIfInBounds_toArray, List.set_cons_zero, List.set_cons_succ]
          refine take_first (i := 11) (v := ?_) rfl (by kernel_rfl) (by kernel_rfl) (by kernel_rfl) (fun _ _ _ h => h) (by rfl) (by assumption) ?_ ?_
          rotate_left 1
          · intro X hSX
            (try dsimp only at hSX)
            first | (go_simp; done) | (go_simp; with_reducible rfl)
          try simp only [Act.put, List.setIfInBounds_toArray, List.set_cons_zero, List.set_cons_succ]
          refine take_first (i := 12) (v := ?_) rfl (by kernel_rfl) (by kernel_rfl) (by kernel_rfl) (fun _ _ _ h => h) (by rfl) (by assumption) ?_ ?_
          rotate_left 1
          · intro X hSX
            (try dsimp only at hSX)
            first | (go_simp; done) | (go_simp; with_reducible rfl)
          try simp only [Act.put, List.setIfInBounds_toArray, List.set_cons_zero, List.set_cons_succ]
          refine take_first (i := 13) (v := ?_) rfl (by kernel_rfl) (by kernel_rfl) (by kernel_rfl) (fun _ _ _ h => h) (by rfl) (by assumption) ?_ ?_
          rotate_left 1
          · intro X hSX
            (try dsimp only at hSX)
            first | (go_simp; done) | (go_simp; with_reducible rfl)
          try simp only [Act.put, List.setIfInBounds_toArray, List.set_cons_zero, List.set_cons_succ]
          refine take_first (i := 14) (v := ?_) rfl (by kernel_rfl) (by kernel_rfl) (by kernel_rfl) (fun _ _ _ h => h) (by rfl) (by assumption) ?_ ?_
          rotate_left 1
          · intro X hSX
            (try dsimp only at hSX)
            first | (go_simp; done) | (go_simp; with_reducible rfl)
          try simp only [Act.put, List.setIfInBounds_toArray, List.set_cons_zero, List.set_cons_succ]
          refine take_first (i := 15) (v := ?_) rfl (by kernel_rfl) (by kernel_rfl) (by kernel_rfl) (fun _ _ _ h => h) (by rfl) (by assumption) ?_ ?_
          rotate_left 1
          · intro X hSX
            (try dsimp only at hSX)
            first | (go_simp; done) | (go_simp; with_reducible rfl)
          try simp only [Act.put, List.setIfInBounds_toArray, List.set_cons_zero, List.set_cons_succ]
          refine take_first (i := 16) (v := ?_) rfl (by kernel_rfl) (by kernel_rfl) (by kernel_rfl) (fun _ _ _ h => h) (by rfl) (by assumption) ?_ ?_
          rotate_left 1
          · intro X hSX
            (try dsimp only at hSX)
            first | (go_simp; done) | (go_simp; with_reducible rfl)
          try simp only [Act.put, List.setIfInBounds_toArray, List.set_cons_zero, List.set_cons_succ]
          refine take_first (i := 17) (v := ?_) rfl (by kernel_rfl) (by kernel_rfl) (by kernel_rfl) (fun _ _ _ h => h) (by rfl) (by assumption) ?_ ?_
          rotate_left 1
          · intro X hSX
            (try dsimp only at hSX)
            first | (go_simp; done) | (go_simp; with_reducible rfl)
          try simp only [Act.put, List.setIfInBounds_toArray, List.set_cons_zero, List.set_cons_succ]
          refine take_first (i := 18) (v := ?_) rfl (by kernel_rfl) (by kernel_rfl) (by kernel_rfl) (fun _ _ _ h => h) (by rfl) (by assumption) ?_ ?_
          rotate_left 1
          · intro X hSX
            (try dsimp only at hSX)
            first | (go_simp; done) | (go_simp; with_reducible rfl)
          try simp only [Act.put, List.setIfInBounds_toArray, List.set_cons_zero, List.set_cons_succ]
          refine take_first (i := 19) (v := ?_) rfl (by kernel_rfl) (by kernel_rfl) (by kernel_rfl) (fun _ _ _ h => h) (by rfl) (by assumption) ?_ ?_
          rotate_left 1
          · intro X hSX
            (try dsimp only at hSX)
            first | (go_simp; done) | (go_simp; with_reducible rfl)
          try simp only [Act.put, List.setIfInBounds_toArray, List.set_cons_zero, List.set_cons_succ]
          refine take_first (i := 20) (v := ?_) rfl (by kernel_rfl) (by kernel_rfl) (by kernel_rfl) (fun _ _ _ h => h) (by rfl) (by assumption) ?_ ?_
          rotate_left 1
          · intro X hSX
            (try dsimp only at hSX)
            first | (go_simp; done) | (go_simp; with_reducible rfl)
          try simp only [Act.put, List.setIfInBounds_toArray, List.set_cons_zero, List.set_cons_succ]
          refine take_first (i := 21) (v := ?_) rfl (by kernel_rfl) (by kernel_rfl) (by kernel_rfl) (fun _ _ _ h => h) (by rfl) (by assumption) ?_ ?_
          rotate_left 1
          · intro X hSX
            (try dsimp only at hSX)
            first | (go_simp; done) | (go_simp; with_reducible rfl)
          try simp only [Act.put, List.setIfInBounds_toArray, List.set_cons_zero, List.set_cons_succ]
          refine take_first (i := 22) (v := ?_) rfl (by kernel_rfl) (by kernel_rfl) (by kernel_rfl) (fun _ _ _ h => h) (by rfl) (by assumption) ?_ ?_
          rotate_left 1
          · intro X hSX
            (try dsimp only at hSX)
            first | (go_simp; done) | (go_simp; with_reducible rfl)
          try simp only [Act.put, List.setIfInBounds_toArray, List.set_cons_zero, List.set_cons_succ]
          refine take_first (i := 23) (v := ?_) rfl (by kernel_rfl) (by kernel_rfl) (by kernel_rfl) (fun _ _ _ h => h) (by rfl) (by assumption) ?_ ?_
          rotate_left 1
          · intro X hSX
            (try dsimp only at hSX)
            first | (go_simp; done) | (go_simp; with_reducible rfl)
          try simp only [Act.put, List.setIfInBounds_toArray, List.set_cons_zero, List.set_cons_succ]
          refine take_first (i := 24) (v := ?_) rfl (by kernel_rfl) (by kernel_rfl) (by kernel_rfl) (fun _ _ _ h => h) (by rfl) (by assumption) ?_ ?_
          rotate_left 1
          · intro X hSX
            (try dsimp only at hSX)
            first | (go_simp; done) | (go_simp; with_reducible rfl)
          try simp only [Act.put, List.setIfInBounds_toArray, List.set_cons_zero, List.set_cons_succ]
          have m0 := HNc.out.cell (i := 0) (v := .bool false) rfl
          have m1 := HNc.out.cell (i := 1) (v := .slice (some ⟨gs, 0, none⟩) sp.length cs) rfl
          have m2 := HNc.out.cell (i := 2) (v := .int .i64 room) rfl
          have m3 := HNc.out.cell (i := 3) (v := .slice (some ⟨gk, 0, none⟩) l.length ck) rfl
          have m4 := HNc.out.cell (i := 4) (v := .slice pb L.length cb) rfl
          refine only_one (i := 0) (by kernel_rfl) rfl (by rfl) ?_
          intro K hK
          go_simp
          refine hK.out _ _ hSS ?_
          clear hK K
          try simp only [Act.put, List.setIfInBounds_toArray, List.set_cons_zero, List.set_cons_succ]
          clear hSS m0 m1 m2 m3 m4
          have HLEN : Hid (li.length = l.length) := Lib.hid HFR.out.r.len
          have hkli : kk < li.length := by rw [HLEN.out]; exact hkl
          have hwi := with_any false (some ⟨gs, 0, none⟩) pb sp.length cs L.length cb room base gk ck li kk y0 (y1 - n) (y2 + n) y3 y4 y5 y6 y7 wc (by unfold WarR; rw [HLEN.out]; have := HWKc.out; unfold WarR at this; rwa [HLEN.out] at this) hkli (by rw [HLEN.out]; exact hl)
          rw [HLEN.out] at hwi
          have HWI := Lib.hid hwi
          clear hwi
          refine only_one (i := 7) (by kernel_rfl) rfl (by rfl) ?_
          intro K hK
          go_simp
          refine HWI.out.mono ?_
          rintro e w9 ⟨hb9', vw, rfl, hwar⟩
          obtain ⟨gk2, ck2, rfl⟩ : ∃ gk2 ck2, vw = .slice (some ⟨gk2, 0, none⟩) l.length ck2 := by
            unfold WarR at hwar
            rw [List.length_set, HLEN.out] at hwar
            rcases hwar.2 with ⟨_, h⟩ | ⟨gn, cn, cur, rfl, _⟩
            · omega
            · exact ⟨gn, cn, rfl⟩
          have HN9 := Lib.hid (HNc.out.past (hb9'))
          have HX9 := Lib.hid (HXc.out.past (hb9'))
          have HZ9 := Lib.hid (HZc.out.past (hb9'))
          have HRF9 := Lib.hid (HRFc.out.past (hb9'))
          have HS9 := Lib.hid (HSc.out.past (hb9'))
          have HW9 := Lib.hid (HWc.out.trans ((hb9').mono HWc.out.size))
          have hb9c : b9 < wc.heap.size := Nat.lt_of_lt_of_le hb9q HBc.out.size
          have hxc := HXc.out.lt
          have hgsc : gs < wc.heap.size := cell_block HSSC.out.2.2.2.1
          have huc := HUc.out.lt
          have HSS9 := Lib.hid (show w9.cell? ⟨b9, off9 + j * 2, none⟩ = some (.int .i64 (kk : Int)) ∧ w9.cell? ⟨b9, off9 + j * 2 + 1, none⟩ = some (.int .i64 n) ∧ w9.cell? ⟨xb, 1, none⟩ = some (.slice (some ⟨gs, 0, none⟩) sp.length cs) ∧ w9.cell? ⟨gs, kk, none⟩ = some (.int .i64 y7) ∧ w9.cell? ⟨ub, 0, none⟩ = some (.int .i64 y0) ∧ w9.cell? ⟨ub, 1, none⟩ = some (.int .i64 (y1 - n)) ∧ w9.cell? ⟨ub, 2, none⟩ = some (.int .i64 (y2 + n)) ∧ w9.cell? ⟨ub, 3, none⟩ = some (.int .i64 y3) ∧ w9.cell? ⟨ub, 4, none⟩ = some (.int .i64 y4) ∧ w9.cell? ⟨ub, 5, none⟩ = some (.int .i64 y5) ∧ w9.cell? ⟨ub, 6, none⟩ = some (.int .i64 y6) from ⟨(hb9'.cell (p := ⟨b9, off9 + j * 2, none⟩) hb9c).trans HSSC.out.1, (hb9'.cell (p := ⟨b9, off9 + j * 2 + 1, none⟩) hb9c).trans HSSC.out.2.1, (hb9'.cell (p := ⟨xb, 1, none⟩) hxc).trans HSSC.out.2.2.1, (hb9'.cell (p := ⟨gs, kk, none⟩) hgsc).trans HSSC.out.2.2.2.1, (hb9'.cell (p := ⟨ub, 0, none⟩) huc).trans HSSC.out.2.2.2.2.1, (hb9'.cell (p := ⟨ub, 1, none⟩) huc).trans HSSC.out.2.2.2.2.2.1, (hb9'.cell (p := ⟨ub, 2, none⟩) huc).trans HSSC.out.2.2.2.2.2.2.1, (hb9'.cell (p := ⟨ub, 3, none⟩) huc).trans HSSC.out.2.2.2.2.2.2.2.1, (hb9'.cell (p := ⟨ub, 4, none⟩) huc).trans HSSC.out.2.2.2.2.2.2.2.2.1, (hb9'.cell (p := ⟨ub, 5, none⟩) huc).trans HSSC.out.2.2.2.2.2.2.2.2.2.1, (hb9'.cell (p := ⟨ub, 6, none⟩) huc).trans HSSC.out.2.2.2.2.2.2.2.2.2.2⟩)
          have hle : base ≤ wc.heap.size := Nat.le_trans hbase HWc.out.size
          have HWK9 : Hid (WarR w9 base (.slice (some ⟨gk2, 0, none⟩) l.length ck2) (li.set kk ⟨y0, (y1 - n), (y2 + n), y3, y4, y5, y6, y7⟩)) := Lib.hid (own_low hwar hle)
          clear hwar hb9' hle HWI
          refine hK.out _ _ HSS9.out ?_
          clear hK K
          try simp only [Act.put, List.setIfInBounds_toArray, List.set_cons_zero, List.set_cons_succ]
          have m0 := HN9.out.cell (i := 0) (v := .bool false) rfl
          have m1 := HN9.out.cell (i := 1) (v := .slice (some ⟨gs, 0, none⟩) sp.length cs) rfl
          have m2 := HN9.out.cell (i := 2) (v := .int .i64 room) rfl
          have m3 := HN9.out.cell (i := 3) (v := .slice (some ⟨gk, 0, none⟩) l.length ck) rfl
          have m4 := HN9.out.cell (i := 4) (v := .slice pb L.length cb) rfl
          have p0 := HN9.out.fr (i := 0)
          have p1 := HN9.out.fr (i := 1)
          have p2 := HN9.out.fr (i := 2)
          have p3 := HN9.out.fr (i := 3)
          have p4 := HN9.out.fr (i := 4)
          have HN10 := Lib.hid (blk_set5 HN9.out (.bool false) (.slice (some ⟨gs, 0, none⟩) sp.length cs) (.int .i64 room) (.slice (some ⟨gk2, 0, none⟩) l.length ck2) (.slice pb L.length cb) rfl rfl rfl rfl rfl)
          have HX10 := Lib.hid (blk_f5 (b' := xb + 2) HX9.out (by omega) (.bool false) (.slice (some ⟨gs, 0, none⟩) sp.length cs) (.int .i64 room) (.slice (some ⟨gk2, 0, none⟩) l.length ck2) (.slice pb L.length cb))
          have HZ10 := Lib.hid (blk_f5 (b' := xb + 2) HZ9.out (by omega) (.bool false) (.slice (some ⟨gs, 0, none⟩) sp.length cs) (.int .i64 room) (.slice (some ⟨gk2, 0, none⟩) l.length ck2) (.slice pb L.length cb))
          have HWK10 := Lib.hid (own_set5 (gq := xb + 2) HWK9.out (own_ne HWK9.out ⟨_, HN9.out⟩ (by decide)) (.bool false) (.slice (some ⟨gs, 0, none⟩) sp.length cs) (.int .i64 room) (.slice (some ⟨gk2, 0, none⟩) l.length ck2) (.slice pb L.length cb))
          have HRF10 := Lib.hid (HRF9.out.set5 HN9.out (.bool false) (.slice (some ⟨gs, 0, none⟩) sp.length cs) (.int .i64 room) (.slice (some ⟨gk2, 0, none⟩) l.length ck2) (.slice pb L.length cb))
          have HW10 := Lib.hid (below_set5 (b := xb + 2) HW9.out (by omega) (.bool false) (.slice (some ⟨gs, 0, none⟩) sp.length cs) (.int .i64 room) (.slice (some ⟨gk2, 0, none⟩) l.length ck2) (.slice pb L.length cb))
          have hxq2 : xb + 2 < wq.heap.size := HNq.out.lt
          have hgs2 : gs ≠ xb + 2 := fun e => by
            have h6 := own_ne HRF9.out.sp ⟨_, HN9.out⟩ (by decide)
            exact h6 (by rw [e]; rfl)
          have hb92 : b9 ≠ xb + 2 := by omega
          have HSS10 := Lib.hid (show (((((w9.setCell ⟨xb + 2, 0, none⟩ (.bool false)).setCell ⟨xb + 2, 1, none⟩ (.slice (some ⟨gs, 0, none⟩) sp.length cs)).setCell ⟨xb + 2, 2, none⟩ (.int .i64 room)).setCell ⟨xb + 2, 3, none⟩ (.slice (some ⟨gk2, 0, none⟩) l.length ck2)).setCell ⟨xb + 2, 4, none⟩ (.slice pb L.length cb)).cell? ⟨b9, off9 + j * 2, none⟩ = some (.int .i64 (kk : Int)) ∧ (((((w9.setCell ⟨xb + 2, 0, none⟩ (.bool false)).setCell ⟨xb + 2, 1, none⟩ (.slice (some ⟨gs, 0, none⟩) sp.length cs)).setCell ⟨xb + 2, 2, none⟩ (.int .i64 room)).setCell ⟨xb + 2, 3, none⟩ (.slice (some ⟨gk2, 0, none⟩) l.length ck2)).setCell ⟨xb + 2, 4, none⟩ (.slice pb L.length cb)).cell? ⟨b9, off9 + j * 2 + 1, none⟩ = some (.int .i64 n) ∧ (((((w9.setCell ⟨xb + 2, 0, none⟩ (.bool false)).setCell ⟨xb + 2, 1, none⟩ (.slice (some ⟨gs, 0, none⟩) sp.length cs)).setCell ⟨xb + 2, 2, none⟩ (.int .i64 room)).setCell ⟨xb + 2, 3, none⟩ (.slice (some ⟨gk2, 0, none⟩) l.length ck2)).setCell ⟨xb + 2, 4, none⟩ (.slice pb L.length cb)).cell? ⟨xb, 1, none⟩ = some (.slice (some ⟨gs, 0, none⟩) sp.length cs) ∧ (((((w9.setCell ⟨xb + 2, 0, none⟩ (.bool false)).setCell ⟨xb + 2, 1, none⟩ (.slice (some ⟨gs, 0, none⟩) sp.length cs)).setCell ⟨xb + 2, 2, none⟩ (.int .i64 room)).setCell ⟨xb + 2, 3, none⟩ (.slice (some ⟨gk2, 0, none⟩) l.length ck2)).setCell ⟨xb + 2, 4, none⟩ (.slice pb L.length cb)).cell? ⟨gs, kk, none⟩ = some (.int .i64 y7) ∧ (((((w9.setCell ⟨xb + 2, 0, none⟩ (.bool false)).setCell ⟨xb + 2, 1, none⟩ (.slice (some ⟨gs, 0, none⟩) sp.length cs)).setCell ⟨xb + 2, 2, none⟩ (.int .i64 room)).setCell ⟨xb + 2, 3, none⟩ (.slice (some ⟨gk2, 0, none⟩) l.length ck2)).setCell ⟨xb + 2, 4, none⟩ (.slice pb L.length cb)).cell? ⟨ub, 0, none⟩ = some (.int .i64 y0) ∧ (((((w9.setCell ⟨xb + 2, 0, none⟩ (.bool false)).setCell ⟨xb + 2, 1, none⟩ (.slice (some ⟨gs, 0, none⟩) sp.length cs)).setCell ⟨xb + 2, 2, none⟩ (.int .i64 room)).setCell ⟨xb + 2, 3, none⟩ (.slice (some ⟨gk2, 0, none⟩) l.length ck2)).setCell ⟨xb + 2, 4, none⟩ (.slice pb L.length cb)).cell? ⟨ub, 1, none⟩ = some (.int .i64 (y1 - n)) ∧ (((((w9.setCell ⟨xb + 2, 0, none⟩ (.bool false)).setCell ⟨xb + 2, 1, none⟩ (.slice (some ⟨gs, 0, none⟩) sp.length cs)).setCell ⟨xb + 2, 2, none⟩ (.int .i64 room)).setCell ⟨xb + 2, 3, none⟩ (.slice (some ⟨gk2, 0, none⟩) l.length ck2)).setCell ⟨xb + 2, 4, none⟩ (.slice pb L.length cb)).cell? ⟨ub, 2, none⟩ = some (.int .i64 (y2 + n)) ∧ (((((w9.setCell ⟨xb + 2, 0, none⟩ (.bool false)).setCell ⟨xb + 2, 1, none⟩ (.slice (some ⟨gs, 0, none⟩) sp.length cs)).setCell ⟨xb + 2, 2, none⟩ (.int .i64 room)).setCell ⟨xb + 2, 3, none⟩ (.slice (some ⟨gk2, 0, none⟩) l.length ck2)).setCell ⟨xb + 2, 4, none⟩ (.slice pb L.length cb)).cell? ⟨ub, 3, none⟩ = some (.int .i64 y3) ∧ (((((w9.setCell ⟨xb + 2, 0, none⟩ (.bool false)).setCell ⟨xb + 2, 1, none⟩ (.slice (some ⟨gs, 0, none⟩) sp.length cs)).setCell ⟨xb + 2, 2, none⟩ (.int .i64 room)).setCell ⟨xb + 2, 3, none⟩ (.slice (some ⟨gk2, 0, none⟩) l.length ck2)).setCell ⟨xb + 2, 4, none⟩ (.slice pb L.length cb)).cell? ⟨ub, 4, none⟩ = some (.int .i64 y4) ∧ (((((w9.setCell ⟨xb + 2, 0, none⟩ (.bool false)).setCell ⟨xb + 2, 1, none⟩ (.slice (some ⟨gs, 0, none⟩) sp.length cs)).setCell ⟨xb + 2, 2, none⟩ (.int .i64 room)).setCell ⟨xb + 2, 3, none⟩ (.slice (some ⟨gk2, 0, none⟩) l.length ck2)).setCell ⟨xb + 2, 4, none⟩ (.slice pb L.length cb)).cell? ⟨ub, 5, none⟩ = some (.int .i64 y5) ∧ (((((w9.setCell ⟨xb + 2, 0, none⟩ (.bool false)).setCell ⟨xb + 2, 1, none⟩ (.slice (some ⟨gs, 0, none⟩) sp.length cs)).setCell ⟨xb + 2, 2, none⟩ (.int .i64 room)).setCell ⟨xb + 2, 3, none⟩ (.slice (some ⟨gk2, 0, none⟩) l.length ck2)).setCell ⟨xb + 2, 4, none⟩ (.slice pb L.length cb)).cell? ⟨ub, 6, none⟩ = some (.int .i64 y6) from ⟨(cell_far5 hb92 _ _ _ _ _).trans HSS9.out.1, (cell_far5 hb92 _ _ _ _ _).trans HSS9.out.2.1, (cell_far5 (by omega) _ _ _ _ _).trans HSS9.out.2.2.1, (cell_far5 hgs2 _ _ _ _ _).trans HSS9.out.2.2.2.1, (cell_far5 (by omega) _ _ _ _ _).trans HSS9.out.2.2.2.2.1, (cell_far5 (by omega) _ _ _ _ _).trans HSS9.out.2.2.2.2.2.1, (cell_far5 (by omega) _ _ _ _ _).trans HSS9.out.2.2.2.2.2.2.1, (cell_far5 (by omega) _ _ _ _ _).trans HSS9.out.2.2.2.2.2.2.2.1, (cell_far5 (by omega) _ _ _ _ _).trans HSS9.out.2.2.2.2.2.2.2.2.1, (cell_far5 (by omega) _ _ _ _ _).trans HSS9.out.2.2.2.2.2.2.2.2.2.1, (cell_far5 (by omega) _ _ _ _ _).trans HSS9.out.2.2.2.2.2.2.2.2.2.2⟩)
          refine only_one (i := 25) (by kernel_rfl) rfl (by rfl) ?_
          intro K hK
          go_simp
          obtain ⟨wn, hwwn⟩ : ∃ Z, ((((w9.setCell ⟨xb + 2, 0, none⟩ (.bool false)).setCell ⟨xb + 2, 1, none⟩ (.slice (some ⟨gs, 0, none⟩) sp.length cs)).setCell ⟨xb + 2, 2, none⟩ (.int .i64 room)).setCell ⟨xb + 2, 3, none⟩ (.slice (some ⟨gk2, 0, none⟩) l.length ck2)).setCell ⟨xb + 2, 4, none⟩ (.slice pb L.length cb) = Z := ⟨_, rfl⟩
          rw [hwwn] at HN10 HX10 HZ10 HWK10 HRF10 HW10 HSS10
          try rw [hwwn]
          clear hwwn
          have hSS := HSS10.out
          refine hK.out _ _ hSS ?_
          clear hK K
          try simp only [Act.put, List.setIfInBounds_toArray, List.set_cons_zero, List.set_cons_succ]
          refine take_first (i := 26) (v := ?_) rfl (by kernel_rfl) (by kernel_rfl) (by kernel_rfl) (fun _ _ _ h => h) (by rfl) (by assumption) ?_ ?_
          rotate_left 1
          · intro X hSX
            (try dsimp only at hSX)
            first | (go_simp; done) | (go_simp; with_reducible rfl)
          try simp only [Act.put, List.setIfInBounds_toArray, List.set_cons_zero, List.set_cons_succ]
          refine wpAnyH_done (by kernel_rfl) ?_ _
          clear hSS HSS9 HSS10 HSSC w3v w4v m0 m1 m2 m3 m4 p0 p1 p2 p3 p4
          go_wp2
          go_roundw
          case rel => exact ⟨j + 1, gk2, ck2, (kk : Int) :: seen, _, s + n * y7, by omega, by rw [show room - (s + n * y7) = room - s - n * y7 by omega], by go_num, HST, HN10, HWK10, HX10, HZ10, HW10⟩
          case measure => simp [intOf]; omega
    · have hke : k = bs.length := by omega
      subst k
      have hful := HFR.out.whole
      have HLEN : Hid (li.length = l.length) := Lib.hid HFR.out.r.len
      by_cases hs : s > room
      · have hneg : room - s < 0 := by omega
        go_upto_region 26 with fail
        have HV : Hid (R = (8, l, L)) := Lib.hid (by rw [← HR.out, fireF_full HB0.out HB20.out hful HL0.out, if_pos hs])
        have e0z := HX.out.cell (i := 0) (v := (.bool false)) rfl
        have e1z := HX.out.cell (i := 1) (v := (.slice ps sp.length cs)) rfl
        have e2z := HX.out.cell (i := 2) (v := (.int .i64 room)) rfl
        have e3z := HX.out.cell (i := 3) (v := (.slice (some ⟨gw, 0, none⟩) l.length cw)) rfl
        have e4z := HX.out.cell (i := 4) (v := (.slice pb L.length cb)) rfl
        have z0z := HZ.out.cell (i := 0) (v := (.bool false)) rfl
        have y0z := HZ.out.fr (i := 0)
        have z1z := HZ.out.cell (i := 1) (v := (.slice none 0 0)) rfl
        have y1z := HZ.out.fr (i := 1)
        have z2z := HZ.out.cell (i := 2) (v := (.int .i64 0)) rfl
        have y2z := HZ.out.fr (i := 2)
        have z3z := HZ.out.cell (i := 3) (v := (.slice none 0 0)) rfl
        have y3z := HZ.out.fr (i := 3)
        have z4z := HZ.out.cell (i := 4) (v := (.slice none 0 0)) rfl
        have y4z := HZ.out.fr (i := 4)
        have HZ8 := Lib.hid (blk_set5 HZ.out (.bool false) (.slice ps sp.length cs) (.int .i64 room) (.slice (some ⟨gw, 0, none⟩) l.length cw) (.slice pb L.length cb) rfl rfl rfl rfl rfl)
        have HB8 := Lib.hid (below_set5 (b := xb + 1) HW.out (by omega) (.bool false) (.slice ps sp.length cs) (.int .i64 room) (.slice (some ⟨gw, 0, none⟩) l.length cw) (.slice pb L.length cb))
        have HR8 := Lib.hid (HRF.out.set5 HZ.out (.bool false) (.slice ps sp.length cs) (.int .i64 room) (.slice (some ⟨gw, 0, none⟩) l.length cw) (.slice pb L.length cb))
        go_wp2
        obtain ⟨w8, hw8⟩ : ∃ Z, ((((wr.setCell ⟨xb + 1, 0, none⟩ (.bool false)).setCell ⟨xb + 1, 1, none⟩ (.slice ps sp.length cs)).setCell ⟨xb + 1, 2, none⟩ (.int .i64 room)).setCell ⟨xb + 1, 3, none⟩ (.slice (some ⟨gw, 0, none⟩) l.length cw)).setCell ⟨xb + 1, 4, none⟩ (.slice pb L.length cb) = Z := ⟨_, rfl⟩
        rw [hw8] at HZ8 HB8 HR8
        try rw [hw8]
        have g0 := HZ8.out.cell (i := 0) (v := (.bool false)) rfl
        have g1 := HZ8.out.cell (i := 1) (v := (.slice ps sp.length cs)) rfl
        have g2 := HZ8.out.cell (i := 2) (v := (.int .i64 room)) rfl
        have g3 := HZ8.out.cell (i := 3) (v := (.slice (some ⟨gw, 0, none⟩) l.length cw)) rfl
        have g4 := HZ8.out.cell (i := 4) (v := (.slice pb L.length cb)) rfl
        refine bodyPost_ret (v := .tuple #[.agg #[.bool false, .slice ps sp.length cs, .int .i64 room, .slice (some ⟨gw, 0, none⟩) l.length cw, .slice pb L.length cb], .int .i64 8]) (by simp [results, Try.results63, go_sem, g0, g1, g2, g3, g4]) rfl ⟨HB8.out, _, _, _, _, by rw [HV.out], by rw [HV.out]; exact HR8.out⟩
      have hneg : ¬ (room - s < 0) := by omega
      have HV : Hid (R = (0, li, bs)) := Lib.hid (by rw [← HR.out, fireF_full HB0.out HB20.out hful HL0.out, if_neg hs])
      clear hful hs
      go_upto_region 27 with fail
      obtain ⟨eb, heb⟩ : ∃ x, wr.heap.size = x := ⟨_, rfl⟩
      have B0 := (Below.refl wr.heap.size wr).alloc (Nat.le_refl _) (.cells #[] 111)
      have HE : Hid (InsAt (wr.alloc (.cells #[] 111)) eb (.slice (some ⟨eb, 0, none⟩) 0 0) []) := Lib.hid (by subst heb; exact World.ownsRow_lit (base := wr.heap.size) (e := 111) (size := 2) wr #[] 0 (Nat.le_refl _) (by simp) (by simp))
      have HNe := Lib.hid (HN.out.past (B0))
      have HXe := Lib.hid (HX.out.past (B0))
      have HZe := Lib.hid (HZ.out.past (B0))
      have HWKe := Lib.hid (own_past HWK.out (B0))
      have HRFe := Lib.hid (HRF.out.past (B0))
      have HSe := Lib.hid (HS.out.past (B0))
      have HWe := Lib.hid (HW.out.trans ((B0).mono HW.out.size))
      have HSZe : Hid ((wr.alloc (.cells #[] 111)).heap.size = eb + 1) := Lib.hid (by simp [heb])
      have HEB := Lib.hid heb
      have HB0 := Lib.hid B0
      clear B0
      have hebx : xb + 2 < eb := by have := HN.out.lt; omega
      obtain ⟨we, hwwe⟩ : ∃ Z, wr.alloc (.cells #[] 111) = Z := ⟨_, rfl⟩
      rw [hwwe] at HE HNe HXe HZe HWKe HRFe HSe HWe HSZe HB0
      go_wp2_with (first | (at_builtin; refine stopHere ?_))
      intro _
      try rw [hwwe]
      clear hwwe heb
      refine wpList_copyB rfl _ _ rfl eb eb rfl HE.out bs _ rfl HSe.out.src (by have := HB20.out; omega) (by have := HSZe.out; omega) ?_
      intro v3 w3 hown hgrow
      obtain ⟨p3, c3, rfl⟩ := own_shape2 hown
      have HN3 := Lib.hid (HNe.out.kept hgrow (by intro e; have := Option.some.inj e; omega))
      have HZ3 := Lib.hid (HZe.out.kept hgrow (by intro e; have := Option.some.inj e; omega))
      have HW3 := Lib.hid (HWe.out.grown hgrow HWe.out.size (by intro j hj; cases hj; omega))
      have HB3x : Hid (Below wr.heap.size wr w3) := Lib.hid (HB0.out.grown hgrow HB0.out.size (by intro j hj; cases hj; exact Nat.le_of_eq HEB.out))
      have HRF3 := Lib.hid (HRF.out.past HB3x.out)
      have HWK3 := Lib.hid (own_past HWK.out HB3x.out)
      have HI3 := Lib.hid (own_low hown (show base ≤ eb by have := HW.out.size; omega))
      have m4 := HN3.out.cell (i := 4) (v := .slice pb L.length cb) rfl
      have p4 := HN3.out.fr (i := 4)
      have HN4 : Hid (Blk (w3.setCell ⟨xb + 2, 4, none⟩ (.slice p3 bs.length c3)) (xb + 2) #[.bool false, .slice ps sp.length cs, .int .i64 room, .slice (some ⟨gk, 0, none⟩) l.length ck, .slice p3 bs.length c3] 56) := Lib.hid (by simpa using HN3.out.set 4 (by simp) (.slice p3 bs.length c3) rfl)
      have HZ4 := Lib.hid (HZ3.out.far (b' := xb + 2) (i := 4) (u := .slice p3 bs.length c3) (by omega))
      have HW4 := Lib.hid (HW3.out.setCell (p := ⟨xb + 2, 4, none⟩) (by dsimp only; omega) (.slice p3 bs.length c3))
      have HRF4 : Hid (RefAt (w3.setCell ⟨xb + 2, 4, none⟩ (.slice p3 bs.length c3)) base sp li bs ps cs gk ck p3 c3) := Lib.hid ⟨own_far HRF3.out.sp (own_ne HRF3.out.sp ⟨_, HN3.out⟩ (by decide)), by rw [HLEN.out]; exact own_far HWK3.out (own_ne HWK3.out ⟨_, HN3.out⟩ (by decide)), own_far HI3.out (own_ne HI3.out ⟨_, HN3.out⟩ (by decide))⟩
      clear hown hgrow
      go_upto_region 28 with fail
      obtain ⟨wf, hwwf⟩ : ∃ Z, w3.setCell ⟨xb + 2, 4, none⟩ (.slice p3 bs.length c3) = Z := ⟨_, rfl⟩
      rw [hwwf] at HN4 HZ4 HW4 HRF4
      try rw [hwwf]
      clear hwwf
      clear m4 p4
      have e0z := HN4.out.cell (i := 0) (v := (.bool false)) rfl
      have e1z := HN4.out.cell (i := 1) (v := (.slice ps sp.length cs)) rfl
      have e2z := HN4.out.cell (i := 2) (v := (.int .i64 room)) rfl
      have e3z := HN4.out.cell (i := 3) (v := (.slice (some ⟨gk, 0, none⟩) l.length ck)) rfl
      have e4z := HN4.out.cell (i := 4) (v := (.slice p3 bs.length c3)) rfl
      have z0z := HZ4.out.cell (i := 0) (v := (.bool false)) rfl
      have y0z := HZ4.out.fr (i := 0)
      have z1z := HZ4.out.cell (i := 1) (v := (.slice none 0 0)) rfl
      have y1z := HZ4.out.fr (i := 1)
      have z2z := HZ4.out.cell (i := 2) (v := (.int .i64 0)) rfl
      have y2z := HZ4.out.fr (i := 2)
      have z3z := HZ4.out.cell (i := 3) (v := (.slice none 0 0)) rfl
      have y3z := HZ4.out.fr (i := 3)
      have z4z := HZ4.out.cell (i := 4) (v := (.slice none 0 0)) rfl
      have y4z := HZ4.out.fr (i := 4)
      have HZ8 := Lib.hid (blk_set5 HZ4.out (.bool false) (.slice ps sp.length cs) (.int .i64 room) (.slice (some ⟨gk, 0, none⟩) l.length ck) (.slice p3 bs.length c3) rfl rfl rfl rfl rfl)
      have HB8 := Lib.hid (below_set5 (b := xb + 1) HW4.out (by omega) (.bool false) (.slice ps sp.length cs) (.int .i64 room) (.slice (some ⟨gk, 0, none⟩) l.length ck) (.slice p3 bs.length c3))
      have HR8 := Lib.hid (HRF4.out.set5 HZ4.out (.bool false) (.slice ps sp.length cs) (.int .i64 room) (.slice (some ⟨gk, 0, none⟩) l.length ck) (.slice p3 bs.length c3))
      go_wp2
      obtain ⟨w8, hw8⟩ : ∃ Z, ((((wf.setCell ⟨xb + 1, 0, none⟩ (.bool false)).setCell ⟨xb + 1, 1, none⟩ (.slice ps sp.length cs)).setCell ⟨xb + 1, 2, none⟩ (.int .i64 room)).setCell ⟨xb + 1, 3, none⟩ (.slice (some ⟨gk, 0, none⟩) l.length ck)).setCell ⟨xb + 1, 4, none⟩ (.slice p3 bs.length c3) = Z := ⟨_, rfl⟩
      rw [hw8] at HZ8 HB8 HR8
      try rw [hw8]
      have g0 := HZ8.out.cell (i := 0) (v := (.bool false)) rfl
      have g1 := HZ8.out.cell (i := 1) (v := (.slice ps sp.length cs)) rfl
      have g2 := HZ8.out.cell (i := 2) (v := (.int .i64 room)) rfl
      have g3 := HZ8.out.cell (i := 3) (v := (.slice (some ⟨gk, 0, none⟩) l.length ck)) rfl
      have g4 := HZ8.out.cell (i := 4) (v := (.slice p3 bs.length c3)) rfl
      refine bodyPost_ret (v := .tuple #[.agg #[.bool false, .slice ps sp.length cs, .int .i64 room, .slice (some ⟨gk, 0, none⟩) l.length ck, .slice p3 bs.length c3], .int .i64 0]) (by simp [results, Try.results63, go_sem, g0, g1, g2, g3, g4]) rfl ⟨HB8.out, gk, ck, p3, c3, by rw [HV.out]; simp [HLEN.out], by rw [HV.out]; exact HR8.out⟩
end Go.Proofs.Ytopnlcjbklmicaa
