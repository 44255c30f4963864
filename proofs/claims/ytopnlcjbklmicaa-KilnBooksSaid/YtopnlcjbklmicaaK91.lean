import Derived.Test.YtopnlcjbklmicaaK90
import Derived.WalkKit
import Derived.WalkSpells
import Derived.WalkLawsBesides
import Derived.Deep.QuietTactic
import Derived.BigQuiet
import Derived.Lib.Hide
import Derived.WalkSmall
import Derived.Maps.OwnSet
import Derived.Maps.RangeWalk
import Derived.Deep.RegionWith
import Derived.Deep.RegionHeld3
import Derived.Deep.DrawnRows
import Derived.Deep.DeepCutAuto
import Derived.OneCell
import Derived.KernelRfl
import Derived.Laws.StructEq
import Derived.StillTailTactics
import Derived.Laws.Externs
import Derived.RangeFuncBox
import Derived.Outline
import Derived.RangeFuncNested
import Derived.RangeFuncBound
import Derived.RangeFuncCalls
import Derived.RangeFuncLeaves
import Derived.Shelf.RegionOpen
import Derived.OwnWalkIn
import Derived.TacticsInMore
import Derived.LoopNIn
import Derived.LoopIn
import Derived.Test.YtopnlcjbklmicaaProg
namespace Go.Proofs.Ytopnlcjbklmicaa
open Go.RowKit Go.Maps Go.Shelf
set_option linter.unusedVariables false
set_option linter.unusedSimpArgs false
theorem chF_ok {r : Int × St} {s' : St} (h : chF r = (s', 0)) : r.1 = 0 ∧ s' = r.2 ∧ 0 ≤ r.2.wet ∧ 0 ≤ r.2.dry ∧ 0 ≤ r.2.fired ∧ 0 ≤ r.2.laid ∧ 0 ≤ r.2.miss := by
  unfold chF at h
  split at h
  · next h1 => simp only [Prod.mk.injEq] at h; exact absurd h.2 h1
  · next h1 =>
    split at h
    · simp at h
    · next h2 =>
      simp only [Prod.mk.injEq] at h
      exact ⟨by omega, h.1.symm, by omega, by omega, by omega, by omega, by omega⟩
/-- The counts of a store are in order: in all no more than 10^9, and no more missing than broken. -/
def St.Good (s : St) : Prop := s.Ok ∧ s.all ≤ 1000000000 ∧ s.miss ≤ s.brk
/-- What a change of n bricks does: dm are moulded, dl laid. -/
def Does (g : St → Int × St) (dm dl : Int) : Prop :=
  ∀ s s', s.Good → chF (g s) = (s', 0) → s'.Good ∧ s'.all = s.all + dm ∧ s'.laid = s.laid + dl ∧ s.brk ≤ s'.brk ∧ s'.burn = s.burn ∧ s'.space = s.space
theorem mould_does {n : Int} (hn : 0 ≤ n) : Does (mouldF n) n 0 := by
  intro s s' hg h
  obtain ⟨a, b, c, d, e, f, g, sp⟩ := s
  obtain ⟨h0, rfl, h1, h2, h3, h4, h5⟩ := chF_ok h
  unfold mouldF at h0 h1 h2 h3 h4 h5 ⊢
  split at h0
  · simp at h0
  · next h9 =>
    rw [if_neg h9] at h1 h2 h3 h4 h5 ⊢
    simp only [St.Good, St.Ok, St.all, and_true, true_and] at *
    omega
theorem dry_does {n k : Int} (hn : 0 ≤ n) : Does (dryF n k) 0 0 := by
  intro s s' hg h
  obtain ⟨a, b, c, d, e, f, g, sp⟩ := s
  obtain ⟨h0, rfl, h1, h2, h3, h4, h5⟩ := chF_ok h
  unfold dryF at h0 h1 h2 h3 h4 h5 ⊢
  split at h0
  · next h9 =>
    rw [if_pos h9] at h1 h2 h3 h4 h5 ⊢
    have := inB_parts h9
    simp only [St.Good, St.Ok, St.all, and_true, true_and] at *
    omega
  · simp at h0
theorem lay_does {n : Int} (hn : 0 ≤ n) : Does (layF n) 0 n := by
  intro s s' hg h
  obtain ⟨a, b, c, d, e, f, g, sp⟩ := s
  obtain ⟨h0, rfl, h1, h2, h3, h4, h5⟩ := chF_ok h
  simp only [layF, St.Good, St.Ok, St.all, and_true, true_and] at *
  omega
theorem break_does {n : Int} (hn : 0 ≤ n) : Does (breakF n) 0 (-n) := by
  intro s s' hg h
  obtain ⟨a, b, c, d, e, f, g, sp⟩ := s
  obtain ⟨h0, rfl, h1, h2, h3, h4, h5⟩ := chF_ok h
  simp only [breakF, St.Good, St.Ok, St.all, and_true, true_and] at *
  omega
theorem replace_does {n : Int} (hn : 0 ≤ n) : Does (replaceF n) 0 n := by
  intro s s' hg h
  obtain ⟨a, b, c, d, e, f, g, sp⟩ := s
  obtain ⟨h0, rfl, h1, h2, h3, h4, h5⟩ := chF_ok h
  simp only [replaceF, St.Good, St.Ok, St.all, and_true, true_and] at *
  omega
/-- Bricks are put into the kiln. -/
def burnF (n : Int) (s : St) : Int × St := (0, { s with dry := s.dry - n, burn := s.burn + n })
theorem burn_good {n : Int} {s s' : St} (hn : 1 ≤ n) (hg : s.Good) (h : chF (burnF n s) = (s', 0)) : s'.Good ∧ s' = { s with dry := s.dry - n, burn := s.burn + n } := by
  obtain ⟨a, b, c, d, e, f, g, sp⟩ := s
  obtain ⟨h0, rfl, h1, h2, h3, h4, h5⟩ := chF_ok h
  simp only [burnF, St.Good, St.Ok, St.all, and_true, true_and] at *
  omega
abbrev BatL := List (Int × Int)
/-- The stores with batches put into the kiln: the error, the stores, and the space that is taken. -/
def fillF : BatL → List Int → List St → Int → Int × List St × Int
  | [], _, l, sp => (0, l, sp)
  | p :: bs, seen, l, sp =>
    if inB p.1 0 ((l.length : Int) - 1) = false then (7, [], 0)
    else if p.1 ∈ seen then (6, [], 0)
    else if inB p.2 1 1000000000 = false then (2, [], 0)
    else if (chF (burnF p.2 (l[p.1.toNat]?.getD St.zero))).2 ≠ 0 then ((chF (burnF p.2 (l[p.1.toNat]?.getD St.zero))).2, [], 0)
    else fillF bs (p.1 :: seen) (l.set p.1.toNat (chF (burnF p.2 (l[p.1.toNat]?.getD St.zero))).1) (sp + p.2 * (chF (burnF p.2 (l[p.1.toNat]?.getD St.zero))).1.space)
/-- What Fire does with stores and with what is inside. -/
def fireF (room : Int) (l : List St) (L bs : BatL) : Int × List St × BatL :=
  if L ≠ [] then (9, l, L) else if bs = [] then (2, l, L) else if 20 < bs.length then (5, l, L)
  else if (fillF bs [] l 0).1 ≠ 0 then ((fillF bs [] l 0).1, l, L) else if (fillF bs [] l 0).2.2 > room then (8, l, L) else (0, (fillF bs [] l 0).2.1, bs)
/-- A batch is drawn, of which some are broken. -/
def drawS (n b : Int) (s : St) : St := { s with burn := s.burn - n, fired := s.fired + (n - b), brk := s.brk + b }
def drawn : List ((Int × Int) × Int) → List St → List St
  | [], l => l
  | x :: xs, l => drawn xs (l.set x.1.1.toNat (drawS x.1.2 x.2 (l[x.1.1.toNat]?.getD St.zero)))
def drawF (l : List St) (L : BatL) (br : List Int) : Int × List St × BatL :=
  if L = [] then (9, l, L) else if br.length ≠ L.length then (4, l, L) else if (L.zip br).all (fun x => inB x.2 0 x.1.2) = false then (2, l, L) else (0, drawn (L.zip br) l, [])
/-- A book is in order: its stores are, and what burns is what is inside. -/
structure BInv (l : List St) (L : BatL) : Prop where
  good : ∀ i, i < l.length → (l[i]?.getD St.zero).Good
  room : ∀ i, i < l.length → 1 ≤ (l[i]?.getD St.zero).space ∧ (l[i]?.getD St.zero).space ≤ 1000
  twice : (L.map Prod.fst).Nodup
  kind : ∀ p ∈ L, inB p.1 0 ((l.length : Int) - 1) = true
  many : ∀ p ∈ L, 1 ≤ p.2 ∧ (l[p.1.toNat]?.getD St.zero).burn = p.2
  cold : ∀ i, i < l.length → (∀ p ∈ L, p.1 ≠ (i : Int)) → (l[i]?.getD St.zero).burn = 0
theorem BInv.ok {l : List St} {L : BatL} (h : BInv l L) : AllOk l := fun i hi => (h.good i hi).1
theorem set_at (l : List St) (k i : Nat) (s : St) (hk : k < l.length) : ((l.set k s)[i]?.getD St.zero) = if i = k then s else l[i]?.getD St.zero := by
  rw [List.getElem?_set]
  by_cases h : k = i
  · subst h; simp [hk]
  · rw [if_neg h, if_neg (Ne.symm h)]
theorem kind_nat {k : Int} {n : Nat} (h : inB k 0 ((n : Int) - 1) = true) : k.toNat < n ∧ (k.toNat : Int) = k := by
  have := inB_parts h
  omega
/-- A change of one store, that leaves what burns, keeps a book in order. -/
theorem BInv.set {l : List St} {L : BatL} {k : Nat} {s : St} (h : BInv l L) (hk : k < l.length) (hg : s.Good) (hb : s.burn = (l[k]?.getD St.zero).burn) (hs : s.space = (l[k]?.getD St.zero).space) : BInv (l.set k s) L := by
  have hl : (l.set k s).length = l.length := List.length_set
  refine ⟨fun i hi => ?_, fun i hi => ?_, h.twice, fun p hp => by rw [hl]; exact h.kind p hp, fun p hp => ?_, fun i hi hn => ?_⟩
  · rw [set_at l k i s hk]; split
    · exact hg
    · exact h.good i (by omega)
  · rw [set_at l k i s hk]; split
    · rw [hs]; exact h.room k hk
    · exact h.room i (by omega)
  · rw [set_at l k _ s hk]; split
    · next e => rw [hb, ← e]; exact h.many p hp
    · exact h.many p hp
  · rw [set_at l k i s hk]; split
    · next e => rw [hb]; exact h.cold k hk (by rw [← e]; exact hn)
    · exact h.cold i (by omega) hn
theorem chF_pair (r : Int × St) : chF r = ((chF r).1, (chF r).2) := rfl
/-- A call of a method with a kind: the book stays in order. -/
theorem BInv.co {l : List St} {L : BatL} {kind n : Int} {g : St → Int × St} {dm dl : Int} (h : BInv l L) (hd : inB n 0 1000000000 = true → Does g dm dl) : BInv (coF l kind n g).2 L := by
  unfold coF
  split
  · exact h
  · next h1 =>
    split
    · exact h
    · next h2 =>
      split
      · exact h
      · next h3 =>
        have hk := kind_nat (n := l.length) (by simpa using h1)
        have he : chF (g (l[kind.toNat]?.getD St.zero)) = ((chF (g (l[kind.toNat]?.getD St.zero))).1, 0) := by
          rw [← show (chF (g (l[kind.toNat]?.getD St.zero))).2 = 0 by omega]
        obtain ⟨g1, _, _, _, g5, g6⟩ := hd (by simpa using h2) _ _ (h.good _ hk.1) he
        exact h.set hk.1 g1 g5 g6
theorem coF_len (l : List St) (kind n : Int) (g : St → Int × St) : (coF l kind n g).2.length = l.length := by
  unfold coF
  split
  · rfl
  · split
    · rfl
    · split
      · rfl
      · simp
theorem BInv.fill {l : List St} {L : BatL} {p : Int × Int} {s : St} (h : BInv l L) (h1 : inB p.1 0 ((l.length : Int) - 1) = true) (h2 : p.1 ∉ L.map Prod.fst) (h3 : inB p.2 1 1000000000 = true) (hc : chF (burnF p.2 (l[p.1.toNat]?.getD St.zero)) = (s, 0)) :
    BInv (l.set p.1.toNat s) (L ++ [p]) := by
  obtain ⟨hk, hk2⟩ := kind_nat h1
  have hn := inB_parts h3
  obtain ⟨hg, hs⟩ := burn_good hn.1 (h.good _ hk) hc
  have hl : (l.set p.1.toNat s).length = l.length := List.length_set
  have hne : ∀ q ∈ L, q.1.toNat ≠ p.1.toNat := fun q hq e => h2 (by
    have h5 := kind_nat (n := l.length) (h.kind q hq)
    have : q.1 = p.1 := by omega
    rw [← this]; exact List.mem_map_of_mem hq)
  have h0 : (l[p.1.toNat]?.getD St.zero).burn = 0 := h.cold _ hk (fun q hq e => hne q hq (by omega))
  refine ⟨fun i hi => ?_, fun i hi => ?_, ?_, fun q hq => ?_, fun q hq => ?_, fun i hi hn2 => ?_⟩
  · rw [set_at l _ i s hk]; split
    · exact hg
    · exact h.good i (by omega)
  · rw [set_at l _ i s hk]; split
    · rw [hs]; exact h.room _ hk
    · exact h.room i (by omega)
  · rw [List.map_append, List.nodup_append]
    refine ⟨h.twice, by simp, fun a ha b hb e => ?_⟩
    simp at hb
    subst hb
    exact h2 (by rw [← e]; exact ha)
  · rw [hl]
    rcases List.mem_append.1 hq with hq | hq
    · exact h.kind q hq
    · simp at hq; subst hq; exact h1
  · rcases List.mem_append.1 hq with hq | hq
    · rw [set_at l _ _ s hk, if_neg (hne q hq)]
      exact h.many q hq
    · simp at hq
      subst hq
      rw [set_at l _ _ s hk, if_pos rfl, hs]
      exact ⟨hn.1, by simp [h0]⟩
  · rw [set_at l _ i s hk]; split
    · next e => exact absurd (hn2 p (by simp)) (by simp; omega)
    · exact h.cold i (by omega) (fun q hq => hn2 q (by simp [hq]))
theorem BInv.draw {l : List St} {L : BatL} {p : Int × Int} {b : Int} (h : BInv l (p :: L)) (hb : inB b 0 p.2 = true) : BInv (l.set p.1.toNat (drawS p.2 b (l[p.1.toNat]?.getD St.zero))) L := by
  obtain ⟨hk, hk2⟩ := kind_nat (n := l.length) (h.kind p (by simp))
  have hm := h.many p (by simp)
  have hb2 := inB_parts hb
  have hg := h.good _ hk
  have hr := h.room _ hk
  have htw := h.twice
  rw [List.map_cons, List.nodup_cons] at htw
  have hne : ∀ q ∈ L, q.1.toNat ≠ p.1.toNat := fun q hq e => htw.1 (by
    have h5 := kind_nat (n := l.length) (h.kind q (by simp [hq]))
    have : q.1 = p.1 := by omega
    rw [← this]; exact List.mem_map_of_mem hq)
  obtain ⟨s, hs⟩ : ∃ s, l[p.1.toNat]?.getD St.zero = s := ⟨_, rfl⟩
  rw [hs] at hm hg hr ⊢
  have hg2 : (drawS p.2 b s).Good := by
    obtain ⟨a, b, c, d, e, f, g, sp⟩ := s
    simp only [drawS, St.Good, St.Ok, St.all, and_true, true_and] at *
    omega
  have hl : (l.set p.1.toNat (drawS p.2 b s)).length = l.length := List.length_set
  refine ⟨fun i hi => ?_, fun i hi => ?_, htw.2, fun q hq => by rw [hl]; exact h.kind q (by simp [hq]), fun q hq => ?_, fun i hi hn2 => ?_⟩
  · rw [set_at l _ i _ hk]; split
    · exact hg2
    · exact h.good i (by omega)
  · rw [set_at l _ i _ hk]; split
    · exact hr
    · exact h.room i (by omega)
  · rw [set_at l _ _ _ hk, if_neg (hne q hq)]
    exact h.many q (by simp [hq])
  · rw [set_at l _ i _ hk]; split
    · simp only [drawS]; omega
    · next e =>
      refine h.cold i (by omega) (fun q hq => ?_)
      rcases List.mem_cons.1 hq with rfl | hq
      · omega
      · exact hn2 q hq
theorem coF_cases {l : List St} {L : BatL} {kind n : Int} {g : St → Int × St} {dm dl : Int} (h : BInv l L) (hd : inB n 0 1000000000 = true → Does g dm dl) :
    ((coF l kind n g).1 ≠ 0 ∧ (coF l kind n g).2 = l) ∨ ((coF l kind n g).1 = 0 ∧ inB kind 0 ((l.length : Int) - 1) = true ∧ inB n 0 1000000000 = true ∧ ∃ s', (coF l kind n g).2 = l.set kind.toNat s' ∧ s'.Good ∧ s'.all = (l[kind.toNat]?.getD St.zero).all + dm ∧ s'.laid = (l[kind.toNat]?.getD St.zero).laid + dl ∧ (l[kind.toNat]?.getD St.zero).brk ≤ s'.brk) := by
  unfold coF
  split
  · exact .inl ⟨by simp, rfl⟩
  · next h1 =>
    split
    · exact .inl ⟨by simp, rfl⟩
    · next h2 =>
      split
      · next h3 => exact .inl ⟨h3, rfl⟩
      · next h3 =>
        have hk := kind_nat (n := l.length) (by simpa using h1)
        have he : chF (g (l[kind.toNat]?.getD St.zero)) = ((chF (g (l[kind.toNat]?.getD St.zero))).1, 0) := by
          rw [← show (chF (g (l[kind.toNat]?.getD St.zero))).2 = 0 by omega]
        obtain ⟨g1, g2, g3, g4, g5, g6⟩ := hd (by simpa using h2) _ _ (h.good _ hk.1) he
        exact .inr ⟨rfl, by simpa using h1, by simpa using h2, _, rfl, g1, g2, g3, g4⟩
theorem fireF_one {room : Int} {l : List St} {L : BatL} {k n : Int} (h : BInv l L) :
    ((fireF room l L [(k, n)]).1 ≠ 0 ∧ (fireF room l L [(k, n)]).2 = (l, L)) ∨ ((fireF room l L [(k, n)]).1 = 0 ∧ L = [] ∧ inB k 0 ((l.length : Int) - 1) = true ∧ (fireF room l L [(k, n)]).2.2 = [(k, n)] ∧
      ∃ s', (fireF room l L [(k, n)]).2.1 = l.set k.toNat s' ∧ s'.all = (l[k.toNat]?.getD St.zero).all ∧ s'.laid = (l[k.toNat]?.getD St.zero).laid ∧ (l[k.toNat]?.getD St.zero).brk = s'.brk) := by
  unfold fireF
  by_cases hL : L = []
  · subst hL
    rw [if_neg (by simp), if_neg (by simp), if_neg (by simp)]
    by_cases h0 : (fillF [(k, n)] [] l 0).1 = 0
    · rw [if_neg (by simp [h0])]
      by_cases h1 : (fillF [(k, n)] [] l 0).2.2 > room
      · rw [if_pos h1]; exact .inl ⟨by simp, rfl⟩
      · rw [if_neg h1]
        refine .inr ⟨rfl, rfl, ?_⟩
        unfold fillF at h0 ⊢
        split at h0
        · simp at h0
        · next a1 =>
          rw [if_neg a1]
          split at h0
          · simp at h0
          · next a2 =>
            rw [if_neg a2]
            split at h0
            · simp at h0
            · next a3 =>
              rw [if_neg a3]
              split at h0
              · next a4 => exact absurd h0 a4
              · next a4 =>
                rw [if_neg a4]
                have he : chF (burnF n (l[k.toNat]?.getD St.zero)) = ((chF (burnF n (l[k.toNat]?.getD St.zero))).1, 0) := by
                  rw [← show (chF (burnF n (l[k.toNat]?.getD St.zero))).2 = 0 by simpa using a4]
                have hk := kind_nat (n := l.length) (by simpa using a1)
                obtain ⟨hg, hs⟩ := burn_good (inB_parts (by simpa using a3)).1 (h.good _ hk.1) he
                refine ⟨by simpa using a1, rfl, _, rfl, ?_, ?_, ?_⟩
                · rw [hs]; simp only [St.all]; omega
                · rw [hs]
                · rw [hs]
    · rw [if_pos h0]; exact .inl ⟨h0, rfl⟩
  · rw [if_pos hL]; exact .inl ⟨by simp, rfl⟩
theorem fill_inv : ∀ (bs : BatL) (L : BatL) (seen : List Int) (l : List St) (sp : Int), BInv l L → (∀ x, x ∈ seen ↔ x ∈ L.map Prod.fst) → (fillF bs seen l sp).1 = 0 → BInv (fillF bs seen l sp).2.1 (L ++ bs)
  | [], L, seen, l, sp, h, hs, h0 => by simpa [fillF] using h
  | p :: bs, L, seen, l, sp, h, hs, h0 => by
    unfold fillF at h0 ⊢
    split at h0
    · simp at h0
    · next a1 =>
      rw [if_neg a1]
      split at h0
      · simp at h0
      · next a2 =>
        rw [if_neg a2]
        split at h0
        · simp at h0
        · next a3 =>
          rw [if_neg a3]
          split at h0
          · next a4 => exact absurd h0 a4
          · next a4 =>
            rw [if_neg a4]
            have he : chF (burnF p.2 (l[p.1.toNat]?.getD St.zero)) = ((chF (burnF p.2 (l[p.1.toNat]?.getD St.zero))).1, 0) := by
              rw [← show (chF (burnF p.2 (l[p.1.toNat]?.getD St.zero))).2 = 0 by simpa using a4]
            have h5 := h.fill (by simpa using a1) (fun h6 => a2 ((hs _).2 h6)) (by simpa using a3) he
            have h6 := fill_inv bs (L ++ [p]) (p.1 :: seen) _ _ h5 (fun x => by simp [hs x]; exact Or.comm) h0
            simpa using h6
theorem fire_inv {room : Int} {l : List St} {L bs : BatL} (h : BInv l L) : BInv (fireF room l L bs).2.1 (fireF room l L bs).2.2 := by
  unfold fireF
  split
  · exact h
  · next h1 =>
    have hL : L = [] := by simpa using h1
    subst hL
    split
    · exact h
    · split
      · exact h
      · split
        · exact h
        · next h0 =>
          split
          · exact h
          · have := fill_inv bs [] [] l 0 h (fun x => by simp) (by simpa using h0)
            simpa using this
theorem drawn_len : ∀ (xs : List ((Int × Int) × Int)) (l : List St), (drawn xs l).length = l.length
  | [], l => rfl
  | x :: xs, l => by rw [drawn, drawn_len xs]; simp
theorem drawn_inv : ∀ (L : BatL) (br : List Int) (l : List St), br.length = L.length → (L.zip br).all (fun x => inB x.2 0 x.1.2) = true → BInv l L → BInv (drawn (L.zip br) l) []
  | [], br, l, hl, ha, h => by simpa [drawn] using h
  | p :: L, [], l, hl, ha, h => by simp at hl
  | p :: L, b :: br, l, hl, ha, h => by
    rw [List.zip_cons_cons, List.all_cons, Bool.and_eq_true] at ha
    rw [List.zip_cons_cons, drawn]
    exact drawn_inv L br _ (by simpa using hl) ha.2 (h.draw ha.1)
theorem draw_inv {l : List St} {L : BatL} {br : List Int} (h : BInv l L) : BInv (drawF l L br).2.1 (drawF l L br).2.2 := by
  unfold drawF
  split
  · exact h
  · split
    · exact h
    · next h1 =>
      split
      · exact h
      · next h2 => exact drawn_inv L br l (by simpa using h1) (by simpa using h2) h
theorem drawF_one {l : List St} {L : BatL} {b : Int} (h : BInv l L) :
    ((drawF l L [b]).1 ≠ 0 ∧ (drawF l L [b]).2 = (l, L)) ∨ ((drawF l L [b]).1 = 0 ∧ (drawF l L [b]).2.2 = [] ∧ ∃ k n, L = [(k, n)] ∧ inB k 0 ((l.length : Int) - 1) = true ∧ 0 ≤ b ∧ b ≤ n ∧
      ∃ s', (drawF l L [b]).2.1 = l.set k.toNat s' ∧ s'.all = (l[k.toNat]?.getD St.zero).all ∧ s'.laid = (l[k.toNat]?.getD St.zero).laid ∧ (l[k.toNat]?.getD St.zero).brk ≤ s'.brk) := by
  unfold drawF
  split
  · exact .inl ⟨by simp, rfl⟩
  · next h1 =>
    split
    · exact .inl ⟨by simp, rfl⟩
    · next h2 =>
      split
      · exact .inl ⟨by simp, rfl⟩
      · next h3 =>
        obtain ⟨p, rfl⟩ : ∃ p, L = [p] := List.length_eq_one_iff.1 (by simp at h2; omega)
        have hb := inB_parts (n := b) (a := 0) (b := p.2) (by simpa using h3)
        refine .inr ⟨rfl, rfl, p.1, p.2, rfl, h.kind p (by simp), hb.1, hb.2, _, rfl, ?_, ?_, ?_⟩
        · simp only [drawS, St.all]; omega
        · rfl
        · simp only [drawS]; omega
end Go.Proofs.Ytopnlcjbklmicaa
