import Derived.Test.YtopnlcjbklmicaaK9
import Derived.WalkKit
import Derived.WalkSpells
import Derived.WalkLawsBesides
import Derived.Deep.QuietTactic
import Derived.BigQuiet
import Derived.Lib.Hide
import Derived.WalkSmall
import Derived.Maps.OwnSet
import Derived.Maps.RangeWalk
import Derived.Deep.RegionWith
import Derived.Deep.RegionHeld3
import Derived.Deep.DrawnRows
import Derived.Deep.DeepCutAuto
import Derived.OneCell
import Derived.KernelRfl
import Derived.Laws.StructEq
import Derived.StillTailTactics
import Derived.Laws.Externs
import Derived.RangeFuncBox
import Derived.Outline
import Derived.RangeFuncNested
import Derived.RangeFuncBound
import Derived.RangeFuncCalls
import Derived.RangeFuncLeaves
import Derived.Shelf.RegionOpen
import Derived.OwnWalkIn
import Derived.TacticsInMore
import Derived.LoopNIn
import Derived.LoopIn
import Derived.Test.YtopnlcjbklmicaaProg
namespace Go.Proofs.Ytopnlcjbklmicaa
open Go.RowKit Go.Maps Go.Shelf
set_option linter.unusedVariables false
set_option linter.unusedSimpArgs false
/-- The tiers of a stack: of each its cells and its weights. -/
def TiersC (n₀ : Nat) (w : World) (b off : Nat) (l : List (List Int × List Int)) : Prop :=
  ∀ i, i < l.length → ∃ vc vw, w.cell? ⟨b, off + i * 2, none⟩ = some vc ∧ w.cell? ⟨b, off + i * 2 + 1, none⟩ = some vw ∧ (IntsAt w vc (l[i]?.getD ([], [])).1 ∧ ∀ k, vc.ownBlock = some k → k < n₀) ∧ (IntsAt w vw (l[i]?.getD ([], [])).2 ∧ ∀ k, vw.ownBlock = some k → k < n₀)
/-- A slice of tiers, all of whose memory lies below n₀. -/
def TiersAt (n₀ : Nat) (w : World) (v : Value) (l : List (List Int × List Int)) : Prop :=
  l.length ≤ 4398046511104 ∧ n₀ ≤ w.heap.size ∧ ((l = [] ∧ ∃ a cap, v = .slice a 0 cap) ∨ ∃ b off cap, v = .slice (some ⟨b, off, none⟩) l.length cap ∧ l.length ≤ cap ∧ b < n₀ ∧ TiersC n₀ w b off l)
def PlacedT (n₀ : Nat) (w : World) (a : Option Addr) (l : List (List Int × List Int)) : Prop :=
  ∀ i, i < l.length → ∃ b off, a = some ⟨b, off, none⟩ ∧ b < n₀ ∧ ∃ vc vw, w.cell? ⟨b, off + i * 2, none⟩ = some vc ∧ w.cell? ⟨b, off + i * 2 + 1, none⟩ = some vw ∧ (IntsAt w vc (l[i]?.getD ([], [])).1 ∧ ∀ k, vc.ownBlock = some k → k < n₀) ∧ (IntsAt w vw (l[i]?.getD ([], [])).2 ∧ ∀ k, vw.ownBlock = some k → k < n₀)
theorem TiersAt.placed {n₀ : Nat} {w : World} {v : Value} {l : List (List Int × List Int)} (h : TiersAt n₀ w v l) : ∃ a cap, v = .slice a l.length cap ∧ l.length ≤ 4398046511104 ∧ n₀ ≤ w.heap.size ∧ PlacedT n₀ w a l := by
  obtain ⟨hl, hn, ⟨rfl, a, cap, rfl⟩ | ⟨b, off, cap, rfl, hcap, hb, hc⟩⟩ := h
  · exact ⟨a, cap, rfl, by simp, hn, fun i hi => by simp at hi⟩
  · exact ⟨_, cap, rfl, hl, hn, fun i hi => ⟨b, off, rfl, hb, hc i hi⟩⟩
/-- What the iterators of a stack want kept: what lies below n₀, and the boxes of stacks, bricks and yields. -/
def KS (n₀ : Nat) (k : Nat) (o : Obj) : Prop := k < n₀ ∨ ∃ vs f, o = .cells vs 143 f ∨ o = .cells vs 74 f ∨ o = .cells vs 128 f
theorem KS.loop {n₀ k : Nat} (h : n₀ ≤ k) (r : Loop) : ¬ KS n₀ k (.loop r) := by
  rintro (h1 | ⟨vs, f, h1 | h1 | h1⟩)
  · omega
  all_goals cases h1
theorem KS.other {n₀ k : Nat} {vs : Array Value} {T : TypeId} {f : Nat × Nat} (h : n₀ ≤ k) (h1 : T ≠ 143) (h2 : T ≠ 74) (h3 : T ≠ 128) : ¬ KS n₀ k (.cells vs T f) := by
  rintro (h0 | ⟨vs, f, h0 | h0 | h0⟩)
  · omega
  all_goals cases h0; contradiction
theorem Kept.block {n₀ : Nat} {w w' : World} (h : Kept (KS n₀) w w') {k : Nat} (hk : k < n₀) (hl : k < w.heap.size) : w'.heap[k]? = w.heap[k]? := by
  rw [Array.getElem?_eq_getElem hl]
  exact h.same k _ (Array.getElem?_eq_getElem hl) (.inl hk)
theorem Kept.cell {n₀ : Nat} {w w' : World} (h : Kept (KS n₀) w w') {p : Addr} {v : Value} (hk : p.block < n₀) (hl : p.block < w.heap.size) (hc : w.cell? p = some v) : w'.cell? p = some v :=
  (World.cell?_of_block (h.block hk hl)).trans hc
theorem ownFrom_kept {β : Type} {n₀ B : Nat} {w : World} (hB : n₀ ≤ B) : OwnFrom B (fun (_ : β) W => Kept (KS n₀) w W) := fun s X Y row hs hg hr =>
  ⟨Nat.le_trans hs.size hg.size, fun k o hk ho => by
    have hX := hs.same k o hk ho
    refine (hg.block k (Array.getElem?_eq_some_iff.1 hX).1 (fun e => ?_)).trans hX
    obtain ⟨h1, o', h2, h3⟩ := hr k e.symm
    rw [hX] at h2
    cases h2
    rcases ho with h4 | ⟨vs, f, rfl | rfl | rfl⟩
    · omega
    all_goals cases h3⟩
theorem IntsAt.keptK {n₀ : Nat} {w w' : World} {v : Value} {l : List Int} (h : IntsAt w v l) (hk : ∀ k, v.ownBlock = some k → k < n₀) (hw : Kept (KS n₀) w w') : IntsAt w' v l := by
  obtain ⟨hl, h | ⟨b, off, cap, rfl, hcap, hb, hc⟩⟩ := h
  · exact ⟨hl, .inl h⟩
  · exact ⟨hl, .inr ⟨b, off, cap, rfl, hcap, Nat.lt_of_lt_of_le hb hw.size, fun i hi => hw.cell (p := ⟨b, off + i, none⟩) (hk b rfl) hb (hc i hi)⟩⟩
theorem TiersAt.keptK {n₀ : Nat} {w w' : World} {v : Value} {l : List (List Int × List Int)} (h : TiersAt n₀ w v l) (hw : Kept (KS n₀) w w') : TiersAt n₀ w' v l := by
  obtain ⟨hl, hn, h | ⟨b, off, cap, rfl, hcap, hb, hc⟩⟩ := h
  · exact ⟨hl, Nat.le_trans hn hw.size, .inl h⟩
  · refine ⟨hl, Nat.le_trans hn hw.size, .inr ⟨b, off, cap, rfl, hcap, hb, fun i hi => ?_⟩⟩
    obtain ⟨vc, vw, h1, h2, ⟨h3, h4⟩, ⟨h5, h6⟩⟩ := hc i hi
    have hbw : b < w.heap.size := Nat.lt_of_lt_of_le hb hn
    exact ⟨vc, vw, hw.cell (p := ⟨b, off + i * 2, none⟩) hb hbw h1, hw.cell (p := ⟨b, off + i * 2 + 1, none⟩) hb hbw h2, ⟨h3.keptK h4 hw, h4⟩, ⟨h5.keptK h6 hw, h6⟩⟩
theorem TiersAt.past {n₀ : Nat} {w w' : World} {v : Value} {l : List (List Int × List Int)} (h : TiersAt n₀ w v l) (hw : Below w.heap.size w w') : TiersAt n₀ w' v l := h.keptK (Kept.of_below hw)
theorem Blk.keptS {n₀ : Nat} {w w' : World} {b : Nat} {vs : Array Value} (h : Blk w b vs 143) (hw : Kept (KS n₀) w w') : Blk w' b vs 143 := hw.same b _ h (.inr ⟨vs, _, .inl rfl⟩)
theorem Blk.keptB {n₀ : Nat} {w w' : World} {b : Nat} {vs : Array Value} (h : Blk w b vs 74) (hw : Kept (KS n₀) w w') : Blk w' b vs 74 := hw.same b _ h (.inr ⟨vs, _, .inr (.inl rfl)⟩)
theorem Blk.keptY {n₀ : Nat} {w w' : World} {b : Nat} {vs : Array Value} (h : Blk w b vs 128) (hw : Kept (KS n₀) w w') : Blk w' b vs 128 := hw.same b _ h (.inr ⟨vs, _, .inr (.inr rfl)⟩)
/-- The cells of a brick. -/
def cellsL (cells : List Int) (br : Int) : List Nat := (List.range cells.length).filter fun i => decide (cells[i]?.getD 0 = br)
theorem filt_succ (p : Nat → Bool) (k : Nat) : (List.range (k + 1)).filter p = (List.range k).filter p ++ (if p k then [k] else []) := by
  rw [List.range_succ, List.filter_append]; cases h : p k <;> simp [h]
theorem filt_prefix (p : Nat → Bool) {k n : Nat} (h : k ≤ n) : (List.range k).filter p <+: (List.range n).filter p := by
  have : List.range k <+: List.range n := by
    have e : List.range k = (List.range n).take k := by rw [List.take_range, Nat.min_eq_left h]
    rw [e]; exact List.take_prefix _ _
  exact this.filter p
set_option maxRecDepth 100000 in
set_option maxHeartbeats 2000000 in
theorem cells_iter (n₀ bs bb : Nat) (W H tv : Value) (ti : Nat) (br : Int) (ts : List (List Int × List Int)) (w : World)
    (h1 : Blk w bs #[W, H, tv] 143) (h2 : Blk w bb #[.int .i64 ti, .int .i64 br] 74) (ht : TiersAt n₀ w tv ts) (hti : ti < ts.length) :
    Iter Try.prog 100 #[.pointer (some ⟨bs, 0, none⟩), .pointer (some ⟨bb, 0, none⟩)] (fun c : Nat => #[Value.int .i64 c]) (KS n₀) (cellsL (ts[ti]?.getD ([], [])).1 br) w := by
  intro l J Jx Wd hkw hJ hJx hY h0
  have g1 := h1.keptS hkw
  have g2 := h2.keptB hkw
  obtain ⟨a, cap, rfl, hl, hn, hp⟩ := (ht.keptK hkw).placed
  obtain ⟨b, off, rfl, hb, vc, vw, c1, c2, ⟨hi, hik⟩, _⟩ := hp ti hti
  obtain ⟨cells, hcs⟩ : ∃ cells, (ts[ti]?.getD ([], [])).1 = cells := ⟨_, rfl⟩
  rw [hcs] at hi hY
  rw [hcs]
  obtain ⟨p, hp0⟩ : ∃ p : Nat → Bool, (fun i => decide (cells[i]?.getD 0 = br)) = p := ⟨_, rfl⟩
  have hL : cellsL cells br = (List.range cells.length).filter p := by rw [← hp0]; rfl
  rw [hL] at hY ⊢
  obtain ⟨ac, capc, rfl, hlc, hpc⟩ := hi.placed
  have k0 := g1.cell (i := 2) (v := .slice (some ⟨b, off, none⟩) ts.length cap) rfl
  have k1 := g2.cell (i := 0) (v := .int .i64 ti) rfl
  have HG2 := Lib.hid g2
  have HY := Lib.hid hY
  have HPC := Lib.hid hpc
  have HIK := Lib.hid hik
  have HH0 := Lib.hid h0
  have HP0 : Hid (∀ i, p i = decide (cells[i]?.getD 0 = br)) := Lib.hid fun i => by rw [← hp0]
  clear hp hi hcs hY hL hp0 hpc hik ht h1 h2 g1 g2 h0
  refine callsIn_of_wp Try.func100 rfl trivial ?_ rfl
  simp only [Try.ntmps100, List.size_toArray, List.length_cons, List.length_nil, Nat.reduceAdd, Nat.reduceSub, Array.replicate_succ, Array.replicate_zero, List.push_toArray, List.append_toArray, List.nil_append, List.cons_append]
  gi_wp2
  gi_loopw [15] (fun i wr => ∃ k : Nat, k ≤ cells.length ∧ i = .int .i64 k ∧ Hid (J ((List.range k).filter p) wr) ∧ Hid (Kept (KS n₀) Wd wr)) (fun i _ => cells.length - (intOf i).toNat)
  case atStart => exact ⟨0, Nat.zero_le _, rfl, Lib.hid HH0.out, Lib.hid (Kept.refl _ _)⟩
  case round =>
    obtain ⟨k, hk, rfl, HJ, HKK⟩ := hrel
    by_cases hlt : k < cells.length
    · obtain ⟨b2, off2, rfl, hbb, c3⟩ := HPC.out k hlt
      have q0 := (HG2.out.keptB HKK.out).cell (i := 0) (v := .int .i64 ti) rfl
      have q1 := (HG2.out.keptB HKK.out).cell (i := 1) (v := .int .i64 br) rfl
      have c3 := HKK.out.cell (p := ⟨b2, off2 + k, none⟩) (HIK.out b2 rfl) hbb c3
      obtain ⟨x, hx⟩ : ∃ x, cells[k]?.getD 0 = x := ⟨_, rfl⟩
      have hpk := HP0.out k
      rw [hx] at c3 hpk
      clear hx
      by_cases hc : x = br
      · subst hc
        have hpk : p k = true := by rw [hpk]; simp
        have hsu := filt_succ p k
        rw [hpk, if_pos rfl] at hsu
        have HSU := Lib.hid hsu
        have hyy := HY.out _ k wr HJ.out (by rw [← hsu]; exact filt_prefix p (by omega))
        clear hsu hpk
        obtain ⟨fn, tmps, assign, body, hy, hR⟩ := hyy
        gi_wp2
        refine (roundIn_any hR).mono ?_
        rintro e W3 ⟨⟨rfl, hJ3, hk3⟩ | ⟨rfl, hJx3⟩, _⟩
        · have HJ3 := Lib.hid hJ3
          have HK3 := Lib.hid (HKK.out.trans hk3)
          clear hJ3 hk3
          gi_wp2
          go_roundw
          case rel => exact ⟨k + 1, by omega, by go_num, Lib.hid (by rw [HSU.out]; exact HJ3.out), HK3⟩
          case measure => simp [intOf]; omega
        · have HJ3 := Lib.hid hJx3
          clear hJx3
          gi_wp2
          refine bodyPost_ret (results_none rfl _ _ _) rfl ?_
          exact ⟨⟨_, rfl⟩, .inr ⟨_, by rw [← HSU.out]; exact filt_prefix p (by omega), HJ3.out⟩⟩
      · have hpk : p k = false := by rw [hpk]; simp [hc]
        have hsu := filt_succ p k
        rw [hpk] at hsu
        have HSU : Hid ((List.range (k + 1)).filter p = (List.range k).filter p) := Lib.hid (by simpa using hsu)
        clear hsu hpk
        gi_wp2
        refine ⟨fun _ h => (by cases h), ?_⟩
        have hxb : (x == br) = false := by simpa using hc
        gi_wp2
        go_roundw
        case rel => exact ⟨k + 1, by omega, by go_num, Lib.hid (by rw [HSU.out]; exact HJ.out), HKK⟩
        case measure => simp [intOf]; omega
    · have hke : k = cells.length := by omega
      subst hke
      gi_wp2
      go_end0
      exact ⟨⟨_, rfl⟩, .inl HJ.out⟩
end Go.Proofs.Ytopnlcjbklmicaa
