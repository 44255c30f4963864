import Derived.Test.YtopnlcjbklmicaaK31
import Derived.WalkKit
import Derived.WalkSpells
import Derived.WalkLawsBesides
import Derived.Deep.QuietTactic
import Derived.BigQuiet
import Derived.Lib.Hide
import Derived.WalkSmall
import Derived.Maps.OwnSet
import Derived.Maps.RangeWalk
import Derived.Deep.RegionWith
import Derived.Deep.RegionHeld3
import Derived.Deep.DrawnRows
import Derived.Deep.DeepCutAuto
import Derived.OneCell
import Derived.KernelRfl
import Derived.Laws.StructEq
import Derived.StillTailTactics
import Derived.Laws.Externs
import Derived.RangeFuncBox
import Derived.Outline
import Derived.RangeFuncNested
import Derived.RangeFuncBound
import Derived.RangeFuncCalls
import Derived.RangeFuncLeaves
import Derived.Shelf.RegionOpen
import Derived.OwnWalkIn
import Derived.TacticsInMore
import Derived.LoopNIn
import Derived.LoopIn
import Derived.Test.YtopnlcjbklmicaaProg
namespace Go.Proofs.Ytopnlcjbklmicaa
open Go.RowKit Go.Maps Go.Shelf
set_option linter.unusedVariables false
set_option linter.unusedSimpArgs false
theorem undStores : Try.prog.underlying 129 = some (.slice 133) := by kernel_rfl
theorem infoStore : (Try.prog.info? 133).map (fun i => (i.zero, i.size, i.bytes)) = some (some (.agg #[.int .i64 0, .int .i64 0, .int .i64 0, .int .i64 0, .int .i64 0, .int .i64 0, .int .i64 0, .int .i64 0]), 8, 64) := by kernel_rfl
theorem cell_eight_new (W : World) (b : Nat) (hb : W.heap.size = b) (s : St) (T : TypeId) : ∀ j u, s.vals[j]? = some u → (W.alloc (.cells s.vals.toArray T)).cell? ((⟨b, 0, none⟩ : Addr).add j) = some u := by
  intro j u hj
  have h := (Blk.newI W b s.vals.toArray T hb).cell (i := j) (v := u) (by simpa using hj)
  by_cases h0 : j = 0
  · subst h0
    simpa [Addr.add] using h
  · simpa [Addr.add, h0] using h
def mkSt (n : Int) : St := ⟨0, 0, 0, 0, 0, 0, 0, n⟩
theorem flatS_snoc (l : List St) (s : St) : flatS (l ++ [s]) = flatS l ++ s.vals := by simp [flatS]
/-- Whether a book can be made. -/
def newF (space : List Int) (room : Int) : Bool := inB (space.length : Int) 1 20 && space.all (fun n => inB n 1 1000) && inB room 0 1000000000
def NewTo (w : World) (space : List Int) (room : Int) (e : Ending) (w' : World) : Prop :=
  Below w.heap.size w w' ∧ ((newF space room = false ∧ e = .returned (.tuple #[.pointer none, .int .i64 2])) ∨
    (newF space room = true ∧ ∃ bb, w.heap.size ≤ bb ∧ e = .returned (.tuple #[.pointer (some ⟨bb, 0, none⟩), .int .i64 0]) ∧ BookAt w' bb w.heap.size (space.map mkSt) room (.slice none 0 0)))
set_option maxHeartbeats 2000000 in
theorem new_any (v : Value) (space : List Int) (room : Int) (w : World) (hs : IntsAt w v space) : Calls Try.prog 25 #[v, .int .i64 room] w (NewTo w space room) := by
  obtain ⟨a, cap, rfl, hl, hp⟩ := hs.placed
  have HA1 := Lib.hid (areWithin_any 1 20 _ [(space.length : Int)] _ (ints_one1 w space.length))
  have B1 := (Below.refl _ w).alloc (Nat.le_refl _) (.cells #[.int .i64 (space.length : Int)] 3)
  have HA2 := Lib.hid (areWithin_any 1 1000 _ space _ (hs.below B1))
  have B2 := B1.alloc (by simp) (.cells #[.int .i64 room] 3)
  have hA3 := (areWithin_any 0 1000000000 _ [room] _ (ints_one1 (w.alloc (.cells #[.int .i64 (space.length : Int)] 3)) room))
  rw [show (w.alloc (.cells #[.int .i64 (space.length : Int)] 3)).heap.size = w.heap.size + 1 by simp] at hA3
  have HA3 := Lib.hid hA3
  clear hA3
  have e1 : ([(space.length : Int)].all fun n => inB n 1 20) = inB (space.length : Int) 1 20 := by simp
  have e3 : ([room].all fun n => inB n 0 1000000000) = inB room 0 1000000000 := by simp
  rw [e1] at HA1
  rw [e3] at HA3
  obtain ⟨f1, hf1⟩ : ∃ f, inB (space.length : Int) 1 20 = f := ⟨_, rfl⟩
  obtain ⟨f2, hf2⟩ : ∃ f, space.all (fun n => inB n 1 1000) = f := ⟨_, rfl⟩
  obtain ⟨f3, hf3⟩ : ∃ f, inB room 0 1000000000 = f := ⟨_, rfl⟩
  have HN : Hid (newF space room = (f1 && f2 && f3)) := Lib.hid (by rw [← hf1, ← hf2, ← hf3]; rfl)
  rw [hf1] at HA1
  rw [hf2] at HA2
  rw [hf3] at HA3
  have HF1 := Lib.hid hf1
  have HB1 := Lib.hid B1
  have HB2 := Lib.hid B2
  have HS := Lib.hid hs
  have HP := Lib.hid hp
  have HL := Lib.hid hl
  clear e1 e3 hf1 hf2 hf3 B1 B2 hs hp hl
  go_enter Try.func25, Try.ntmps25
  go_wp2_with fail
  refine HA1.out.mono ?_
  rintro x w2 ⟨rfl, rfl⟩
  cases f1
  · have HV : Hid (newF space room = false) := Lib.hid (by rw [HN.out]; rfl)
    go_wp2
    exact bodyPost_ret (v := .tuple #[.pointer none, .int .i64 2]) (by simp [results, Try.results25, go_sem]) rfl ⟨HB1.out, .inl ⟨HV.out, rfl⟩⟩
  go_wp2_with fail
  refine HA2.out.mono ?_
  rintro x w2 ⟨rfl, rfl⟩
  cases f2
  · have HV : Hid (newF space room = false) := Lib.hid (by rw [HN.out]; rfl)
    go_wp2
    exact bodyPost_ret (v := .tuple #[.pointer none, .int .i64 2]) (by simp [results, Try.results25, go_sem]) rfl ⟨HB1.out, .inl ⟨HV.out, rfl⟩⟩
  go_wp2_with fail
  refine HA3.out.mono ?_
  rintro x w2 ⟨rfl, rfl⟩
  cases f3
  · have HV : Hid (newF space room = false) := Lib.hid (by rw [HN.out]; rfl)
    go_wp2
    exact bodyPost_ret (v := .tuple #[.pointer none, .int .i64 2]) (by simp [results, Try.results25, go_sem]) rfl ⟨HB2.out, .inl ⟨HV.out, rfl⟩⟩
  have HV : Hid (newF space room = true) := Lib.hid (by rw [HN.out]; rfl)
  have hlen : (space.length : Int) ≤ 20 := (inB_parts HF1.out).2
  obtain ⟨w2, hw2⟩ : ∃ w2, (w.alloc (.cells #[.int .i64 (space.length : Int)] 3)).alloc (.cells #[.int .i64 room] 3) = w2 := ⟨_, rfl⟩
  rw [hw2] at HB2 ⊢
  obtain ⟨bb, hbb⟩ : ∃ bb, w2.heap.size = bb := ⟨_, rfl⟩
  have HB3 := Lib.hid (HB2.out.alloc HB2.out.size (.cells #[.slice none 0 0, .int .i64 room, .slice none 0 0] 131))
  have HK3 := Lib.hid (Blk.newI w2 bb #[.slice none 0 0, .int .i64 room, .slice none 0 0] 131 hbb)
  have hbw : w.heap.size ≤ bb := by have := HB2.out.size; omega
  clear hw2 HA1 HA2 HA3 HB1 HB2 HN HF1
  obtain ⟨i0, hi, hz0, hz1, hz2⟩ := info_parts infoStore
  go_wp2_with fail
  obtain ⟨w3, hw3⟩ : ∃ w3, w2.alloc (.cells #[.slice none 0 0, .int .i64 room, .slice none 0 0] 131) = w3 := ⟨_, rfl⟩
  rw [hw3] at HB3 HK3
  try rw [hw3]
  clear hw3
  go_loopw [8, 30] (fun _ i wr => ∃ k : Nat, k ≤ space.length ∧ i = .int .i64 k ∧ Hid (BookAt wr bb w.heap.size ((space.take k).map mkSt) room (.slice none 0 0)) ∧ Hid (Below w.heap.size w wr)) (fun _ i _ => space.length - (intOf i).toNat)
  case atStart => exact ⟨0, Nat.zero_le _, rfl, Lib.hid ⟨_, HK3.out, World.ownsRow_nil _ _ _ _⟩, HB3⟩
  case round =>
    obtain ⟨k, hk, rfl, HA, HB⟩ := hrel
    by_cases hlt : k < space.length
    · obtain ⟨b, off, rfl, hb, hc⟩ := HP.out k hlt
      have hc2 := (HB.out.cell (p := ⟨b, _, none⟩) hb).trans hc
      obtain ⟨x, hx⟩ : ∃ x, space[k]?.getD 0 = x := ⟨_, rfl⟩
      rw [hx] at hc2
      have hsn : (space.take (k + 1)).map mkSt = (space.take k).map mkSt ++ [mkSt x] := by
        rw [List.take_succ_eq_append_getElem hlt, List.map_append, List.map_cons, List.map_nil, ← hx]
        simp [hlt]
      obtain ⟨sv, h1, h2⟩ := HA.out
      have hle : ((space.take k).map mkSt).length = k := by rw [List.length_map, List.length_take]; omega
      rw [hle] at h2
      obtain ⟨p, c, rfl⟩ := own_shape8 h2
      have c0 := h1.cell (i := 0) (v := .slice p k c) rfl
      have HSN := Lib.hid hsn
      have H1 := Lib.hid h1
      have H2 := Lib.hid h2
      clear hsn h1 h2 hle hc hx
      go_wp2_with (first | (at_builtin; refine stopHere ?_))
      intro _
      refine wpList_append_own _ rfl _ _ 129 rfl w.heap.size 133 i0 (.agg #[.int .i64 0, .int .i64 0, .int .i64 0, .int .i64 0, .int .i64 0, .int .i64 0, .int .i64 0, .int .i64 0]) 8 64 undStores hi hz0 hz1 hz2 rfl (by decide) (.slice p k c) k (flatS ((space.take k).map mkSt)) rfl (H2.out.alloc _) ⟨wr.heap.size, 0, none⟩ 1 1 (mkSt x).vals rfl rfl (cell_eight_new wr _ rfl (mkSt x) _) (by simp [Value.oneCell', St.vals, mkSt]) (by unfold maxLen; omega) (by omega) (by have := HB.out.size; simp; omega) ?_
      intro v' w4 hown hgrow _
      obtain ⟨q3, cap3, rfl⟩ := ownsRow_succ hown
      have H1a := H1.out.alloc (.cells (mkSt x).vals.toArray 133)
      have H2a := H2.out.alloc (.cells (mkSt x).vals.toArray 133)
      have hne : some bb ≠ (Value.slice p k c).ownBlock := fun e => by
        rcases H2a.2 with ⟨h, _⟩ | ⟨g, cp, cur, h, _, hg, _⟩
        · rw [h] at e; cases e
        · rw [h] at e
          obtain rfl : bb = g := by simpa [Value.ownBlock] using e
          rw [show (wr.alloc (.cells (mkSt x).vals.toArray 133)).heap[bb]? = _ from H1a] at hg
          injection hg with hg
          injection hg with _ hg
          exact absurd hg (by decide)
      have H14 := H1a.kept hgrow hne
      obtain ⟨q1, q2, cur, q3e⟩ := own_block_ty hown
      have hq3 : bb ≠ q3 := fun e => by
        subst e
        rw [show w4.heap[bb]? = _ from H14] at q3e
        injection q3e with hg
        injection hg with _ hg
        exact absurd hg (by decide)
      have H15 := H14.set 0 (by simp) (.slice (some ⟨q3, 0, none⟩) (k + 1) cap3) rfl
      have hown5 := hown.kept (grownBy_setCell w4 ⟨bb, 0, none⟩ (.slice (some ⟨q3, 0, none⟩) (k + 1) cap3)) (.inr (by simp [Value.ownBlock]; exact Ne.symm hq3))
      have HB5 := Lib.hid (((HB.out.alloc HB.out.size (.cells (mkSt x).vals.toArray 133)).grown hgrow (by have := HB.out.size; simp; omega) (fun j hj => (H2.out.lt j hj).1)).setCell (p := ⟨bb, 0, none⟩) hbw (.slice (some ⟨q3, 0, none⟩) (k + 1) cap3))
      have HA5 : Hid (BookAt (w4.setCell ⟨bb, 0, none⟩ (.slice (some ⟨q3, 0, none⟩) (k + 1) cap3)) bb w.heap.size ((space.take (k + 1)).map mkSt) room (.slice none 0 0)) := Lib.hid ⟨_, H15, by rw [HSN.out, flatS_snoc, List.length_append, List.length_map, List.length_take, Nat.min_eq_left hk]; exact hown5⟩
      have c4 := H14.cell (i := 0) (v := .slice p k c) rfl
      have f4 := H14.fr (i := 0)
      clear H1a H2a hne H14 q1 q2 q3e hq3 H15 hown5 hown hgrow c0 hc2 HSN
      go_wp2
      go_roundw
      case rel => exact ⟨k + 1, by omega, by go_num, HA5, HB5⟩
      case measure => simp [intOf]; omega
    · have hke : k = space.length := by omega
      have HA2 : Hid (BookAt wr bb w.heap.size (space.map mkSt) room (.slice none 0 0)) := Lib.hid (by have := HA.out; rwa [hke, List.take_length] at this)
      clear HA hke
      go_wp2
      exact bodyPost_ret (v := .tuple #[.pointer (some ⟨bb, 0, none⟩), .int .i64 0]) (by simp [results, Try.results25, go_sem]) rfl ⟨HB.out, .inr ⟨HV.out, bb, hbw, rfl, HA2.out⟩⟩
end Go.Proofs.Ytopnlcjbklmicaa
