import Derived.Test.YtopnlcjbklmicaaK19
import Derived.WalkKit
import Derived.WalkSpells
import Derived.WalkLawsBesides
import Derived.Deep.QuietTactic
import Derived.BigQuiet
import Derived.Lib.Hide
import Derived.WalkSmall
import Derived.Maps.OwnSet
import Derived.Maps.RangeWalk
import Derived.Deep.RegionWith
import Derived.Deep.RegionHeld3
import Derived.Deep.DrawnRows
import Derived.Deep.DeepCutAuto
import Derived.OneCell
import Derived.KernelRfl
import Derived.Laws.StructEq
import Derived.StillTailTactics
import Derived.Laws.Externs
import Derived.RangeFuncBox
import Derived.Outline
import Derived.RangeFuncNested
import Derived.RangeFuncBound
import Derived.RangeFuncCalls
import Derived.RangeFuncLeaves
import Derived.Shelf.RegionOpen
import Derived.OwnWalkIn
import Derived.TacticsInMore
import Derived.LoopNIn
import Derived.LoopIn
import Derived.Test.YtopnlcjbklmicaaProg
namespace Go.Proofs.Ytopnlcjbklmicaa
open Go.RowKit Go.Maps Go.Shelf
set_option linter.unusedVariables false
set_option linter.unusedSimpArgs false
attribute [local go_sem] Oper.semAt_some
/-- Loads as a slice's cells. -/
def flatL (l : List (Nat × Nat)) : List Value := l.flatMap fun p => [Value.int .i64 p.1, Value.int .i64 p.2]
def LoadsB (w : World) (g : Nat) (l : List (Nat × Nat)) : Prop := Blk w g (flatL l).toArray 116
theorem flatL_len (l : List (Nat × Nat)) : (flatL l).length = l.length * 2 := by
  unfold flatL
  induction l with
  | nil => rfl
  | cons t l ih => rw [List.flatMap_cons, List.length_append, ih]; simp; omega
theorem flatL_get (l : List (Nat × Nat)) (i : Nat) (h : i < l.length) : (flatL l)[i * 2]? = some (.int .i64 (l[i]?.getD (0, 0)).1) ∧ (flatL l)[i * 2 + 1]? = some (.int .i64 (l[i]?.getD (0, 0)).2) := by
  induction l generalizing i with
  | nil => simp at h
  | cons t l ih =>
    cases i with
    | zero => simp [flatL]
    | succ i =>
      have := ih i (by simpa using h)
      unfold flatL at this ⊢
      rw [List.flatMap_cons]
      have e1 : (i + 1) * 2 = i * 2 + 2 := by omega
      have e2 : (i + 1) * 2 + 1 = (i * 2 + 1) + 2 := by omega
      constructor
      · rw [e1]; simpa using this.1
      · rw [e2]; simpa using this.2
theorem LoadsB.cell {w : World} {g i : Nat} {l : List (Nat × Nat)} (h : LoadsB w g l) (hi : i < l.length) : w.cell? ⟨g, i * 2, none⟩ = some (.int .i64 (l[i]?.getD (0, 0)).1) ∧ w.cell? ⟨g, i * 2 + 1, none⟩ = some (.int .i64 (l[i]?.getD (0, 0)).2) := by
  obtain ⟨h1, h2⟩ := flatL_get l i hi
  exact ⟨Blk.cell h (by simpa using h1), Blk.cell h (by simpa using h2)⟩
theorem flatL_set (l : List (Nat × Nat)) (i : Nat) (p : Nat × Nat) (h : i < l.length) : ((flatL l).set (i * 2) (.int .i64 p.1)).set (i * 2 + 1) (.int .i64 p.2) = flatL (l.set i p) := by
  induction l generalizing i with
  | nil => simp at h
  | cons t l ih =>
    cases i with
    | zero => simp [flatL]
    | succ i =>
      have := ih i (by simpa using h)
      have e1 : (i + 1) * 2 = i * 2 + 1 + 1 := by omega
      unfold flatL at this ⊢
      rw [List.set_cons_succ, List.flatMap_cons, List.flatMap_cons, ← this, e1]
      simp
theorem LoadsB.set {w : World} {g i : Nat} {l : List (Nat × Nat)} (h : LoadsB w g l) (hi : i < l.length) (p : Nat × Nat) :
    LoadsB ((w.setCell ⟨g, i * 2, none⟩ (.int .i64 p.1)).setCell ⟨g, i * 2 + 1, none⟩ (.int .i64 p.2)) g (l.set i p) := by
  have h1 := Blk.set h (i * 2) (by simp [flatL_len]; omega) (.int .i64 p.1) rfl
  have h2 := Blk.set h1 (i * 2 + 1) (by simp [flatL_len]; omega) (.int .i64 p.2) rfl
  unfold LoadsB
  rw [← flatL_set l i p hi]
  simpa using h2
theorem fill_flat (N : Nat) : fillL N N = flatL (List.replicate N (0, 1)) := by
  unfold fillL flatL
  rw [Nat.sub_self]
  simp [List.flatMap_def]
set_option maxHeartbeats 1000000 in
theorem unloaded_any (W H : Int) (tv : Value) (w : World) (hW : 1 ≤ W ∧ W ≤ 12) (hH : 1 ≤ H ∧ H ≤ 12) (htc : ∃ a n cap, tv = .slice a n cap) :
    Calls Try.prog 96 #[.agg #[.int .i64 W, .int .i64 H, tv]] w fun e w' => ∃ g, e = .returned (.slice (some ⟨g, 0, none⟩) (W * H).toNat (W * H).toNat) ∧ LoadsB w' g (List.replicate (W * H).toNat (0, 1)) ∧ w.heap.size ≤ g ∧ Below w.heap.size w w' := by
  obtain ⟨a, n, cap, rfl⟩ := htc
  have hr := prod_range hW hH
  obtain ⟨N, hN⟩ : ∃ N : Nat, W * H = N := ⟨(W * H).toNat, by omega⟩
  rw [hN] at hr ⊢
  have S := Blk.new w #[.int .i64 W, .int .i64 H, .slice a n cap] 143
  have S2 := S.alloc (.cells #[.int .i64 0, .int .i64 1] 116)
  have s0 := S.cell (i := 0) (v := .int .i64 W) rfl
  have s1 := S.cell (i := 1) (v := .int .i64 H) rfl
  have t0 := S2.cell (i := 0) (v := .int .i64 W) rfl
  have t1 := S2.cell (i := 1) (v := .int .i64 H) rfl
  have hs : (w.alloc (.cells #[.int .i64 W, .int .i64 H, .slice a n cap] 143)).heap.size = w.heap.size + 1 := by simp
  have BB := Lib.hid (((Below.refl _ w).alloc (Nat.le_refl _) (.cells #[.int .i64 W, .int .i64 H, .slice a n cap] 143)).alloc (by simp) (.cells #[.int .i64 0, .int .i64 1] 116))
  have HC := Lib.hid (repeat_any (w.heap.size + 1) N _ (by omega) (by omega) (Blk.newI (w.alloc (.cells #[.int .i64 W, .int .i64 H, .slice a n cap] 143)) (w.heap.size + 1) #[.int .i64 0, .int .i64 1] 116 hs))
  have hw : IntKind.i64.wrap (N : Int) = N := wrap_id (by omega) (by omega)
  clear S S2 hs
  go_enter Try.func96, Try.ntmps96
  go_wp2_with fail
  refine HC.out.mono ?_
  rintro e w2 ⟨g, rfl, hg, hgw, hb2⟩
  have HG : Hid (LoadsB w2 g (List.replicate N (0, 1))) := Lib.hid (by unfold LoadsB; rw [← fill_flat]; exact hg)
  have HGW : Hid (w.heap.size ≤ g) := Lib.hid (by simp at hgw; omega)
  have HB2 := Lib.hid (BB.out.trans (hb2.mono BB.out.size))
  clear hg hgw hb2
  go_wp2
  go_ret
  exact ⟨g, by simp, by simpa using HG.out, HGW.out, HB2.out⟩
/-- A tier as it is handed on. -/
def tierV (w : World) (b off i : Nat) : Value := .agg #[(w.cell? ⟨b, off + i * 2, none⟩).getD undef, (w.cell? ⟨b, off + i * 2 + 1, none⟩).getD undef]
def backL (f : Nat → Value) (n : Nat) : List (Nat × Value) := (List.range n).reverse.map fun i => (i, f i)
theorem backL_take (f : Nat → Value) (n k : Nat) (hk : k < n) : (backL f n).take (n - (k + 1)) ++ [(k, f k)] = (backL f n).take (n - k) := by
  have hlen : (backL f n).length = n := by simp [backL]
  have e : n - k = (n - (k + 1)) + 1 := by omega
  rw [e, List.take_succ_eq_append_getElem (by rw [hlen]; omega)]
  congr 2
  unfold backL
  simp
  constructor
  · omega
  · congr 1; omega
theorem back_mk (a : Option Addr) (n cap : Nat) (w : World) :
    Calls Try.prog 73 #[.slice a n cap] w fun e w' => e = .returned (.func (.func 98) #[] #[.pointer (some ⟨w.heap.size, 0, none⟩)]) ∧ w' = w.alloc (.cells #[.slice a n cap] 67) := by
  go_enter Try.func73, Try.ntmps73
  go_wp2
  go_ret
  exact ⟨rfl, rfl⟩
set_option maxRecDepth 100000 in
set_option maxHeartbeats 2000000 in
theorem back_iter (n₀ bt : Nat) (tv : Value) (ts : List (List Int × List Int)) (w : World) (h2 : Blk w bt #[tv] 67) (ht : TiersAt n₀ w tv ts) (hts : ts.length ≤ 1000000) :
    ∃ f : Nat → Value, Iter Try.prog 98 #[.pointer (some ⟨bt, 0, none⟩)] (fun x : Nat × Value => #[Value.int .i64 x.1, x.2]) (KT n₀ bt) (backL f ts.length) w := by
  obtain ⟨a, cap, rfl, hl, hn, hp⟩ := ht.placed
  have hf : ∃ f : Nat → Value, ∀ i, i < ts.length → ∃ b off vc vw, a = some ⟨b, off, none⟩ ∧ b < n₀ ∧ f i = .agg #[vc, vw] ∧ w.cell? ⟨b, off + i * 2, none⟩ = some vc ∧ w.cell? ⟨b, off + i * 2 + 1, none⟩ = some vw ∧ vc.cells = #[vc] ∧ vw.cells = #[vw] := by
    cases a with
    | none => exact ⟨fun _ => undef, fun i hi => by obtain ⟨b, off, e, _⟩ := hp i hi; cases e⟩
    | some ad =>
      refine ⟨fun i => tierV w ad.block ad.off i, fun i hi => ?_⟩
      obtain ⟨b, off, e, hb, vc, vw, c1, c2, ⟨i1, _⟩, ⟨i2, _⟩⟩ := hp i hi
      cases e
      obtain ⟨_, _, e1, _⟩ := i1.placed
      obtain ⟨_, _, e2, _⟩ := i2.placed
      exact ⟨b, off, vc, vw, rfl, hb, by simp [tierV, c1, c2], c1, c2, by rw [e1]; rfl, by rw [e2]; rfl⟩
  obtain ⟨f, hf⟩ := hf
  refine ⟨f, ?_⟩
  intro l J Jx Wd hkw hJ hJx hY h0
  have g2 : Blk Wd bt #[.slice a ts.length cap] 67 := hkw.same bt _ h2 (.inr ⟨rfl, rfl⟩)
  have k1 := g2.cell (i := 0) (v := .slice a ts.length cap) rfl
  have HG2 := Lib.hid g2
  have HY := Lib.hid hY
  have HF := Lib.hid hf
  have HKW := Lib.hid hkw
  have HJJ : Hid (J ((backL f ts.length).take (ts.length - ts.length)) Wd) := Lib.hid (by rw [Nat.sub_self]; exact h0)
  clear hp hf hY ht h2 g2 h0 hkw
  refine callsIn_of_wp Try.func98 rfl trivial ?_ rfl
  simp only [Try.ntmps98, List.size_toArray, List.length_cons, List.length_nil, Nat.reduceAdd, Nat.reduceSub, Array.replicate_succ, Array.replicate_zero, List.push_toArray, List.append_toArray, List.nil_append, List.cons_append]
  have hw0 : IntKind.i64.wrap ((ts.length : Int) - 1) = (ts.length : Int) - 1 := wrap_id (by omega) (by omega)
  gi_wp2
  gi_loopw [3] (fun i wr => ∃ k : Nat, k ≤ ts.length ∧ i = .int .i64 ((k : Int) - 1) ∧ Hid (J ((backL f ts.length).take (ts.length - k)) wr) ∧ Hid (Kept (KT n₀ bt) Wd wr)) (fun i _ => (intOf i + 1).toNat)
  case atStart => exact ⟨ts.length, Nat.le_refl _, rfl, HJJ, Lib.hid (Kept.refl _ _)⟩
  case round =>
    obtain ⟨k, hk, rfl, HJ, HKK⟩ := hrel
    by_cases hlt : 1 ≤ k
    · obtain ⟨k, rfl⟩ : ∃ k', k = k' + 1 := ⟨k - 1, by omega⟩
      have hki : ((k + 1 : Nat) : Int) - 1 = (k : Int) := by omega
      rw [hki]
      have q0 := (show Blk wr bt #[.slice a ts.length cap] 67 from HKK.out.same bt _ HG2.out (.inr ⟨rfl, rfl⟩)).cell (i := 0) (v := .slice a ts.length cap) rfl
      obtain ⟨b, off, vc, vw, rfl, hb, hfk, c1, c2, v1, v2⟩ := HF.out k (by omega)
      have hbw : b < w.heap.size := Nat.lt_of_lt_of_le hb hn
      have hkt := (HKW.out.trans HKK.out).toS
      have c1 := hkt.cell (p := ⟨b, off + k * 2, none⟩) hb hbw c1
      have c2 := hkt.cell (p := ⟨b, off + k * 2 + 1, none⟩) hb hbw c2
      have hsu := backL_take f ts.length k (by omega)
      have HSU := Lib.hid hsu
      have hyy := HY.out _ (k, f k) wr HJ.out (by rw [hsu]; exact List.take_prefix _ _)
      rw [hfk] at hyy
      have hk0 : (0 : Int) ≤ (k : Int) := by omega
      have hk1 : (k : Int) < (ts.length : Int) := by omega
      clear hsu hkt
      dsimp only at hyy
      obtain ⟨fn, tmps, assign, body, hy, hR⟩ := hyy
      gi_wp2
      refine (roundIn_any hR).mono ?_
      rintro e W3 ⟨⟨rfl, hJ3, hk3⟩ | ⟨rfl, hJx3⟩, _⟩
      · have HJ3 : Hid (J ((backL f ts.length).take (ts.length - k)) W3) := Lib.hid (by rw [← HSU.out, hfk]; exact hJ3)
        have HK3 := Lib.hid (HKK.out.trans hk3)
        clear hJ3 hk3
        gi_wp2
        go_roundw
        case rel => exact ⟨k, by omega, rfl, HJ3, HK3⟩
        case measure => simp [intOf] <;> omega
      · have HJ3 : Hid (Jx ((backL f ts.length).take (ts.length - k)) W3) := Lib.hid (by rw [← HSU.out, hfk]; exact hJx3)
        clear hJx3
        gi_wp2
        refine bodyPost_ret (results_none rfl _ _ _) rfl ?_
        exact ⟨⟨_, rfl⟩, .inr ⟨_, List.take_prefix _ _, HJ3.out⟩⟩
    · obtain rfl : k = 0 := by omega
      have HJ2 : Hid (J (backL f ts.length) wr) := Lib.hid (by
        have := HJ.out
        rw [Nat.sub_zero, List.take_of_length_le (by simp [backL])] at this
        exact this)
      clear HJ
      gi_wp2
      go_end0
      exact ⟨⟨_, rfl⟩, .inl HJ2.out⟩
end Go.Proofs.Ytopnlcjbklmicaa
