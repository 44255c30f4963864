import Derived.Test.YtopnlcjbklmicaaK29
import Derived.WalkKit
import Derived.WalkSpells
import Derived.WalkLawsBesides
import Derived.Deep.QuietTactic
import Derived.BigQuiet
import Derived.Lib.Hide
import Derived.WalkSmall
import Derived.Maps.OwnSet
import Derived.Maps.RangeWalk
import Derived.Deep.RegionWith
import Derived.Deep.RegionHeld3
import Derived.Deep.DrawnRows
import Derived.Deep.DeepCutAuto
import Derived.OneCell
import Derived.KernelRfl
import Derived.Laws.StructEq
import Derived.StillTailTactics
import Derived.Laws.Externs
import Derived.RangeFuncBox
import Derived.Outline
import Derived.RangeFuncNested
import Derived.RangeFuncBound
import Derived.RangeFuncCalls
import Derived.RangeFuncLeaves
import Derived.Shelf.RegionOpen
import Derived.OwnWalkIn
import Derived.TacticsInMore
import Derived.LoopNIn
import Derived.LoopIn
import Derived.Test.YtopnlcjbklmicaaProg
namespace Go.Proofs.Ytopnlcjbklmicaa
open Go.RowKit Go.Maps Go.Shelf
set_option linter.unusedVariables false
set_option linter.unusedSimpArgs false
theorem stored8 {w : World} {base gq n cap j : Nat} {T : TypeId} {xs : List Value} (h : w.ownsRow base T 8 (.slice (some ⟨gq, 0, none⟩) n cap) n xs) (s : St) :
    (((((((((w.setCell ⟨gq, j, none⟩ (.int .i64 s.wet)).setCell ⟨gq, j + 1, none⟩ (.int .i64 s.dry)).setCell ⟨gq, j + 2, none⟩ (.int .i64 s.burn)).setCell ⟨gq, j + 3, none⟩ (.int .i64 s.fired)).setCell ⟨gq, j + 4, none⟩ (.int .i64 s.laid)).setCell ⟨gq, j + 5, none⟩ (.int .i64 s.brk)).setCell ⟨gq, j + 6, none⟩ (.int .i64 s.miss)).setCell ⟨gq, j + 7, none⟩ (.int .i64 s.space))).ownsRow base T 8 (.slice (some ⟨gq, 0, none⟩) n cap) n (put8 xs j s) :=
  ((((((((h.stored j (.int .i64 s.wet)).1.stored (j + 1) (.int .i64 s.dry)).1.stored (j + 2) (.int .i64 s.burn)).1.stored (j + 3) (.int .i64 s.fired)).1.stored (j + 4) (.int .i64 s.laid)).1.stored (j + 5) (.int .i64 s.brk)).1.stored (j + 6) (.int .i64 s.miss)).1.stored (j + 7) (.int .i64 s.space)).1
theorem but_set8 {gq j : Nat} {A W : World} (h : But gq gq A W) (x0 x1 x2 x3 x4 x5 x6 x7 : Int) : But gq gq A ((((((((W.setCell ⟨gq, j, none⟩ (.int .i64 x0)).setCell ⟨gq, j + 1, none⟩ (.int .i64 x1)).setCell ⟨gq, j + 2, none⟩ (.int .i64 x2)).setCell ⟨gq, j + 3, none⟩ (.int .i64 x3)).setCell ⟨gq, j + 4, none⟩ (.int .i64 x4)).setCell ⟨gq, j + 5, none⟩ (.int .i64 x5)).setCell ⟨gq, j + 6, none⟩ (.int .i64 x6)).setCell ⟨gq, j + 7, none⟩ (.int .i64 x7)) :=
  (((((((h.set gq (.inl rfl) _).set gq (.inl rfl) _).set gq (.inl rfl) _).set gq (.inl rfl) _).set gq (.inl rfl) _).set gq (.inl rfl) _).set gq (.inl rfl) _).set gq (.inl rfl) _
theorem blk_far8 {gq j b : Nat} {W : World} {vs : Array Value} {T : TypeId} (h : Blk W b vs T) (hne : b ≠ gq) (x0 x1 x2 x3 x4 x5 x6 x7 : Int) : Blk ((((((((W.setCell ⟨gq, j, none⟩ (.int .i64 x0)).setCell ⟨gq, j + 1, none⟩ (.int .i64 x1)).setCell ⟨gq, j + 2, none⟩ (.int .i64 x2)).setCell ⟨gq, j + 3, none⟩ (.int .i64 x3)).setCell ⟨gq, j + 4, none⟩ (.int .i64 x4)).setCell ⟨gq, j + 5, none⟩ (.int .i64 x5)).setCell ⟨gq, j + 6, none⟩ (.int .i64 x6)).setCell ⟨gq, j + 7, none⟩ (.int .i64 x7)) b vs T :=
  (((((((h.far hne).far hne).far hne).far hne).far hne).far hne).far hne).far hne
theorem own_block_ty {W : World} {base gq n cap : Nat} {T : TypeId} {xs : List Value} (h : W.ownsRow base T 8 (.slice (some ⟨gq, 0, none⟩) n cap) n xs) : base ≤ gq ∧ gq < W.heap.size ∧ ∃ cur, W.heap[gq]? = some (.cells cur T (0, 0)) := by
  rcases h.2 with ⟨h', _⟩ | ⟨g', cap', cur, h', hb, hg, _⟩
  · simp at h'
  · simp only [Value.slice.injEq, Option.some.injEq, Addr.mk.injEq, and_true, true_and] at h'
    obtain ⟨rfl, rfl⟩ := h'
    exact ⟨hb, (Array.getElem?_eq_some_iff.1 hg).1, cur, hg⟩
set_option maxHeartbeats 2000000 in
theorem carryOut_any (F : Nat) (lb : Array Value) (bb base : Nat) (l : List St) (room : Int) (iv : Value) (kind n : Int) (g : St → Int × St) (w : World) (eg : ∀ args w, (callFunc F args).run Try.prog w = .ok (.enter F args) w)
    (hb : BookAt w bb base l room iv) (hbase : base ≤ w.heap.size) (hl : l.length ≤ 1000000)
    (hc : inB kind 0 ((l.length : Int) - 1) = true → inB n 0 1000000000 = true → ∀ W, Below w.heap.size w W → ∀ sb, w.heap.size ≤ sb → Blk W sb (l[kind.toNat]?.getD St.zero).vals.toArray 133 →
      Calls Try.prog F (#[.pointer (some ⟨sb, 0, none⟩)] ++ lb) W fun e W' => e = .returned (.int .i64 (g (l[kind.toNat]?.getD St.zero)).1) ∧ Blk W' sb (g (l[kind.toNat]?.getD St.zero)).2.vals.toArray 133 ∧ But sb sb W W') :
    Calls Try.prog 82 #[.pointer (some ⟨bb, 0, none⟩), .int .i64 kind, .int .i64 n, .func (.func F) #[] lb] w (BookTo w bb base (coF l kind n g) room iv) := by
  have HH := Lib.hid (has_any bb base l room iv kind w hb hl)
  obtain ⟨f1, hf1⟩ : ∃ f1, inB kind 0 ((l.length : Int) - 1) = f1 := ⟨_, rfl⟩
  have HCO : Hid (coF l kind n g = if inB kind 0 ((l.length : Int) - 1) = false then (7, l) else if inB n 0 1000000000 = false then (3, l) else if (chF (g (l[kind.toNat]?.getD St.zero))).2 ≠ 0 then ((chF (g (l[kind.toNat]?.getD St.zero))).2, l) else (0, l.set kind.toNat (chF (g (l[kind.toNat]?.getD St.zero))).1)) := Lib.hid rfl
  obtain ⟨R, hR⟩ : ∃ R, coF l kind n g = R := ⟨_, rfl⟩
  rw [hR] at HCO ⊢
  rw [hf1] at HH HCO
  have HF1 := Lib.hid hf1
  have HB0 := Lib.hid hb
  have HC := Lib.hid hc
  clear hR hf1 hb hc
  go_enter Try.func82, Try.ntmps82
  go_wp2_with fail
  refine HH.out.mono ?_
  rintro x w2 ⟨rfl, hb2⟩
  have HB2 := Lib.hid (HB0.out.past hb2)
  have HW2 := Lib.hid hb2
  clear hb2
  cases f1
  · have HV : Hid (R = (7, l)) := Lib.hid (by rw [HCO.out]; rfl)
    clear HCO
    go_wp2
    go_ret
    rw [HV.out]
    exact BookTo.same HB0.out HW2.out hbase
  · have HA := Lib.hid (areWithin_any 0 1000000000 _ [n] _ (ints_one1 w2 n))
    have HW3 := Lib.hid (HW2.out.alloc HW2.out.size (.cells #[.int .i64 n] 3))
    have HB3 := Lib.hid (HB2.out.past ((Below.refl _ _).alloc (Nat.le_refl _) (.cells #[.int .i64 n] 3)))
    go_wp2_with fail
    refine HA.out.mono ?_
    rintro x w3 ⟨rfl, rfl⟩
    have e9 : ([n].all fun n => inB n 0 1000000000) = inB n 0 1000000000 := by simp
    rw [e9]
    obtain ⟨f2, hf2⟩ : ∃ f2, inB n 0 1000000000 = f2 := ⟨_, rfl⟩
    rw [hf2] at HCO ⊢
    have HF2 := Lib.hid hf2
    obtain ⟨w3, hw3⟩ : ∃ w3, w2.alloc (.cells #[.int .i64 n] 3) = w3 := ⟨_, rfl⟩
    rw [hw3] at HW3 HB3 ⊢
    clear e9 hf2 HA hw3
    cases f2
    · have HV : Hid (R = (3, l)) := Lib.hid (by rw [HCO.out]; rfl)
      clear HCO
      go_wp2
      go_ret
      rw [HV.out]
      exact BookTo.same HB0.out HW3.out hbase
    · have hkr : 0 ≤ kind ∧ kind ≤ (l.length : Int) - 1 := by have := HF1.out; simpa [inB] using this
      obtain ⟨k, rfl⟩ : ∃ k : Nat, kind = k := ⟨kind.toNat, by omega⟩
      have hk0 : (0 : Int) ≤ (k : Int) := by omega
      have hk1 : (k : Int) < (l.length : Int) := by omega
      have hk : k < l.length := by omega
      obtain ⟨s, hs⟩ : ∃ s, l[(k : Int).toNat]?.getD St.zero = s := ⟨_, rfl⟩
      have hsk : l[k]?.getD St.zero = s := by rw [← hs]; simp
      have HC1 := HC.out HF1.out HF2.out
      rw [hs] at HC1 HCO
      have HC1 := Lib.hid HC1
      obtain ⟨sv, h1, h2⟩ := HB3.out
      obtain ⟨gq, cap, rfl⟩ : ∃ gq cap, sv = .slice (some ⟨gq, 0, none⟩) l.length cap := by
        rcases h2.2 with ⟨_, h⟩ | ⟨gq, cap, cur, rfl, _⟩
        · omega
        · exact ⟨gq, cap, rfl⟩
      have c0 := h1.cell (i := 0) (v := .slice (some ⟨gq, 0, none⟩) l.length cap) rfl
      have hg : ∀ i, i < 8 → w3.cell? ⟨gq, k * 8 + i, none⟩ = s.vals[i]? := fun i hi => by
        rw [h2.cellAt (k * 8 + i) (by omega), flatS_get l k i hk hi, hsk]
      have HCH := Lib.hid fun eg hc => changed_any F lb s (g s) w3 eg hc
      have HCC := Lib.hid (HCH.out eg (fun W hW hB => HC1.out W (HW3.out.trans (hW.mono HW3.out.size)) w3.heap.size HW3.out.size hB))
      obtain ⟨a, b, c, d, e, f, gg, h⟩ := s
      have b0 : w3.cell? ⟨gq, k * 8, none⟩ = some (.int .i64 a) := hg 0 (by omega)
      have b1 : w3.cell? ⟨gq, k * 8 + 1, none⟩ = some (.int .i64 b) := hg 1 (by omega)
      have b2 : w3.cell? ⟨gq, k * 8 + 2, none⟩ = some (.int .i64 c) := hg 2 (by omega)
      have b3 : w3.cell? ⟨gq, k * 8 + 3, none⟩ = some (.int .i64 d) := hg 3 (by omega)
      have b4 : w3.cell? ⟨gq, k * 8 + 4, none⟩ = some (.int .i64 e) := hg 4 (by omega)
      have b5 : w3.cell? ⟨gq, k * 8 + 5, none⟩ = some (.int .i64 f) := hg 5 (by omega)
      have b6 : w3.cell? ⟨gq, k * 8 + 6, none⟩ = some (.int .i64 gg) := hg 6 (by omega)
      have b7 : w3.cell? ⟨gq, k * 8 + 7, none⟩ = some (.int .i64 h) := hg 7 (by omega)
      dsimp only [St.vals] at HCC
      have HX := Lib.hid (And.intro h1 h2)
      obtain ⟨s', er, hch⟩ : ∃ s' er, chF (g ⟨a, b, c, d, e, f, gg, h⟩) = (s', er) := ⟨_, _, rfl⟩
      rw [hch] at HCC HCO
      obtain ⟨a', b', c', d', e', f', g', h'⟩ := s'
      dsimp only at HCC
      clear hg h1 h2 HCH HC1 HC eg hch hs hsk
      go_wp2_with fail
      refine HCC.out.mono ?_
      rintro x w4 ⟨rfl, hb4⟩
      have HW4 := Lib.hid (HW3.out.trans (hb4.mono HW3.out.size))
      by_cases he : er = 0
      · subst he
        obtain ⟨xb, hxb⟩ : ∃ xb, w4.heap.size = xb := ⟨_, rfl⟩
        have hp := hb4.alloc hb4.size (.cells #[.int .i64 a', .int .i64 b', .int .i64 c', .int .i64 d', .int .i64 e', .int .i64 f', .int .i64 g', .int .i64 h'] 133)
        have H1 := HX.out.1.past hp
        have H2 := HX.out.2.kept (row := none) ⟨hp.os, hp.tape, hp.output, hp.size, fun j hj _ => hp.block j hj⟩ (.inr (by simp [Value.ownBlock]))
        have HX5 := Blk.newI w4 xb #[.int .i64 a', .int .i64 b', .int .i64 c', .int .i64 d', .int .i64 e', .int .i64 f', .int .i64 g', .int .i64 h'] 133 hxb
        have HW5 := Lib.hid (HW4.out.alloc HW4.out.size (.cells #[.int .i64 a', .int .i64 b', .int .i64 c', .int .i64 d', .int .i64 e', .int .i64 f', .int .i64 g', .int .i64 h'] 133))
        obtain ⟨w5, hw5⟩ : ∃ w5, w4.alloc (.cells #[.int .i64 a', .int .i64 b', .int .i64 c', .int .i64 d', .int .i64 e', .int .i64 f', .int .i64 g', .int .i64 h'] 133) = w5 := ⟨_, rfl⟩
        rw [hw5] at H1 H2 HX5 HW5
        obtain ⟨q1, q2, cur, q3⟩ := own_block_ty H2
        have hne : bb ≠ gq := fun e => by
          subst e
          rw [show w5.heap[bb]? = _ from H1] at q3
          injection q3 with q3
          injection q3 with _ q3
          exact absurd q3 (by decide)
        have hV : Hid (R = (0, l.set k ⟨a', b', c', d', e', f', g', h'⟩)) := Lib.hid (by rw [HCO.out]; simp)
        have hrow := stored8 (j := k * 8) H2 ⟨a', b', c', d', e', f', g', h'⟩
        rw [flatS_set l k _ hk] at hrow
        have HFIN : Hid (BookAt (((((((((w5.setCell ⟨gq, k * 8, none⟩ (.int .i64 a')).setCell ⟨gq, k * 8 + 1, none⟩ (.int .i64 b')).setCell ⟨gq, k * 8 + 2, none⟩ (.int .i64 c')).setCell ⟨gq, k * 8 + 3, none⟩ (.int .i64 d')).setCell ⟨gq, k * 8 + 4, none⟩ (.int .i64 e')).setCell ⟨gq, k * 8 + 5, none⟩ (.int .i64 f')).setCell ⟨gq, k * 8 + 6, none⟩ (.int .i64 g')).setCell ⟨gq, k * 8 + 7, none⟩ (.int .i64 h'))).drew bb base (l.set k ⟨a', b', c', d', e', f', g', h'⟩) room iv) := Lib.hid ⟨_, (blk_far8 (j := k * 8) H1 hne a' b' c' d' e' f' g' h').drew, by rw [List.length_set]; exact hrow.drew⟩
        have HBT : Hid (But gq gq w (((((((((w5.setCell ⟨gq, k * 8, none⟩ (.int .i64 a')).setCell ⟨gq, k * 8 + 1, none⟩ (.int .i64 b')).setCell ⟨gq, k * 8 + 2, none⟩ (.int .i64 c')).setCell ⟨gq, k * 8 + 3, none⟩ (.int .i64 d')).setCell ⟨gq, k * 8 + 4, none⟩ (.int .i64 e')).setCell ⟨gq, k * 8 + 5, none⟩ (.int .i64 f')).setCell ⟨gq, k * 8 + 6, none⟩ (.int .i64 g')).setCell ⟨gq, k * 8 + 7, none⟩ (.int .i64 h'))).drew) := Lib.hid (but_set8 (j := k * 8) (But.of_below HW5.out) a' b' c' d' e' f' g' h').drew
        have HQ : Hid (base ≤ gq ∧ ∀ o, w.heap[gq]? = some o → ∃ vs f, o = .cells vs 133 f) := Lib.hid ⟨q1, fun o ho => by
          have h9 := HW5.out.block gq (Array.getElem?_eq_some_iff.1 ho).1
          rw [q3, ho] at h9
          cases h9
          exact ⟨_, _, rfl⟩⟩
        clear b0 b1 b2 b3 b4 b5 b6 b7 c0
        have c0 := H1.cell (i := 0) (v := .slice (some ⟨gq, 0, none⟩) l.length cap) rfl
        have b0 := HX5.cell (i := 0) (v := .int .i64 a') rfl
        have b1 := HX5.cell (i := 1) (v := .int .i64 b') rfl
        have b2 := HX5.cell (i := 2) (v := .int .i64 c') rfl
        have b3 := HX5.cell (i := 3) (v := .int .i64 d') rfl
        have b4 := HX5.cell (i := 4) (v := .int .i64 e') rfl
        have b5 := HX5.cell (i := 5) (v := .int .i64 f') rfl
        have b6 := HX5.cell (i := 6) (v := .int .i64 g') rfl
        have b7 := HX5.cell (i := 7) (v := .int .i64 h') rfl
        obtain ⟨y0, e0⟩ : ∃ y, w5.cell? ⟨gq, k * 8, none⟩ = some y := ⟨_, (H2.cellAt (k * 8 + 0) (by omega)).trans (List.getElem?_eq_getElem (by rw [flatS_len]; omega))⟩
        have f0 : w5.frozen? ⟨gq, k * 8, none⟩ = false := H2.frozenAt (k * 8 + 0)
        obtain ⟨y1, e1⟩ : ∃ y, w5.cell? ⟨gq, k * 8 + 1, none⟩ = some y := ⟨_, (H2.cellAt (k * 8 + 1) (by omega)).trans (List.getElem?_eq_getElem (by rw [flatS_len]; omega))⟩
        have f1 : w5.frozen? ⟨gq, k * 8 + 1, none⟩ = false := H2.frozenAt (k * 8 + 1)
        obtain ⟨y2, e2⟩ : ∃ y, w5.cell? ⟨gq, k * 8 + 2, none⟩ = some y := ⟨_, (H2.cellAt (k * 8 + 2) (by omega)).trans (List.getElem?_eq_getElem (by rw [flatS_len]; omega))⟩
        have f2 : w5.frozen? ⟨gq, k * 8 + 2, none⟩ = false := H2.frozenAt (k * 8 + 2)
        obtain ⟨y3, e3⟩ : ∃ y, w5.cell? ⟨gq, k * 8 + 3, none⟩ = some y := ⟨_, (H2.cellAt (k * 8 + 3) (by omega)).trans (List.getElem?_eq_getElem (by rw [flatS_len]; omega))⟩
        have f3 : w5.frozen? ⟨gq, k * 8 + 3, none⟩ = false := H2.frozenAt (k * 8 + 3)
        obtain ⟨y4, e4⟩ : ∃ y, w5.cell? ⟨gq, k * 8 + 4, none⟩ = some y := ⟨_, (H2.cellAt (k * 8 + 4) (by omega)).trans (List.getElem?_eq_getElem (by rw [flatS_len]; omega))⟩
        have f4 : w5.frozen? ⟨gq, k * 8 + 4, none⟩ = false := H2.frozenAt (k * 8 + 4)
        obtain ⟨y5, e5⟩ : ∃ y, w5.cell? ⟨gq, k * 8 + 5, none⟩ = some y := ⟨_, (H2.cellAt (k * 8 + 5) (by omega)).trans (List.getElem?_eq_getElem (by rw [flatS_len]; omega))⟩
        have f5 : w5.frozen? ⟨gq, k * 8 + 5, none⟩ = false := H2.frozenAt (k * 8 + 5)
        obtain ⟨y6, e6⟩ : ∃ y, w5.cell? ⟨gq, k * 8 + 6, none⟩ = some y := ⟨_, (H2.cellAt (k * 8 + 6) (by omega)).trans (List.getElem?_eq_getElem (by rw [flatS_len]; omega))⟩
        have f6 : w5.frozen? ⟨gq, k * 8 + 6, none⟩ = false := H2.frozenAt (k * 8 + 6)
        obtain ⟨y7, e7⟩ : ∃ y, w5.cell? ⟨gq, k * 8 + 7, none⟩ = some y := ⟨_, (H2.cellAt (k * 8 + 7) (by omega)).trans (List.getElem?_eq_getElem (by rw [flatS_len]; omega))⟩
        have f7 : w5.frozen? ⟨gq, k * 8 + 7, none⟩ = false := H2.frozenAt (k * 8 + 7)
        clear H1 H2 HX5 hrow hp hb4 HX HCC HCO q1 q2 q3
        go_wp2
        try rw [hw5]
        clear hw5
        go_region
        all_goals
          go_wp2
          go_ret
          rw [hV.out]
          exact ⟨rfl, HFIN.out, gq, HQ.out.1, HQ.out.2, HBT.out⟩
      · have hne : (er != 0) = true := by simpa using he
        have hp := hb4.alloc hb4.size (.cells #[.int .i64 a', .int .i64 b', .int .i64 c', .int .i64 d', .int .i64 e', .int .i64 f', .int .i64 g', .int .i64 h'] 133)
        have HW5 := Lib.hid (HW4.out.alloc HW4.out.size (.cells #[.int .i64 a', .int .i64 b', .int .i64 c', .int .i64 d', .int .i64 e', .int .i64 f', .int .i64 g', .int .i64 h'] 133))
        have hV : Hid (R = (er, l)) := Lib.hid (by rw [HCO.out]; simp [he])
        clear hp HCC HCO HX hb4
        go_wp2
        go_ret
        rw [hV.out]
        exact BookTo.same HB0.out HW5.out hbase
end Go.Proofs.Ytopnlcjbklmicaa
