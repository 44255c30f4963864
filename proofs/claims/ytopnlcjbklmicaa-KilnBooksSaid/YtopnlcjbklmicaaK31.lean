import Derived.Test.YtopnlcjbklmicaaK30
import Derived.WalkKit
import Derived.WalkSpells
import Derived.WalkLawsBesides
import Derived.Deep.QuietTactic
import Derived.BigQuiet
import Derived.Lib.Hide
import Derived.WalkSmall
import Derived.Maps.OwnSet
import Derived.Maps.RangeWalk
import Derived.Deep.RegionWith
import Derived.Deep.RegionHeld3
import Derived.Deep.DrawnRows
import Derived.Deep.DeepCutAuto
import Derived.OneCell
import Derived.KernelRfl
import Derived.Laws.StructEq
import Derived.StillTailTactics
import Derived.Laws.Externs
import Derived.RangeFuncBox
import Derived.Outline
import Derived.RangeFuncNested
import Derived.RangeFuncBound
import Derived.RangeFuncCalls
import Derived.RangeFuncLeaves
import Derived.Shelf.RegionOpen
import Derived.OwnWalkIn
import Derived.TacticsInMore
import Derived.LoopNIn
import Derived.LoopIn
import Derived.Test.YtopnlcjbklmicaaProg
namespace Go.Proofs.Ytopnlcjbklmicaa
open Go.RowKit Go.Maps Go.Shelf
set_option linter.unusedVariables false
set_option linter.unusedSimpArgs false
theorem BookTo.of_alloc {w : World} {o : Obj} {bb base : Nat} {r : Int × List St} {room : Int} {iv : Value} {e : Ending} {w' : World} (h : BookTo (w.alloc o) bb base r room iv e w') : BookTo w bb base r room iv e w' := by
  obtain ⟨h1, h2, q, h3, h4, h5⟩ := h
  refine ⟨h1, h2, q, h3, fun o' ho => h4 o' ?_, ⟨h5.os, h5.tape, h5.output, by have := h5.size; simp at this; omega, fun k hk e1 e2 => ?_⟩⟩
  · exact (((Below.refl w.heap.size w).alloc (Nat.le_refl _) o).block q (Array.getElem?_eq_some_iff.1 ho).1).trans ho
  · exact (h5.block k (by simp; omega) e1 e2).trans (((Below.refl w.heap.size w).alloc (Nat.le_refl _) o).block k hk)
theorem BookAt.alloc {w : World} {bb base : Nat} {l : List St} {room : Int} {iv : Value} (h : BookAt w bb base l room iv) (o : Obj) : BookAt (w.alloc o) bb base l room iv := h.past ((Below.refl _ _).alloc (Nat.le_refl _) o)
/-- The counts of all stores are in order. -/
def AllOk (l : List St) : Prop := ∀ i, i < l.length → (l[i]?.getD St.zero).Ok
theorem AllOk.at {l : List St} {kind : Int} (h : AllOk l) (hk : inB kind 0 ((l.length : Int) - 1) = true) : (l[kind.toNat]?.getD St.zero).Ok := h _ (by simp [inB] at hk; omega)
theorem inB_parts {n a b : Int} (h : inB n a b = true) : a ≤ n ∧ n ≤ b := by simpa [inB] using h
set_option maxHeartbeats 1000000 in
theorem mould_any (bb base : Nat) (l : List St) (room : Int) (iv : Value) (kind n : Int) (w : World) (hb : BookAt w bb base l room iv) (hbase : base ≤ w.heap.size) (hl : l.length ≤ 1000000) (hok : AllOk l) :
    Calls Try.prog 44 #[.pointer (some ⟨bb, 0, none⟩), .int .i64 kind, .int .i64 n] w (BookTo w bb base (coF l kind n (mouldF n)) room iv) := by
  have N1 := Blk.new w #[.int .i64 n] 3
  have n0 := N1.cell (i := 0) (v := .int .i64 n) rfl
  have hs : base ≤ (w.alloc (.cells #[.int .i64 n] 3)).heap.size := by simp; omega
  have HC := Lib.hid (carryOut_any 83 #[.pointer (some ⟨w.heap.size, 0, none⟩)] bb base l room iv kind n (mouldF n) (w.alloc (.cells #[.int .i64 n] 3)) (enters_of Try.func83 (by kernel_rfl) rfl) (hb.alloc _) hs hl
    (fun h1 h2 W hW sb hsb hB => mould1_any _ n (hok.at h1) (inB_parts h2) sb w.heap.size W hB (N1.past hW)))
  clear N1 hb hs
  go_enter Try.func44, Try.ntmps44
  go_wp2_with fail
  refine HC.out.mono ?_
  rintro e w2 ⟨rfl, h2⟩
  have HH : Hid (BookTo w bb base (coF l kind n (mouldF n)) room iv (.returned (.int .i64 (coF l kind n (mouldF n)).1)) w2) := Lib.hid (BookTo.of_alloc ⟨rfl, h2⟩)
  clear h2 HC
  go_wp2
  go_ret
  exact HH.out
set_option maxHeartbeats 1000000 in
theorem dry1_any (s : St) (n k : Int) (hs : s.Ok) (hn : 0 ≤ n ∧ n ≤ 1000000000) (sb nb kb : Nat) (w : World) (hb : Blk w sb s.vals.toArray 133) (hc : Blk w nb #[.int .i64 n] 3) (hd : Blk w kb #[.int .i64 k] 3) :
    Calls Try.prog 85 #[.pointer (some ⟨sb, 0, none⟩), .pointer (some ⟨nb, 0, none⟩), .pointer (some ⟨kb, 0, none⟩)] w fun e w' => e = .returned (.int .i64 (dryF n k s).1) ∧ Blk w' sb (dryF n k s).2.vals.toArray 133 ∧ But sb sb w w' := by
  have HA := Lib.hid (areWithin_any 0 n _ [k] _ (ints_one1 w k))
  have e9 : ([k].all fun x => inB x 0 n) = inB k 0 n := by simp
  rw [e9] at HA
  obtain ⟨q, hq⟩ : ∃ q, inB k 0 n = q := ⟨_, rfl⟩
  have HF : Hid (dryF n k s = if inB k 0 n = true then (0, { s with wet := s.wet - n, dry := s.dry + (n - k), brk := s.brk + k }) else (2, s)) := Lib.hid rfl
  rw [hq] at HA HF
  have HQ := Lib.hid hq
  have hne1 : sb ≠ nb := hb.ne hc (by decide)
  have hne2 : sb ≠ kb := hb.ne hd (by decide)
  obtain ⟨a, b, c, d, e, f, g, h⟩ := s
  obtain ⟨h1, h2, h3, h4, h5, h6, h7⟩ := hs
  dsimp only [St.vals] at *
  have c0 := hc.cell (i := 0) (v := .int .i64 n) rfl
  have d0 := hd.cell (i := 0) (v := .int .i64 k) rfl
  have HB1 := Lib.hid (hb.alloc (.cells #[.int .i64 k] 3))
  have HC1 := Lib.hid (hc.alloc (.cells #[.int .i64 k] 3))
  have HD1 := Lib.hid (hd.alloc (.cells #[.int .i64 k] 3))
  have HBT := Lib.hid ((But.refl sb sb w).past ((Below.refl _ _).alloc (Nat.le_refl _) (.cells #[.int .i64 k] 3)))
  have HR := Lib.hid (And.intro h1 (And.intro h2 h6))
  clear hb hc hd hq e9 h1 h2 h3 h4 h5 h6 h7
  go_enter Try.func85, Try.ntmps85
  go_wp2_with fail
  refine HA.out.mono ?_
  rintro x w2 ⟨rfl, rfl⟩
  clear c0 d0 HA
  obtain ⟨W1, hW1⟩ : ∃ W1, w.alloc (.cells #[.int .i64 k] 3) = W1 := ⟨_, rfl⟩
  rw [hW1] at HB1 HC1 HD1 HBT ⊢
  clear hW1
  cases q
  · have HV : Hid (dryF n k ⟨a, b, c, d, e, f, g, h⟩ = (2, ⟨a, b, c, d, e, f, g, h⟩)) := Lib.hid (by rw [HF.out]; rfl)
    clear HF
    go_wp2
    go_ret
    exact ⟨by rw [HV.out]; rfl, by rw [HV.out]; exact HB1.out, HBT.out⟩
  · have HV : Hid (dryF n k ⟨a, b, c, d, e, f, g, h⟩ = (0, ⟨a - n, b + (n - k), c, d, e, f + k, g, h⟩)) := Lib.hid (by rw [HF.out]; rfl)
    obtain ⟨k0, k1⟩ := inB_parts HQ.out
    obtain ⟨h1, h2, h6⟩ := HR.out
    have w1 : IntKind.i64.wrap (a - n) = a - n := wrap_id (by omega) (by omega)
    have w2 : IntKind.i64.wrap (n - k) = n - k := wrap_id (by omega) (by omega)
    have w3 : IntKind.i64.wrap (b + (n - k)) = b + (n - k) := wrap_id (by omega) (by omega)
    have w4 : IntKind.i64.wrap (f + k) = f + k := wrap_id (by omega) (by omega)
    clear HF HQ HR h1 h2 h6 k0 k1
    have b0 := HB1.out.cell (i := 0) (v := .int .i64 a) rfl
    have f0 := HB1.out.fr (i := 0)
    have c0 := HC1.out.cell (i := 0) (v := .int .i64 n) rfl
    go_wp2
    go_region
    have HB2 := Lib.hid ((HB1.out.set 0 (by simp) (.int .i64 (a - n)) rfl).drew)
    have HC2 := Lib.hid ((HC1.out.far (b' := sb) (i := 0) (u := .int .i64 (a - n)) (Ne.symm hne1)).drew)
    have HD2 := Lib.hid ((HD1.out.far (b' := sb) (i := 0) (u := .int .i64 (a - n)) (Ne.symm hne2)).drew)
    have HT2 := Lib.hid ((HBT.out.set (i := 0) sb (.inl rfl) (.int .i64 (a - n))).drew)
    obtain ⟨W2, hW2⟩ : ∃ W2, (W1.setCell ⟨sb, 0, none⟩ (.int .i64 (a - n))).drew = W2 := ⟨_, rfl⟩
    rw [hW2] at HB2 HC2 HD2 HT2 ⊢
    clear hW2 b0 f0 c0 HB1 HC1 HD1 HBT
    have b1 := HB2.out.cell (i := 1) (v := .int .i64 b) rfl
    have f1 := HB2.out.fr (i := 1)
    have c0 := HC2.out.cell (i := 0) (v := .int .i64 n) rfl
    have d0 := HD2.out.cell (i := 0) (v := .int .i64 k) rfl
    go_wp2
    go_region
    have HB3 := Lib.hid ((HB2.out.set 1 (by simp) (.int .i64 (b + (n - k))) rfl).drew)
    have HD3 := Lib.hid ((HD2.out.far (b' := sb) (i := 1) (u := .int .i64 (b + (n - k))) (Ne.symm hne2)).drew)
    have HT3 := Lib.hid ((HT2.out.set (i := 1) sb (.inl rfl) (.int .i64 (b + (n - k)))).drew)
    obtain ⟨W3, hW3⟩ : ∃ W3, (W2.setCell ⟨sb, 1, none⟩ (.int .i64 (b + (n - k)))).drew = W3 := ⟨_, rfl⟩
    rw [hW3] at HB3 HD3 HT3 ⊢
    clear hW3 b1 f1 c0 d0 HB2 HC2 HD2 HT2
    have b5 := HB3.out.cell (i := 5) (v := .int .i64 f) rfl
    have f5 := HB3.out.fr (i := 5)
    have d0 := HD3.out.cell (i := 0) (v := .int .i64 k) rfl
    have HB4 := Lib.hid ((HB3.out.set 5 (by simp) (.int .i64 (f + k)) rfl).drew)
    have HT4 := Lib.hid ((HT3.out.set (i := 5) sb (.inl rfl) (.int .i64 (f + k))).drew)
    go_wp2
    go_region
    all_goals
      go_wp2
      go_ret
      exact ⟨by rw [HV.out]; rfl, by rw [HV.out]; exact HB4.out, HT4.out⟩
set_option maxHeartbeats 1000000 in
theorem dry_any (bb base : Nat) (l : List St) (room : Int) (iv : Value) (kind n k : Int) (w : World) (hb : BookAt w bb base l room iv) (hbase : base ≤ w.heap.size) (hl : l.length ≤ 1000000) (hok : AllOk l) :
    Calls Try.prog 45 #[.pointer (some ⟨bb, 0, none⟩), .int .i64 kind, .int .i64 n, .int .i64 k] w (BookTo w bb base (coF l kind n (dryF n k)) room iv) := by
  have N1 := (Blk.new w #[.int .i64 n] 3).alloc (.cells #[.int .i64 k] 3)
  have K1 := Blk.newI (w.alloc (.cells #[.int .i64 n] 3)) (w.heap.size + 1) #[.int .i64 k] 3 (by simp)
  have n0 := N1.cell (i := 0) (v := .int .i64 n) rfl
  have hs : base ≤ ((w.alloc (.cells #[.int .i64 n] 3)).alloc (.cells #[.int .i64 k] 3)).heap.size := by simp; omega
  have HC := Lib.hid (carryOut_any 85 #[.pointer (some ⟨w.heap.size, 0, none⟩), .pointer (some ⟨w.heap.size + 1, 0, none⟩)] bb base l room iv kind n (dryF n k) ((w.alloc (.cells #[.int .i64 n] 3)).alloc (.cells #[.int .i64 k] 3)) (enters_of Try.func85 (by kernel_rfl) rfl) ((hb.alloc _).alloc _) hs hl
    (fun h1 h2 W hW sb hsb hB => dry1_any _ n k (hok.at h1) (inB_parts h2) sb w.heap.size (w.heap.size + 1) W hB (N1.past hW) (K1.past hW)))
  clear N1 K1 hb hs
  go_enter Try.func45, Try.ntmps45
  go_wp2_with fail
  refine HC.out.mono ?_
  rintro e w2 ⟨rfl, h2⟩
  have HH : Hid (BookTo w bb base (coF l kind n (dryF n k)) room iv (.returned (.int .i64 (coF l kind n (dryF n k)).1)) w2) := Lib.hid (BookTo.of_alloc (BookTo.of_alloc ⟨rfl, h2⟩))
  clear h2 HC
  go_wp2
  go_ret
  exact HH.out
def St.wares (s : St) : List Value := [.int .i64 s.wet, .int .i64 s.dry, .int .i64 s.burn, .int .i64 s.fired, .int .i64 s.laid, .int .i64 s.brk, .int .i64 s.miss]
def countF (l : List St) (kind : Int) : St × Int := if inB kind 0 ((l.length : Int) - 1) = true then (l[kind.toNat]?.getD St.zero, 0) else (St.zero, 7)
theorem blk_set7 {W : World} {b : Nat} {T : TypeId} {v0 v1 v2 v3 v4 v5 v6 : Value} (h : Blk W b #[v0, v1, v2, v3, v4, v5, v6] T) (x0 x1 x2 x3 x4 x5 x6 : Int) :
    Blk (((((((W.setCell ⟨b, 0, none⟩ (.int .i64 x0)).setCell ⟨b, 1, none⟩ (.int .i64 x1)).setCell ⟨b, 2, none⟩ (.int .i64 x2)).setCell ⟨b, 3, none⟩ (.int .i64 x3)).setCell ⟨b, 4, none⟩ (.int .i64 x4)).setCell ⟨b, 5, none⟩ (.int .i64 x5)).setCell ⟨b, 6, none⟩ (.int .i64 x6)) b #[.int .i64 x0, .int .i64 x1, .int .i64 x2, .int .i64 x3, .int .i64 x4, .int .i64 x5, .int .i64 x6] T := by
  have h8 := ((((((h.set 0 (by simp) (.int .i64 x0) rfl).set 1 (by simp) (.int .i64 x1) rfl).set 2 (by simp) (.int .i64 x2) rfl).set 3 (by simp) (.int .i64 x3) rfl).set 4 (by simp) (.int .i64 x4) rfl).set 5 (by simp) (.int .i64 x5) rfl).set 6 (by simp) (.int .i64 x6) rfl
  simpa using h8
theorem below_set7 {B b : Nat} {A W : World} (h : Below B A W) (hb : B ≤ b) (x0 x1 x2 x3 x4 x5 x6 : Int) :
    Below B A (((((((W.setCell ⟨b, 0, none⟩ (.int .i64 x0)).setCell ⟨b, 1, none⟩ (.int .i64 x1)).setCell ⟨b, 2, none⟩ (.int .i64 x2)).setCell ⟨b, 3, none⟩ (.int .i64 x3)).setCell ⟨b, 4, none⟩ (.int .i64 x4)).setCell ⟨b, 5, none⟩ (.int .i64 x5)).setCell ⟨b, 6, none⟩ (.int .i64 x6)) :=
  ((((((h.setCell (p := ⟨b, 0, none⟩) hb _).setCell (p := ⟨b, 1, none⟩) hb _).setCell (p := ⟨b, 2, none⟩) hb _).setCell (p := ⟨b, 3, none⟩) hb _).setCell (p := ⟨b, 4, none⟩) hb _).setCell (p := ⟨b, 5, none⟩) hb _).setCell (p := ⟨b, 6, none⟩) hb _
set_option maxHeartbeats 1000000 in
theorem count_book (bb base : Nat) (l : List St) (room : Int) (iv : Value) (kind : Int) (w : World) (hb : BookAt w bb base l room iv) (hl : l.length ≤ 1000000) :
    Calls Try.prog 29 #[.pointer (some ⟨bb, 0, none⟩), .int .i64 kind] w fun e w' => e = .returned (.tuple #[.agg (countF l kind).1.wares.toArray, .int .i64 (countF l kind).2]) ∧ Below w.heap.size w w' := by
  have Z1 := Blk.new w #[.int .i64 0, .int .i64 0, .int .i64 0, .int .i64 0, .int .i64 0, .int .i64 0, .int .i64 0] 63
  have BB := (Below.refl _ w).alloc (Nat.le_refl _) (.cells #[.int .i64 0, .int .i64 0, .int .i64 0, .int .i64 0, .int .i64 0, .int .i64 0, .int .i64 0] 63)
  have HH := Lib.hid (has_any bb base l room iv kind _ (hb.past BB) hl)
  obtain ⟨f1, hf1⟩ : ∃ f1, inB kind 0 ((l.length : Int) - 1) = f1 := ⟨_, rfl⟩
  have HCO : Hid (countF l kind = if inB kind 0 ((l.length : Int) - 1) = true then (l[kind.toNat]?.getD St.zero, 0) else (St.zero, 7)) := Lib.hid rfl
  rw [hf1] at HH HCO
  have HF1 := Lib.hid hf1
  have HB0 := Lib.hid (hb.past BB)
  have HBB := Lib.hid BB
  have HZ1 := Lib.hid Z1
  clear hf1 hb BB Z1
  go_enter Try.func29, Try.ntmps29
  go_wp2_with fail
  refine HH.out.mono ?_
  rintro x w2 ⟨rfl, hb2⟩
  have HB2 := Lib.hid (HB0.out.past hb2)
  have HW2 := Lib.hid (HBB.out.trans (hb2.mono HBB.out.size))
  have Z2 := HZ1.out.past hb2
  have z0 := Z2.cell (i := 0) (v := .int .i64 0) rfl
  have y0 := Z2.fr (i := 0)
  have z1 := Z2.cell (i := 1) (v := .int .i64 0) rfl
  have y1 := Z2.fr (i := 1)
  have z2 := Z2.cell (i := 2) (v := .int .i64 0) rfl
  have y2 := Z2.fr (i := 2)
  have z3 := Z2.cell (i := 3) (v := .int .i64 0) rfl
  have y3 := Z2.fr (i := 3)
  have z4 := Z2.cell (i := 4) (v := .int .i64 0) rfl
  have y4 := Z2.fr (i := 4)
  have z5 := Z2.cell (i := 5) (v := .int .i64 0) rfl
  have y5 := Z2.fr (i := 5)
  have z6 := Z2.cell (i := 6) (v := .int .i64 0) rfl
  have y6 := Z2.fr (i := 6)
  have HZ2 := Lib.hid Z2
  clear hb2 Z2 HZ1 HH HB0 HBB
  cases f1
  · have HV : Hid (countF l kind = (St.zero, 7)) := Lib.hid (by rw [HCO.out]; rfl)
    have HZ8 := Lib.hid (blk_set7 HZ2.out 0 0 0 0 0 0 0)
    have HB8 := Lib.hid (below_set7 (b := w.heap.size) HW2.out (by omega) 0 0 0 0 0 0 0)
    clear HCO
    go_wp2
    obtain ⟨W8, hW8⟩ : ∃ W8, (((((((w2.setCell ⟨w.heap.size, 0, none⟩ (.int .i64 0)).setCell ⟨w.heap.size, 1, none⟩ (.int .i64 0)).setCell ⟨w.heap.size, 2, none⟩ (.int .i64 0)).setCell ⟨w.heap.size, 3, none⟩ (.int .i64 0)).setCell ⟨w.heap.size, 4, none⟩ (.int .i64 0)).setCell ⟨w.heap.size, 5, none⟩ (.int .i64 0)).setCell ⟨w.heap.size, 6, none⟩ (.int .i64 0)) = W8 := ⟨_, rfl⟩
    rw [hW8] at HZ8 HB8 ⊢
    have g0 := HZ8.out.cell (i := 0) (v := .int .i64 0) rfl
    have g1 := HZ8.out.cell (i := 1) (v := .int .i64 0) rfl
    have g2 := HZ8.out.cell (i := 2) (v := .int .i64 0) rfl
    have g3 := HZ8.out.cell (i := 3) (v := .int .i64 0) rfl
    have g4 := HZ8.out.cell (i := 4) (v := .int .i64 0) rfl
    have g5 := HZ8.out.cell (i := 5) (v := .int .i64 0) rfl
    have g6 := HZ8.out.cell (i := 6) (v := .int .i64 0) rfl
    refine bodyPost_ret (v := .tuple #[.agg #[.int .i64 0, .int .i64 0, .int .i64 0, .int .i64 0, .int .i64 0, .int .i64 0, .int .i64 0], .int .i64 7]) ?_ rfl ?_
    · simp [results, Try.results29, go_sem, g0, g1, g2, g3, g4, g5, g6]
    · exact ⟨by rw [HV.out]; rfl, HB8.out⟩
  · have hkr : 0 ≤ kind ∧ kind ≤ (l.length : Int) - 1 := inB_parts HF1.out
    obtain ⟨k, rfl⟩ : ∃ k : Nat, kind = k := ⟨kind.toNat, by omega⟩
    have hk0 : (0 : Int) ≤ (k : Int) := by omega
    have hk1 : (k : Int) < (l.length : Int) := by omega
    have hk : k < l.length := by omega
    obtain ⟨s, hs⟩ : ∃ s, l[(k : Int).toNat]?.getD St.zero = s := ⟨_, rfl⟩
    have hsk : l[k]?.getD St.zero = s := by rw [← hs]; simp
    rw [hs] at HCO
    obtain ⟨sv, h1, h2⟩ := HB2.out
    obtain ⟨gq, cap, rfl⟩ : ∃ gq cap, sv = .slice (some ⟨gq, 0, none⟩) l.length cap := by
      rcases h2.2 with ⟨_, h⟩ | ⟨gq, cap, cur, rfl, _⟩
      · omega
      · exact ⟨gq, cap, rfl⟩
    have c0 := h1.cell (i := 0) (v := .slice (some ⟨gq, 0, none⟩) l.length cap) rfl
    have hg : ∀ i, i < 8 → w2.cell? ⟨gq, k * 8 + i, none⟩ = s.vals[i]? := fun i hi => by
      rw [h2.cellAt (k * 8 + i) (by omega), flatS_get l k i hk hi, hsk]
    obtain ⟨a, b, c, d, e, f, gg, h⟩ := s
    have b0 : w2.cell? ⟨gq, k * 8, none⟩ = some (.int .i64 a) := hg 0 (by omega)
    have b1 : w2.cell? ⟨gq, k * 8 + 1, none⟩ = some (.int .i64 b) := hg 1 (by omega)
    have b2 : w2.cell? ⟨gq, k * 8 + 2, none⟩ = some (.int .i64 c) := hg 2 (by omega)
    have b3 : w2.cell? ⟨gq, k * 8 + 3, none⟩ = some (.int .i64 d) := hg 3 (by omega)
    have b4 : w2.cell? ⟨gq, k * 8 + 4, none⟩ = some (.int .i64 e) := hg 4 (by omega)
    have b5 : w2.cell? ⟨gq, k * 8 + 5, none⟩ = some (.int .i64 f) := hg 5 (by omega)
    have b6 : w2.cell? ⟨gq, k * 8 + 6, none⟩ = some (.int .i64 gg) := hg 6 (by omega)
    have HV : Hid (countF l k = (⟨a, b, c, d, e, f, gg, h⟩, 0)) := Lib.hid (by rw [HCO.out]; rfl)
    have HZ8 := Lib.hid (blk_set7 HZ2.out a b c d e f gg)
    have HB8 := Lib.hid (below_set7 (b := w.heap.size) HW2.out (by omega) a b c d e f gg)
    clear hg h1 h2 HCO hs hsk HB2
    go_wp2
    obtain ⟨W8, hW8⟩ : ∃ W8, (((((((w2.setCell ⟨w.heap.size, 0, none⟩ (.int .i64 a)).setCell ⟨w.heap.size, 1, none⟩ (.int .i64 b)).setCell ⟨w.heap.size, 2, none⟩ (.int .i64 c)).setCell ⟨w.heap.size, 3, none⟩ (.int .i64 d)).setCell ⟨w.heap.size, 4, none⟩ (.int .i64 e)).setCell ⟨w.heap.size, 5, none⟩ (.int .i64 f)).setCell ⟨w.heap.size, 6, none⟩ (.int .i64 gg)) = W8 := ⟨_, rfl⟩
    rw [hW8] at HZ8 HB8 ⊢
    have g0 := HZ8.out.cell (i := 0) (v := .int .i64 a) rfl
    have g1 := HZ8.out.cell (i := 1) (v := .int .i64 b) rfl
    have g2 := HZ8.out.cell (i := 2) (v := .int .i64 c) rfl
    have g3 := HZ8.out.cell (i := 3) (v := .int .i64 d) rfl
    have g4 := HZ8.out.cell (i := 4) (v := .int .i64 e) rfl
    have g5 := HZ8.out.cell (i := 5) (v := .int .i64 f) rfl
    have g6 := HZ8.out.cell (i := 6) (v := .int .i64 gg) rfl
    refine bodyPost_ret (v := .tuple #[.agg #[.int .i64 a, .int .i64 b, .int .i64 c, .int .i64 d, .int .i64 e, .int .i64 f, .int .i64 gg], .int .i64 0]) ?_ rfl ?_
    · simp [results, Try.results29, go_sem, g0, g1, g2, g3, g4, g5, g6]
    · exact ⟨by rw [HV.out]; rfl, HB8.out⟩
end Go.Proofs.Ytopnlcjbklmicaa
