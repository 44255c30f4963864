import Derived.Test.YtopnlcjbklmicaaK34
import Derived.WalkKit
import Derived.WalkSpells
import Derived.WalkLawsBesides
import Derived.Deep.QuietTactic
import Derived.BigQuiet
import Derived.Lib.Hide
import Derived.WalkSmall
import Derived.Maps.OwnSet
import Derived.Maps.RangeWalk
import Derived.Deep.RegionWith
import Derived.Deep.RegionHeld3
import Derived.Deep.DrawnRows
import Derived.Deep.DeepCutAuto
import Derived.OneCell
import Derived.KernelRfl
import Derived.Laws.StructEq
import Derived.StillTailTactics
import Derived.Laws.Externs
import Derived.RangeFuncBox
import Derived.Outline
import Derived.RangeFuncNested
import Derived.RangeFuncBound
import Derived.RangeFuncCalls
import Derived.RangeFuncLeaves
import Derived.Shelf.RegionOpen
import Derived.OwnWalkIn
import Derived.TacticsInMore
import Derived.LoopNIn
import Derived.LoopIn
import Derived.Test.YtopnlcjbklmicaaProg
namespace Go.Proofs.Ytopnlcjbklmicaa
open Go.RowKit Go.Maps Go.Shelf
set_option linter.unusedVariables false
set_option linter.unusedSimpArgs false

def layF (n : Int) (s : St) : Int × St := (0, { s with fired := s.fired - n, laid := s.laid + n })
set_option maxHeartbeats 1000000 in
theorem lay1_any (s : St) (n : Int) (hs : s.Ok) (hn : 0 ≤ n ∧ n ≤ 1000000000) (sb nb : Nat) (w : World) (hb : Blk w sb s.vals.toArray 133) (hc : Blk w nb #[.int .i64 n] 3) :
    Calls Try.prog 89 #[.pointer (some ⟨sb, 0, none⟩), .pointer (some ⟨nb, 0, none⟩)] w fun e w' => e = .returned (.int .i64 (layF n s).1) ∧ Blk w' sb (layF n s).2.vals.toArray 133 ∧ But sb sb w w' := by
  have hne1 : sb ≠ nb := hb.ne hc (by decide)
  obtain ⟨a, b, c, d, e, f, g, h⟩ := s
  obtain ⟨h1, h2, h3, h4, h5, h6, h7⟩ := hs
  have HV : Hid (layF n ⟨a, b, c, d, e, f, g, h⟩ = (0, ⟨a, b, c, d - n, e + n, f, g, h⟩)) := Lib.hid rfl
  dsimp only [St.vals] at *
  have w0 : IntKind.i64.wrap (d - n) = d - n := wrap_id (by omega) (by omega)
  have w1 : IntKind.i64.wrap (e + n) = e + n := wrap_id (by omega) (by omega)
  have HB0 := Lib.hid hb
  have HC0 := Lib.hid hc
  have HT0 := Lib.hid (But.refl sb sb w)
  clear hb hc h1 h2 h3 h4 h5 h6 h7 hn
  go_enter Try.func89, Try.ntmps89
  have b0 := HB0.out.cell (i := 3) (v := .int .i64 d) rfl
  have f0 := HB0.out.fr (i := 3)
  have c0 := HC0.out.cell (i := 0) (v := .int .i64 n) rfl
  have HB1 := Lib.hid ((HB0.out.set 3 (by simp) (.int .i64 (d - n)) rfl).drew)
  have HC1 := Lib.hid ((HC0.out.far (b' := sb) (i := 3) (u := (.int .i64 (d - n))) (Ne.symm hne1)).drew)
  have HT1 := Lib.hid ((HT0.out.set (i := 3) sb (.inl rfl) (.int .i64 (d - n))).drew)
  go_wp2
  go_region
  obtain ⟨W1, hW1⟩ : ∃ W1, (w.setCell ⟨sb, 3, none⟩ (.int .i64 (d - n))).drew = W1 := ⟨_, rfl⟩
  rw [hW1] at HB1 HC1 HT1 ⊢
  clear hW1 b0 f0 c0 HB0 HC0 HT0
  have b0 := HB1.out.cell (i := 4) (v := .int .i64 e) rfl
  have f0 := HB1.out.fr (i := 4)
  have c0 := HC1.out.cell (i := 0) (v := .int .i64 n) rfl
  have HB2 := Lib.hid ((HB1.out.set 4 (by simp) (.int .i64 (e + n)) rfl).drew)
  have HC2 := Lib.hid ((HC1.out.far (b' := sb) (i := 4) (u := (.int .i64 (e + n))) (Ne.symm hne1)).drew)
  have HT2 := Lib.hid ((HT1.out.set (i := 4) sb (.inl rfl) (.int .i64 (e + n))).drew)
  go_wp2
  go_region
  all_goals
    go_wp2
    go_ret
    exact ⟨by rw [HV.out]; rfl, by rw [HV.out]; exact HB2.out, HT2.out⟩
set_option maxHeartbeats 1000000 in
theorem lay_any (bb base : Nat) (l : List St) (room : Int) (iv : Value) (kind n : Int) (w : World) (hb : BookAt w bb base l room iv) (hbase : base ≤ w.heap.size) (hl : l.length ≤ 1000000) (hok : AllOk l) :
    Calls Try.prog 48 #[.pointer (some ⟨bb, 0, none⟩), .int .i64 kind, .int .i64 n] w (BookTo w bb base (coF l kind n (layF n)) room iv) := by
  have N1 := Blk.new w #[.int .i64 n] 3
  have n0 := N1.cell (i := 0) (v := .int .i64 n) rfl
  have hs : base ≤ (w.alloc (.cells #[.int .i64 n] 3)).heap.size := by simp; omega
  have HC := Lib.hid (carryOut_any 89 #[.pointer (some ⟨w.heap.size, 0, none⟩)] bb base l room iv kind n (layF n) (w.alloc (.cells #[.int .i64 n] 3)) (enters_of Try.func89 (by kernel_rfl) rfl) (hb.alloc _) hs hl
    (fun h1 h2 W hW sb hsb hB => lay1_any _ n (hok.at h1) (inB_parts h2) sb w.heap.size W hB (N1.past hW)))
  clear N1 hb hs
  go_enter Try.func48, Try.ntmps48
  go_wp2_with fail
  refine HC.out.mono ?_
  rintro e w2 ⟨rfl, h2⟩
  have HH : Hid (BookTo w bb base (coF l kind n (layF n)) room iv (.returned (.int .i64 (coF l kind n (layF n)).1)) w2) := Lib.hid (BookTo.of_alloc ⟨rfl, h2⟩)
  clear h2 HC
  go_wp2
  go_ret
  exact HH.out
def breakF (n : Int) (s : St) : Int × St := (0, { s with laid := s.laid - n, brk := s.brk + n, miss := s.miss + n })
set_option maxHeartbeats 1000000 in
theorem break1_any (s : St) (n : Int) (hs : s.Ok) (hn : 0 ≤ n ∧ n ≤ 1000000000) (sb nb : Nat) (w : World) (hb : Blk w sb s.vals.toArray 133) (hc : Blk w nb #[.int .i64 n] 3) :
    Calls Try.prog 90 #[.pointer (some ⟨sb, 0, none⟩), .pointer (some ⟨nb, 0, none⟩)] w fun e w' => e = .returned (.int .i64 (breakF n s).1) ∧ Blk w' sb (breakF n s).2.vals.toArray 133 ∧ But sb sb w w' := by
  have hne1 : sb ≠ nb := hb.ne hc (by decide)
  obtain ⟨a, b, c, d, e, f, g, h⟩ := s
  obtain ⟨h1, h2, h3, h4, h5, h6, h7⟩ := hs
  have HV : Hid (breakF n ⟨a, b, c, d, e, f, g, h⟩ = (0, ⟨a, b, c, d, e - n, f + n, g + n, h⟩)) := Lib.hid rfl
  dsimp only [St.vals] at *
  have w0 : IntKind.i64.wrap (e - n) = e - n := wrap_id (by omega) (by omega)
  have w1 : IntKind.i64.wrap (f + n) = f + n := wrap_id (by omega) (by omega)
  have w2 : IntKind.i64.wrap (g + n) = g + n := wrap_id (by omega) (by omega)
  have HB0 := Lib.hid hb
  have HC0 := Lib.hid hc
  have HT0 := Lib.hid (But.refl sb sb w)
  clear hb hc h1 h2 h3 h4 h5 h6 h7 hn
  go_enter Try.func90, Try.ntmps90
  have b0 := HB0.out.cell (i := 4) (v := .int .i64 e) rfl
  have f0 := HB0.out.fr (i := 4)
  have c0 := HC0.out.cell (i := 0) (v := .int .i64 n) rfl
  have HB1 := Lib.hid ((HB0.out.set 4 (by simp) (.int .i64 (e - n)) rfl).drew)
  have HC1 := Lib.hid ((HC0.out.far (b' := sb) (i := 4) (u := (.int .i64 (e - n))) (Ne.symm hne1)).drew)
  have HT1 := Lib.hid ((HT0.out.set (i := 4) sb (.inl rfl) (.int .i64 (e - n))).drew)
  go_wp2
  go_region
  obtain ⟨W1, hW1⟩ : ∃ W1, (w.setCell ⟨sb, 4, none⟩ (.int .i64 (e - n))).drew = W1 := ⟨_, rfl⟩
  rw [hW1] at HB1 HC1 HT1 ⊢
  clear hW1 b0 f0 c0 HB0 HC0 HT0
  have b0 := HB1.out.cell (i := 5) (v := .int .i64 f) rfl
  have f0 := HB1.out.fr (i := 5)
  have c0 := HC1.out.cell (i := 0) (v := .int .i64 n) rfl
  have HB2 := Lib.hid ((HB1.out.set 5 (by simp) (.int .i64 (f + n)) rfl).drew)
  have HC2 := Lib.hid ((HC1.out.far (b' := sb) (i := 5) (u := (.int .i64 (f + n))) (Ne.symm hne1)).drew)
  have HT2 := Lib.hid ((HT1.out.set (i := 5) sb (.inl rfl) (.int .i64 (f + n))).drew)
  go_wp2
  go_region
  obtain ⟨W2, hW2⟩ : ∃ W2, (W1.setCell ⟨sb, 5, none⟩ (.int .i64 (f + n))).drew = W2 := ⟨_, rfl⟩
  rw [hW2] at HB2 HC2 HT2 ⊢
  clear hW2 b0 f0 c0 HB1 HC1 HT1
  have b0 := HB2.out.cell (i := 6) (v := .int .i64 g) rfl
  have f0 := HB2.out.fr (i := 6)
  have c0 := HC2.out.cell (i := 0) (v := .int .i64 n) rfl
  have HB3 := Lib.hid ((HB2.out.set 6 (by simp) (.int .i64 (g + n)) rfl).drew)
  have HC3 := Lib.hid ((HC2.out.far (b' := sb) (i := 6) (u := (.int .i64 (g + n))) (Ne.symm hne1)).drew)
  have HT3 := Lib.hid ((HT2.out.set (i := 6) sb (.inl rfl) (.int .i64 (g + n))).drew)
  go_wp2
  go_region
  all_goals
    go_wp2
    go_ret
    exact ⟨by rw [HV.out]; rfl, by rw [HV.out]; exact HB3.out, HT3.out⟩
set_option maxHeartbeats 1000000 in
theorem break_any (bb base : Nat) (l : List St) (room : Int) (iv : Value) (kind n : Int) (w : World) (hb : BookAt w bb base l room iv) (hbase : base ≤ w.heap.size) (hl : l.length ≤ 1000000) (hok : AllOk l) :
    Calls Try.prog 49 #[.pointer (some ⟨bb, 0, none⟩), .int .i64 kind, .int .i64 n] w (BookTo w bb base (coF l kind n (breakF n)) room iv) := by
  have N1 := Blk.new w #[.int .i64 n] 3
  have n0 := N1.cell (i := 0) (v := .int .i64 n) rfl
  have hs : base ≤ (w.alloc (.cells #[.int .i64 n] 3)).heap.size := by simp; omega
  have HC := Lib.hid (carryOut_any 90 #[.pointer (some ⟨w.heap.size, 0, none⟩)] bb base l room iv kind n (breakF n) (w.alloc (.cells #[.int .i64 n] 3)) (enters_of Try.func90 (by kernel_rfl) rfl) (hb.alloc _) hs hl
    (fun h1 h2 W hW sb hsb hB => break1_any _ n (hok.at h1) (inB_parts h2) sb w.heap.size W hB (N1.past hW)))
  clear N1 hb hs
  go_enter Try.func49, Try.ntmps49
  go_wp2_with fail
  refine HC.out.mono ?_
  rintro e w2 ⟨rfl, h2⟩
  have HH : Hid (BookTo w bb base (coF l kind n (breakF n)) room iv (.returned (.int .i64 (coF l kind n (breakF n)).1)) w2) := Lib.hid (BookTo.of_alloc ⟨rfl, h2⟩)
  clear h2 HC
  go_wp2
  go_ret
  exact HH.out
def replaceF (n : Int) (s : St) : Int × St := (0, { s with fired := s.fired - n, miss := s.miss - n, laid := s.laid + n })
set_option maxHeartbeats 1000000 in
theorem replace1_any (s : St) (n : Int) (hs : s.Ok) (hn : 0 ≤ n ∧ n ≤ 1000000000) (sb nb : Nat) (w : World) (hb : Blk w sb s.vals.toArray 133) (hc : Blk w nb #[.int .i64 n] 3) :
    Calls Try.prog 91 #[.pointer (some ⟨sb, 0, none⟩), .pointer (some ⟨nb, 0, none⟩)] w fun e w' => e = .returned (.int .i64 (replaceF n s).1) ∧ Blk w' sb (replaceF n s).2.vals.toArray 133 ∧ But sb sb w w' := by
  have hne1 : sb ≠ nb := hb.ne hc (by decide)
  obtain ⟨a, b, c, d, e, f, g, h⟩ := s
  obtain ⟨h1, h2, h3, h4, h5, h6, h7⟩ := hs
  have HV : Hid (replaceF n ⟨a, b, c, d, e, f, g, h⟩ = (0, ⟨a, b, c, d - n, e + n, f, g - n, h⟩)) := Lib.hid rfl
  dsimp only [St.vals] at *
  have w0 : IntKind.i64.wrap (d - n) = d - n := wrap_id (by omega) (by omega)
  have w1 : IntKind.i64.wrap (g - n) = g - n := wrap_id (by omega) (by omega)
  have w2 : IntKind.i64.wrap (e + n) = e + n := wrap_id (by omega) (by omega)
  have HB0 := Lib.hid hb
  have HC0 := Lib.hid hc
  have HT0 := Lib.hid (But.refl sb sb w)
  clear hb hc h1 h2 h3 h4 h5 h6 h7 hn
  go_enter Try.func91, Try.ntmps91
  have b0 := HB0.out.cell (i := 3) (v := .int .i64 d) rfl
  have f0 := HB0.out.fr (i := 3)
  have c0 := HC0.out.cell (i := 0) (v := .int .i64 n) rfl
  have HB1 := Lib.hid ((HB0.out.set 3 (by simp) (.int .i64 (d - n)) rfl).drew)
  have HC1 := Lib.hid ((HC0.out.far (b' := sb) (i := 3) (u := (.int .i64 (d - n))) (Ne.symm hne1)).drew)
  have HT1 := Lib.hid ((HT0.out.set (i := 3) sb (.inl rfl) (.int .i64 (d - n))).drew)
  go_wp2
  go_region
  obtain ⟨W1, hW1⟩ : ∃ W1, (w.setCell ⟨sb, 3, none⟩ (.int .i64 (d - n))).drew = W1 := ⟨_, rfl⟩
  rw [hW1] at HB1 HC1 HT1 ⊢
  clear hW1 b0 f0 c0 HB0 HC0 HT0
  have b0 := HB1.out.cell (i := 6) (v := .int .i64 g) rfl
  have f0 := HB1.out.fr (i := 6)
  have c0 := HC1.out.cell (i := 0) (v := .int .i64 n) rfl
  have HB2 := Lib.hid ((HB1.out.set 6 (by simp) (.int .i64 (g - n)) rfl).drew)
  have HC2 := Lib.hid ((HC1.out.far (b' := sb) (i := 6) (u := (.int .i64 (g - n))) (Ne.symm hne1)).drew)
  have HT2 := Lib.hid ((HT1.out.set (i := 6) sb (.inl rfl) (.int .i64 (g - n))).drew)
  go_wp2
  go_region
  obtain ⟨W2, hW2⟩ : ∃ W2, (W1.setCell ⟨sb, 6, none⟩ (.int .i64 (g - n))).drew = W2 := ⟨_, rfl⟩
  rw [hW2] at HB2 HC2 HT2 ⊢
  clear hW2 b0 f0 c0 HB1 HC1 HT1
  have b0 := HB2.out.cell (i := 4) (v := .int .i64 e) rfl
  have f0 := HB2.out.fr (i := 4)
  have c0 := HC2.out.cell (i := 0) (v := .int .i64 n) rfl
  have HB3 := Lib.hid ((HB2.out.set 4 (by simp) (.int .i64 (e + n)) rfl).drew)
  have HC3 := Lib.hid ((HC2.out.far (b' := sb) (i := 4) (u := (.int .i64 (e + n))) (Ne.symm hne1)).drew)
  have HT3 := Lib.hid ((HT2.out.set (i := 4) sb (.inl rfl) (.int .i64 (e + n))).drew)
  go_wp2
  go_region
  all_goals
    go_wp2
    go_ret
    exact ⟨by rw [HV.out]; rfl, by rw [HV.out]; exact HB3.out, HT3.out⟩
set_option maxHeartbeats 1000000 in
theorem replace_any (bb base : Nat) (l : List St) (room : Int) (iv : Value) (kind n : Int) (w : World) (hb : BookAt w bb base l room iv) (hbase : base ≤ w.heap.size) (hl : l.length ≤ 1000000) (hok : AllOk l) :
    Calls Try.prog 50 #[.pointer (some ⟨bb, 0, none⟩), .int .i64 kind, .int .i64 n] w (BookTo w bb base (coF l kind n (replaceF n)) room iv) := by
  have N1 := Blk.new w #[.int .i64 n] 3
  have n0 := N1.cell (i := 0) (v := .int .i64 n) rfl
  have hs : base ≤ (w.alloc (.cells #[.int .i64 n] 3)).heap.size := by simp; omega
  have HC := Lib.hid (carryOut_any 91 #[.pointer (some ⟨w.heap.size, 0, none⟩)] bb base l room iv kind n (replaceF n) (w.alloc (.cells #[.int .i64 n] 3)) (enters_of Try.func91 (by kernel_rfl) rfl) (hb.alloc _) hs hl
    (fun h1 h2 W hW sb hsb hB => replace1_any _ n (hok.at h1) (inB_parts h2) sb w.heap.size W hB (N1.past hW)))
  clear N1 hb hs
  go_enter Try.func50, Try.ntmps50
  go_wp2_with fail
  refine HC.out.mono ?_
  rintro e w2 ⟨rfl, h2⟩
  have HH : Hid (BookTo w bb base (coF l kind n (replaceF n)) room iv (.returned (.int .i64 (coF l kind n (replaceF n)).1)) w2) := Lib.hid (BookTo.of_alloc ⟨rfl, h2⟩)
  clear h2 HC
  go_wp2
  go_ret
  exact HH.out
end Go.Proofs.Ytopnlcjbklmicaa
