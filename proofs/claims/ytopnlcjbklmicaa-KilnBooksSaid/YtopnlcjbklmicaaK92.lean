import Derived.Test.YtopnlcjbklmicaaK91
import Derived.Test.YtopnlcjbklmicaaK38
import Derived.Lib.SliceRun
import Derived.WalkKit
import Derived.WalkSpells
import Derived.WalkLawsBesides
import Derived.Deep.QuietTactic
import Derived.BigQuiet
import Derived.Lib.Hide
import Derived.WalkSmall
import Derived.Maps.OwnSet
import Derived.Maps.RangeWalk
import Derived.Deep.RegionWith
import Derived.Deep.RegionHeld3
import Derived.Deep.DrawnRows
import Derived.Deep.DeepCutAuto
import Derived.OneCell
import Derived.KernelRfl
import Derived.Laws.StructEq
import Derived.StillTailTactics
import Derived.Laws.Externs
import Derived.RangeFuncBox
import Derived.Outline
import Derived.RangeFuncNested
import Derived.RangeFuncBound
import Derived.RangeFuncCalls
import Derived.RangeFuncLeaves
import Derived.Shelf.RegionOpen
import Derived.OwnWalkIn
import Derived.TacticsInMore
import Derived.LoopNIn
import Derived.LoopIn
import Derived.Test.YtopnlcjbklmicaaProg
namespace Go.Proofs.Ytopnlcjbklmicaa
open Go.RowKit Go.Maps Go.Shelf
set_option linter.unusedVariables false
set_option linter.unusedSimpArgs false
theorem undBatches : Try.prog.underlying 48 = some (.slice 111) := by kernel_rfl
theorem infoBatch : (Try.prog.info? 111).map (fun i => (i.zero, i.size, i.bytes)) = some (some (.agg #[.int .i64 0, .int .i64 0]), 2, 16) := by kernel_rfl
/-- What is inside the kiln: a row of the book's own. -/
def InsAt (w : World) (base : Nat) (iv : Value) (L : BatL) : Prop := w.ownsRow base 111 2 iv L.length (flatQ L)
theorem InsAt.nil (w : World) (base : Nat) : InsAt w base (.slice none 0 0) [] := World.ownsRow_nil _ _ _ _
theorem InsAt.past {w w' : World} {base : Nat} {iv : Value} {L : BatL} (h : InsAt w base iv L) (hb : Below w.heap.size w w') : InsAt w' base iv L :=
  World.ownsRow.kept (row := none) h ⟨hb.os, hb.tape, hb.output, hb.size, fun j hj _ => hb.block j hj⟩ (by cases hv : iv.ownBlock <;> simp)
theorem isFired_any (bb base base2 : Nat) (l : List St) (room : Int) (iv : Value) (L : BatL) (w : World) (hb : BookAt w bb base l room iv) (hi : InsAt w base2 iv L) :
    Calls Try.prog 86 #[.pointer (some ⟨bb, 0, none⟩)] w fun e w' => e = .returned (.bool (decide (0 < (L.length : Int)))) ∧ w' = w := by
  obtain ⟨sv, h1, h2⟩ := hb
  obtain ⟨p, c, rfl⟩ := own_shape2 hi
  have c2 := h1.cell (i := 2) (v := .slice p L.length c) rfl
  clear h1 h2 hi
  go_enter Try.func86, Try.ntmps86
  go_wp2
  go_ret
  exact ⟨ret_bool (by simp), rfl⟩
theorem stores_news {w : World} {base g n cap : Nat} {l : List St} (h : w.ownsRow base 133 8 (.slice (some ⟨g, 0, none⟩) n cap) n (flatS l)) : ∀ j u, (flatS l)[j]? = some u → w.cell? ((⟨g, 0, none⟩ : Addr).add j) = some u := World.ownsRow.cells h rfl
theorem flatS_one (l : List St) : ∀ u ∈ flatS l, u.oneCell' = true := by
  intro u hu
  unfold flatS at hu
  obtain ⟨vs, hvs, hu⟩ := List.mem_flatten.1 hu
  obtain ⟨s, _, rfl⟩ := List.mem_map.1 hvs
  simp [St.vals] at hu
  rcases hu with rfl | rfl | rfl | rfl | rfl | rfl | rfl | rfl <;> rfl
/-- A copy of stores. -/
def CopyS (l : List St) (w : World) (e : Ending) (w' : World) : Prop := ∃ v, e = .returned v ∧ w'.ownsRow w.heap.size 133 8 v l.length (flatS l) ∧ Below w.heap.size w w'
set_option maxHeartbeats 2000000 in
theorem cloneS_any (g cap base : Nat) (l : List St) (w : World) (h : w.ownsRow base 133 8 (.slice (some ⟨g, 0, none⟩) l.length cap) l.length (flatS l)) (hl : l.length ≤ 1000000) :
    Calls Try.prog 102 #[.slice (some ⟨g, 0, none⟩) l.length cap] w (CopyS l w) := by
  obtain ⟨i0, hi, hz0, hz1, hz2⟩ := info_parts infoStore
  have q22 : ∀ (w : World) (a : Option Addr) (n c n' c' : Nat), (binOp .eql 129 (.slice a n c) (.slice none n' c')).run Try.prog w = .ok (.bool a.isNone) w := fun w a n c n' c' => Lib.run_eql_slice_nil w _ _ a n c n' c' undStores
  have u22 : ∀ w, Sem.run Try.prog (underlying 129) w = .ok (TypeDesc.slice 133) w := run_underlying undStores
  have h2 := World.ownsRow.kept (row := none) h (World.grownBy_alloc w (.cells #[] 133) none) (.inr (by simp [Value.ownBlock]))
  have hn := Lib.hid (stores_news h2)
  clear h h2
  go_enter Try.func102, Try.ntmps102
  go_wp2_with (at_builtin; refine wpList_append_own _ rfl _ _ 129 rfl w.heap.size 133 i0 (.agg #[.int .i64 0, .int .i64 0, .int .i64 0, .int .i64 0, .int .i64 0, .int .i64 0, .int .i64 0, .int .i64 0]) 8 64 undStores hi hz0 hz1 hz2 rfl (by decide) _ _ _ rfl (World.ownsRow_made w #[] 0 (Nat.le_refl _) (Nat.zero_le _) rfl) ⟨g, 0, none⟩ l.length cap (flatS l) rfl ?qc1 ?qc2 ?qc3 ?qc4 ?qc5 ?qc6 ?_)
  case qc1 => exact flatS_len l
  case qc2 => exact hn.out
  case qc3 => exact flatS_one l
  case qc4 => unfold maxLen; omega
  case qc5 => omega
  case qc6 => simp
  intro v' w1 hown hgrow hnil
  go_wp2
  go_ret
  refine ⟨v', rfl, by simpa using hown, ?_⟩
  exact ((Below.refl _ w).alloc (Nat.le_refl _) _).grown hgrow (by simp) (by intro k hk; simp [Value.ownBlock] at hk; omega)
/-- A copy of batches. -/
def CopyB (L : BatL) (w : World) (e : Ending) (w' : World) : Prop := ∃ v, e = .returned v ∧ InsAt w' w.heap.size v L ∧ Below w.heap.size w w'
set_option maxHeartbeats 2000000 in
theorem cloneB_any (b off cap : Nat) (L : BatL) (w : World) (h : PairsC w b off L) (hl : L.length ≤ 1000000) :
    Calls Try.prog 88 #[.slice (some ⟨b, off, none⟩) L.length cap] w (CopyB L w) := by
  obtain ⟨i0, hi, hz0, hz1, hz2⟩ := info_parts infoBatch
  have q22 : ∀ (w : World) (a : Option Addr) (n c n' c' : Nat), (binOp .eql 48 (.slice a n c) (.slice none n' c')).run Try.prog w = .ok (.bool a.isNone) w := fun w a n c n' c' => Lib.run_eql_slice_nil w _ _ a n c n' c' undBatches
  have u22 : ∀ w, Sem.run Try.prog (underlying 48) w = .ok (TypeDesc.slice 111) w := run_underlying undBatches
  have hn : Hid (∀ j u, (flatQ L)[j]? = some u → (w.alloc (.cells #[] 111)).cell? ((⟨b, off, none⟩ : Addr).add j) = some u) := Lib.hid (fun j u hj => by
    have h1 := pairs_news h j u hj
    rw [((Below.refl w.heap.size w).alloc (Nat.le_refl _) (.cells #[] 111)).cell (cell_block h1)]
    exact h1)
  clear h
  go_enter Try.func88, Try.ntmps88
  go_wp2_with (at_builtin; refine wpList_append_own _ rfl _ _ 48 rfl w.heap.size 111 i0 (.agg #[.int .i64 0, .int .i64 0]) 2 16 undBatches hi hz0 hz1 hz2 rfl (by decide) _ _ _ rfl (World.ownsRow_made w #[] 0 (Nat.le_refl _) (Nat.zero_le _) rfl) ⟨b, off, none⟩ L.length cap (flatQ L) rfl ?qc1 ?qc2 ?qc3 ?qc4 ?qc5 ?qc6 ?_)
  case qc1 => exact flatQ_len L
  case qc2 => exact hn.out
  case qc3 => exact flatQ_one L
  case qc4 => unfold maxLen; omega
  case qc5 => omega
  case qc6 => simp
  intro v' w1 hown hgrow hnil
  go_wp2
  go_ret
  refine ⟨v', rfl, by unfold InsAt; simpa using hown, ?_⟩
  exact ((Below.refl _ w).alloc (Nat.le_refl _) _).grown hgrow (by simp) (by intro k hk; simp [Value.ownBlock] at hk; omega)
set_option maxHeartbeats 1000000 in
theorem fill1_any (s : St) (n kd : Int) (hs : s.Ok) (hn : 0 ≤ n ∧ n ≤ 1000000000) (sb tb : Nat) (w : World) (hb : Blk w sb s.vals.toArray 133) (hc : Blk w tb #[.int .i64 kd, .int .i64 n] 111) :
    Calls Try.prog 103 #[.pointer (some ⟨sb, 0, none⟩), .pointer (some ⟨tb, 0, none⟩)] w fun e w' => e = .returned (.int .i64 (burnF n s).1) ∧ Blk w' sb (burnF n s).2.vals.toArray 133 ∧ But sb sb w w' := by
  have hne1 : sb ≠ tb := hb.ne hc (by decide)
  obtain ⟨a, b, c, d, e, f, g, h⟩ := s
  obtain ⟨h1, h2, h3, h4, h5, h6, h7⟩ := hs
  have HV : Hid (burnF n ⟨a, b, c, d, e, f, g, h⟩ = (0, ⟨a, b - n, c + n, d, e, f, g, h⟩)) := Lib.hid rfl
  dsimp only [St.vals] at *
  have w0 : IntKind.i64.wrap (b - n) = b - n := wrap_id (by omega) (by omega)
  have w1 : IntKind.i64.wrap (c + n) = c + n := wrap_id (by omega) (by omega)
  have HB0 := Lib.hid hb
  have HC0 := Lib.hid hc
  have HT0 := Lib.hid (But.refl sb sb w)
  clear hb hc h1 h2 h3 h4 h5 h6 h7 hn
  go_enter Try.func103, Try.ntmps103
  have b0 := HB0.out.cell (i := 1) (v := .int .i64 b) rfl
  have f0 := HB0.out.fr (i := 1)
  have c0 := HC0.out.cell (i := 1) (v := .int .i64 n) rfl
  have HB1 := Lib.hid ((HB0.out.set 1 (by simp) (.int .i64 (b - n)) rfl).drew)
  have HC1 := Lib.hid ((HC0.out.far (b' := sb) (i := 1) (u := (.int .i64 (b - n))) (Ne.symm hne1)).drew)
  have HT1 := Lib.hid ((HT0.out.set (i := 1) sb (.inl rfl) (.int .i64 (b - n))).drew)
  go_wp2
  go_region
  obtain ⟨W1, hW1⟩ : ∃ W1, (w.setCell ⟨sb, 1, none⟩ (.int .i64 (b - n))).drew = W1 := ⟨_, rfl⟩
  rw [hW1] at HB1 HC1 HT1 ⊢
  clear hW1 b0 f0 c0 HB0 HC0 HT0
  have b0 := HB1.out.cell (i := 2) (v := .int .i64 c) rfl
  have f0 := HB1.out.fr (i := 2)
  have c0 := HC1.out.cell (i := 1) (v := .int .i64 n) rfl
  have HB2 := Lib.hid ((HB1.out.set 2 (by simp) (.int .i64 (c + n)) rfl).drew)
  have HT2 := Lib.hid ((HT1.out.set (i := 2) sb (.inl rfl) (.int .i64 (c + n))).drew)
  go_wp2
  go_region
  all_goals
    go_wp2
    go_ret
    exact ⟨by rw [HV.out]; rfl, by rw [HV.out]; exact HB2.out, HT2.out⟩
end Go.Proofs.Ytopnlcjbklmicaa
