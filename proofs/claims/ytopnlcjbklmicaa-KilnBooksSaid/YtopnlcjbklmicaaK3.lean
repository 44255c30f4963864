import Derived.Test.YtopnlcjbklmicaaK2
import Derived.WalkKit
import Derived.WalkSpells
import Derived.WalkLawsBesides
import Derived.Deep.QuietTactic
import Derived.BigQuiet
import Derived.Lib.Hide
import Derived.WalkSmall
import Derived.Maps.OwnSet
import Derived.Maps.RangeWalk
import Derived.Deep.RegionWith
import Derived.Deep.RegionHeld3
import Derived.Deep.DrawnRows
import Derived.Deep.DeepCutAuto
import Derived.OneCell
import Derived.KernelRfl
import Derived.Laws.StructEq
import Derived.StillTailTactics
import Derived.Laws.Externs
import Derived.RangeFuncBox
import Derived.Outline
import Derived.RangeFuncNested
import Derived.RangeFuncBound
import Derived.RangeFuncCalls
import Derived.RangeFuncLeaves
import Derived.Shelf.RegionOpen
import Derived.OwnWalkIn
import Derived.TacticsInMore
import Derived.LoopNIn
import Derived.LoopIn
import Derived.Test.YtopnlcjbklmicaaProg
namespace Go.Proofs.Ytopnlcjbklmicaa
open Go.RowKit Go.Maps Go.Shelf
set_option linter.unusedVariables false
set_option linter.unusedSimpArgs false
/-- A struct of two cells is stored. -/
theorem blk_after {W0 : World} {b : Nat} {u1 u2 : Value} {T : TypeId} (h : Blk W0 b #[u1, u2] T) (x v : Value) (hx : x.cells = #[x]) (hv : v.cells = #[v]) :
    (W0.setCell ⟨b, 0, none⟩ x).cell? ⟨b, 0, none⟩ = some x ∧ ((W0.setCell ⟨b, 0, none⟩ x).setCell ⟨b, 1, none⟩ v).cell? ⟨b, 0, none⟩ = some x ∧ ((W0.setCell ⟨b, 0, none⟩ x).setCell ⟨b, 1, none⟩ v).cell? ⟨b, 1, none⟩ = some v ∧ W0.grownBy ((W0.setCell ⟨b, 0, none⟩ x).setCell ⟨b, 1, none⟩ v) (some b) ∧ Blk ((W0.setCell ⟨b, 0, none⟩ x).setCell ⟨b, 1, none⟩ v) b #[x, v] T := by
  have t5 := h.set 0 (by simp) x hx
  have t6 := t5.set 1 (by simp) v hv
  have g5 := grownBy_setCell W0 ⟨b, 0, none⟩ x
  have g6 := grownBy_setCell (W0.setCell ⟨b, 0, none⟩ x) ⟨b, 1, none⟩ v
  exact ⟨t5.cell (i := 0) rfl, t6.cell (i := 0) rfl, t6.cell (i := 1) rfl, g5.trans g6, t6⟩
def isClayF (dl dh fl fh : Int) : Bool := isSpreadF dl dh 9999 && isSpreadF fl fh 9999
theorem isClay_any (dl dh fl fh : Int) (w : World) :
    Calls Try.prog 53 #[.agg #[.int .i64 dl, .int .i64 dh, .int .i64 fl, .int .i64 fh]] w fun e w' => e = .returned (.bool (isClayF dl dh fl fh)) ∧ Below w.heap.size w w' := by
  have B := Blk.new w #[.int .i64 dl, .int .i64 dh, .int .i64 fl, .int .i64 fh] 25
  have b0 := B.cell (i := 0) (v := .int .i64 dl) rfl
  have b1 := B.cell (i := 1) (v := .int .i64 dh) rfl
  have HB := Lib.hid B
  have BB := ((Below.refl _ w).alloc (Nat.le_refl _) (.cells #[.int .i64 dl, .int .i64 dh, .int .i64 fl, .int .i64 fh] 25))
  have HBB := Lib.hid BB
  have HF : Hid (isClayF dl dh fl fh = (isSpreadF dl dh 9999 && isSpreadF fl fh 9999)) := Lib.hid rfl
  clear B BB
  go_enter Try.func53, Try.ntmps53
  go_wp2_with fail
  refine (isSpread_any dl dh 9999 _).mono ?_
  rintro e w2 ⟨rfl, hb2⟩
  have B2 := HB.out.past hb2
  have c2 := B2.cell (i := 2) (v := .int .i64 fl) rfl
  have c3 := B2.cell (i := 3) (v := .int .i64 fh) rfl
  have HB2 := Lib.hid (HBB.out.trans (hb2.mono HBB.out.size))
  clear hb2 B2 b0 b1
  cases h1 : isSpreadF dl dh 9999
  · have H1 := Lib.hid h1
    clear h1
    go_wp2
    go_ret
    exact ⟨ret_bool (by rw [HF.out, H1.out]; simp), HB2.out⟩
  · have H1 := Lib.hid h1
    clear h1
    go_wp2_with fail
    refine (isSpread_any fl fh 9999 _).mono ?_
    rintro e w3 ⟨rfl, hb3⟩
    have HB3 := Lib.hid (HB2.out.trans (hb3.mono HB2.out.size))
    clear hb3
    go_wp2
    go_ret
    exact ⟨ret_bool (by rw [HF.out, H1.out]; simp), HB3.out⟩
theorem kept_range {a b : Int} (ha : 0 ≤ a ∧ a ≤ 9999) (hb : 0 ≤ b ∧ b ≤ 9999) : 1 ≤ (10000 - a) * (10000 - b) ∧ (10000 - a) * (10000 - b) ≤ 100000000 := by
  obtain ⟨x, hx⟩ : ∃ x : Nat, 10000 - a = x := ⟨(10000 - a).toNat, by omega⟩
  obtain ⟨y, hy⟩ : ∃ y : Nat, 10000 - b = y := ⟨(10000 - b).toNat, by omega⟩
  rw [hx, hy]
  have h1 : x * y ≤ 10000 * 10000 := Nat.mul_le_mul (by omega) (by omega)
  have h2 : 1 * 1 ≤ x * y := Nat.mul_le_mul (by omega) (by omega)
  have e : (x : Int) * (y : Int) = ((x * y : Nat) : Int) := by simp
  rw [e]
  omega
set_option maxHeartbeats 1000000 in
theorem keptOf_any (dl dh fl fh : Int) (w : World) (h1 : 0 ≤ dl ∧ dl ≤ 9999) (h2 : 0 ≤ dh ∧ dh ≤ 9999) (h3 : 0 ≤ fl ∧ fl ≤ 9999) (h4 : 0 ≤ fh ∧ fh ≤ 9999) :
    Calls Try.prog 55 #[.agg #[.int .i64 dl, .int .i64 dh, .int .i64 fl, .int .i64 fh]] w fun e w' => e = .returned (.agg #[.int .i64 ((10000 - dh) * (10000 - fh)), .int .i64 ((10000 - dl) * (10000 - fl))]) ∧ Below w.heap.size w w' := by
  have B := (Blk.new w #[.int .i64 dl, .int .i64 dh, .int .i64 fl, .int .i64 fh] 25).alloc (.cells #[.int .i64 0, .int .i64 0] 23)
  have R := Blk.newI (w.alloc (.cells #[.int .i64 dl, .int .i64 dh, .int .i64 fl, .int .i64 fh] 25)) (w.heap.size + 1) #[.int .i64 0, .int .i64 0] 23 (by simp)
  have b0 := B.cell (i := 0) (v := .int .i64 dl) rfl
  have b1 := B.cell (i := 1) (v := .int .i64 dh) rfl
  have b2 := B.cell (i := 2) (v := .int .i64 fl) rfl
  have b3 := B.cell (i := 3) (v := .int .i64 fh) rfl
  have r0 := R.cell (i := 0) (v := .int .i64 0) rfl
  have r1 := R.cell (i := 1) (v := .int .i64 0) rfl
  have f0 := R.fr (i := 0)
  have f1 := R.fr (i := 1)
  have k1 := kept_range h2 h4
  have k2 := kept_range h1 h3
  have a1 : 10000 - dh ≤ 10000 ∧ 1 ≤ 10000 - dh := by omega
  have a2 : 10000 - fh ≤ 10000 ∧ 1 ≤ 10000 - fh := by omega
  have a3 : 10000 - dl ≤ 10000 ∧ 1 ≤ 10000 - dl := by omega
  have a4 : 10000 - fl ≤ 10000 ∧ 1 ≤ 10000 - fl := by omega
  obtain ⟨x, hx⟩ : ∃ x, (10000 - dh) * (10000 - fh) = x := ⟨_, rfl⟩
  obtain ⟨y, hy⟩ : ∃ y, (10000 - dl) * (10000 - fl) = y := ⟨_, rfl⟩
  rw [hx] at k1
  rw [hy] at k2
  rw [hx, hy]
  have HR := Lib.hid R
  have HBB := Lib.hid (((Below.refl _ w).alloc (Nat.le_refl _) (.cells #[.int .i64 dl, .int .i64 dh, .int .i64 fl, .int .i64 fh] 25)).alloc (by simp) (.cells #[.int .i64 0, .int .i64 0] 23))
  clear B R
  go_enter Try.func55, Try.ntmps55
  go_wp2
  refine bodyPost_ret (v := .agg #[.int .i64 x, .int .i64 y]) ?_ rfl ?_
  · simp [results, Try.results55, go_sem]
  · exact ⟨rfl, ((Below.refl _ w).alloc (Nat.le_refl _) _).alloc (by simp) _⟩
end Go.Proofs.Ytopnlcjbklmicaa
