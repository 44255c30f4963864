import Derived.Test.YtopnlcjbklmicaaK13
import Derived.Lib.MinMax
import Derived.WalkKit
import Derived.WalkSpells
import Derived.WalkLawsBesides
import Derived.Deep.QuietTactic
import Derived.BigQuiet
import Derived.Lib.Hide
import Derived.WalkSmall
import Derived.Maps.OwnSet
import Derived.Maps.RangeWalk
import Derived.Deep.RegionWith
import Derived.Deep.RegionHeld3
import Derived.Deep.DrawnRows
import Derived.Deep.DeepCutAuto
import Derived.OneCell
import Derived.KernelRfl
import Derived.Laws.StructEq
import Derived.StillTailTactics
import Derived.Laws.Externs
import Derived.RangeFuncBox
import Derived.Outline
import Derived.RangeFuncNested
import Derived.RangeFuncBound
import Derived.RangeFuncCalls
import Derived.RangeFuncLeaves
import Derived.Shelf.RegionOpen
import Derived.OwnWalkIn
import Derived.TacticsInMore
import Derived.LoopNIn
import Derived.LoopIn
import Derived.Test.YtopnlcjbklmicaaProg
namespace Go.Proofs.Ytopnlcjbklmicaa
open Go.RowKit Go.Maps Go.Shelf
set_option linter.unusedVariables false
set_option linter.unusedSimpArgs false
theorem drewN_heap (w : World) (n : Nat) : (w.drewN n).heap = w.heap := by
  first | rfl | (induction n with | zero => rfl | succ n ih => exact ih)
theorem Blk.drewN {w : World} {b n : Nat} {vs : Array Value} {T : TypeId} (h : Blk w b vs T) : Blk (w.drewN n) b vs T := by
  unfold Blk at h ⊢; rw [drewN_heap]; exact h
theorem Below.drewN' {B n : Nat} {a w : World} (h : Below B a w) : Below B a (w.drewN n) := by
  exact ⟨h.os, h.tape, h.output, by rw [drewN_heap]; exact h.size, fun k hk => by rw [drewN_heap]; exact h.block k hk⟩
theorem gcd_step (p q : Nat) : Nat.gcd q (p % q) = Nat.gcd p q := by
  rw [Nat.gcd_comm p q, Nat.gcd_rec q p, Nat.gcd_comm]
/-- A load in lowest terms, and the error. -/
def lowestF (num den : Nat) : Int × Int × Int :=
  if 1000000000 < max (num / Nat.gcd num den) (den / Nat.gcd num den) then (0, 0, 10) else (((num / Nat.gcd num den : Nat) : Int), ((den / Nat.gcd num den : Nat) : Int), 0)
set_option maxHeartbeats 2000000 in
theorem lowest_any (num den : Nat) (w : World) (h1 : num ≤ 4000000000000000000) (h2 : 1 ≤ den) (h3 : den ≤ 4000000000000000000) :
    Calls Try.prog 109 #[.int .i64 num, .int .i64 den] w fun e w' => e = .returned (.tuple #[.agg #[.int .i64 (lowestF num den).1, .int .i64 (lowestF num den).2.1], .int .i64 (lowestF num den).2.2]) ∧ Below w.heap.size w w' := by
  obtain ⟨r, hr⟩ : ∃ r, lowestF num den = r := ⟨_, rfl⟩
  have HS := Lib.hid hr.symm
  unfold lowestF at HS
  rw [hr]
  have HR := Lib.hid (Blk.new w #[.int .i64 0, .int .i64 0] 116)
  have HBB := Lib.hid ((Below.refl _ w).alloc (Nat.le_refl _) (.cells #[.int .i64 0, .int .i64 0] 116))
  clear hr
  go_enter Try.func109, Try.ntmps109
  go_wp2
  obtain ⟨w0, hw0⟩ : ∃ w0, w.alloc (.cells #[.int .i64 0, .int .i64 0] 116) = w0 := ⟨_, rfl⟩
  rw [hw0] at HR HBB ⊢
  clear hw0
  go_loopw [6, 7] (fun x y wr => ∃ p q : Nat, x = .int .i64 p ∧ y = .int .i64 q ∧ p ≤ 4000000000000000000 ∧ q ≤ 4000000000000000000 ∧ Hid (Nat.gcd p q = Nat.gcd num den) ∧ Hid (Blk wr w.heap.size #[.int .i64 0, .int .i64 0] 116) ∧ Hid (Below w.heap.size w wr)) (fun _ y _ => (intOf y).toNat)
  case atStart => exact ⟨num, den, rfl, rfl, h1, h3, Lib.hid rfl, HR, HBB⟩
  case round =>
    obtain ⟨p, q, rfl, rfl, hp, hq, HG, HR2, HB2⟩ := hrel
    by_cases hq0 : q = 0
    · subst hq0
      have hg : p = Nat.gcd num den := by have := HG.out; rw [Nat.gcd_zero_right] at this; exact this
      have hg0 : 1 ≤ p := by rw [hg]; exact Nat.gcd_pos_of_pos_right _ (by omega)
      rw [← hg] at HS
      have f0 := HR2.out.fr (i := 0)
      have f1 := HR2.out.fr (i := 1)
      have r0 := HR2.out.cell (i := 0) (v := .int .i64 0) rfl
      have r1 := HR2.out.cell (i := 1) (v := .int .i64 0) rfl
      have d1 : (num : Int).tdiv (p : Int) = ((num / p : Nat) : Int) := rfl
      have d2 : (den : Int).tdiv (p : Int) = ((den / p : Nat) : Int) := rfl
      have l1 : num / p ≤ num := Nat.div_le_self _ _
      have l2 : den / p ≤ den := Nat.div_le_self _ _
      have hp0 : (p : Int) ≠ 0 := by omega
      obtain ⟨x, hx⟩ : ∃ x, num / p = x := ⟨_, rfl⟩
      obtain ⟨y, hy⟩ : ∃ y, den / p = y := ⟨_, rfl⟩
      rw [hx] at d1 l1 HS
      rw [hy] at d2 l2 HS
      have hwx : IntKind.i64.wrap (x : Int) = x := wrap_id (by omega) (by omega)
      have hwy : IntKind.i64.wrap (y : Int) = y := wrap_id (by omega) (by omega)
      clear hg hx hy HG HR HBB
      go_wp2
      go_region
      all_goals
        have HX0 := (Blk.new wr #[.int .i64 x, .int .i64 y] 116).drew
        have HR0 := (HR2.out.alloc (.cells #[.int .i64 x, .int .i64 y] 116)).drew
        have HB0 := (HB2.out.alloc HB2.out.size (.cells #[.int .i64 x, .int .i64 y] 116)).drew
        obtain ⟨w5, hw5⟩ : ∃ w5, (wr.alloc (.cells #[.int .i64 x, .int .i64 y] 116)).drew = w5 := ⟨_, rfl⟩
        rw [hw5] at HX0 HR0 HB0 ⊢
        have HX := Lib.hid HX0
        have HR3 := Lib.hid HR0
        have HB3 := Lib.hid HB0
        obtain ⟨mm, hmm⟩ : ∃ mm : Int, max (x : Int) (y : Int) = mm := ⟨_, rfl⟩
        have hmm2 : (1000000000 < max x y) ↔ 1000000000 < mm := by omega
        clear hw5 HX0 HR0 HB0 f0 f1 r0 r1 d1 d2 hwx hwy HR2 HB2
        by_cases c : 1000000000 < mm
        · have HV : Hid (r = (0, 0, 10)) := Lib.hid (by rw [HS.out, if_pos (hmm2.2 c)])
          clear HS hmm2
          have e0 := HX.out.cell (i := 0) (v := .int .i64 x) rfl
          have e1 := HX.out.cell (i := 1) (v := .int .i64 y) rfl
          have r0 := HR3.out.cell (i := 0) (v := .int .i64 0) rfl
          have r1 := HR3.out.cell (i := 1) (v := .int .i64 0) rfl
          have f0 := HR3.out.fr (i := 0)
          have f1 := HR3.out.fr (i := 1)
          go_wp2
          obtain ⟨d0, d1, d2, hg, _⟩ := blk_after HR3.out (.int .i64 0) (.int .i64 0) rfl rfl
          refine bodyPost_ret (v := .tuple #[.agg #[.int .i64 0, .int .i64 0], .int .i64 10]) ?_ rfl ?_
          · simp [results, Try.results109, go_sem, d0, d1, d2]
          · exact ⟨by rw [HV.out], HB3.out.grown hg HB3.out.size (by intro k hk; cases hk; omega)⟩
        · have HV : Hid (r = ((x : Int), (y : Int), 0)) := Lib.hid (by rw [HS.out, if_neg (fun h => c (hmm2.1 h))])
          clear HS hmm2
          have e0 := HX.out.cell (i := 0) (v := .int .i64 x) rfl
          have e1 := HX.out.cell (i := 1) (v := .int .i64 y) rfl
          have r0 := HR3.out.cell (i := 0) (v := .int .i64 0) rfl
          have r1 := HR3.out.cell (i := 1) (v := .int .i64 0) rfl
          have f0 := HR3.out.fr (i := 0)
          have f1 := HR3.out.fr (i := 1)
          go_wp2
          obtain ⟨d0, d1, d2, hg, _⟩ := blk_after HR3.out (.int .i64 x) (.int .i64 y) rfl rfl
          refine bodyPost_ret (v := .tuple #[.agg #[.int .i64 x, .int .i64 y], .int .i64 0]) ?_ rfl ?_
          · simp [results, Try.results109, go_sem, d0, d1, d2]
          · exact ⟨by rw [HV.out], HB3.out.grown hg HB3.out.size (by intro k hk; cases hk; omega)⟩
    · have hst := gcd_step p q
      have hlt : p % q < q := Nat.mod_lt _ (by omega)
      obtain ⟨m, hm⟩ : ∃ m, p % q = m := ⟨_, rfl⟩
      have hmi : (p : Int).tmod (q : Int) = (m : Int) := by rw [← hm]; rfl
      rw [hm] at hst hlt
      have HG2 : Hid (Nat.gcd q m = Nat.gcd num den) := Lib.hid (by rw [hst]; exact HG.out)
      have hq0i : (q : Int) ≠ 0 := by omega
      have hqb : ((q : Int) != 0) = true := by simpa using hq0
      have hwm : IntKind.i64.wrap (m : Int) = m := wrap_id (by omega) (by omega)
      clear hst hm HG
      go_wp2
      go_quiet (fail)
      go_wp2
      go_roundw
      case rel => exact ⟨q, m, rfl, rfl, hq, by omega, HG2, Lib.hid HR2.out.drewN, Lib.hid (Below.drewN' HB2.out)⟩
      case measure => simp [intOf]; omega
end Go.Proofs.Ytopnlcjbklmicaa
