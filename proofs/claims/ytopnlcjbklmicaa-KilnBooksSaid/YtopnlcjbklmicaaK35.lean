import Derived.Test.YtopnlcjbklmicaaK34
import Derived.WalkKit
import Derived.WalkSpells
import Derived.WalkLawsBesides
import Derived.Deep.QuietTactic
import Derived.BigQuiet
import Derived.Lib.Hide
import Derived.WalkSmall
import Derived.Maps.OwnSet
import Derived.Maps.RangeWalk
import Derived.Deep.RegionWith
import Derived.Deep.RegionHeld3
import Derived.Deep.DrawnRows
import Derived.Deep.DeepCutAuto
import Derived.OneCell
import Derived.KernelRfl
import Derived.Laws.StructEq
import Derived.StillTailTactics
import Derived.Laws.Externs
import Derived.RangeFuncBox
import Derived.Outline
import Derived.RangeFuncNested
import Derived.RangeFuncBound
import Derived.RangeFuncCalls
import Derived.RangeFuncLeaves
import Derived.Shelf.RegionOpen
import Derived.OwnWalkIn
import Derived.TacticsInMore
import Derived.LoopNIn
import Derived.LoopIn
import Derived.Test.YtopnlcjbklmicaaProg
namespace Go.Proofs.Ytopnlcjbklmicaa
open Go.RowKit Go.Maps Go.Shelf
set_option linter.unusedVariables false
set_option linter.unusedSimpArgs false
theorem refClay_any (dl dh fl fh : Int) (w : World) :
    Calls Try.prog 15 #[.agg #[.int .i64 dl, .int .i64 dh, .int .i64 fl, .int .i64 fh]] w fun e w' => e = .returned (.bool (isClayF dl dh fl fh)) ∧ w' = w.alloc (.cells #[.int .i64 dl, .int .i64 dh, .int .i64 fl, .int .i64 fh] 25) := by
  have B := Blk.new w #[.int .i64 dl, .int .i64 dh, .int .i64 fl, .int .i64 fh] 25
  have b0 := B.cell (i := 0) (v := .int .i64 dl) rfl
  have b1 := B.cell (i := 1) (v := .int .i64 dh) rfl
  have b2 := B.cell (i := 2) (v := .int .i64 fl) rfl
  have b3 := B.cell (i := 3) (v := .int .i64 fh) rfl
  clear B
  go_enter Try.func15, Try.ntmps15
  go_wp2
  all_goals
    go_ret
    exact ⟨ret_bool (by rw [Bool.eq_iff_iff]; simp [isClayF, isSpreadF, inB]; omega), rfl⟩
/-- The ends of the side of a mould. -/
def loS (n kl : Int) : Int := n * kl / 100000000
def hiS (n kh : Int) : Int := (n * kh + 99999999) / 100000000
theorem shrunkF_eq {n dl dh fl fh : Int} (hc : isClayF dl dh fl fh = true) (hn : 1 ≤ n ∧ n ≤ 1000000) : shrunkF n dl dh fl fh = (loS n ((10000 - dh) * (10000 - fh)), hiS n ((10000 - dl) * (10000 - fl)), 0) := by
  unfold shrunkF
  rw [hc, if_neg (by simp), if_neg (by simp [inB]; omega)]
  rfl
theorem lo_ge {n kl wl : Int} (hk : 1 ≤ kl) : wl ≤ loS n kl ↔ (wl * 100000000 + kl - 1) / kl ≤ n := by
  unfold loS
  have e : (n + 1) * kl = n * kl + kl := by rw [Int.add_mul, Int.one_mul]
  have h1 : wl ≤ n * kl / 100000000 ↔ wl * 100000000 ≤ n * kl := Int.le_ediv_iff_mul_le (by omega)
  have h2 : (wl * 100000000 + kl - 1) / kl < n + 1 ↔ wl * 100000000 + kl - 1 < (n + 1) * kl := Int.ediv_lt_iff_lt_mul (by omega)
  rw [e] at h2
  constructor
  · intro h
    have h3 := h1.1 h
    have h4 := h2.2 (by omega)
    omega
  · intro h
    have h4 := h2.1 (by omega)
    exact h1.2 (by omega)
theorem hi_le {n kh wh : Int} (hk : 1 ≤ kh) : hiS n kh ≤ wh ↔ n ≤ wh * 100000000 / kh := by
  unfold hiS
  have h1 : n ≤ wh * 100000000 / kh ↔ n * kh ≤ wh * 100000000 := Int.le_ediv_iff_mul_le (by omega)
  rw [h1]
  omega
theorem ks_range {dl dh fl fh : Int} (hc : isClayF dl dh fl fh = true) : (1 ≤ (10000 - dh) * (10000 - fh) ∧ (10000 - dh) * (10000 - fh) ≤ 100000000) ∧ (1 ≤ (10000 - dl) * (10000 - fl) ∧ (10000 - dl) * (10000 - fl) ≤ 100000000) ∧ (10000 - dh) * (10000 - fh) ≤ (10000 - dl) * (10000 - fl) := by
  obtain ⟨q1, q2, q3, q4, q5, q6⟩ := isClayF_range hc
  refine ⟨kept_range q2 q4, kept_range q1 q3, ?_⟩
  exact Int.mul_le_mul (by omega) (by omega) (by omega) (by omega)
set_option maxHeartbeats 1000000 in
theorem refShrunk_any (n dl dh fl fh : Int) (w : World) (hc : isClayF dl dh fl fh = true) (hn : 0 ≤ n ∧ n ≤ 1000001) :
    Calls Try.prog 17 #[.int .i64 n, .agg #[.int .i64 dl, .int .i64 dh, .int .i64 fl, .int .i64 fh]] w fun e w' =>
      e = .returned (.agg #[.int .i64 (loS n ((10000 - dh) * (10000 - fh))), .int .i64 (hiS n ((10000 - dl) * (10000 - fl)))]) ∧ Below w.heap.size w w' := by
  obtain ⟨q1, q2, q3, q4, q5, q6⟩ := isClayF_range hc
  obtain ⟨⟨k1, k2⟩, ⟨k3, k4⟩, _⟩ := ks_range hc
  have B := (Blk.new w #[.int .i64 dl, .int .i64 dh, .int .i64 fl, .int .i64 fh] 25).alloc (.cells #[.int .i64 0, .int .i64 0] 23)
  have R := Blk.newI (w.alloc (.cells #[.int .i64 dl, .int .i64 dh, .int .i64 fl, .int .i64 fh] 25)) (w.heap.size + 1) #[.int .i64 0, .int .i64 0] 23 (by simp)
  have BB := ((Below.refl _ w).alloc (Nat.le_refl _) (.cells #[.int .i64 dl, .int .i64 dh, .int .i64 fl, .int .i64 fh] 25)).alloc (by simp) (.cells #[.int .i64 0, .int .i64 0] 23)
  have b0 := B.cell (i := 0) (v := .int .i64 dl) rfl
  have b1 := B.cell (i := 1) (v := .int .i64 dh) rfl
  have b2 := B.cell (i := 2) (v := .int .i64 fl) rfl
  have b3 := B.cell (i := 3) (v := .int .i64 fh) rfl
  have r0 := R.cell (i := 0) (v := .int .i64 0) rfl
  have r1 := R.cell (i := 1) (v := .int .i64 0) rfl
  have f0 := R.fr (i := 0)
  have f1 := R.fr (i := 1)
  have hx : n * (10000 - dh) * (10000 - fh) = n * ((10000 - dh) * (10000 - fh)) := Int.mul_assoc _ _ _
  have hy : n * (10000 - dl) * (10000 - fl) = n * ((10000 - dl) * (10000 - fl)) := Int.mul_assoc _ _ _
  have hp := mul_le_int (a := n) (b := (10000 - dh) * (10000 - fh)) (A := 1000001) (B := 100000000) hn (by omega)
  have hq := mul_le_int (a := n) (b := (10000 - dl) * (10000 - fl)) (A := 1000001) (B := 100000000) hn (by omega)
  have hp1 := mul_le_int (a := n) (b := 10000 - dh) (A := 1000001) (B := 10000) hn (by omega)
  have hq1 := mul_le_int (a := n) (b := 10000 - dl) (A := 1000001) (B := 10000) hn (by omega)
  have w1 : IntKind.i64.wrap (10000 - dh) = 10000 - dh := wrap_id (by omega) (by omega)
  have w2 : IntKind.i64.wrap (10000 - fh) = 10000 - fh := wrap_id (by omega) (by omega)
  have w3 : IntKind.i64.wrap (10000 - dl) = 10000 - dl := wrap_id (by omega) (by omega)
  have w4 : IntKind.i64.wrap (10000 - fl) = 10000 - fl := wrap_id (by omega) (by omega)
  have w5 : IntKind.i64.wrap (n * (10000 - dh)) = n * (10000 - dh) := wrap_id (by omega) (by omega)
  have w6 : IntKind.i64.wrap (n * (10000 - dl)) = n * (10000 - dl) := wrap_id (by omega) (by omega)
  have HL : Hid (loS n ((10000 - dh) * (10000 - fh)) = n * ((10000 - dh) * (10000 - fh)) / 100000000) := Lib.hid rfl
  have HH : Hid (hiS n ((10000 - dl) * (10000 - fl)) = (n * ((10000 - dl) * (10000 - fl)) + 99999999) / 100000000) := Lib.hid rfl
  obtain ⟨L, hL⟩ : ∃ L, loS n ((10000 - dh) * (10000 - fh)) = L := ⟨_, rfl⟩
  obtain ⟨U, hU⟩ : ∃ U, hiS n ((10000 - dl) * (10000 - fl)) = U := ⟨_, rfl⟩
  rw [hL] at HL ⊢
  rw [hU] at HH ⊢
  obtain ⟨X, hX⟩ : ∃ X, n * ((10000 - dh) * (10000 - fh)) = X := ⟨_, rfl⟩
  obtain ⟨Y, hY⟩ : ∃ Y, n * ((10000 - dl) * (10000 - fl)) = Y := ⟨_, rfl⟩
  rw [hX] at hx hp HL
  rw [hY] at hy hq HH
  have w7 : IntKind.i64.wrap (n * (10000 - dh) * (10000 - fh)) = X := by rw [hx]; exact wrap_id (by omega) (by omega)
  have w8 : IntKind.i64.wrap (n * (10000 - dl) * (10000 - fl)) = Y := by rw [hy]; exact wrap_id (by omega) (by omega)
  have w9 : IntKind.i64.wrap (X.tdiv 100000000) = L := by rw [Int.tdiv_eq_ediv_of_nonneg (by omega), ← HL.out]; exact wrap_id (by have := HL.out; omega) (by have := HL.out; omega)
  have w10 : IntKind.i64.wrap (Y + 99999999) = Y + 99999999 := wrap_id (by omega) (by omega)
  have w11 : IntKind.i64.wrap ((Y + 99999999).tdiv 100000000) = U := by rw [Int.tdiv_eq_ediv_of_nonneg (by omega), ← HH.out]; exact wrap_id (by have := HH.out; omega) (by have := HH.out; omega)
  have HR := Lib.hid R
  have HBB := Lib.hid BB
  clear hx hy hp hq hp1 hq1 hX hY hL hU HL HH R B BB k1 k2 k3 k4 q1 q2 q3 q4 q5 q6 hn hc
  go_enter Try.func17, Try.ntmps17
  go_wp2
  have N := Blk.newI (w.alloc (.cells #[.int .i64 dl, .int .i64 dh, .int .i64 fl, .int .i64 fh] 25)) (w.heap.size + 1) #[.int .i64 L, .int .i64 U] 23 (by simp)
  have d0 := N.cell (i := 0) (v := .int .i64 L) rfl
  have d1 := N.cell (i := 1) (v := .int .i64 U) rfl
  refine bodyPost_ret (v := .agg #[.int .i64 L, .int .i64 U]) ?_ rfl ?_
  · simp [results, Try.results17, go_sem, d0, d1]
  · exact ⟨rfl, ((Below.refl _ w).alloc (Nat.le_refl _) (.cells #[.int .i64 dl, .int .i64 dh, .int .i64 fl, .int .i64 fh] 25)).alloc (by simp) (.cells #[.int .i64 L, .int .i64 U] 23)⟩
end Go.Proofs.Ytopnlcjbklmicaa
