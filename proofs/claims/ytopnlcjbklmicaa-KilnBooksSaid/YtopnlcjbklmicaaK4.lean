import Derived.Test.YtopnlcjbklmicaaK3
import Derived.WalkKit
import Derived.WalkSpells
import Derived.WalkLawsBesides
import Derived.Deep.QuietTactic
import Derived.BigQuiet
import Derived.Lib.Hide
import Derived.WalkSmall
import Derived.Maps.OwnSet
import Derived.Maps.RangeWalk
import Derived.Deep.RegionWith
import Derived.Deep.RegionHeld3
import Derived.Deep.DrawnRows
import Derived.Deep.DeepCutAuto
import Derived.OneCell
import Derived.KernelRfl
import Derived.Laws.StructEq
import Derived.StillTailTactics
import Derived.Laws.Externs
import Derived.RangeFuncBox
import Derived.Outline
import Derived.RangeFuncNested
import Derived.RangeFuncBound
import Derived.RangeFuncCalls
import Derived.RangeFuncLeaves
import Derived.Shelf.RegionOpen
import Derived.OwnWalkIn
import Derived.TacticsInMore
import Derived.LoopNIn
import Derived.LoopIn
import Derived.Test.YtopnlcjbklmicaaProg
namespace Go.Proofs.Ytopnlcjbklmicaa
open Go.RowKit Go.Maps Go.Shelf
set_option linter.unusedVariables false
set_option linter.unusedSimpArgs false
/-- Shrunk: the spread and the error. -/
def shrunkF (n dl dh fl fh : Int) : Int × Int × Int :=
  if isClayF dl dh fl fh = false then (0, 0, 2) else if inB n 1 1000000 = false then (0, 0, 3)
  else (n * ((10000 - dh) * (10000 - fh)) / 100000000, (n * ((10000 - dl) * (10000 - fl)) + 99999999) / 100000000, 0)
theorem isClayF_range {dl dh fl fh : Int} (h : isClayF dl dh fl fh = true) : (0 ≤ dl ∧ dl ≤ 9999) ∧ (0 ≤ dh ∧ dh ≤ 9999) ∧ (0 ≤ fl ∧ fl ≤ 9999) ∧ (0 ≤ fh ∧ fh ≤ 9999) ∧ dl ≤ dh ∧ fl ≤ fh := by
  simp [isClayF, isSpreadF, inB] at h; omega
theorem mul_le_int {a b A B : Int} (ha : 0 ≤ a ∧ a ≤ A) (hb : 0 ≤ b ∧ b ≤ B) : 0 ≤ a * b ∧ a * b ≤ A * B :=
  ⟨Int.mul_nonneg ha.1 hb.1, Int.mul_le_mul ha.2 hb.2 hb.1 (by omega)⟩
set_option maxHeartbeats 2000000 in
theorem shrunk_any (n dl dh fl fh : Int) (w : World) :
    Calls Try.prog 13 #[.int .i64 n, .agg #[.int .i64 dl, .int .i64 dh, .int .i64 fl, .int .i64 fh]] w fun e w' =>
      e = .returned (.tuple #[.agg #[.int .i64 (shrunkF n dl dh fl fh).1, .int .i64 (shrunkF n dl dh fl fh).2.1], .int .i64 (shrunkF n dl dh fl fh).2.2]) ∧ Below w.heap.size w w' := by
  have B := (Blk.new w #[.int .i64 dl, .int .i64 dh, .int .i64 fl, .int .i64 fh] 25).alloc (.cells #[.int .i64 0, .int .i64 0] 23)
  have R := Blk.newI (w.alloc (.cells #[.int .i64 dl, .int .i64 dh, .int .i64 fl, .int .i64 fh] 25)) (w.heap.size + 1) #[.int .i64 0, .int .i64 0] 23 (by simp)
  have b0 := B.cell (i := 0) (v := .int .i64 dl) rfl
  have b1 := B.cell (i := 1) (v := .int .i64 dh) rfl
  have b2 := B.cell (i := 2) (v := .int .i64 fl) rfl
  have b3 := B.cell (i := 3) (v := .int .i64 fh) rfl
  have HBB := Lib.hid (((Below.refl _ w).alloc (Nat.le_refl _) (.cells #[.int .i64 dl, .int .i64 dh, .int .i64 fl, .int .i64 fh] 25)).alloc (by simp) (.cells #[.int .i64 0, .int .i64 0] 23))
  obtain ⟨r, hr⟩ : ∃ r, shrunkF n dl dh fl fh = r := ⟨_, rfl⟩
  have HS : Hid (r = if isClayF dl dh fl fh = false then (0, 0, 2) else if inB n 1 1000000 = false then (0, 0, 3)
  else (n * ((10000 - dh) * (10000 - fh)) / 100000000, (n * ((10000 - dl) * (10000 - fl)) + 99999999) / 100000000, 0)) := Lib.hid (by rw [← hr]; rfl)
  rw [hr]
  have HR := Lib.hid R
  have HB := Lib.hid B
  clear B R hr
  go_enter Try.func13, Try.ntmps13
  go_wp2_with fail
  refine (isClay_any dl dh fl fh _).mono ?_
  rintro e w2 ⟨rfl, hb2⟩
  clear b0 b1 b2 b3
  have R2 := HR.out.past hb2
  have B2 := HB.out.past hb2
  have b0 := B2.cell (i := 0) (v := .int .i64 dl) rfl
  have b1 := B2.cell (i := 1) (v := .int .i64 dh) rfl
  have b2 := B2.cell (i := 2) (v := .int .i64 fl) rfl
  have b3 := B2.cell (i := 3) (v := .int .i64 fh) rfl
  have r0 := R2.cell (i := 0) (v := .int .i64 0) rfl
  have r1 := R2.cell (i := 1) (v := .int .i64 0) rfl
  have f0 := R2.fr (i := 0)
  have f1 := R2.fr (i := 1)
  have HB2 := Lib.hid (HBB.out.trans (hb2.mono HBB.out.size))
  have HR2 := Lib.hid R2
  have HX2 := Lib.hid B2
  clear hb2 R2 B2 HBB HB HR
  cases hc : isClayF dl dh fl fh
  · have HV : Hid (r = (0, 0, 2)) := Lib.hid (by rw [HS.out, hc]; rfl)
    clear hc HS
    go_wp2
    obtain ⟨d0, d1, d2, hg, _⟩ := blk_after HR2.out (.int .i64 0) (.int .i64 0) rfl rfl
    refine bodyPost_ret (v := .tuple #[.agg #[.int .i64 0, .int .i64 0], .int .i64 2]) ?_ rfl ?_
    · simp [results, Try.results13, go_sem, d0, d1, d2]
    · exact ⟨by rw [HV.out], HB2.out.grown hg HB2.out.size (by intro k hk; cases hk; omega)⟩
  · obtain ⟨q1, q2, q3, q4, q5, q6⟩ := isClayF_range hc
    have HI := Lib.hid (areWithin_any 1 1000000 _ _ _ (ints_one w2 w2.heap.size n 3 rfl))
    have HI1 : Hid (([n].all fun n => inB n 1 1000000) = inB n 1 1000000) := Lib.hid (by simp)
    obtain ⟨bi, hbi⟩ : ∃ bi, ([n].all fun n => inB n 1 1000000) = bi := ⟨_, rfl⟩
    rw [hbi] at HI HI1
    have HS1 : Hid (r = if bi = false then (0, 0, 3)
  else (n * ((10000 - dh) * (10000 - fh)) / 100000000, (n * ((10000 - dl) * (10000 - fl)) + 99999999) / 100000000, 0)) := Lib.hid (by rw [HS.out, hc, HI1.out]; rfl)
    have HN : Hid (bi = true → 1 ≤ n ∧ n ≤ 1000000) := Lib.hid (by rw [HI1.out]; simp [inB])
    clear hc HS hbi HI1
    go_wp2_with fail
    refine HI.out.mono ?_
    rintro e w3 ⟨rfl, rfl⟩
    clear b0 b1 b2 b3 r0 r1 f0 f1
    have X3 := HX2.out.alloc (.cells #[.int .i64 n] 3)
    have R3 := HR2.out.alloc (.cells #[.int .i64 n] 3)
    have b0 := X3.cell (i := 0) (v := .int .i64 dl) rfl
    have b1 := X3.cell (i := 1) (v := .int .i64 dh) rfl
    have b2 := X3.cell (i := 2) (v := .int .i64 fl) rfl
    have b3 := X3.cell (i := 3) (v := .int .i64 fh) rfl
    have r0 := R3.cell (i := 0) (v := .int .i64 0) rfl
    have r1 := R3.cell (i := 1) (v := .int .i64 0) rfl
    have f0 := R3.fr (i := 0)
    have f1 := R3.fr (i := 1)
    have HB3 := Lib.hid (HB2.out.alloc HB2.out.size (.cells #[.int .i64 n] 3))
    have HR3 := Lib.hid R3
    have HX3 := Lib.hid X3
    clear HR2 HX2 HB2 R3 X3 HI
    cases bi
    · have HV : Hid (r = (0, 0, 3)) := Lib.hid (by rw [HS1.out]; rfl)
      clear HS1 HN
      go_wp2
      obtain ⟨d0, d1, d2, hg, _⟩ := blk_after HR3.out (.int .i64 0) (.int .i64 0) rfl rfl
      refine bodyPost_ret (v := .tuple #[.agg #[.int .i64 0, .int .i64 0], .int .i64 3]) ?_ rfl ?_
      · simp [results, Try.results13, go_sem, d0, d1, d2]
      · exact ⟨by rw [HV.out], HB3.out.grown hg HB3.out.size (by intro k hk; cases hk; omega)⟩
    · obtain ⟨n1, n2⟩ := HN.out rfl
      have k1 := kept_range q2 q4
      have k2 := kept_range q1 q3
      have HKC := Lib.hid (keptOf_any dl dh fl fh (w2.alloc (.cells #[.int .i64 n] 3)) q1 q2 q3 q4)
      have HV : Hid (r = (n * ((10000 - dh) * (10000 - fh)) / 100000000, (n * ((10000 - dl) * (10000 - fl)) + 99999999) / 100000000, 0)) := Lib.hid (by rw [HS1.out]; rfl)
      obtain ⟨x, hx⟩ : ∃ x, (10000 - dh) * (10000 - fh) = x := ⟨_, rfl⟩
      obtain ⟨y, hy⟩ : ∃ y, (10000 - dl) * (10000 - fl) = y := ⟨_, rfl⟩
      rw [hx] at k1
      rw [hy] at k2
      rw [hx, hy] at HV HKC
      have p1 := mul_le_int (a := n) (b := x) (A := 1000000) (B := 100000000) (by omega) (by omega)
      have p2 := mul_le_int (a := n) (b := y) (A := 1000000) (B := 100000000) (by omega) (by omega)
      obtain ⟨p, hp⟩ : ∃ p, n * x = p := ⟨_, rfl⟩
      obtain ⟨q, hq⟩ : ∃ p, n * y = p := ⟨_, rfl⟩
      rw [hp] at p1
      rw [hq] at p2
      rw [hp, hq] at HV
      clear HS1 HN hx hy q1 q2 q3 q4 q5 q6
      go_wp2_with fail
      refine HKC.out.mono ?_
      rintro e w4 ⟨rfl, hb4⟩
      clear b0 b1 b2 b3 r0 r1 f0 f1
      have R4 := HR3.out.past hb4
      have hlt4 := R4.lt
      have hne : w4.heap.size ≠ w.heap.size + 1 := by omega
      have HB4 := Lib.hid ((HB3.out.trans (hb4.mono HB3.out.size)).alloc (Nat.le_trans HB3.out.size hb4.size) (.cells #[.int .i64 x, .int .i64 y] 23))
      have HK4 := Lib.hid (Blk.new w4 #[.int .i64 x, .int .i64 y] 23)
      have HR4 := Lib.hid (R4.alloc (.cells #[.int .i64 x, .int .i64 y] 23))
      obtain ⟨kb, hkb⟩ : ∃ kb, w4.heap.size = kb := ⟨_, rfl⟩
      clear hb4 R4 HR3 HX3 HB3 HKC
      go_wp2_with fail
      rw [hkb] at HK4 hne
      obtain ⟨W4, hW4⟩ : ∃ W4, w4.alloc (.cells #[.int .i64 x, .int .i64 y] 23) = W4 := ⟨_, rfl⟩
      rw [hW4] at HB4 HK4 HR4 ⊢
      clear hW4 hlt4 hkb
      have r0 := HR4.out.cell (i := 0) (v := .int .i64 0) rfl
      have r1 := HR4.out.cell (i := 1) (v := .int .i64 0) rfl
      have f0 := HR4.out.fr (i := 0)
      have f1 := HR4.out.fr (i := 1)
      have c0 := HK4.out.cell (i := 0) (v := .int .i64 x) rfl
      have c1 := HK4.out.cell (i := 1) (v := .int .i64 y) rfl
      have hwq : IntKind.i64.wrap q = q := wrap_id (by omega) (by omega)
      have hwp : IntKind.i64.wrap p = p := wrap_id (by omega) (by omega)
      have hwr : IntKind.i64.wrap (p.tdiv 100000000) = p / 100000000 := by rw [Int.tdiv_eq_ediv_of_nonneg (by omega)]; exact wrap_id (by omega) (by omega)
      have HS4 : Hid (∀ u v : Value, u.cells = #[u] → v.cells = #[v] → ((W4.setCell ⟨w.heap.size + 1, 0, none⟩ u).setCell ⟨w.heap.size + 1, 1, none⟩ v).drew.cell? ⟨kb, 0, none⟩ = some (.int .i64 x) ∧ ((W4.setCell ⟨w.heap.size + 1, 0, none⟩ u).setCell ⟨w.heap.size + 1, 1, none⟩ v).drew.cell? ⟨kb, 1, none⟩ = some (.int .i64 y)) :=
        Lib.hid fun u v _ _ => ⟨((HK4.out.far hne).far hne).drew.cell (i := 0) rfl, ((HK4.out.far hne).far hne).drew.cell (i := 1) rfl⟩
      go_region_held3 (fun W => W.cell? ⟨kb, 0, none⟩ = some (.int .i64 x) ∧ W.cell? ⟨kb, 1, none⟩ = some (.int .i64 y))
        (first | with_reducible exact ⟨c0, c1⟩ | with_reducible exact ⟨HK4.out.drew.cell (i := 0) rfl, HK4.out.drew.cell (i := 1) rfl⟩ | with_reducible exact HS4.out _ _ rfl rfl | (go_keep; done))
        ((go_at_call 56; refine (dividedUp_any q 100000000 _ (by omega) (by omega) (by omega) (by omega)).mono ?_; rintro e w5 ⟨rfl, rfl⟩))
      all_goals
        go_wp2
        obtain ⟨d0, d1, d2, hg, _⟩ := blk_after HR4.out (.int .i64 (p / 100000000)) (.int .i64 ((q + 100000000 - 1) / 100000000)) rfl rfl
        refine bodyPost_ret (v := .tuple #[.agg #[.int .i64 (p / 100000000), .int .i64 ((q + 100000000 - 1) / 100000000)], .int .i64 0]) ?_ rfl ?_
        · simp [results, Try.results13, go_sem, d0, d1, d2]
        · exact ⟨by rw [HV.out, show q + 99999999 = q + 100000000 - 1 by omega], (HB4.out.grown hg HB4.out.size (by intro k hk; cases hk; omega)).drew⟩
end Go.Proofs.Ytopnlcjbklmicaa
