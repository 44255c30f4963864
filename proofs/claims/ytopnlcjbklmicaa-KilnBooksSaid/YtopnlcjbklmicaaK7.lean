import Derived.Test.YtopnlcjbklmicaaK6
import Derived.WalkKit
import Derived.WalkSpells
import Derived.WalkLawsBesides
import Derived.Deep.QuietTactic
import Derived.BigQuiet
import Derived.Lib.Hide
import Derived.WalkSmall
import Derived.Maps.OwnSet
import Derived.Maps.RangeWalk
import Derived.Deep.RegionWith
import Derived.Deep.RegionHeld3
import Derived.Deep.DrawnRows
import Derived.Deep.DeepCutAuto
import Derived.OneCell
import Derived.KernelRfl
import Derived.Laws.StructEq
import Derived.StillTailTactics
import Derived.Laws.Externs
import Derived.RangeFuncBox
import Derived.Outline
import Derived.RangeFuncNested
import Derived.RangeFuncBound
import Derived.RangeFuncCalls
import Derived.RangeFuncLeaves
import Derived.Shelf.RegionOpen
import Derived.OwnWalkIn
import Derived.TacticsInMore
import Derived.LoopNIn
import Derived.LoopIn
import Derived.Test.YtopnlcjbklmicaaProg
namespace Go.Proofs.Ytopnlcjbklmicaa
open Go.RowKit Go.Maps Go.Shelf
set_option linter.unusedVariables false
set_option linter.unusedSimpArgs false
def leftS (p s : Int × Int) : Int × Int := (p.1 - p.1 * s.2 / 10000, p.2 - p.2 * s.1 / 10000)
def leftL (p : Int × Int) (l : List (Int × Int)) : Int × Int := l.foldl leftS p
theorem leftL_take (p d : Int × Int) (l : List (Int × Int)) (k : Nat) (h : k < l.length) : leftL p (l.take (k + 1)) = leftS (leftL p (l.take k)) (l[k]?.getD d) := by
  unfold leftL
  rw [List.take_succ_eq_append_getElem h, List.foldl_append]; simp [h]
/-- How many are left of x. -/
theorem loss_range {x m : Int} (hx : 0 ≤ x ∧ x ≤ 1000000000) (hm : 0 ≤ m ∧ m ≤ 10000) : 0 ≤ x * m ∧ x * m ≤ 10000000000000 ∧ 0 ≤ x * m / 10000 ∧ x * m / 10000 ≤ x := by
  have h := mul_le_int hx hm
  have h2 : x * m ≤ x * 10000 := Int.mul_le_mul_of_nonneg_left hm.2 hx.1
  omega
theorem leftS_range {p s : Int × Int} (h1 : 0 ≤ p.1 ∧ p.1 ≤ 1000000000) (h2 : 0 ≤ p.2 ∧ p.2 ≤ 1000000000) (hs : stageF s = true) :
    (0 ≤ (leftS p s).1 ∧ (leftS p s).1 ≤ 1000000000) ∧ (0 ≤ (leftS p s).2 ∧ (leftS p s).2 ≤ 1000000000) := by
  obtain ⟨q1, q2, q3⟩ := isSpreadF_range hs
  have a := loss_range h1 (m := s.2) (by omega)
  have b := loss_range h2 (m := s.1) (by omega)
  unfold leftS
  dsimp only
  omega
theorem leftL_range {p : Int × Int} (l : List (Int × Int)) (h1 : 0 ≤ p.1 ∧ p.1 ≤ 1000000000) (h2 : 0 ≤ p.2 ∧ p.2 ≤ 1000000000) (hs : l.all stageF = true) :
    (0 ≤ (leftL p l).1 ∧ (leftL p l).1 ≤ 1000000000) ∧ (0 ≤ (leftL p l).2 ∧ (leftL p l).2 ≤ 1000000000) := by
  induction l generalizing p with
  | nil => exact ⟨h1, h2⟩
  | cons s l ih =>
    simp at hs
    obtain ⟨g1, g2⟩ := leftS_range h1 h2 hs.1
    exact ih g1 g2 (by simpa using hs.2)
theorem all_take {α : Type} {p : α → Bool} {l : List α} (h : l.all p = true) (k : Nat) : (l.take k).all p = true := by
  rw [List.all_eq_true] at h ⊢
  intro x hx; exact h x (List.mem_of_mem_take hx)
theorem all_get {α : Type} {p : α → Bool} {l : List α} (d : α) (h : l.all p = true) (k : Nat) (hk : k < l.length) : p (l[k]?.getD d) = true := by
  rw [List.all_eq_true] at h
  exact h _ (by simp [hk])
def leftF (n : Int) (l : List (Int × Int)) : Int × Int × Int :=
  if 10 < l.length then (0, 0, 5) else if l.all stageF = false then (0, 0, 2) else if inB n 0 1000000000 = false then (0, 0, 3)
  else ((leftL (n, n) l).1, (leftL (n, n) l).2, 0)
set_option maxHeartbeats 2000000 in
theorem left_any (n : Int) (v : Value) (l : List (Int × Int)) (w : World) (h : PairsAt w v l) :
    Calls Try.prog 19 #[.int .i64 n, v] w fun e w' =>
      e = .returned (.tuple #[.agg #[.int .i64 (leftF n l).1, .int .i64 (leftF n l).2.1], .int .i64 (leftF n l).2.2]) ∧ Below w.heap.size w w' := by
  obtain ⟨a, cap, rfl, hl, hp⟩ := h.placed
  have BB := (Below.refl _ w).alloc (Nat.le_refl _) (.cells #[.int .i64 0, .int .i64 0] 23)
  have HST := Lib.hid (areStages_any _ l _ (h.below BB))
  have HBB := Lib.hid BB
  have HR := Lib.hid (Blk.new w #[.int .i64 0, .int .i64 0] 23)
  obtain ⟨r, hr⟩ : ∃ r, leftF n l = r := ⟨_, rfl⟩
  have HS := Lib.hid hr.symm
  unfold leftF at HS
  rw [hr]
  have HC := Lib.hid hp
  clear hr BB hp h
  go_enter Try.func19, Try.ntmps19
  by_cases hten : 10 < l.length
  · have HV : Hid (r = (0, 0, 5)) := Lib.hid (by rw [HS.out, if_pos hten])
    have r0 := HR.out.cell (i := 0) (v := .int .i64 0) rfl
    have r1 := HR.out.cell (i := 1) (v := .int .i64 0) rfl
    have f0 := HR.out.fr (i := 0)
    have f1 := HR.out.fr (i := 1)
    clear HS HST
    go_wp2
    refine bodyPost_ret (v := .tuple #[.agg #[.int .i64 0, .int .i64 0], .int .i64 5]) ?_ rfl ?_
    · simp [results, Try.results19, go_sem]
    · exact ⟨by rw [HV.out], HBB.out⟩
  · rw [if_neg hten] at HS
    go_wp2_with fail
    refine HST.out.mono ?_
    rintro e w2 ⟨rfl, hb2⟩
    have R2 := HR.out.past hb2
    have r0 := R2.cell (i := 0) (v := .int .i64 0) rfl
    have r1 := R2.cell (i := 1) (v := .int .i64 0) rfl
    have f0 := R2.fr (i := 0)
    have f1 := R2.fr (i := 1)
    have HR2 := Lib.hid R2
    have HB2 := Lib.hid (HBB.out.trans (hb2.mono HBB.out.size))
    clear hb2 R2 HST HR HBB
    cases hst : l.all stageF
    · have HV : Hid (r = (0, 0, 2)) := Lib.hid (by rw [HS.out, hst]; rfl)
      clear hst HS
      go_wp2
      obtain ⟨d0, d1, d2, hg, _⟩ := blk_after HR2.out (.int .i64 0) (.int .i64 0) rfl rfl
      refine bodyPost_ret (v := .tuple #[.agg #[.int .i64 0, .int .i64 0], .int .i64 2]) ?_ rfl ?_
      · simp [results, Try.results19, go_sem, d0, d1, d2]
      · exact ⟨by rw [HV.out], HB2.out.grown hg HB2.out.size (by intro k hk; cases hk; omega)⟩
    · rw [hst] at HS
      have HAL := Lib.hid hst
      have HI := Lib.hid (areWithin_any 0 1000000000 _ _ _ (ints_one w2 w2.heap.size n 3 rfl))
      have HI1 : Hid (([n].all fun n => inB n 0 1000000000) = inB n 0 1000000000) := Lib.hid (by simp)
      obtain ⟨bi, hbi⟩ : ∃ bi, ([n].all fun n => inB n 0 1000000000) = bi := ⟨_, rfl⟩
      rw [hbi] at HI HI1
      have HS1 : Hid (r = if bi = false then (0, 0, 3) else ((leftL (n, n) l).1, (leftL (n, n) l).2, 0)) := Lib.hid (by rw [HS.out, HI1.out]; rfl)
      have HN : Hid (bi = true → 0 ≤ n ∧ n ≤ 1000000000) := Lib.hid (by rw [HI1.out]; simp [inB])
      clear hst HS hbi HI1
      go_wp2_with fail
      refine HI.out.mono ?_
      rintro e w3 ⟨rfl, rfl⟩
      clear r0 r1 f0 f1 HI
      have R3 := HR2.out.alloc (.cells #[.int .i64 n] 3)
      have HB3 := Lib.hid (HB2.out.alloc HB2.out.size (.cells #[.int .i64 n] 3))
      obtain ⟨w3, hw3⟩ : ∃ w3, w2.alloc (.cells #[.int .i64 n] 3) = w3 := ⟨_, rfl⟩
      rw [hw3] at R3 HB3 ⊢
      have HR3 := Lib.hid R3
      have HLT := Lib.hid R3.lt
      clear hw3 R3 HR2 HB2
      cases bi
      · have HV : Hid (r = (0, 0, 3)) := Lib.hid (by rw [HS1.out]; rfl)
        have r0 := HR3.out.cell (i := 0) (v := .int .i64 0) rfl
        have r1 := HR3.out.cell (i := 1) (v := .int .i64 0) rfl
        have f0 := HR3.out.fr (i := 0)
        have f1 := HR3.out.fr (i := 1)
        clear HS1 HN
        go_wp2
        obtain ⟨d0, d1, d2, hg, _⟩ := blk_after HR3.out (.int .i64 0) (.int .i64 0) rfl rfl
        refine bodyPost_ret (v := .tuple #[.agg #[.int .i64 0, .int .i64 0], .int .i64 3]) ?_ rfl ?_
        · simp [results, Try.results19, go_sem, d0, d1, d2]
        · exact ⟨by rw [HV.out], HB3.out.grown hg HB3.out.size (by intro k hk; cases hk; omega)⟩
      · have HNN := Lib.hid (HN.out rfl)
        have HV : Hid (r = ((leftL (n, n) l).1, (leftL (n, n) l).2, 0)) := Lib.hid (by rw [HS1.out]; rfl)
        clear HN HS1
        obtain ⟨kb, hkb⟩ : ∃ kb, w3.heap.size = kb := ⟨_, rfl⟩
        have HKB : Hid (w.heap.size < kb) := Lib.hid (by rw [← hkb]; exact HLT.out)
        have HX := Lib.hid (Blk.newI w3 kb #[.int .i64 n, .int .i64 n] 23 hkb)
        have HR4 := Lib.hid (HR3.out.alloc (.cells #[.int .i64 n, .int .i64 n] 23))
        have HB4 := Lib.hid (HB3.out.alloc HB3.out.size (.cells #[.int .i64 n, .int .i64 n] 23))
        go_wp2
        obtain ⟨w4, hw4⟩ : ∃ w4, w3.alloc (.cells #[.int .i64 n, .int .i64 n] 23) = w4 := ⟨_, rfl⟩
        rw [hw4] at HX HR4 HB4 ⊢
        clear hw4 hkb HR3 HB3 HLT
        go_loopw [30] (fun i wr => ∃ k : Nat, k ≤ l.length ∧ i = .int .i64 k ∧ Hid (Blk wr kb #[.int .i64 (leftL (n, n) (l.take k)).1, .int .i64 (leftL (n, n) (l.take k)).2] 23) ∧ Hid (Blk wr w.heap.size #[.int .i64 0, .int .i64 0] 23) ∧ Hid (Below w.heap.size w wr)) (fun i _ => l.length - (intOf i).toNat)
        case atStart => exact ⟨0, Nat.zero_le _, rfl, HX, HR4, HB4⟩
        case round =>
          obtain ⟨k, hk, rfl, HX5, HR5, HB5⟩ := hrel
          by_cases hlt : k < l.length
          · obtain ⟨b, off, rfl, hbb, c1, c2⟩ := HC.out k hlt
            have c1 := (HB5.out.cell (p := ⟨b, _, none⟩) hbb).trans c1
            have c2 := (HB5.out.cell (p := ⟨b, _, none⟩) hbb).trans c2
            have hst := leftL_take (n, n) (0, 0) l k hlt
            have hq := all_get (0, 0) HAL.out k hlt
            have hrg := leftL_range (p := (n, n)) (l.take k) HNN.out HNN.out (all_take HAL.out k)
            obtain ⟨x, y, hel⟩ : ∃ x y, l[k]?.getD (0, 0) = (x, y) := ⟨_, _, rfl⟩
            obtain ⟨p, q, hpq⟩ : ∃ p q, leftL (n, n) (l.take k) = (p, q) := ⟨_, _, rfl⟩
            rw [hel] at c1 c2 hst hq
            rw [hpq] at hst hrg HX5
            have HST := Lib.hid hst
            dsimp only at c1 c2 hrg
            obtain ⟨u1, u2, u3⟩ := isSpreadF_range hq
            dsimp only at u1 u2 u3
            have v1 := loss_range hrg.1 (m := y) (by omega)
            have v2 := loss_range hrg.2 (m := x) (by omega)
            obtain ⟨g1, g2⟩ := hrg
            obtain ⟨py, hpy⟩ : ∃ t, p * y = t := ⟨_, rfl⟩
            obtain ⟨qx, hqx⟩ : ∃ t, q * x = t := ⟨_, rfl⟩
            rw [hpy] at v1
            rw [hqx] at v2
            have HST2 : Hid (leftL (n, n) (l.take (k + 1)) = (p - py / 10000, q - qx / 10000)) := Lib.hid (by rw [HST.out]; unfold leftS; dsimp only; rw [hpy, hqx])
            clear hel hpq hst hq HST
            obtain ⟨kc, hkc⟩ : ∃ kc, wr.heap.size = kc := ⟨_, rfl⟩
            have hl1 := HX5.out.lt
            have hl2 := HR5.out.lt
            rw [hkc] at hl1 hl2
            have hlk := HKB.out
            have HY := Lib.hid (Blk.newI wr kc #[.int .i64 x, .int .i64 y] 124 hkc)
            have HX6 := Lib.hid (HX5.out.alloc (.cells #[.int .i64 x, .int .i64 y] 124))
            have HR6 := Lib.hid (HR5.out.alloc (.cells #[.int .i64 x, .int .i64 y] 124))
            have HB6 := Lib.hid (HB5.out.alloc HB5.out.size (.cells #[.int .i64 x, .int .i64 y] 124))
            have e0 := HX5.out.cell (i := 0) (v := .int .i64 p) rfl
            have e1 := HX5.out.cell (i := 1) (v := .int .i64 q) rfl
            have f0 := HX5.out.fr (i := 0)
            have f1 := HX5.out.fr (i := 1)
            have hd1 : py.tdiv 10000 = py / 10000 := Int.tdiv_eq_ediv_of_nonneg v1.1
            have hd2 : qx.tdiv 10000 = qx / 10000 := Int.tdiv_eq_ediv_of_nonneg v2.1
            go_wp2
            have hne1 : kb ≠ w.heap.size := by omega
            have HX7 := (((HX5.out.set 0 (by simp) (.int .i64 (p - py / 10000)) rfl).set 1 (by simp) (.int .i64 (q - qx / 10000)) rfl).alloc (.cells #[.int .i64 x, .int .i64 y] 124))
            exact ⟨⟨k + 1, by omega, by go_num, Lib.hid (by rw [HST2.out]; exact HX7), Lib.hid (((HR5.out.far hne1.symm).far hne1.symm).alloc _), Lib.hid (((HB5.out.setCell (show w.heap.size ≤ kb by omega) _).setCell (show w.heap.size ≤ kb by omega) _).alloc (by simp [World.size_setCell]; exact HB5.out.size) _)⟩, by simp [intOf]; omega⟩
          · have hke : k = l.length := by omega
            subst hke
            have hke : l.take l.length = l := List.take_length
            rw [hke] at HX5
            obtain ⟨x, y, hxy⟩ : ∃ x y, leftL (n, n) l = (x, y) := ⟨_, _, rfl⟩
            rw [hxy] at HX5 HV
            have e0 := HX5.out.cell (i := 0) (v := .int .i64 x) rfl
            have e1 := HX5.out.cell (i := 1) (v := .int .i64 y) rfl
            have r0 := HR5.out.cell (i := 0) (v := .int .i64 0) rfl
            have r1 := HR5.out.cell (i := 1) (v := .int .i64 0) rfl
            have f0 := HR5.out.fr (i := 0)
            have f1 := HR5.out.fr (i := 1)
            clear hke hxy
            go_wp2
            obtain ⟨d0, d1, d2, hg, _⟩ := blk_after HR5.out (.int .i64 x) (.int .i64 y) rfl rfl
            refine bodyPost_ret (v := .tuple #[.agg #[.int .i64 x, .int .i64 y], .int .i64 0]) ?_ rfl ?_
            · simp [results, Try.results19, go_sem, d0, d1, d2]
            · exact ⟨by rw [HV.out], HB5.out.grown hg HB5.out.size (by intro k hk; cases hk; omega)⟩
end Go.Proofs.Ytopnlcjbklmicaa
