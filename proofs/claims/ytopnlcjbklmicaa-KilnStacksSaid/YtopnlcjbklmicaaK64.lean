import Derived.Test.YtopnlcjbklmicaaK63
import Derived.WalkKit
import Derived.WalkSpells
import Derived.WalkLawsBesides
import Derived.Deep.QuietTactic
import Derived.BigQuiet
import Derived.Lib.Hide
import Derived.WalkSmall
import Derived.Maps.OwnSet
import Derived.Maps.RangeWalk
import Derived.Deep.RegionWith
import Derived.Deep.RegionHeld3
import Derived.Deep.DrawnRows
import Derived.Deep.DeepCutAuto
import Derived.OneCell
import Derived.KernelRfl
import Derived.Laws.StructEq
import Derived.StillTailTactics
import Derived.Laws.Externs
import Derived.RangeFuncBox
import Derived.Outline
import Derived.RangeFuncNested
import Derived.RangeFuncBound
import Derived.RangeFuncCalls
import Derived.RangeFuncLeaves
import Derived.Shelf.RegionOpen
import Derived.OwnWalkIn
import Derived.TacticsInMore
import Derived.LoopNIn
import Derived.LoopIn
import Derived.Test.YtopnlcjbklmicaaProg
namespace Go.Proofs.Ytopnlcjbklmicaa
open Go.RowKit Go.Maps Go.Shelf
set_option linter.unusedVariables false
set_option linter.unusedSimpArgs false
theorem RowsAt.below' {W W' : World} {base gb : Nat} {rows : List (List (Nat × Nat))} (h : RowsAt W base gb rows) (hb : Below W.heap.size W W') : RowsAt W' base gb rows := h.past hb
set_option maxRecDepth 100000 in
set_option maxHeartbeats 8000000 in
theorem refCrushed_any (gb base : Nat) (W H : Int) (tv bearsv : Value) (ts : List (List Int × List Int)) (rows : List (List (Nat × Nat))) (bears : List Int) (N : Nat) (w : World) (hs : SrcT w tv ts) (hn : CrushN ts rows bears N) (hr : RowsAt w base gb rows) (hb : IntsAt w bearsv bears) (ht10 : ts.length ≤ 10) (hnb144 : ∀ t, t < ts.length → nbAt ts t ≤ 144) :
    Calls Try.prog 43 #[.agg #[.int .i64 W, .int .i64 H, tv], .slice (some ⟨gb, 0, none⟩) ts.length ts.length, bearsv] w fun e w' => ∃ r, FirstB ts (crushP ts rows bears) r ∧ e = .returned (.agg #[.int .i64 (bT r), .int .i64 (bB r)]) ∧ Below w.heap.size w w' := by
  obtain ⟨a, cap, rfl, hl, hp⟩ := hs
  obtain ⟨ab, cb, rfl, hlb, hib⟩ := hb.placed
  rw [hn.bl]
  have A := (Blk.new w #[.int .i64 W, .int .i64 H, .slice a ts.length cap] 69).alloc (.cells #[.int .i64 0, .int .i64 0] 74)
  have R := Blk.newI (w.alloc (.cells #[.int .i64 W, .int .i64 H, .slice a ts.length cap] 69)) (w.heap.size + 1) #[.int .i64 0, .int .i64 0] 74 (by simp)
  have B0 := ((Below.refl _ w).alloc (Nat.le_refl _) (.cells #[.int .i64 W, .int .i64 H, .slice a ts.length cap] 69)).alloc (by simp) (.cells #[.int .i64 0, .int .i64 0] 74)
  have HP := Lib.hid hp
  have HIB := Lib.hid hib
  have HA := Lib.hid (And.intro A (And.intro R B0))
  have HN := Lib.hid hn
  have HRW := Lib.hid hr
  have HNB144 := Lib.hid hnb144
  obtain ⟨p, hpp⟩ : ∃ p, crushP ts rows bears = p := ⟨_, rfl⟩
  have HPP : Hid (∀ t b, p t b = decide ((bears[t]?.getD 0) * ((cellsL (ts[t]?.getD ([], [])).1 b).length : Int) * ((loadAt rows t b).2 : Int) < ((loadAt rows t b).1 : Int))) := Lib.hid fun t b => by rw [← hpp]; rfl
  rw [hpp]
  have hn144 := hn.n
  clear hp A B0 R hn hr hb hib hnb144 hpp
  go_enter Try.func43, Try.ntmps43
  go_wp2
  go_loopw [7] (fun i wr => ∃ k : Nat, k ≤ ts.length ∧ i = .int .i64 k ∧ Hid (∀ t, t < k → ∀ b, b < (ts[t]?.getD ([], [])).2.length → p t b = false) ∧ Hid (Blk wr w.heap.size #[.int .i64 W, .int .i64 H, .slice a ts.length cap] 69 ∧ Blk wr (w.heap.size + 1) #[.int .i64 0, .int .i64 0] 74 ∧ Below w.heap.size w wr)) (fun i _ => ts.length - (intOf i).toNat)
  case atStart => exact ⟨0, Nat.zero_le _, rfl, Lib.hid (fun t ht => by omega), HA⟩
  case round =>
    obtain ⟨k, hk, rfl, HL, HW⟩ := hrel
    rename World => v
    clear HA
    have x2 := HW.out.1.cell (i := 2) (v := .slice a ts.length cap) rfl
    by_cases hlt : k < ts.length
    · have hki : (0 : Int) ≤ (k : Int) := by omega
      have hkl : (k : Int) < (ts.length : Int) := by omega
      obtain ⟨b, off, rfl, hbb, vc, vw, c1, _, s1, _⟩ := HP.out k hlt
      obtain ⟨ac, cc, rfl, hlc, hpc⟩ := s1.ints.placed
      rw [HN.out.len k hlt] at c1
      have HPC := Lib.hid hpc
      have HC1 := Lib.hid c1
      have HLL := Lib.hid (HN.out.len k hlt)
      obtain ⟨nb, hnb⟩ : ∃ nb, nbAt ts k = nb := ⟨_, rfl⟩
      have hnbl : nb ≤ 144 := by rw [← hnb]; exact HNB144.out k hlt
      have HNB := Lib.hid hnb
      have HRL : Hid ((rows[k]?.getD []).length = nb) := Lib.hid ((HN.out.row k hlt).trans hnb)
      clear s1 c1 hnb hlc hpc
      go_wp2_with fail
      go_loopw [8] (fun i wr => ∃ q : Nat, q ≤ nb ∧ i = .int .i64 q ∧ Hid (∀ b, b < q → p k b = false) ∧ Hid (Blk wr w.heap.size #[.int .i64 W, .int .i64 H, .slice (some ⟨b, off, none⟩) ts.length cap] 69 ∧ Blk wr (w.heap.size + 1) #[.int .i64 0, .int .i64 0] 74 ∧ Below w.heap.size w wr)) (fun i _ => nb - (intOf i).toNat)
      case atStart => exact ⟨0, Nat.zero_le _, rfl, Lib.hid (fun t ht => by omega), HW⟩
      case round =>
        obtain ⟨q, hq, rfl, HQ, HU⟩ := hrel
        rename World => u
        clear HW x2
        have x2 := HU.out.1.cell (i := 2) (v := .slice (some ⟨b, off, none⟩) ts.length cap) rfl
        obtain ⟨pr, cr, hrow0⟩ := (HRW.out.below' HU.out.2.2).slot (t := k) (by rw [HN.out.rl]; exact hlt)
        rw [HRL.out] at hrow0
        by_cases hql : q < nb
        · have hqi : (0 : Int) ≤ (q : Int) := by omega
          have hqli : (q : Int) < (nb : Int) := by omega
          have c1 := (HU.out.2.2.cell (p := ⟨b, _, none⟩) hbb).trans HC1.out
          go_wp2_with fail
          go_loopw [9, 10] (fun c i wr => ∃ j : Nat, j ≤ N ∧ i = .int .i64 j ∧ (∃ m : Nat, c = .int .i64 m ∧ m ≤ j ∧ Hid (((List.range j).filter fun c => decide (keyAt ts k c = (q : Int))).length = m)) ∧ Hid (Blk wr w.heap.size #[.int .i64 W, .int .i64 H, .slice (some ⟨b, off, none⟩) ts.length cap] 69 ∧ Blk wr (w.heap.size + 1) #[.int .i64 0, .int .i64 0] 74 ∧ Below w.heap.size w wr)) (fun _ i _ => N - (intOf i).toNat)
          case atStart => exact ⟨0, Nat.zero_le _, rfl, ⟨0, rfl, Nat.le_refl _, Lib.hid rfl⟩, HU⟩
          case round =>
            obtain ⟨j, hj, rfl, ⟨m, rfl, hmj, HM⟩, HY⟩ := hrel
            rename World => y
            clear HU x2 c1 hrow0
            have x2 := HY.out.1.cell (i := 2) (v := .slice (some ⟨b, off, none⟩) ts.length cap) rfl
            have c1 := (HY.out.2.2.cell (p := ⟨b, _, none⟩) hbb).trans HC1.out
            by_cases hjl : j < N
            · obtain ⟨cb', co, rfl, hcb, d1⟩ := HPC.out j (by rw [HLL.out]; exact hjl)
              have d1 := (HY.out.2.2.cell (p := ⟨cb', _, none⟩) hcb).trans d1
              obtain ⟨x, hx⟩ : ∃ x, (ts[k]?.getD ([], [])).1[j]?.getD 0 = x := ⟨_, rfl⟩
              rw [hx] at d1
              have hkx : keyAt ts k j = x := hx
              have hji : (0 : Int) ≤ (j : Int) := by omega
              have hjli : (j : Int) < (N : Int) := by omega
              have hfs := filt_succ (fun c => decide (keyAt ts k c = (q : Int))) j
              rw [hkx] at hfs
              clear hx hkx
              by_cases hxq : x = (q : Int)
              · subst hxq
                have HM2 : Hid (((List.range (j + 1)).filter fun c => decide (keyAt ts k c = (q : Int))).length = m + 1) := Lib.hid (by rw [hfs]; simpa using HM.out)
                have hxx : ((q : Int) == (q : Int)) = true := by simp
                clear hfs
                go_wp2
                go_roundw
                case rel => exact ⟨j + 1, by omega, by go_num, ⟨m + 1, by go_num, by omega, HM2⟩, HY⟩
                case measure => simp [intOf]; omega
              · have HM2 : Hid (((List.range (j + 1)).filter fun c => decide (keyAt ts k c = (q : Int))).length = m) := Lib.hid (by rw [hfs]; simpa [hxq] using HM.out)
                have hxx : (x == (q : Int)) = false := by simpa using hxq
                clear hfs
                go_wp2
                go_roundw
                case rel => exact ⟨j + 1, by omega, by go_num, ⟨m, rfl, by omega, HM2⟩, HY⟩
                case measure => simp [intOf]; omega
            · have hje : j = N := by omega
              subst hje
              have hcl : (cellsL (ts[k]?.getD ([], [])).1 q).length = m := by rw [cellsL_eq HLL.out]; exact HM.out
              obtain ⟨g, rc, e1, e2, e3, hg, hgb⟩ := (HRW.out.below' HY.out.2.2).at (t := k) (b := q) (by rw [HN.out.rl]; exact hlt) (by rw [HRL.out]; exact hql)
              rw [HRL.out] at e1
              obtain ⟨bi, oi, rfl, hbi, c5⟩ := HIB.out k (by rw [HN.out.bl]; exact hlt)
              have c5 := (HY.out.2.2.cell (p := ⟨bi, _, none⟩) hbi).trans c5
              have hok := HN.out.ok k hlt q (by rw [HNB.out]; exact hql)
              obtain ⟨⟨q1, q2⟩, hqq⟩ : ∃ qq, loadAt rows k q = qq := ⟨_, rfl⟩
              obtain ⟨x, hx⟩ : ∃ x, bears[k]?.getD 0 = x := ⟨_, rfl⟩
              have hbx := HN.out.br k hlt
              have hpq := HPP.out k q
              rw [hqq] at hok e2 e3 hpq
              rw [hx] at hbx c5 hpq
              rw [hcl] at hpq
              obtain ⟨o1, o2, o3⟩ := hok
              dsimp only at o1 o2 o3 e2 e3 hpq
              have hm0 : 0 ≤ x * (m : Int) ∧ x * (m : Int) ≤ 144000000 := by
                have h1 : x * (m : Int) ≤ 1000000 * 144 := Int.mul_le_mul hbx.2 (by omega) (by omega) (by omega)
                exact ⟨Int.mul_nonneg hbx.1 (by omega), h1⟩
              obtain ⟨z1, hz1⟩ : ∃ y, x * (m : Int) = y := ⟨_, rfl⟩
              rw [hz1] at hm0 hpq
              have hz0 : 0 ≤ z1 * (q2 : Int) ∧ z1 * (q2 : Int) ≤ 144000000000000000 := by
                have h1 : z1 * (q2 : Int) ≤ 144000000 * 1000000000 := Int.mul_le_mul hm0.2 (by omega) (by omega) (by omega)
                exact ⟨Int.mul_nonneg hm0.1 (by omega), h1⟩
              obtain ⟨z2, hz2⟩ : ∃ z, z1 * (q2 : Int) = z := ⟨_, rfl⟩
              rw [hz2] at hz0 hpq
              have w1 : IntKind.i64.wrap z1 = z1 := wrap_id (by omega) (by omega)
              have w2 : IntKind.i64.wrap z2 = z2 := wrap_id (by omega) (by omega)
              have HPQ := Lib.hid hpq
              clear hpq hqq hx hcl hmj
              go_wp2_with fail
              clear x2 c1
              refine region_plain (fun X => X.cell? ⟨gb, k, none⟩ = some (.slice (some ⟨g, 0, none⟩) nb rc) ∧ X.cell? ⟨g, q * 2, none⟩ = some (.int .i64 q1) ∧ X.cell? ⟨g, q * 2 + 1, none⟩ = some (.int .i64 q2) ∧ X.cell? ⟨bi, oi + k, none⟩ = some (.int .i64 x)) 24 #[false, false, false, false, false, false, false, false, false, false, false, false, false, false, false, false, false, false, false, false, false, false, false, false] rfl rfl (by kernel_rfl) ?_
              obtain ⟨w6, hw6⟩ : ∃ w6, y.drew = w6 := ⟨_, rfl⟩
              have hSS : (w6.cell? ⟨gb, k, none⟩ = some (.slice (some ⟨g, 0, none⟩) nb rc) ∧ w6.cell? ⟨g, q * 2, none⟩ = some (.int .i64 q1) ∧ w6.cell? ⟨g, q * 2 + 1, none⟩ = some (.int .i64 q2) ∧ w6.cell? ⟨bi, oi + k, none⟩ = some (.int .i64 x)) := by rw [← hw6]; exact ⟨e1, e2, e3, c5⟩
              have HY6 : Hid (Blk w6 w.heap.size #[.int .i64 W, .int .i64 H, .slice (some ⟨b, off, none⟩) ts.length cap] 69 ∧ Blk w6 (w.heap.size + 1) #[.int .i64 0, .int .i64 0] 74 ∧ Below w.heap.size w w6) := Lib.hid (by rw [← hw6]; exact ⟨HY.out.1.drew, HY.out.2.1.drew, HY.out.2.2.drew⟩)
              rw [hw6]
              clear hw6 HY e1 e2 e3 c5
              by_cases hzq : z2 < (q1 : Int)
              · have HP1 : Hid (p k q = true) := Lib.hid (by rw [HPQ.out]; simpa using hzq)
                refine take_first (i := 0) (v := ?_) rfl (by kernel_rfl) (by kernel_rfl) (by kernel_rfl) (fun _ _ _ h => h) (by rfl) (by assumption) ?_ ?_
                rotate_left 1
                · intro X hSX
                  (try dsimp only at hSX)
                  first | (go_simp; done) | (go_simp; with_reducible rfl)
                try simp only [Act.put, List.setIfInBounds_toArray, List.set_cons_zero, List.set_cons_succ]
                refine take_first (i := 1) (v := ?_) rfl (by kernel_rfl) (by kernel_rfl) (by kernel_rfl) (fun _ _ _ h => h) (by rfl) (by assumption) ?_ ?_
                rotate_left 1
                · intro X hSX
                  (try dsimp only at hSX)
                  first | (go_simp; done) | (go_simp; with_reducible rfl)
                try simp only [Act.put, List.setIfInBounds_toArray, List.set_cons_zero, List.set_cons_succ]
                refine take_first (i := 2) (v := ?_) rfl (by kernel_rfl) (by kernel_rfl) (by kernel_rfl) (fun _ _ _ h => h) (by rfl) (by assumption) ?_ ?_
                rotate_left 1
                · intro X hSX
                  (try dsimp only at hSX)
                  first | (go_simp; done) | (go_simp; with_reducible rfl)
                try simp only [Act.put, List.setIfInBounds_toArray, List.set_cons_zero, List.set_cons_succ]
                refine take_first (i := 3) (v := ?_) rfl (by kernel_rfl) (by kernel_rfl) (by kernel_rfl) (fun _ _ _ h => h) (by rfl) (by assumption) ?_ ?_
                rotate_left 1
                · intro X hSX
                  (try dsimp only at hSX)
                  first | (go_simp; done) | (go_simp; with_reducible rfl)
                try simp only [Act.put, List.setIfInBounds_toArray, List.set_cons_zero, List.set_cons_succ]
                refine take_first (i := 4) (v := ?_) rfl (by kernel_rfl) (by kernel_rfl) (by kernel_rfl) (fun _ _ _ h => h) (by rfl) (by assumption) ?_ ?_
                rotate_left 1
                · intro X hSX
                  (try dsimp only at hSX)
                  first | (go_simp; done) | (go_simp; with_reducible rfl)
                try simp only [Act.put, List.setIfInBounds_toArray, List.set_cons_zero, List.set_cons_succ]
                refine take_first (i := 5) (v := ?_) rfl (by kernel_rfl) (by kernel_rfl) (by kernel_rfl) (fun _ _ _ h => h) (by rfl) (by assumption) ?_ ?_
                rotate_left 1
                · intro X hSX
                  (try dsimp only at hSX)
                  first | (go_simp; done) | (go_simp; with_reducible rfl)
                try simp only [Act.put, List.setIfInBounds_toArray, List.set_cons_zero, List.set_cons_succ]
                refine take_first (i := 6) (v := ?_) rfl (by kernel_rfl) (by kernel_rfl) (by kernel_rfl) (fun _ _ _ h => h) (by rfl) (by assumption) ?_ ?_
                rotate_left 1
                · intro X hSX
                  (try dsimp only at hSX)
                  first | (go_simp; done) | (go_simp; with_reducible rfl)
                try simp only [Act.put, List.setIfInBounds_toArray, List.set_cons_zero, List.set_cons_succ]
                refine take_first (i := 7) (v := ?_) rfl (by kernel_rfl) (by kernel_rfl) (by kernel_rfl) (fun _ _ _ h => h) (by rfl) (by assumption) ?_ ?_
                rotate_left 1
                · intro X hSX
                  (try dsimp only at hSX)
                  first | (go_simp; done) | (go_simp; with_reducible rfl)
                try simp only [Act.put, List.setIfInBounds_toArray, List.set_cons_zero, List.set_cons_succ]
                refine take_first (i := 8) (v := ?_) rfl (by kernel_rfl) (by kernel_rfl) (by kernel_rfl) (fun _ _ _ h => h) (by rfl) (by assumption) ?_ ?_
                rotate_left 1
                · intro X hSX
                  (try dsimp only at hSX)
                  first | (go_simp; done) | (go_simp; with_reducible rfl)
                try simp only [Act.put, List.setIfInBounds_toArray, List.set_cons_zero, List.set_cons_succ]
                refine take_first (i := 9) (v := ?_) rfl (by kernel_rfl) (by kernel_rfl) (by kernel_rfl) (fun _ _ _ h => h) (by rfl) (by assumption) ?_ ?_
                rotate_left 1
                · intro X hSX
                  (try dsimp only at hSX)
                  first | (go_simp; done) | (go_simp; with_reducible rfl)
                try simp only [Act.put, List.setIfInBounds_toArray, List.set_cons_zero, List.set_cons_succ]
                refine take_first (i := 10) (v := ?_) rfl (by kernel_rfl) (by kernel_rfl) (by kernel_rfl) (fun _ _ _ h => h) (by rfl) (by assumption) ?_ ?_
                rotate_left 1
                · intro X hSX
                  (try dsimp only at hSX)
                  first | (go_simp; done) | (go_simp; with_reducible rfl)
                try simp only [Act.put, List.setIfInBounds_toArray, List.set_cons_zero, List.set_cons_succ]
                refine take_first (i := 11) (v := ?_) rfl (by kernel_rfl) (by kernel_rfl) (by kernel_rfl) (fun _ _ _ h => h) (by rfl) (by assumption) ?_ ?_
                rotate_left 1
                · intro X hSX
                  (try dsimp only at hSX)
                  first | (go_simp; done) | (go_simp; with_reducible rfl)
                try simp only [Act.put, List.setIfInBounds_toArray, List.set_cons_zero, List.set_cons_succ]
                refine take_first (i := 12) (v := ?_) rfl (by kernel_rfl) (by kernel_rfl) (by kernel_rfl) (fun _ _ _ h => h) (by rfl) (by assumption) ?_ ?_
                rotate_left 1
                · intro X hSX
                  (try dsimp only at hSX)
                  first | (go_simp; done) | (go_simp; with_reducible rfl)
                try simp only [Act.put, List.setIfInBounds_toArray, List.set_cons_zero, List.set_cons_succ]
                refine take_first (i := 13) (v := ?_) rfl (by kernel_rfl) (by kernel_rfl) (by kernel_rfl) (fun _ _ _ h => h) (by rfl) (by assumption) ?_ ?_
                rotate_left 1
                · intro X hSX
                  (try dsimp only at hSX)
                  first | (go_simp; done) | (go_simp; with_reducible rfl)
                try simp only [Act.put, List.setIfInBounds_toArray, List.set_cons_zero, List.set_cons_succ]
                refine take_first (i := 14) (v := ?_) rfl (by kernel_rfl) (by kernel_rfl) (by kernel_rfl) (fun _ _ _ h => h) (by rfl) (by assumption) ?_ ?_
                rotate_left 1
                · intro X hSX
                  (try dsimp only at hSX)
                  first | (go_simp; done) | (go_simp; with_reducible rfl)
                try simp only [Act.put, List.setIfInBounds_toArray, List.set_cons_zero, List.set_cons_succ]
                refine take_first (i := 15) (v := ?_) rfl (by kernel_rfl) (by kernel_rfl) (by kernel_rfl) (fun _ _ _ h => h) (by rfl) (by assumption) ?_ ?_
                rotate_left 1
                · intro X hSX
                  (try dsimp only at hSX)
                  first | (go_simp; done) | (go_simp; with_reducible rfl)
                try simp only [Act.put, List.setIfInBounds_toArray, List.set_cons_zero, List.set_cons_succ]
                refine take_first (i := 16) (v := ?_) rfl (by kernel_rfl) (by kernel_rfl) (by kernel_rfl) (fun _ _ _ h => h) (by rfl) (by assumption) ?_ ?_
                rotate_left 1
                · intro X hSX
                  (try dsimp only at hSX)
                  first | (go_simp; done) | (go_simp; with_reducible rfl)
                try simp only [Act.put, List.setIfInBounds_toArray, List.set_cons_zero, List.set_cons_succ]
                refine take_first (i := 17) (v := ?_) rfl (by kernel_rfl) (by kernel_rfl) (by kernel_rfl) (fun _ _ _ h => h) (by rfl) (by assumption) ?_ ?_
                rotate_left 1
                · intro X hSX
                  (try dsimp only at hSX)
                  first | (go_simp; done) | (go_simp; with_reducible rfl)
                try simp only [Act.put, List.setIfInBounds_toArray, List.set_cons_zero, List.set_cons_succ]
                refine take_first (i := 18) (v := ?_) rfl (by kernel_rfl) (by kernel_rfl) (by kernel_rfl) (fun _ _ _ h => h) (by rfl) (by assumption) ?_ ?_
                rotate_left 1
                · intro X hSX
                  (try dsimp only at hSX)
                  first | (go_simp; done) | (go_simp; with_reducible rfl)
                try simp only [Act.put, List.setIfInBounds_toArray, List.set_cons_zero, List.set_cons_succ]
                refine take_first (i := 19) (v := ?_) rfl (by kernel_rfl) (by kernel_rfl) (by kernel_rfl) (fun _ _ _ h => h) (by rfl) (by assumption) ?_ ?_
                rotate_left 1
                · intro X hSX
                  (try dsimp only at hSX)
                  first | (go_simp; done) | (go_simp; with_reducible rfl)
                try simp only [Act.put, List.setIfInBounds_toArray, List.set_cons_zero, List.set_cons_succ]
                refine take_first (i := 20) (v := ?_) rfl (by kernel_rfl) (by kernel_rfl) (by kernel_rfl) (fun _ _ _ h => h) (by rfl) (by assumption) ?_ ?_
                rotate_left 1
                · intro X hSX
                  (try dsimp only at hSX)
                  first | (go_simp; done) | (go_simp; with_reducible rfl)
                try simp only [Act.put, List.setIfInBounds_toArray, List.set_cons_zero, List.set_cons_succ]
                refine take_first (i := 21) (v := ?_) rfl (by kernel_rfl) (by kernel_rfl) (by kernel_rfl) (fun _ _ _ h => h) (by rfl) (by assumption) ?_ ?_
                rotate_left 1
                · intro X hSX
                  (try dsimp only at hSX)
                  first | (go_simp; done) | (go_simp; with_reducible rfl)
                try simp only [Act.put, List.setIfInBounds_toArray, List.set_cons_zero, List.set_cons_succ]
                refine take_first (i := 22) (v := ?_) rfl (by kernel_rfl) (by kernel_rfl) (by kernel_rfl) (fun _ _ _ h => h) (by rfl) (by assumption) ?_ ?_
                rotate_left 1
                · intro X hSX
                  (try dsimp only at hSX)
                  first | (go_simp; done) | (go_simp; with_reducible rfl)
                try simp only [Act.put, List.setIfInBounds_toArray, List.set_cons_zero, List.set_cons_succ]
                refine take_first (i := 23) (v := ?_) rfl (by kernel_rfl) (by kernel_rfl) (by kernel_rfl) (fun _ _ _ h => h) (by rfl) (by assumption) ?_ ?_
                rotate_left 1
                · intro X hSX
                  (try dsimp only at hSX)
                  first | (go_simp; done) | (go_simp; with_reducible rfl)
                try simp only [Act.put, List.setIfInBounds_toArray, List.set_cons_zero, List.set_cons_succ]
                refine wpAnyH_done (by kernel_rfl) ?_ _
                have HF : Hid (FirstB ts p (some (k, q))) := Lib.hid ⟨hlt, by have h1 := HNB.out; unfold nbAt at h1; rw [h1]; exact hql, HP1.out, HQ.out, HL.out⟩
                have r0 := HY6.out.2.1.cell (i := 0) (v := .int .i64 0) rfl
                have r1 := HY6.out.2.1.cell (i := 1) (v := .int .i64 0) rfl
                have f0 := HY6.out.2.1.fr (i := 0)
                have f1 := HY6.out.2.1.fr (i := 1)
                clear hSS hz1 hz2
                go_wp2
                obtain ⟨d0, d1, d2, hg, _⟩ := blk_after HY6.out.2.1 (.int .i64 k) (.int .i64 q) rfl rfl
                refine bodyPost_ret (v := .agg #[.int .i64 k, .int .i64 q]) ?_ rfl ?_
                · simp [results, Try.results43, go_sem, d0, d1, d2]
                · exact ⟨some (k, q), HF.out, rfl, HY6.out.2.2.grown hg HY6.out.2.2.size (by intro k hk; cases hk; omega)⟩
              · have HP1 : Hid (p k q = false) := Lib.hid (by rw [HPQ.out]; simpa using hzq)
                refine take_first (i := 0) (v := ?_) rfl (by kernel_rfl) (by kernel_rfl) (by kernel_rfl) (fun _ _ _ h => h) (by rfl) (by assumption) ?_ ?_
                rotate_left 1
                · intro X hSX
                  (try dsimp only at hSX)
                  first | (go_simp; done) | (go_simp; with_reducible rfl)
                try simp only [Act.put, List.setIfInBounds_toArray, List.set_cons_zero, List.set_cons_succ]
                refine take_first (i := 1) (v := ?_) rfl (by kernel_rfl) (by kernel_rfl) (by kernel_rfl) (fun _ _ _ h => h) (by rfl) (by assumption) ?_ ?_
                rotate_left 1
                · intro X hSX
                  (try dsimp only at hSX)
                  first | (go_simp; done) | (go_simp; with_reducible rfl)
                try simp only [Act.put, List.setIfInBounds_toArray, List.set_cons_zero, List.set_cons_succ]
                refine take_first (i := 2) (v := ?_) rfl (by kernel_rfl) (by kernel_rfl) (by kernel_rfl) (fun _ _ _ h => h) (by rfl) (by assumption) ?_ ?_
                rotate_left 1
                · intro X hSX
                  (try dsimp only at hSX)
                  first | (go_simp; done) | (go_simp; with_reducible rfl)
                try simp only [Act.put, List.setIfInBounds_toArray, List.set_cons_zero, List.set_cons_succ]
                refine take_first (i := 3) (v := ?_) rfl (by kernel_rfl) (by kernel_rfl) (by kernel_rfl) (fun _ _ _ h => h) (by rfl) (by assumption) ?_ ?_
                rotate_left 1
                · intro X hSX
                  (try dsimp only at hSX)
                  first | (go_simp; done) | (go_simp; with_reducible rfl)
                try simp only [Act.put, List.setIfInBounds_toArray, List.set_cons_zero, List.set_cons_succ]
                refine take_first (i := 4) (v := ?_) rfl (by kernel_rfl) (by kernel_rfl) (by kernel_rfl) (fun _ _ _ h => h) (by rfl) (by assumption) ?_ ?_
                rotate_left 1
                · intro X hSX
                  (try dsimp only at hSX)
                  first | (go_simp; done) | (go_simp; with_reducible rfl)
                try simp only [Act.put, List.setIfInBounds_toArray, List.set_cons_zero, List.set_cons_succ]
                refine take_first (i := 5) (v := ?_) rfl (by kernel_rfl) (by kernel_rfl) (by kernel_rfl) (fun _ _ _ h => h) (by rfl) (by assumption) ?_ ?_
                rotate_left 1
                · intro X hSX
                  (try dsimp only at hSX)
                  first | (go_simp; done) | (go_simp; with_reducible rfl)
                try simp only [Act.put, List.setIfInBounds_toArray, List.set_cons_zero, List.set_cons_succ]
                refine take_first (i := 6) (v := ?_) rfl (by kernel_rfl) (by kernel_rfl) (by kernel_rfl) (fun _ _ _ h => h) (by rfl) (by assumption) ?_ ?_
                rotate_left 1
                · intro X hSX
                  (try dsimp only at hSX)
                  first | (go_simp; done) | (go_simp; with_reducible rfl)
                try simp only [Act.put, List.setIfInBounds_toArray, List.set_cons_zero, List.set_cons_succ]
                refine take_first (i := 7) (v := ?_) rfl (by kernel_rfl) (by kernel_rfl) (by kernel_rfl) (fun _ _ _ h => h) (by rfl) (by assumption) ?_ ?_
                rotate_left 1
                · intro X hSX
                  (try dsimp only at hSX)
                  first | (go_simp; done) | (go_simp; with_reducible rfl)
                try simp only [Act.put, List.setIfInBounds_toArray, List.set_cons_zero, List.set_cons_succ]
                refine take_first (i := 8) (v := ?_) rfl (by kernel_rfl) (by kernel_rfl) (by kernel_rfl) (fun _ _ _ h => h) (by rfl) (by assumption) ?_ ?_
                rotate_left 1
                · intro X hSX
                  (try dsimp only at hSX)
                  first | (go_simp; done) | (go_simp; with_reducible rfl)
                try simp only [Act.put, List.setIfInBounds_toArray, List.set_cons_zero, List.set_cons_succ]
                refine take_first (i := 9) (v := ?_) rfl (by kernel_rfl) (by kernel_rfl) (by kernel_rfl) (fun _ _ _ h => h) (by rfl) (by assumption) ?_ ?_
                rotate_left 1
                · intro X hSX
                  (try dsimp only at hSX)
                  first | (go_simp; done) | (go_simp; with_reducible rfl)
                try simp only [Act.put, List.setIfInBounds_toArray, List.set_cons_zero, List.set_cons_succ]
                refine take_first (i := 10) (v := ?_) rfl (by kernel_rfl) (by kernel_rfl) (by kernel_rfl) (fun _ _ _ h => h) (by rfl) (by assumption) ?_ ?_
                rotate_left 1
                · intro X hSX
                  (try dsimp only at hSX)
                  first | (go_simp; done) | (go_simp; with_reducible rfl)
                try simp only [Act.put, List.setIfInBounds_toArray, List.set_cons_zero, List.set_cons_succ]
                refine take_first (i := 11) (v := ?_) rfl (by kernel_rfl) (by kernel_rfl) (by kernel_rfl) (fun _ _ _ h => h) (by rfl) (by assumption) ?_ ?_
                rotate_left 1
                · intro X hSX
                  (try dsimp only at hSX)
                  first | (go_simp; done) | (go_simp; with_reducible rfl)
                try simp only [Act.put, List.setIfInBounds_toArray, List.set_cons_zero, List.set_cons_succ]
                refine take_first (i := 12) (v := ?_) rfl (by kernel_rfl) (by kernel_rfl) (by kernel_rfl) (fun _ _ _ h => h) (by rfl) (by assumption) ?_ ?_
                rotate_left 1
                · intro X hSX
                  (try dsimp only at hSX)
                  first | (go_simp; done) | (go_simp; with_reducible rfl)
                try simp only [Act.put, List.setIfInBounds_toArray, List.set_cons_zero, List.set_cons_succ]
                refine take_first (i := 13) (v := ?_) rfl (by kernel_rfl) (by kernel_rfl) (by kernel_rfl) (fun _ _ _ h => h) (by rfl) (by assumption) ?_ ?_
                rotate_left 1
                · intro X hSX
                  (try dsimp only at hSX)
                  first | (go_simp; done) | (go_simp; with_reducible rfl)
                try simp only [Act.put, List.setIfInBounds_toArray, List.set_cons_zero, List.set_cons_succ]
                refine take_first (i := 14) (v := ?_) rfl (by kernel_rfl) (by kernel_rfl) (by kernel_rfl) (fun _ _ _ h => h) (by rfl) (by assumption) ?_ ?_
                rotate_left 1
                · intro X hSX
                  (try dsimp only at hSX)
                  first | (go_simp; done) | (go_simp; with_reducible rfl)
                try simp only [Act.put, List.setIfInBounds_toArray, List.set_cons_zero, List.set_cons_succ]
                refine take_first (i := 15) (v := ?_) rfl (by kernel_rfl) (by kernel_rfl) (by kernel_rfl) (fun _ _ _ h => h) (by rfl) (by assumption) ?_ ?_
                rotate_left 1
                · intro X hSX
                  (try dsimp only at hSX)
                  first | (go_simp; done) | (go_simp; with_reducible rfl)
                try simp only [Act.put, List.setIfInBounds_toArray, List.set_cons_zero, List.set_cons_succ]
                refine take_first (i := 16) (v := ?_) rfl (by kernel_rfl) (by kernel_rfl) (by kernel_rfl) (fun _ _ _ h => h) (by rfl) (by assumption) ?_ ?_
                rotate_left 1
                · intro X hSX
                  (try dsimp only at hSX)
                  first | (go_simp; done) | (go_simp; with_reducible rfl)
                try simp only [Act.put, List.setIfInBounds_toArray, List.set_cons_zero, List.set_cons_succ]
                refine take_first (i := 17) (v := ?_) rfl (by kernel_rfl) (by kernel_rfl) (by kernel_rfl) (fun _ _ _ h => h) (by rfl) (by assumption) ?_ ?_
                rotate_left 1
                · intro X hSX
                  (try dsimp only at hSX)
                  first | (go_simp; done) | (go_simp; with_reducible rfl)
                try simp only [Act.put, List.setIfInBounds_toArray, List.set_cons_zero, List.set_cons_succ]
                refine take_first (i := 18) (v := ?_) rfl (by kernel_rfl) (by kernel_rfl) (by kernel_rfl) (fun _ _ _ h => h) (by rfl) (by assumption) ?_ ?_
                rotate_left 1
                · intro X hSX
                  (try dsimp only at hSX)
                  first | (go_simp; done) | (go_simp; with_reducible rfl)
                try simp only [Act.put, List.setIfInBounds_toArray, List.set_cons_zero, List.set_cons_succ]
                refine take_first (i := 19) (v := ?_) rfl (by kernel_rfl) (by kernel_rfl) (by kernel_rfl) (fun _ _ _ h => h) (by rfl) (by assumption) ?_ ?_
                rotate_left 1
                · intro X hSX
                  (try dsimp only at hSX)
                  first | (go_simp; done) | (go_simp; with_reducible rfl)
                try simp only [Act.put, List.setIfInBounds_toArray, List.set_cons_zero, List.set_cons_succ]
                refine take_first (i := 20) (v := ?_) rfl (by kernel_rfl) (by kernel_rfl) (by kernel_rfl) (fun _ _ _ h => h) (by rfl) (by assumption) ?_ ?_
                rotate_left 1
                · intro X hSX
                  (try dsimp only at hSX)
                  first | (go_simp; done) | (go_simp; with_reducible rfl)
                try simp only [Act.put, List.setIfInBounds_toArray, List.set_cons_zero, List.set_cons_succ]
                refine take_first (i := 21) (v := ?_) rfl (by kernel_rfl) (by kernel_rfl) (by kernel_rfl) (fun _ _ _ h => h) (by rfl) (by assumption) ?_ ?_
                rotate_left 1
                · intro X hSX
                  (try dsimp only at hSX)
                  first | (go_simp; done) | (go_simp; with_reducible rfl)
                try simp only [Act.put, List.setIfInBounds_toArray, List.set_cons_zero, List.set_cons_succ]
                refine take_first (i := 22) (v := ?_) rfl (by kernel_rfl) (by kernel_rfl) (by kernel_rfl) (fun _ _ _ h => h) (by rfl) (by assumption) ?_ ?_
                rotate_left 1
                · intro X hSX
                  (try dsimp only at hSX)
                  first | (go_simp; done) | (go_simp; with_reducible rfl)
                try simp only [Act.put, List.setIfInBounds_toArray, List.set_cons_zero, List.set_cons_succ]
                refine take_first (i := 23) (v := ?_) rfl (by kernel_rfl) (by kernel_rfl) (by kernel_rfl) (fun _ _ _ h => h) (by rfl) (by assumption) ?_ ?_
                rotate_left 1
                · intro X hSX
                  (try dsimp only at hSX)
                  first | (go_simp; done) | (go_simp; with_reducible rfl)
                try simp only [Act.put, List.setIfInBounds_toArray, List.set_cons_zero, List.set_cons_succ]
                refine wpAnyH_done (by kernel_rfl) ?_ _
                have HQ2 : Hid (∀ b, b < q + 1 → p k b = false) := Lib.hid fun b hb => by
                  rcases Nat.lt_or_ge b q with h | h
                  · exact HQ.out b h
                  · obtain rfl : b = q := by omega
                    exact HP1.out
                clear hSS hz1 hz2
                go_wp2
                go_roundw
                case rel => exact ⟨q + 1, by omega, by go_num, HQ2, HY6⟩
                case measure => simp [intOf]; omega
        · have hqe : q = nb := by omega
          subst hqe
          have HL2 : Hid (∀ t, t < k + 1 → ∀ b, b < (ts[t]?.getD ([], [])).2.length → p t b = false) := Lib.hid fun t ht b hb => by
            rcases Nat.lt_or_ge t k with h | h
            · exact HL.out t h b hb
            · obtain rfl : t = k := by omega
              exact HQ.out b (by rw [← HNB.out]; exact hb)
          go_wp2
          go_roundw
          case rel => exact ⟨k + 1, by omega, by go_num, HL2, HU⟩
          case measure => simp [intOf]; omega
    · have hke : k = ts.length := by omega
      subst hke
      have HF : Hid (FirstB ts p none) := Lib.hid HL.out
      have r0 := HW.out.2.1.cell (i := 0) (v := .int .i64 0) rfl
      have r1 := HW.out.2.1.cell (i := 1) (v := .int .i64 0) rfl
      have f0 := HW.out.2.1.fr (i := 0)
      have f1 := HW.out.2.1.fr (i := 1)
      go_wp2
      obtain ⟨d0, d1, d2, hg, _⟩ := blk_after HW.out.2.1 (.int .i64 (-1)) (.int .i64 (-1)) rfl rfl
      refine bodyPost_ret (v := .agg #[.int .i64 (-1), .int .i64 (-1)]) ?_ rfl ?_
      · simp [results, Try.results43, go_sem, d0, d1, d2]
      · exact ⟨none, HF.out, rfl, HW.out.2.2.grown hg HW.out.2.2.size (by intro k hk; cases hk; omega)⟩
end Go.Proofs.Ytopnlcjbklmicaa
