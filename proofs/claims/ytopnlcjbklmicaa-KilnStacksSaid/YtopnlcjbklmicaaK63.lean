import Derived.Test.YtopnlcjbklmicaaK62
import Derived.WalkKit
import Derived.WalkSpells
import Derived.WalkLawsBesides
import Derived.Deep.QuietTactic
import Derived.BigQuiet
import Derived.Lib.Hide
import Derived.WalkSmall
import Derived.Maps.OwnSet
import Derived.Maps.RangeWalk
import Derived.Deep.RegionWith
import Derived.Deep.RegionHeld3
import Derived.Deep.DrawnRows
import Derived.Deep.DeepCutAuto
import Derived.OneCell
import Derived.KernelRfl
import Derived.Laws.StructEq
import Derived.StillTailTactics
import Derived.Laws.Externs
import Derived.RangeFuncBox
import Derived.Outline
import Derived.RangeFuncNested
import Derived.RangeFuncBound
import Derived.RangeFuncCalls
import Derived.RangeFuncLeaves
import Derived.Shelf.RegionOpen
import Derived.OwnWalkIn
import Derived.TacticsInMore
import Derived.LoopNIn
import Derived.LoopIn
import Derived.Test.YtopnlcjbklmicaaProg
namespace Go.Proofs.Ytopnlcjbklmicaa
open Go.RowKit Go.Maps Go.Shelf
set_option linter.unusedVariables false
set_option linter.unusedSimpArgs false
set_option maxRecDepth 100000 in
set_option maxHeartbeats 8000000 in
theorem refHangs_any (W H : Int) (tv : Value) (ts : List (List Int × List Int)) (N : Nat) (w : World) (hs : SrcT w tv ts) (hv : StackV W H ts N) :
    Calls Try.prog 37 #[.agg #[.int .i64 W, .int .i64 H, tv]] w fun e w' => ∃ r, FirstB ts (hangP ts) r ∧ e = .returned (.agg #[.int .i64 (bT r), .int .i64 (bB r)]) ∧ Below w.heap.size w w' := by
  have HSRC := Lib.hid hs
  obtain ⟨a, cap, rfl, hl, hp⟩ := hs
  have A := (Blk.new w #[.int .i64 W, .int .i64 H, .slice a ts.length cap] 69).alloc (.cells #[.int .i64 0, .int .i64 0] 74)
  have R := Blk.newI (w.alloc (.cells #[.int .i64 W, .int .i64 H, .slice a ts.length cap] 69)) (w.heap.size + 1) #[.int .i64 0, .int .i64 0] 74 (by simp)
  have B0 := ((Below.refl _ w).alloc (Nat.le_refl _) (.cells #[.int .i64 W, .int .i64 H, .slice a ts.length cap] 69)).alloc (by simp) (.cells #[.int .i64 0, .int .i64 0] 74)
  have HP := Lib.hid hp
  have HA := Lib.hid (And.intro A (And.intro R B0))
  have HV := Lib.hid hv
  clear hp A B0 R hv
  go_enter Try.func37, Try.ntmps37
  go_wp2
  go_loopw [3] (fun i wr => ∃ k : Nat, k ≤ ts.length ∧ i = .int .i64 k ∧ Hid (∀ t, t < k → ∀ b, b < (ts[t]?.getD ([], [])).2.length → hangP ts t b = false) ∧ Hid (Blk wr w.heap.size #[.int .i64 W, .int .i64 H, .slice a ts.length cap] 69 ∧ Blk wr (w.heap.size + 1) #[.int .i64 0, .int .i64 0] 74 ∧ Below w.heap.size w wr)) (fun i _ => ts.length - (intOf i).toNat)
  case atStart => exact ⟨0, Nat.zero_le _, rfl, Lib.hid (fun t ht => by omega), HA⟩
  case round =>
    obtain ⟨k, hk, rfl, HL, HW⟩ := hrel
    rename World => v
    clear HA
    have x2 := HW.out.1.cell (i := 2) (v := .slice a ts.length cap) rfl
    by_cases hlt : k < ts.length
    · have hki : (0 : Int) ≤ (k : Int) := by omega
      have hkl : (k : Int) < (ts.length : Int) := by omega
      obtain ⟨b, off, rfl, hbb, vc, vw, _, c2, _, s2⟩ := HP.out k hlt
      obtain ⟨aw, cw, rfl⟩ := s2.shape
      obtain ⟨nb, hnb⟩ : ∃ nb, (ts[k]?.getD ([], [])).2.length = nb := ⟨_, rfl⟩
      rw [hnb] at c2
      have hnb144 : nb ≤ 144 := by rw [← hnb]; exact HV.out.few k hlt
      have HNB := Lib.hid hnb
      have HC2 := Lib.hid c2
      clear s2 c2 hnb
      go_wp2_with fail
      go_loopw [4] (fun i wr => ∃ q : Nat, q ≤ nb ∧ i = .int .i64 q ∧ Hid (∀ b, b < q → hangP ts k b = false) ∧ Hid (Blk wr w.heap.size #[.int .i64 W, .int .i64 H, .slice (some ⟨b, off, none⟩) ts.length cap] 69 ∧ Blk wr (w.heap.size + 1) #[.int .i64 0, .int .i64 0] 74 ∧ Below w.heap.size w wr)) (fun i _ => nb - (intOf i).toNat)
      case atStart => exact ⟨0, Nat.zero_le _, rfl, Lib.hid (fun t ht => by omega), HW⟩
      case round =>
        obtain ⟨q, hq, rfl, HQ, HU⟩ := hrel
        rename World => u
        clear HW x2
        have x0 := HU.out.1.cell (i := 0) (v := .int .i64 W) rfl
        have x1 := HU.out.1.cell (i := 1) (v := .int .i64 H) rfl
        have x2 := HU.out.1.cell (i := 2) (v := .slice (some ⟨b, off, none⟩) ts.length cap) rfl
        have c2 := (HU.out.2.2.cell (p := ⟨b, _, none⟩) hbb).trans HC2.out
        by_cases hql : q < nb
        · have hqi : (0 : Int) ≤ (q : Int) := by omega
          have hqli : (q : Int) < (nb : Int) := by omega
          have HCR := Lib.hid (refRests_any W H _ ts N k q u (HSRC.out.past HU.out.2.2) HV.out hlt)
          go_wp2_with fail
          refine HCR.out.mono ?_
          rintro e y ⟨v', rfl, hr, hb⟩
          obtain ⟨p', c', hsh⟩ := hr.shape
          rw [List.length_map] at hsh
          obtain ⟨m, hm⟩ : ∃ m, (restsL ts k q).length = m := ⟨_, rfl⟩
          rw [hm] at hsh
          subst hsh
          have HM := Lib.hid hm
          have HY := Lib.hid (And.intro (HU.out.1.past hb) (And.intro (HU.out.2.1.past hb) (HU.out.2.2.trans (hb.mono HU.out.2.2.size))))
          clear hr hb hm x0 x1 x2 c2 HCR
          by_cases hm0 : m = 0
          · subst hm0
            have HF : Hid (FirstB ts (hangP ts) (some (k, q))) := Lib.hid ⟨hlt, by rw [HNB.out]; exact hql, by unfold hangP; simpa using HM.out, HQ.out, HL.out⟩
            have r0 := HY.out.2.1.cell (i := 0) (v := .int .i64 0) rfl
            have r1 := HY.out.2.1.cell (i := 1) (v := .int .i64 0) rfl
            have f0 := HY.out.2.1.fr (i := 0)
            have f1 := HY.out.2.1.fr (i := 1)
            go_wp2
            obtain ⟨d0, d1, d2, hg, _⟩ := blk_after HY.out.2.1 (.int .i64 k) (.int .i64 q) rfl rfl
            refine bodyPost_ret (v := .agg #[.int .i64 k, .int .i64 q]) ?_ rfl ?_
            · simp [results, Try.results37, go_sem, d0, d1, d2]
            · exact ⟨some (k, q), HF.out, rfl, HY.out.2.2.grown hg HY.out.2.2.size (by intro k hk; cases hk; omega)⟩
          · have hmi : ((m : Int) == 0) = false := by simp; omega
            have HQ2 : Hid (∀ b, b < q + 1 → hangP ts k b = false) := Lib.hid fun b hb => by
              rcases Nat.lt_or_ge b q with h | h
              · exact HQ.out b h
              · obtain rfl : b = q := by omega
                unfold hangP; rw [HM.out]; simpa using hm0
            clear hm0
            go_wp2
            go_roundw
            case rel => exact ⟨q + 1, by omega, by go_num, HQ2, HY⟩
            case measure => simp [intOf]; omega
        · have hqe : q = nb := by omega
          subst hqe
          have HL2 : Hid (∀ t, t < k + 1 → ∀ b, b < (ts[t]?.getD ([], [])).2.length → hangP ts t b = false) := Lib.hid fun t ht b hb => by
            rcases Nat.lt_or_ge t k with h | h
            · exact HL.out t h b hb
            · obtain rfl : t = k := by omega
              exact HQ.out b (by rw [← HNB.out]; exact hb)
          go_wp2
          go_roundw
          case rel => exact ⟨k + 1, by omega, by go_num, HL2, HU⟩
          case measure => simp [intOf]; omega
    · have hke : k = ts.length := by omega
      subst hke
      have HF : Hid (FirstB ts (hangP ts) none) := Lib.hid HL.out
      have r0 := HW.out.2.1.cell (i := 0) (v := .int .i64 0) rfl
      have r1 := HW.out.2.1.cell (i := 1) (v := .int .i64 0) rfl
      have f0 := HW.out.2.1.fr (i := 0)
      have f1 := HW.out.2.1.fr (i := 1)
      go_wp2
      obtain ⟨d0, d1, d2, hg, _⟩ := blk_after HW.out.2.1 (.int .i64 (-1)) (.int .i64 (-1)) rfl rfl
      refine bodyPost_ret (v := .agg #[.int .i64 (-1), .int .i64 (-1)]) ?_ rfl ?_
      · simp [results, Try.results37, go_sem, d0, d1, d2]
      · exact ⟨none, HF.out, rfl, HW.out.2.2.grown hg HW.out.2.2.size (by intro k hk; cases hk; omega)⟩
end Go.Proofs.Ytopnlcjbklmicaa
