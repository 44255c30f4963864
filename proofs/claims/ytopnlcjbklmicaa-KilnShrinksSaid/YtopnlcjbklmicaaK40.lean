import Derived.Test.YtopnlcjbklmicaaK39
import Derived.WalkKit
import Derived.WalkSpells
import Derived.WalkLawsBesides
import Derived.Deep.QuietTactic
import Derived.BigQuiet
import Derived.Lib.Hide
import Derived.WalkSmall
import Derived.Maps.OwnSet
import Derived.Maps.RangeWalk
import Derived.Deep.RegionWith
import Derived.Deep.RegionHeld3
import Derived.Deep.DrawnRows
import Derived.Deep.DeepCutAuto
import Derived.OneCell
import Derived.KernelRfl
import Derived.Laws.StructEq
import Derived.StillTailTactics
import Derived.Laws.Externs
import Derived.RangeFuncBox
import Derived.Outline
import Derived.RangeFuncNested
import Derived.RangeFuncBound
import Derived.RangeFuncCalls
import Derived.RangeFuncLeaves
import Derived.Shelf.RegionOpen
import Derived.OwnWalkIn
import Derived.TacticsInMore
import Derived.LoopNIn
import Derived.LoopIn
import Derived.Test.YtopnlcjbklmicaaProg
namespace Go.Proofs.Ytopnlcjbklmicaa
open Go.RowKit Go.Maps Go.Shelf
set_option linter.unusedVariables false
set_option linter.unusedSimpArgs false
def stErr (l : List (Int × Int)) : Int := if 10 < l.length then 5 else if l.all stageF = false then 2 else 0
set_option maxRecDepth 100000 in
set_option maxHeartbeats 2000000 in
theorem refStages_any (v : Value) (l : List (Int × Int)) (w : World) (h : PairsAt w v l) :
    Calls Try.prog 22 #[v] w fun e w' => e = .returned (.int .i64 (stErr l)) ∧ Below w.heap.size w w' := by
  obtain ⟨a, cap, rfl, hl, hp⟩ := h.placed
  obtain ⟨p, hp0⟩ : ∃ p : Int × Int → Bool, stageF = p := ⟨_, rfl⟩
  have HP0 : Hid (∀ x y, p (x, y) = (inB x 0 10000 && inB y 0 10000 && decide (x ≤ y))) := Lib.hid fun x y => by rw [← hp0]; rfl
  have HS : Hid (stErr l = if 10 < l.length then 5 else if l.all p = false then 2 else 0) := Lib.hid (by unfold stErr; rw [hp0])
  obtain ⟨r, hr⟩ : ∃ r, stErr l = r := ⟨_, rfl⟩
  rw [hr] at HS ⊢
  have HC := Lib.hid hp
  clear hp hp0 hr h hl
  go_enter Try.func22, Try.ntmps22
  by_cases hten : 10 < l.length
  · have HV : Hid (r = 5) := Lib.hid (by rw [HS.out, if_pos hten])
    have hti : 10 < (l.length : Int) := by omega
    clear HS
    go_wp2
    go_ret
    exact ⟨ret_int (by rw [HV.out]), Below.refl _ _⟩
  · rw [if_neg hten] at HS
    have hti : (l.length : Int) ≤ 10 := by omega
    go_wp2_with fail
    go_loopw [3] (fun i wr => ∃ k : Nat, k ≤ l.length ∧ i = .int .i64 k ∧ Hid ((l.take k).all p = true) ∧ Hid (Below w.heap.size w wr)) (fun i _ => l.length - (intOf i).toNat)
    case atStart => exact ⟨0, Nat.zero_le _, rfl, Lib.hid (by simp), Lib.hid (Below.refl _ _)⟩
    case round =>
      obtain ⟨k, hk, rfl, HA, HB⟩ := hrel
      by_cases hlt : k < l.length
      · obtain ⟨b, off, rfl, hbb, c1, c2⟩ := HC.out k hlt
        have c1 := (HB.out.cell (p := ⟨b, _, none⟩) hbb).trans c1
        have c2 := (HB.out.cell (p := ⟨b, _, none⟩) hbb).trans c2
        have has := allN_take_succ (0, 0) p l k hlt
        have hno := allN_not (0, 0) p l k hlt
        obtain ⟨x, y, hel⟩ : ∃ x y, l[k]?.getD (0, 0) = (x, y) := ⟨_, _, rfl⟩
        rw [hel] at c1 c2 has hno
        have HAS := Lib.hid has
        have HNO := Lib.hid hno
        have hk0 : (0 : Int) ≤ (k : Int) := by omega
        have hk1 : (k : Int) < (l.length : Int) := by omega
        have w7 : IntKind.i64.wrap ((k : Int) + 1) = (k : Int) + 1 := wrap_id (by omega) (by omega)
        dsimp only at c1 c2
        clear hel has hno
        have HPX := Lib.hid (HP0.out x y)
        by_cases h1 : x < 0
        · have HF : Hid (r = 2) := Lib.hid (by rw [HS.out, HNO.out (by rw [HPX.out]; simp [inB]; omega)]; rfl)
          have d1 : decide (x < 0) = true := decide_eq_true h1
          clear HPX HNO HAS HS
          go_wp2_with fail
          go_quiet (fail)
          go_wp2
          go_ret
          exact ⟨ret_int (by rw [HF.out]), (Below.drewN' HB.out)⟩
        · by_cases h2 : y < x
          · have HF : Hid (r = 2) := Lib.hid (by rw [HS.out, HNO.out (by rw [HPX.out]; simp [inB]; omega)]; rfl)
            have h1 : 0 ≤ x := by omega
            clear HPX HNO HAS HS
            go_wp2_with fail
            go_quiet (fail)
            go_wp2
            go_ret
            exact ⟨ret_int (by rw [HF.out]), (Below.drewN' HB.out)⟩
          · by_cases h3 : 10000 < y
            · have HF : Hid (r = 2) := Lib.hid (by rw [HS.out, HNO.out (by rw [HPX.out]; simp [inB]; omega)]; rfl)
              have h1 : 0 ≤ x := by omega
              have h2 : x ≤ y := by omega
              clear HPX HNO HAS HS
              go_wp2_with fail
              go_quiet (fail)
              go_wp2
              go_ret
              exact ⟨ret_int (by rw [HF.out]), (Below.drewN' HB.out)⟩
            · have HT : Hid ((l.take (k + 1)).all p = true) := Lib.hid (by rw [HAS.out, HA.out, HPX.out]; simp [inB]; omega)
              have h1 : 0 ≤ x := by omega
              have h2 : x ≤ y := by omega
              have h3 : y ≤ 10000 := by omega
              clear HPX HNO HAS
              go_wp2_with fail
              go_quiet (fail)
              go_wp2
              go_roundw
              case rel => exact ⟨k + 1, by omega, by go_num, HT, Lib.hid ((Below.drewN' HB.out))⟩
              case measure => simp [intOf]; omega
      · have hke : k = l.length := by omega
        have HA2 : Hid (l.all p = true) := Lib.hid (by have := HA.out; rwa [hke, List.take_length] at this)
        have HF : Hid (r = 0) := Lib.hid (by rw [HS.out, HA2.out]; rfl)
        clear HA hke HS
        go_wp2
        go_ret
        exact ⟨ret_int (by rw [HF.out]), HB.out⟩
end Go.Proofs.Ytopnlcjbklmicaa
