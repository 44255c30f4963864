import Derived.Test.YtopnlcjbklmicaaK60
import Derived.WalkKit
import Derived.WalkSpells
import Derived.WalkLawsBesides
import Derived.Deep.QuietTactic
import Derived.BigQuiet
import Derived.Lib.Hide
import Derived.WalkSmall
import Derived.Maps.OwnSet
import Derived.Maps.RangeWalk
import Derived.Deep.RegionWith
import Derived.Deep.RegionHeld3
import Derived.Deep.DrawnRows
import Derived.Deep.DeepCutAuto
import Derived.OneCell
import Derived.KernelRfl
import Derived.Laws.StructEq
import Derived.StillTailTactics
import Derived.Laws.Externs
import Derived.RangeFuncBox
import Derived.Outline
import Derived.RangeFuncNested
import Derived.RangeFuncBound
import Derived.RangeFuncCalls
import Derived.RangeFuncLeaves
import Derived.Shelf.RegionOpen
import Derived.OwnWalkIn
import Derived.TacticsInMore
import Derived.LoopNIn
import Derived.LoopIn
import Derived.Test.YtopnlcjbklmicaaProg
namespace Go.Proofs.Ytopnlcjbklmicaa
open Go.RowKit Go.Maps Go.Shelf
set_option linter.unusedVariables false
set_option linter.unusedSimpArgs false
/-- What is known of a valid stack. -/
structure StackV (W H : Int) (ts : List (List Int × List Int)) (N : Nat) : Prop where
  n : (W * H).toNat = N
  n1 : N ≤ 144
  t10 : ts.length ≤ 10
  len : ∀ t, t < ts.length → (ts[t]?.getD ([], [])).1.length = N
  key : ∀ t, t < ts.length → ∀ c, c < N → -1 ≤ keyAt ts t c ∧ keyAt ts t c < nbAt ts t
  few : ∀ t, t < ts.length → nbAt ts t ≤ 144
theorem stackV_of {W H : Int} {ts : List (List Int × List Int)} (h : checkF W H ts = 0) : StackV W H ts (W * H).toNat := by
  obtain ⟨k1, k2, k3, k4, k5⟩ := check_parts h
  have hr := prod_range k1 k2
  have h2 := (checkF_iff W H ts).1 h
  refine ⟨rfl, by omega, k3, k4, fun t ht c hc => ?_, fun t ht => (k5 t ht).few⟩
  have h3 := (h2.2.2.2 t ht).2.2.1 c (by have := k4 t ht; omega)
  simp only [inB, Bool.and_eq_true, decide_eq_true_eq] at h3
  have e : nbAt ts t = (ts[t]?.getD ([], [])).2.length := rfl
  unfold keyAt
  omega
def restP (ts : List (List Int × List Int)) (ti : Nat) (br : Int) (c : Nat) : Bool := decide (keyAt ts ti c = br) && borneP ts ti c
theorem restsL_filt {ts : List (List Int × List Int)} {ti N : Nat} (hN : (ts[ti]?.getD ([], [])).1.length = N) (b : Int) : restsL ts ti b = (List.range N).filter (restP ts ti b) := by
  rw [restsL_eq hN, List.filter_filter]
  refine List.filter_congr fun c _ => ?_
  unfold restP
  rw [Bool.and_comm]
set_option maxRecDepth 100000 in
set_option maxHeartbeats 8000000 in
theorem refRests_any (W H : Int) (tv : Value) (ts : List (List Int × List Int)) (N ti br : Nat) (w : World) (hs : SrcT w tv ts) (hv : StackV W H ts N) (hti : ti < ts.length) :
    Calls Try.prog 76 #[.agg #[.int .i64 W, .int .i64 H, tv], .int .i64 ti, .int .i64 br] w fun e w' => ∃ v, e = .returned v ∧ IntsR w' w.heap.size v ((restsL ts ti br).map fun c : Nat => (c : Int)) ∧ Below w.heap.size w w' := by
  obtain ⟨a, cap, rfl, hl, hp⟩ := hs
  have HRL := Lib.hid (restsL_filt (hv.len ti hti) br)
  have A := (Blk.new w #[.int .i64 W, .int .i64 H, .slice a ts.length cap] 69).alloc (.cells #[] 3)
  have B0 := ((Below.refl _ w).alloc (Nat.le_refl _) (.cells #[.int .i64 W, .int .i64 H, .slice a ts.length cap] 69)).alloc (by simp) (.cells #[] 3)
  have R0 := IntsR.empty (w.alloc (.cells #[.int .i64 W, .int .i64 H, .slice a ts.length cap] 69)) (w.heap.size + 1) (w.heap.size + 1) (by simp) (Nat.le_refl _)
  obtain ⟨b, off, rfl, hbb, vc, vw, c1, _, s1, _⟩ := hp ti hti
  have HP := Lib.hid hp
  have HA := Lib.hid A
  have HB := Lib.hid B0
  have HR0 := Lib.hid R0
  have c1w := c1
  have hll := hv.len ti hti
  obtain ⟨ac, cc, rfl, hlc, hpc⟩ := s1.ints.placed
  rw [hll] at c1w
  have HPC := Lib.hid hpc
  have HV := Lib.hid hv
  have hn144 := hv.n1
  have HLL := Lib.hid hll
  have HC1 := Lib.hid c1w
  have hki : (0 : Int) ≤ (ti : Int) := by omega
  have hkl : (ti : Int) < (ts.length : Int) := by omega
  clear hp A B0 R0 hpc c1 c1w hll hlc s1 hv
  go_enter Try.func76, Try.ntmps76
  go_wp2
  obtain ⟨base, hbase⟩ : ∃ x, w.heap.size + 1 = x := ⟨_, rfl⟩
  rw [hbase] at HR0
  have HBE := Lib.hid hbase
  go_loopw [7, 8] (fun lv i wr => ∃ k : Nat, k ≤ N ∧ i = .int .i64 k ∧ Hid (IntsR wr base lv (((List.range k).filter (restP ts ti br)).map fun c : Nat => (c : Int))) ∧ Hid (Below w.heap.size w wr ∧ Blk wr w.heap.size #[.int .i64 W, .int .i64 H, .slice (some ⟨b, off, none⟩) ts.length cap] 69)) (fun _ i _ => N - (intOf i).toNat)
  case atStart => exact ⟨0, Nat.zero_le _, rfl, by rw [hbase]; simpa using HR0, Lib.hid ⟨HB.out, HA.out⟩⟩
  case round =>
    obtain ⟨k, hk, rfl, HR, HW⟩ := hrel
    rename World => v
    clear HA HB HR0 hbase
    have x2 := HW.out.2.cell (i := 2) (v := .slice (some ⟨b, off, none⟩) ts.length cap) rfl
    have c1 := (HW.out.1.cell (p := ⟨b, _, none⟩) hbb).trans HC1.out
    obtain ⟨p7, q7, hsh⟩ := HR.out.shape
    obtain ⟨n7, hn7⟩ : ∃ n, (((List.range k).filter (restP ts ti br)).map fun c : Nat => (c : Int)).length = n := ⟨_, rfl⟩
    rw [hn7] at hsh
    have hn7k : n7 ≤ 144 := by
      rw [← hn7, List.length_map]
      have h1 := List.length_filter_le (restP ts ti br) (List.range k)
      rw [List.length_range] at h1; omega
    have HN7 := Lib.hid hn7
    clear hn7
    subst hsh
    by_cases hlt : k < N
    · obtain ⟨cb, co, rfl, hcb, d1⟩ := HPC.out k (by rw [HLL.out]; exact hlt)
      have d1 := (HW.out.1.cell (p := ⟨cb, _, none⟩) hcb).trans d1
      obtain ⟨x, hx⟩ : ∃ x, (ts[ti]?.getD ([], [])).1[k]?.getD 0 = x := ⟨_, rfl⟩
      rw [hx] at d1
      have HX : Hid (keyAt ts ti k = x) := Lib.hid hx
      have hki2 : (0 : Int) ≤ (k : Int) := by omega
      have hkl2 : (k : Int) < (N : Int) := by omega
      have HSUC := Lib.hid (filt_succ (restP ts ti br) k)
      clear hx
      -- whether the cell is one
      have main : ∀ q : Bool, restP ts ti br k = q → True := fun _ _ => trivial
      by_cases hxb : x = (br : Int)
      · subst hxb
        by_cases ht0 : ti = 0
        · have hp1 : restP ts ti br k = true := by unfold restP borneP; rw [HX.out]; simp [ht0]
          have hz0 : ((ti : Int) == 0) = true := by simp [ht0]
          clear ht0
          have hz1 : ((br : Int) == (br : Int)) = true := by simp
          have HR2 : Hid (∀ y v', IntsR y base v' ((((List.range k).filter (restP ts ti br)).map fun c : Nat => (c : Int)) ++ [(k : Int)]) → IntsR y base v' (((List.range (k + 1)).filter (restP ts ti br)).map fun c : Nat => (c : Int))) := Lib.hid fun y v' h => by rw [HSUC.out, hp1]; simpa using h
          obtain ⟨bx, hbx⟩ : ∃ x, v.heap.size = x := ⟨_, rfl⟩
          have hbs : base ≤ v.heap.size := by have h1 := HW.out.2.lt; have h2 := HBE.out; omega
          have HBS := Lib.hid hbs
          clear hp1 hbs HP
          go_wp2_with (first | (at_builtin; refine stopHere ?_))
          intro _
          have X1 := Blk.newI v bx #[.int .i64 k] 3 hbx
          have R1 := HR.out.kept (World.grownBy_alloc v (.cells #[.int .i64 k] 3) none) (fun _ _ e => by cases e)
          have B1 := HW.out.1.alloc HW.out.1.size (.cells #[.int .i64 k] 3)
          have S1 := HW.out.2.alloc (.cells #[.int .i64 k] 3)
          have hbs1 : base ≤ (v.alloc (.cells #[.int .i64 k] 3)).heap.size := by have := HBS.out; simp; omega
          refine wpList_appI rfl _ _ rfl base _ (((List.range k).filter (restP ts ti br)).map fun c : Nat => (c : Int)) (by rfl) R1 bx k (by rfl) (X1.cell (i := 0) rfl) (by rw [HN7.out]; omega) hbs1 ?_
          intro v7 y q1 q2 q3
          have HR3 := Lib.hid (HR2.out _ _ q1)
          have HW3 := Lib.hid (And.intro (B1.grown q2 B1.size (fun j hj => by have h1 := (R1.lt j hj).1; have h2 := HBE.out; omega)) (S1.kept q2 (fun e => by have h1 := (R1.lt _ e.symm).1; have h2 := HBE.out; omega)))
          clear hbx X1 R1 B1 S1 hbs1 q1 q2 q3 HR2
          go_wp2
          go_roundw
          case rel => exact ⟨k + 1, by omega, by go_num, HR3, HW3⟩
          case measure => simp [intOf]; omega
        · obtain ⟨t', ht'⟩ : ∃ t', ti - 1 = t' := ⟨_, rfl⟩
          have htz : ((ti : Int) == 0) = false := by simp; omega
          have hti1 : (ti : Int) - 1 = (t' : Int) := by omega
          have hwt : IntKind.i64.wrap ((ti : Int) - 1) = (t' : Int) := by rw [hti1]; exact wrap_id (by omega) (by omega)
          clear hti1
          have ht3 : (0 : Int) ≤ (t' : Int) := by omega
          have ht4 : (t' : Int) < (ts.length : Int) := by omega
          obtain ⟨b', off', hab, hbb', vc', vw', e1, _, s1', _⟩ := HP.out t' (by omega)
          obtain ⟨rfl, rfl⟩ : b = b' ∧ off = off' := by simpa using hab
          have e1w := (HW.out.1.cell (p := ⟨b, _, none⟩) hbb').trans e1
          obtain ⟨ac', cc', rfl, hlc', hpc'⟩ := s1'.ints.placed
          have hll' := HV.out.len t' (by omega)
          rw [hll'] at e1w
          obtain ⟨cb', co', rfl, hcb', d2⟩ := hpc' k (by rw [hll']; exact hlt)
          have d2 := (HW.out.1.cell (p := ⟨cb', _, none⟩) hcb').trans d2
          obtain ⟨y, hy⟩ : ∃ y, (ts[t']?.getD ([], [])).1[k]?.getD 0 = y := ⟨_, rfl⟩
          rw [hy] at d2
          have hyk : keyAt ts t' k = y := hy
          have hyr := (HV.out.key t' (by omega) k hlt).1
          rw [hyk] at hyr
          have hbo : borneP ts ti k = decide (y ≠ -1) := by unfold borneP; rw [ht', hyk]; simp [ht0]
          clear e1 s1' hab hpc' hll' hy ht' ht0
          by_cases hy0 : 0 ≤ y
          · have hp1 : restP ts ti br k = true := by unfold restP; rw [HX.out, hbo]; simp; omega
            clear hbo hyk hyr
            have HR2 : Hid (∀ y v', IntsR y base v' ((((List.range k).filter (restP ts ti br)).map fun c : Nat => (c : Int)) ++ [(k : Int)]) → IntsR y base v' (((List.range (k + 1)).filter (restP ts ti br)).map fun c : Nat => (c : Int))) := Lib.hid fun y v' h => by rw [HSUC.out, hp1]; simpa using h
            obtain ⟨bx, hbx⟩ : ∃ x, v.heap.size = x := ⟨_, rfl⟩
            have hbs : base ≤ v.heap.size := by have h1 := HW.out.2.lt; have h2 := HBE.out; omega
            have HBS := Lib.hid hbs
            clear hp1 hbs HP
            go_wp2_with (first | (at_builtin; refine stopHere ?_))
            intro _
            have X1 := Blk.newI v bx #[.int .i64 k] 3 hbx
            have R1 := HR.out.kept (World.grownBy_alloc v (.cells #[.int .i64 k] 3) none) (fun _ _ e => by cases e)
            have B1 := HW.out.1.alloc HW.out.1.size (.cells #[.int .i64 k] 3)
            have S1 := HW.out.2.alloc (.cells #[.int .i64 k] 3)
            have hbs1 : base ≤ (v.alloc (.cells #[.int .i64 k] 3)).heap.size := by have := HBS.out; simp; omega
            refine wpList_appI rfl _ _ rfl base _ (((List.range k).filter (restP ts ti br)).map fun c : Nat => (c : Int)) (by rfl) R1 bx k (by rfl) (X1.cell (i := 0) rfl) (by rw [HN7.out]; omega) hbs1 ?_
            intro v7 y q1 q2 q3
            have HR3 := Lib.hid (HR2.out _ _ q1)
            have HW3 := Lib.hid (And.intro (B1.grown q2 B1.size (fun j hj => by have h1 := (R1.lt j hj).1; have h2 := HBE.out; omega)) (S1.kept q2 (fun e => by have h1 := (R1.lt _ e.symm).1; have h2 := HBE.out; omega)))
            clear hbx X1 R1 B1 S1 hbs1 q1 q2 q3 HR2
            go_wp2
            go_roundw
            case rel => exact ⟨k + 1, by omega, by go_num, HR3, HW3⟩
            case measure => simp [intOf]; omega
          · have hp1 : restP ts ti br k = false := by unfold restP; rw [HX.out, hbo]; simp; omega
            have HR2 : Hid (IntsR v base (.slice p7 n7 q7) (((List.range (k + 1)).filter (restP ts ti br)).map fun c : Nat => (c : Int))) := Lib.hid (by rw [HSUC.out, hp1]; simpa using HR.out)
            clear hp1 hbo hyk hyr HP
            go_wp2
            go_roundw
            case rel => exact ⟨k + 1, by omega, by go_num, HR2, HW⟩
            case measure => simp [intOf]; omega
      · have hp1 : restP ts ti br k = false := by unfold restP; rw [HX.out]; simp [hxb]
        have hxi : (x == (br : Int)) = false := by simpa using hxb
        have HR2 : Hid (IntsR v base (.slice p7 n7 q7) (((List.range (k + 1)).filter (restP ts ti br)).map fun c : Nat => (c : Int))) := Lib.hid (by rw [HSUC.out, hp1]; simpa using HR.out)
        clear hp1
        go_wp2
        go_roundw
        case rel => exact ⟨k + 1, by omega, by go_num, HR2, HW⟩
        case measure => simp [intOf]; omega
    · have hke : k = N := by omega
      subst hke
      have HR2 : Hid (IntsR v w.heap.size (.slice p7 n7 q7) ((restsL ts ti br).map fun c : Nat => (c : Int))) := Lib.hid (by
        rw [HRL.out]
        have h1 := HR.out
        exact ⟨h1.1, h1.2.imp id (fun ⟨g, cp, cu, e1, e2, e3⟩ => ⟨g, cp, cu, e1, by have := HBE.out; omega, e3⟩)⟩)
      go_wp2
      go_ret
      exact ⟨_, rfl, HR2.out, HW.out.1⟩
end Go.Proofs.Ytopnlcjbklmicaa
