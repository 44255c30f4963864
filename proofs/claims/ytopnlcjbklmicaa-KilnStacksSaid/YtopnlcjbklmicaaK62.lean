import Derived.Test.YtopnlcjbklmicaaK61
import Derived.WalkKit
import Derived.WalkSpells
import Derived.WalkLawsBesides
import Derived.Deep.QuietTactic
import Derived.BigQuiet
import Derived.Lib.Hide
import Derived.WalkSmall
import Derived.Maps.OwnSet
import Derived.Maps.RangeWalk
import Derived.Deep.RegionWith
import Derived.Deep.RegionHeld3
import Derived.Deep.DrawnRows
import Derived.Deep.DeepCutAuto
import Derived.OneCell
import Derived.KernelRfl
import Derived.Laws.StructEq
import Derived.StillTailTactics
import Derived.Laws.Externs
import Derived.RangeFuncBox
import Derived.Outline
import Derived.RangeFuncNested
import Derived.RangeFuncBound
import Derived.RangeFuncCalls
import Derived.RangeFuncLeaves
import Derived.Shelf.RegionOpen
import Derived.OwnWalkIn
import Derived.TacticsInMore
import Derived.LoopNIn
import Derived.LoopIn
import Derived.Test.YtopnlcjbklmicaaProg
namespace Go.Proofs.Ytopnlcjbklmicaa
open Go.RowKit Go.Maps Go.Shelf
set_option linter.unusedVariables false
set_option linter.unusedSimpArgs false
set_option maxHeartbeats 4000000 in
theorem refLowest_any (num den : Nat) (w : World) (h1 : num ≤ 4000000000000000000) (h2 : 1 ≤ den) (h3 : den ≤ 4000000000000000000) :
    Calls Try.prog 77 #[.int .i64 num, .int .i64 den] w fun e w' => (∃ x y : Int, e = .returned (.tuple #[.agg #[.int .i64 x, .int .i64 y], .bool (decide ((lowestF num den).2.2 = 0))]) ∧ ((lowestF num den).2.2 = 0 → x = (lowestF num den).1 ∧ y = (lowestF num den).2.1)) ∧ Below w.heap.size w w' := by
  obtain ⟨r, hr⟩ : ∃ r, lowestF num den = r := ⟨_, rfl⟩
  have HS := Lib.hid hr.symm
  unfold lowestF at HS
  rw [hr]
  have HR := Lib.hid (Blk.new w #[.int .i64 0, .int .i64 0] 116)
  have HBB := Lib.hid ((Below.refl _ w).alloc (Nat.le_refl _) (.cells #[.int .i64 0, .int .i64 0] 116))
  clear hr
  go_enter Try.func77, Try.ntmps77
  go_wp2
  obtain ⟨w0, hw0⟩ : ∃ w0, w.alloc (.cells #[.int .i64 0, .int .i64 0] 116) = w0 := ⟨_, rfl⟩
  rw [hw0] at HR HBB ⊢
  clear hw0
  go_loopw [6, 7] (fun x y wr => ∃ p q : Nat, x = .int .i64 p ∧ y = .int .i64 q ∧ p ≤ 4000000000000000000 ∧ q ≤ 4000000000000000000 ∧ Hid (Nat.gcd p q = Nat.gcd num den) ∧ Hid (Blk wr w.heap.size #[.int .i64 0, .int .i64 0] 116) ∧ Hid (Below w.heap.size w wr)) (fun _ y _ => (intOf y).toNat)
  case atStart => exact ⟨num, den, rfl, rfl, h1, h3, Lib.hid rfl, HR, HBB⟩
  case round =>
    obtain ⟨p, q, rfl, rfl, hp, hq, HG, HR2, HB2⟩ := hrel
    by_cases hq0 : q = 0
    · subst hq0
      have hg : p = Nat.gcd num den := by have := HG.out; rw [Nat.gcd_zero_right] at this; exact this
      have hg0 : 1 ≤ p := by rw [hg]; exact Nat.gcd_pos_of_pos_right _ (by omega)
      rw [← hg] at HS
      have r0 := HR2.out.cell (i := 0) (v := .int .i64 0) rfl
      have r1 := HR2.out.cell (i := 1) (v := .int .i64 0) rfl
      have f0 := HR2.out.fr (i := 0)
      have f1 := HR2.out.fr (i := 1)
      have d1 : (num : Int).tdiv (p : Int) = ((num / p : Nat) : Int) := rfl
      have d2 : (den : Int).tdiv (p : Int) = ((den / p : Nat) : Int) := rfl
      have l1 : num / p ≤ num := Nat.div_le_self _ _
      have l2 : den / p ≤ den := Nat.div_le_self _ _
      have hp0 : (p : Int) ≠ 0 := by omega
      obtain ⟨x, hx⟩ : ∃ x, num / p = x := ⟨_, rfl⟩
      obtain ⟨y, hy⟩ : ∃ y, den / p = y := ⟨_, rfl⟩
      rw [hx] at d1 l1 HS
      rw [hy] at d2 l2 HS
      have hwx : IntKind.i64.wrap (x : Int) = x := wrap_id (by omega) (by omega)
      have hwy : IntKind.i64.wrap (y : Int) = y := wrap_id (by omega) (by omega)
      clear hg hx hy HG HR HBB
      go_wp2
      go_region
      all_goals
        have HX0 := (Blk.new wr #[.int .i64 x, .int .i64 y] 116).drew
        have HR0 := (HR2.out.alloc (.cells #[.int .i64 x, .int .i64 y] 116)).drew
        have HB0 := (HB2.out.alloc HB2.out.size (.cells #[.int .i64 x, .int .i64 y] 116)).drew
        obtain ⟨b8, hb8⟩ : ∃ b, wr.heap.size = b := ⟨_, rfl⟩
        rw [hb8] at HX0
        have hne : w.heap.size ≠ b8 := by have := HR2.out.lt; omega
        obtain ⟨w5, hw5⟩ : ∃ w5, (wr.alloc (.cells #[.int .i64 x, .int .i64 y] 116)).drew = w5 := ⟨_, rfl⟩
        rw [hw5] at HX0 HR0 HB0 ⊢
        have HX := Lib.hid HX0
        have HR3 := Lib.hid HR0
        have HB3 := Lib.hid HB0
        have HNE := Lib.hid hne
        clear hw5 HX0 HR0 HB0 f0 f1 r0 r1 d1 d2 hwx hwy HR2 HB2 hne
        have hres : decide (r.2.2 = 0) = (decide (x ≤ 1000000000) && decide (y ≤ 1000000000)) ∧ (r.2.2 = 0 → (x : Int) = r.1 ∧ (y : Int) = r.2.1) := by
          rw [HS.out]
          by_cases c : 1000000000 < max x y
          · rw [if_pos c]
            refine ⟨?_, fun h => (by cases h)⟩
            rw [decide_eq_false (by decide), eq_comm, Bool.and_eq_false_iff, decide_eq_false_iff_not, decide_eq_false_iff_not]
            omega
          · rw [if_neg c]
            refine ⟨?_, fun _ => ⟨rfl, rfl⟩⟩
            rw [decide_eq_true rfl, eq_comm, Bool.and_eq_true, decide_eq_true_eq, decide_eq_true_eq]
            omega
        have HV := Lib.hid hres
        clear hres HS
        go_wp2_with fail
        refine region_plain (fun X => (X.cell? ⟨b8, 0, none⟩ = some (.int .i64 x) ∧ X.cell? ⟨b8, 1, none⟩ = some (.int .i64 y))) 11 #[false, false, false, false, false, false, false, false, false, false, false] rfl rfl (by kernel_rfl) ?_
        obtain ⟨w6, hw6⟩ : ∃ w6, w5.drew = w6 := ⟨_, rfl⟩
        have HX6 : Hid (Blk w6 b8 #[.int .i64 x, .int .i64 y] 116) := Lib.hid (by rw [← hw6]; exact HX.out.drew)
        have HR6 : Hid (Blk w6 w.heap.size #[.int .i64 0, .int .i64 0] 116) := Lib.hid (by rw [← hw6]; exact HR3.out.drew)
        have HB6 : Hid (Below w.heap.size w w6) := Lib.hid (by rw [← hw6]; exact HB3.out.drew)
        rw [hw6]
        clear hw6 HX HR3 HB3
        have hSS : (w6.cell? ⟨b8, 0, none⟩ = some (.int .i64 x) ∧ w6.cell? ⟨b8, 1, none⟩ = some (.int .i64 y)) := ⟨HX6.out.cell (i := 0) rfl, HX6.out.cell (i := 1) rfl⟩
        have g0 := HR6.out.cell (i := 0) (v := .int .i64 0) rfl
        have g1 := HR6.out.cell (i := 1) (v := .int .i64 0) rfl
        have e0 := HR6.out.fr (i := 0)
        have e1 := HR6.out.fr (i := 1)
        by_cases hxN : x ≤ 1000000000
        · have hxi : (x : Int) ≤ 1000000000 := by omega
          by_cases hyN : y ≤ 1000000000
          · have hyi : (y : Int) ≤ 1000000000 := by omega
            refine take_first (i := 0) (v := ?_) rfl (by kernel_rfl) (by kernel_rfl) (by kernel_rfl) (fun _ _ _ h => h) (by rfl) (by assumption) ?_ ?_
            rotate_left 1
            · intro X hSX
              (try dsimp only at hSX)
              first | (go_simp; done) | (go_simp; with_reducible rfl)
            try simp only [Act.put, List.setIfInBounds_toArray, List.set_cons_zero, List.set_cons_succ]
            refine take_first (i := 1) (v := ?_) rfl (by kernel_rfl) (by kernel_rfl) (by kernel_rfl) (fun _ _ _ h => h) (by rfl) (by assumption) ?_ ?_
            rotate_left 1
            · intro X hSX
              (try dsimp only at hSX)
              first | (go_simp; done) | (go_simp; with_reducible rfl)
            try simp only [Act.put, List.setIfInBounds_toArray, List.set_cons_zero, List.set_cons_succ]
            refine take_first (i := 2) (v := ?_) rfl (by kernel_rfl) (by kernel_rfl) (by kernel_rfl) (fun _ _ _ h => h) (by rfl) (by assumption) ?_ ?_
            rotate_left 1
            · intro X hSX
              (try dsimp only at hSX)
              first | (go_simp; done) | (go_simp; with_reducible rfl)
            try simp only [Act.put, List.setIfInBounds_toArray, List.set_cons_zero, List.set_cons_succ]
            refine take_first (i := 3) (v := ?_) rfl (by kernel_rfl) (by kernel_rfl) (by kernel_rfl) (fun _ _ _ h => h) (by rfl) (by assumption) ?_ ?_
            rotate_left 1
            · intro X hSX
              (try dsimp only at hSX)
              first | (go_simp; done) | (go_simp; with_reducible rfl)
            try simp only [Act.put, List.setIfInBounds_toArray, List.set_cons_zero, List.set_cons_succ]
            refine take_first (i := 4) (v := ?_) rfl (by kernel_rfl) (by kernel_rfl) (by kernel_rfl) (fun _ _ _ h => h) (by rfl) (by assumption) ?_ ?_
            rotate_left 1
            · intro X hSX
              (try dsimp only at hSX)
              first | (go_simp; done) | (go_simp; with_reducible rfl)
            try simp only [Act.put, List.setIfInBounds_toArray, List.set_cons_zero, List.set_cons_succ]
            refine take_first (i := 5) (v := ?_) rfl (by kernel_rfl) (by kernel_rfl) (by kernel_rfl) (fun _ _ _ h => h) (by rfl) (by assumption) ?_ ?_
            rotate_left 1
            · intro X hSX
              (try dsimp only at hSX)
              first | (go_simp; done) | (go_simp; with_reducible rfl)
            try simp only [Act.put, List.setIfInBounds_toArray, List.set_cons_zero, List.set_cons_succ]
            refine take_first (i := 6) (v := ?_) rfl (by kernel_rfl) (by kernel_rfl) (by kernel_rfl) (fun _ _ _ h => h) (by rfl) (by assumption) ?_ ?_
            rotate_left 1
            · intro X hSX
              (try dsimp only at hSX)
              first | (go_simp; done) | (go_simp; with_reducible rfl)
            try simp only [Act.put, List.setIfInBounds_toArray, List.set_cons_zero, List.set_cons_succ]
            refine take_first (i := 7) (v := ?_) rfl (by kernel_rfl) (by kernel_rfl) (by kernel_rfl) (fun _ _ _ h => h) (by rfl) (by assumption) ?_ ?_
            rotate_left 1
            · intro X hSX
              (try dsimp only at hSX)
              first | (go_simp; done) | (go_simp; with_reducible rfl)
            try simp only [Act.put, List.setIfInBounds_toArray, List.set_cons_zero, List.set_cons_succ]
            refine take_first (i := 8) (v := ?_) rfl (by kernel_rfl) (by kernel_rfl) (by kernel_rfl) (fun _ _ _ h => h) (by rfl) (by assumption) ?_ ?_
            rotate_left 1
            · intro X hSX
              (try dsimp only at hSX)
              first | (go_simp; done) | (go_simp; with_reducible rfl)
            try simp only [Act.put, List.setIfInBounds_toArray, List.set_cons_zero, List.set_cons_succ]
            refine only_one (i := 9) (by kernel_rfl) rfl (by rfl) ?_
            intro K hK
            go_simp
            have G7 := (HR6.out.set 0 (by simp) (.int .i64 x) rfl).set 1 (by simp) (.int .i64 y) rfl
            have X7 := (HX6.out.far (b' := w.heap.size) (i := 0) (u := .int .i64 x) HNE.out.symm).far (b' := w.heap.size) (i := 1) (u := .int .i64 y) HNE.out.symm
            have HR7 := Lib.hid G7
            have HB7 := Lib.hid ((HB6.out.setCell (p := ⟨w.heap.size, 0, none⟩) (Nat.le_refl _) (.int .i64 x)).setCell (p := ⟨w.heap.size, 1, none⟩) (Nat.le_refl _) (.int .i64 y))
            clear hSS g0 g1 e0 e1
            have hSS : (World.cell? _ ⟨b8, 0, none⟩ = some (.int .i64 x) ∧ World.cell? _ ⟨b8, 1, none⟩ = some (.int .i64 y)) := ⟨X7.cell (i := 0) rfl, X7.cell (i := 1) rfl⟩
            clear G7 X7
            refine hK.out _ _ hSS ?_
            clear hK K
            try simp only [Act.put, List.setIfInBounds_toArray, List.set_cons_zero, List.set_cons_succ]
            refine take_first (i := 10) (v := ?_) rfl (by kernel_rfl) (by kernel_rfl) (by kernel_rfl) (fun _ _ _ h => h) (by rfl) (by assumption) ?_ ?_
            rotate_left 1
            · intro X hSX
              (try dsimp only at hSX)
              first | (go_simp; done) | (go_simp; with_reducible rfl)
            try simp only [Act.put, List.setIfInBounds_toArray, List.set_cons_zero, List.set_cons_succ]
            refine wpAnyH_done (by kernel_rfl) ?_ _
            have d0 := HR7.out.cell (i := 0) (v := .int .i64 x) rfl
            have d1 := HR7.out.cell (i := 1) (v := .int .i64 y) rfl
            clear hSS
            go_wp2
            refine bodyPost_ret (v := .tuple #[.agg #[.int .i64 x, .int .i64 y], .bool true]) ?_ rfl ?_
            · simp [results, Try.results77, go_sem, d0, d1]
            · exact ⟨⟨x, y, by rw [HV.out.1]; simp [hxN, hyN], HV.out.2⟩, HB7.out⟩
          · have hyi : ¬ (y : Int) ≤ 1000000000 := by omega
            refine take_first (i := 0) (v := ?_) rfl (by kernel_rfl) (by kernel_rfl) (by kernel_rfl) (fun _ _ _ h => h) (by rfl) (by assumption) ?_ ?_
            rotate_left 1
            · intro X hSX
              (try dsimp only at hSX)
              first | (go_simp; done) | (go_simp; with_reducible rfl)
            try simp only [Act.put, List.setIfInBounds_toArray, List.set_cons_zero, List.set_cons_succ]
            refine take_first (i := 1) (v := ?_) rfl (by kernel_rfl) (by kernel_rfl) (by kernel_rfl) (fun _ _ _ h => h) (by rfl) (by assumption) ?_ ?_
            rotate_left 1
            · intro X hSX
              (try dsimp only at hSX)
              first | (go_simp; done) | (go_simp; with_reducible rfl)
            try simp only [Act.put, List.setIfInBounds_toArray, List.set_cons_zero, List.set_cons_succ]
            refine take_first (i := 2) (v := ?_) rfl (by kernel_rfl) (by kernel_rfl) (by kernel_rfl) (fun _ _ _ h => h) (by rfl) (by assumption) ?_ ?_
            rotate_left 1
            · intro X hSX
              (try dsimp only at hSX)
              first | (go_simp; done) | (go_simp; with_reducible rfl)
            try simp only [Act.put, List.setIfInBounds_toArray, List.set_cons_zero, List.set_cons_succ]
            refine take_first (i := 3) (v := ?_) rfl (by kernel_rfl) (by kernel_rfl) (by kernel_rfl) (fun _ _ _ h => h) (by rfl) (by assumption) ?_ ?_
            rotate_left 1
            · intro X hSX
              (try dsimp only at hSX)
              first | (go_simp; done) | (go_simp; with_reducible rfl)
            try simp only [Act.put, List.setIfInBounds_toArray, List.set_cons_zero, List.set_cons_succ]
            refine take_first (i := 4) (v := ?_) rfl (by kernel_rfl) (by kernel_rfl) (by kernel_rfl) (fun _ _ _ h => h) (by rfl) (by assumption) ?_ ?_
            rotate_left 1
            · intro X hSX
              (try dsimp only at hSX)
              first | (go_simp; done) | (go_simp; with_reducible rfl)
            try simp only [Act.put, List.setIfInBounds_toArray, List.set_cons_zero, List.set_cons_succ]
            refine take_first (i := 5) (v := ?_) rfl (by kernel_rfl) (by kernel_rfl) (by kernel_rfl) (fun _ _ _ h => h) (by rfl) (by assumption) ?_ ?_
            rotate_left 1
            · intro X hSX
              (try dsimp only at hSX)
              first | (go_simp; done) | (go_simp; with_reducible rfl)
            try simp only [Act.put, List.setIfInBounds_toArray, List.set_cons_zero, List.set_cons_succ]
            refine take_first (i := 6) (v := ?_) rfl (by kernel_rfl) (by kernel_rfl) (by kernel_rfl) (fun _ _ _ h => h) (by rfl) (by assumption) ?_ ?_
            rotate_left 1
            · intro X hSX
              (try dsimp only at hSX)
              first | (go_simp; done) | (go_simp; with_reducible rfl)
            try simp only [Act.put, List.setIfInBounds_toArray, List.set_cons_zero, List.set_cons_succ]
            refine take_first (i := 7) (v := ?_) rfl (by kernel_rfl) (by kernel_rfl) (by kernel_rfl) (fun _ _ _ h => h) (by rfl) (by assumption) ?_ ?_
            rotate_left 1
            · intro X hSX
              (try dsimp only at hSX)
              first | (go_simp; done) | (go_simp; with_reducible rfl)
            try simp only [Act.put, List.setIfInBounds_toArray, List.set_cons_zero, List.set_cons_succ]
            refine take_first (i := 8) (v := ?_) rfl (by kernel_rfl) (by kernel_rfl) (by kernel_rfl) (fun _ _ _ h => h) (by rfl) (by assumption) ?_ ?_
            rotate_left 1
            · intro X hSX
              (try dsimp only at hSX)
              first | (go_simp; done) | (go_simp; with_reducible rfl)
            try simp only [Act.put, List.setIfInBounds_toArray, List.set_cons_zero, List.set_cons_succ]
            refine only_one (i := 9) (by kernel_rfl) rfl (by rfl) ?_
            intro K hK
            go_simp
            have G7 := (HR6.out.set 0 (by simp) (.int .i64 x) rfl).set 1 (by simp) (.int .i64 y) rfl
            have X7 := (HX6.out.far (b' := w.heap.size) (i := 0) (u := .int .i64 x) HNE.out.symm).far (b' := w.heap.size) (i := 1) (u := .int .i64 y) HNE.out.symm
            have HR7 := Lib.hid G7
            have HB7 := Lib.hid ((HB6.out.setCell (p := ⟨w.heap.size, 0, none⟩) (Nat.le_refl _) (.int .i64 x)).setCell (p := ⟨w.heap.size, 1, none⟩) (Nat.le_refl _) (.int .i64 y))
            clear hSS g0 g1 e0 e1
            have hSS : (World.cell? _ ⟨b8, 0, none⟩ = some (.int .i64 x) ∧ World.cell? _ ⟨b8, 1, none⟩ = some (.int .i64 y)) := ⟨X7.cell (i := 0) rfl, X7.cell (i := 1) rfl⟩
            clear G7 X7
            refine hK.out _ _ hSS ?_
            clear hK K
            try simp only [Act.put, List.setIfInBounds_toArray, List.set_cons_zero, List.set_cons_succ]
            refine take_first (i := 10) (v := ?_) rfl (by kernel_rfl) (by kernel_rfl) (by kernel_rfl) (fun _ _ _ h => h) (by rfl) (by assumption) ?_ ?_
            rotate_left 1
            · intro X hSX
              (try dsimp only at hSX)
              first | (go_simp; done) | (go_simp; with_reducible rfl)
            try simp only [Act.put, List.setIfInBounds_toArray, List.set_cons_zero, List.set_cons_succ]
            refine wpAnyH_done (by kernel_rfl) ?_ _
            have d0 := HR7.out.cell (i := 0) (v := .int .i64 x) rfl
            have d1 := HR7.out.cell (i := 1) (v := .int .i64 y) rfl
            clear hSS
            go_wp2
            refine bodyPost_ret (v := .tuple #[.agg #[.int .i64 x, .int .i64 y], .bool false]) ?_ rfl ?_
            · simp [results, Try.results77, go_sem, d0, d1]
            · exact ⟨⟨x, y, by rw [HV.out.1]; simp [hxN, hyN], HV.out.2⟩, HB7.out⟩
        · have hxi : ¬ (x : Int) ≤ 1000000000 := by omega
          have hyN : True := trivial
          refine take_first (i := 0) (v := ?_) rfl (by kernel_rfl) (by kernel_rfl) (by kernel_rfl) (fun _ _ _ h => h) (by rfl) (by assumption) ?_ ?_
          rotate_left 1
          · intro X hSX
            (try dsimp only at hSX)
            first | (go_simp; done) | (go_simp; with_reducible rfl)
          try simp only [Act.put, List.setIfInBounds_toArray, List.set_cons_zero, List.set_cons_succ]
          refine take_first (i := 1) (v := ?_) rfl (by kernel_rfl) (by kernel_rfl) (by kernel_rfl) (fun _ _ _ h => h) (by rfl) (by assumption) ?_ ?_
          rotate_left 1
          · intro X hSX
            (try dsimp only at hSX)
            first | (go_simp; done) | (go_simp; with_reducible rfl)
          try simp only [Act.put, List.setIfInBounds_toArray, List.set_cons_zero, List.set_cons_succ]
          refine take_first (i := 2) (v := ?_) rfl (by kernel_rfl) (by kernel_rfl) (by kernel_rfl) (fun _ _ _ h => h) (by rfl) (by assumption) ?_ ?_
          rotate_left 1
          · intro X hSX
            (try dsimp only at hSX)
            first | (go_simp; done) | (go_simp; with_reducible rfl)
          try simp only [Act.put, List.setIfInBounds_toArray, List.set_cons_zero, List.set_cons_succ]
          refine take_first (i := 3) (v := ?_) rfl (by kernel_rfl) (by kernel_rfl) (by kernel_rfl) (fun _ _ _ h => h) (by rfl) (by assumption) ?_ ?_
          rotate_left 1
          · intro X hSX
            (try dsimp only at hSX)
            first | (go_simp; done) | (go_simp; with_reducible rfl)
          try simp only [Act.put, List.setIfInBounds_toArray, List.set_cons_zero, List.set_cons_succ]
          refine take_first (i := 4) (v := ?_) rfl (by kernel_rfl) (by kernel_rfl) (by kernel_rfl) (fun _ _ _ h => h) (by rfl) (by assumption) ?_ ?_
          rotate_left 1
          · intro X hSX
            (try dsimp only at hSX)
            first | (go_simp; done) | (go_simp; with_reducible rfl)
          try simp only [Act.put, List.setIfInBounds_toArray, List.set_cons_zero, List.set_cons_succ]
          refine skip_first (i := 5) rfl (by kernel_rfl) (by kernel_rfl) (by kernel_rfl) (fun _ _ _ h => h) (by rfl) (by assumption) ?_
          try simp only [Act.put, List.setIfInBounds_toArray, List.set_cons_zero, List.set_cons_succ]
          refine skip_first (i := 6) rfl (by kernel_rfl) (by kernel_rfl) (by kernel_rfl) (fun _ _ _ h => h) (by rfl) (by assumption) ?_
          try simp only [Act.put, List.setIfInBounds_toArray, List.set_cons_zero, List.set_cons_succ]
          refine skip_first (i := 7) rfl (by kernel_rfl) (by kernel_rfl) (by kernel_rfl) (fun _ _ _ h => h) (by rfl) (by assumption) ?_
          try simp only [Act.put, List.setIfInBounds_toArray, List.set_cons_zero, List.set_cons_succ]
          refine take_first (i := 8) (v := ?_) rfl (by kernel_rfl) (by kernel_rfl) (by kernel_rfl) (fun _ _ _ h => h) (by rfl) (by assumption) ?_ ?_
          rotate_left 1
          · intro X hSX
            (try dsimp only at hSX)
            first | (go_simp; done) | (go_simp; with_reducible rfl)
          try simp only [Act.put, List.setIfInBounds_toArray, List.set_cons_zero, List.set_cons_succ]
          refine only_one (i := 9) (by kernel_rfl) rfl (by rfl) ?_
          intro K hK
          go_simp
          have G7 := (HR6.out.set 0 (by simp) (.int .i64 x) rfl).set 1 (by simp) (.int .i64 y) rfl
          have X7 := (HX6.out.far (b' := w.heap.size) (i := 0) (u := .int .i64 x) HNE.out.symm).far (b' := w.heap.size) (i := 1) (u := .int .i64 y) HNE.out.symm
          have HR7 := Lib.hid G7
          have HB7 := Lib.hid ((HB6.out.setCell (p := ⟨w.heap.size, 0, none⟩) (Nat.le_refl _) (.int .i64 x)).setCell (p := ⟨w.heap.size, 1, none⟩) (Nat.le_refl _) (.int .i64 y))
          clear hSS g0 g1 e0 e1
          have hSS : (World.cell? _ ⟨b8, 0, none⟩ = some (.int .i64 x) ∧ World.cell? _ ⟨b8, 1, none⟩ = some (.int .i64 y)) := ⟨X7.cell (i := 0) rfl, X7.cell (i := 1) rfl⟩
          clear G7 X7
          refine hK.out _ _ hSS ?_
          clear hK K
          try simp only [Act.put, List.setIfInBounds_toArray, List.set_cons_zero, List.set_cons_succ]
          refine take_first (i := 10) (v := ?_) rfl (by kernel_rfl) (by kernel_rfl) (by kernel_rfl) (fun _ _ _ h => h) (by rfl) (by assumption) ?_ ?_
          rotate_left 1
          · intro X hSX
            (try dsimp only at hSX)
            first | (go_simp; done) | (go_simp; with_reducible rfl)
          try simp only [Act.put, List.setIfInBounds_toArray, List.set_cons_zero, List.set_cons_succ]
          refine wpAnyH_done (by kernel_rfl) ?_ _
          have d0 := HR7.out.cell (i := 0) (v := .int .i64 x) rfl
          have d1 := HR7.out.cell (i := 1) (v := .int .i64 y) rfl
          clear hSS
          go_wp2
          refine bodyPost_ret (v := .tuple #[.agg #[.int .i64 x, .int .i64 y], .bool false]) ?_ rfl ?_
          · simp [results, Try.results77, go_sem, d0, d1]
          · exact ⟨⟨x, y, by rw [HV.out.1]; simp [hxN, hyN], HV.out.2⟩, HB7.out⟩
    · have hst := gcd_step p q
      have hlt : p % q < q := Nat.mod_lt _ (by omega)
      obtain ⟨m, hm⟩ : ∃ m, p % q = m := ⟨_, rfl⟩
      have hmi : (p : Int).tmod (q : Int) = (m : Int) := by rw [← hm]; rfl
      rw [hm] at hst hlt
      have HG2 : Hid (Nat.gcd q m = Nat.gcd num den) := Lib.hid (by rw [hst]; exact HG.out)
      have hq0i : (q : Int) ≠ 0 := by omega
      have hqb : ((q : Int) != 0) = true := by simpa using hq0
      have hwm : IntKind.i64.wrap (m : Int) = m := wrap_id (by omega) (by omega)
      clear hst hm HG
      go_wp2
      go_quiet (fail)
      go_wp2
      go_roundw
      case rel => exact ⟨q, m, rfl, rfl, hq, by omega, HG2, Lib.hid HR2.out.drewN, Lib.hid (Below.drewN' HB2.out)⟩
      case measure => simp [intOf]; omega
end Go.Proofs.Ytopnlcjbklmicaa
