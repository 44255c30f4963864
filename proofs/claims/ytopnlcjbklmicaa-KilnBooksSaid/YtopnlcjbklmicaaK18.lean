import Derived.Test.YtopnlcjbklmicaaK17
import Derived.WalkKit
import Derived.WalkSpells
import Derived.WalkLawsBesides
import Derived.Deep.QuietTactic
import Derived.BigQuiet
import Derived.Lib.Hide
import Derived.WalkSmall
import Derived.Maps.OwnSet
import Derived.Maps.RangeWalk
import Derived.Deep.RegionWith
import Derived.Deep.RegionHeld3
import Derived.Deep.DrawnRows
import Derived.Deep.DeepCutAuto
import Derived.OneCell
import Derived.KernelRfl
import Derived.Laws.StructEq
import Derived.StillTailTactics
import Derived.Laws.Externs
import Derived.RangeFuncBox
import Derived.Outline
import Derived.RangeFuncNested
import Derived.RangeFuncBound
import Derived.RangeFuncCalls
import Derived.RangeFuncLeaves
import Derived.Shelf.RegionOpen
import Derived.OwnWalkIn
import Derived.TacticsInMore
import Derived.LoopNIn
import Derived.LoopIn
import Derived.Test.YtopnlcjbklmicaaProg
namespace Go.Proofs.Ytopnlcjbklmicaa
open Go.RowKit Go.Maps Go.Shelf
set_option linter.unusedVariables false
set_option linter.unusedSimpArgs false
theorem prod_range {W H : Int} (h1 : 1 ≤ W ∧ W ≤ 12) (h2 : 1 ≤ H ∧ H ≤ 12) : 1 ≤ W * H ∧ W * H ≤ 144 := by
  have h := mul_le_int (a := W) (b := H) (A := 12) (B := 12) (by omega) (by omega)
  have h3 : W * 1 ≤ W * H := Int.mul_le_mul_of_nonneg_left h2.1 (by omega)
  omega
set_option maxHeartbeats 1000000 in
theorem isBad_any (bs : Nat) (W H : Int) (tv vc vw : Value) (cells weights : List Int) (w : World) (hW : 1 ≤ W ∧ W ≤ 12) (hH : 1 ≤ H ∧ H ≤ 12)
    (hb : Blk w bs #[.int .i64 W, .int .i64 H, tv] 69) (hc : IntsAt w vc cells) (hw : IntsAt w vw weights) :
    Calls Try.prog 68 #[.agg #[vc, vw], .pointer (some ⟨bs, 0, none⟩)] w fun e w' => e = .returned (.bool (!isTierF (W * H) cells weights)) ∧ Below w.heap.size w w' := by
  obtain ⟨ac, capc, rfl, hlc, hpc⟩ := hc.placed
  obtain ⟨aw, capw, rfl, hlw, hpw⟩ := hw.placed
  have BB := (Below.refl _ w).alloc (Nat.le_refl _) (.cells #[.slice ac cells.length capc, .slice aw weights.length capw] 85)
  have B := Blk.new w #[.slice ac cells.length capc, .slice aw weights.length capw] 85
  have b0 := B.cell (i := 0) (v := .slice ac cells.length capc) rfl
  have b1 := B.cell (i := 1) (v := .slice aw weights.length capw) rfl
  have S := hb.alloc (.cells #[.slice ac cells.length capc, .slice aw weights.length capw] 85)
  have s0 := S.cell (i := 0) (v := .int .i64 W) rfl
  have s1 := S.cell (i := 1) (v := .int .i64 H) rfl
  have hr := prod_range hW hH
  have HC := Lib.hid (isTier_any (W * H) _ _ cells weights _ (hc.below BB) (hw.below BB) (by omega))
  have HBB := Lib.hid BB
  obtain ⟨r, hrr⟩ : ∃ r, isTierF (W * H) cells weights = r := ⟨_, rfl⟩
  rw [hrr] at HC ⊢
  obtain ⟨p, hp⟩ : ∃ p, W * H = p := ⟨_, rfl⟩
  rw [hp] at HC hr
  clear BB B S hc hw hb hpc hpw hrr
  go_enter Try.func68, Try.ntmps68
  go_wp2_with fail
  refine HC.out.mono ?_
  rintro e w2 ⟨rfl, hb2⟩
  have HB2 := Lib.hid (HBB.out.trans (hb2.mono HBB.out.size))
  clear hb2
  go_wp2
  go_ret
  exact ⟨rfl, HB2.out⟩
set_option maxHeartbeats 1000000 in
theorem indexBad_any (n₀ bs : Nat) (W H : Int) (tv : Value) (ts : List (List Int × List Int)) (w : World) (hW : 1 ≤ W ∧ W ≤ 12) (hH : 1 ≤ H ∧ H ≤ 12)
    (hb : Blk w bs #[.int .i64 W, .int .i64 H, tv] 69) (ht : TiersAt n₀ w tv ts) :
    Calls Try.prog 92 #[tv, .func (.func 68) #[] #[.pointer (some ⟨bs, 0, none⟩)]] w fun e w' => ∃ k : Int, e = .returned (.int .i64 k) ∧ Hid (0 ≤ k ↔ ts.all (fun t => isTierF (W * H) t.1 t.2) = false) ∧ Below w.heap.size w w' := by
  obtain ⟨a, cap, rfl, hl, hn, hp⟩ := ht.placed
  obtain ⟨p, hp0⟩ : ∃ p : List Int × List Int → Bool, (fun t => isTierF (W * H) t.1 t.2) = p := ⟨_, rfl⟩
  have HP0 : Hid (∀ c v, isTierF (W * H) c v = p (c, v)) := Lib.hid fun c v => by rw [← hp0]
  rw [hp0]
  have HC := Lib.hid hp
  have HT := Lib.hid ht
  have HB0 := Lib.hid hb
  clear hp hb ht hp0
  go_enter Try.func92, Try.ntmps92
  go_wp2
  go_loopw [5, 8] (fun _ i wr => ∃ k : Nat, k ≤ ts.length ∧ i = .int .i64 k ∧ Hid ((ts.take k).all p = true) ∧ Hid (Below w.heap.size w wr)) (fun _ i _ => ts.length - (intOf i).toNat)
  case atStart => exact ⟨0, Nat.zero_le _, rfl, Lib.hid (by simp), Lib.hid (Below.refl _ _)⟩
  case round =>
    obtain ⟨k, hk, rfl, HA, HB⟩ := hrel
    by_cases hlt : k < ts.length
    · obtain ⟨b, off, rfl, hbb, vc, vw, c1, c2, ⟨hi1, _⟩, ⟨hi2, _⟩⟩ := HC.out k hlt
      have hbw : b < w.heap.size := Nat.lt_of_lt_of_le hbb hn
      have c1 := (HB.out.cell (p := ⟨b, _, none⟩) hbw).trans c1
      have c2 := (HB.out.cell (p := ⟨b, _, none⟩) hbw).trans c2
      have has := allN_take_succ ([], []) p ts k hlt
      have hno := allN_not ([], []) p ts k hlt
      obtain ⟨x, y, hel⟩ : ∃ x y, ts[k]?.getD ([], []) = (x, y) := ⟨_, _, rfl⟩
      rw [hel] at has hno hi1 hi2
      have hi1 := hi1.below HB.out
      have hi2 := hi2.below HB.out
      have HI := isBad_any bs W H _ _ _ x y wr hW hH (HB0.out.past HB.out) hi1 hi2
      rw [HP0.out] at HI
      obtain ⟨ac, capc, rfl, _⟩ := hi1.placed
      obtain ⟨aw, capw, rfl, _⟩ := hi2.placed
      have HAS := Lib.hid has
      have HNO := Lib.hid hno
      have HI := Lib.hid HI
      clear hel has hno hi1 hi2
      go_wp2_with fail
      refine HI.out.mono ?_
      rintro e w2 ⟨rfl, hb2⟩
      have HB2 := Lib.hid (HB.out.trans (hb2.mono HB.out.size))
      clear hb2
      cases hpp : p (x, y)
      · have HP := Lib.hid (HNO.out hpp)
        clear hpp
        go_wp2
        go_ret
        exact ⟨(k : Int), rfl, Lib.hid ⟨fun _ => HP.out, fun _ => by omega⟩, HB2.out⟩
      · have HP := Lib.hid hpp
        clear hpp
        go_wp2
        go_roundw
        case rel => exact ⟨k + 1, by omega, by go_num, Lib.hid (by rw [HAS.out, HA.out]; exact HP.out), HB2⟩
        case measure => simp [intOf]; omega
    · have hke : k = ts.length := by omega
      have HA2 : Hid (ts.all p = true) := Lib.hid (by have := HA.out; rwa [hke, List.take_length] at this)
      clear HA hke
      go_wp2
      go_ret
      exact ⟨-1, rfl, Lib.hid ⟨fun h => by omega, fun h => by rw [HA2.out] at h; cases h⟩, HB.out⟩
theorem containsBad_any (n₀ bs : Nat) (W H : Int) (tv : Value) (ts : List (List Int × List Int)) (w : World) (hW : 1 ≤ W ∧ W ≤ 12) (hH : 1 ≤ H ∧ H ≤ 12)
    (hb : Blk w bs #[.int .i64 W, .int .i64 H, tv] 69) (ht : TiersAt n₀ w tv ts) :
    Calls Try.prog 70 #[tv, .func (.func 68) #[] #[.pointer (some ⟨bs, 0, none⟩)]] w fun e w' => e = .returned (.bool (!ts.all (fun t => isTierF (W * H) t.1 t.2))) ∧ Below w.heap.size w w' := by
  have hi := indexBad_any n₀ bs W H tv ts w hW hH hb ht
  obtain ⟨a, cap, rfl, _⟩ := ht.placed
  obtain ⟨r, hr⟩ : ∃ r, ts.all (fun t => isTierF (W * H) t.1 t.2) = r := ⟨_, rfl⟩
  rw [hr] at hi ⊢
  have HI := Lib.hid hi
  clear hi hb ht hr
  go_enter Try.func70, Try.ntmps70
  go_wp2_with fail
  refine HI.out.mono ?_
  rintro e w2 ⟨k, rfl, hk, hb2⟩
  have HB2 := Lib.hid hb2
  clear hb2
  by_cases hk0 : 0 ≤ k
  · have HA := Lib.hid (hk.out.1 hk0)
    clear hk
    go_wp2
    go_ret
    exact ⟨ret_bool (by rw [HA.out]; simp; try omega), HB2.out⟩
  · have HA : Hid (r = true) := Lib.hid (by cases h : r with | true => rfl | false => exact absurd (hk.out.2 h) hk0)
    clear hk
    go_wp2
    go_ret
    exact ⟨ret_bool (by rw [HA.out]; simp; try omega), HB2.out⟩
/-- The error of a stack. -/
def checkF (W H : Int) (ts : List (List Int × List Int)) : Int :=
  if (inB W 1 12 && inB H 1 12) = true ∧ ts.length ≤ 10 ∧ ts.all (fun t => isTierF (W * H) t.1 t.2) = true then 0 else 2
set_option maxHeartbeats 1000000 in
theorem checkStack_any (n₀ : Nat) (W H : Int) (tv : Value) (ts : List (List Int × List Int)) (w : World) (ht : TiersAt n₀ w tv ts) :
    Calls Try.prog 32 #[.agg #[.int .i64 W, .int .i64 H, tv]] w fun e w' => e = .returned (.int .i64 (checkF W H ts)) ∧ Below w.heap.size w w' := by
  obtain ⟨a, cap, rfl, hl, hn, hp⟩ := ht.placed
  have S := Blk.new w #[.int .i64 W, .int .i64 H, .slice a ts.length cap] 69
  have S2 := S.alloc (.cells #[.int .i64 W, .int .i64 H] 3)
  have s0 := S.cell (i := 0) (v := .int .i64 W) rfl
  have s1 := S.cell (i := 1) (v := .int .i64 H) rfl
  have t2 := S2.cell (i := 2) (v := .slice a ts.length cap) rfl
  have BB := ((Below.refl _ w).alloc (Nat.le_refl _) (.cells #[.int .i64 W, .int .i64 H, .slice a ts.length cap] 69)).alloc (by simp) (.cells #[.int .i64 W, .int .i64 H] 3)
  have HI := areWithin_any 1 12 _ _ _ (ints_two (w.alloc (.cells #[.int .i64 W, .int .i64 H, .slice a ts.length cap] 69)) (w.heap.size + 1) W H 3 (by simp))
  have e1 : ([W, H].all fun n => inB n 1 12) = (inB W 1 12 && inB H 1 12) := by simp
  rw [e1] at HI
  obtain ⟨f1, hf1⟩ : ∃ f1, (inB W 1 12 && inB H 1 12) = f1 := ⟨_, rfl⟩
  obtain ⟨r, hr⟩ : ∃ r, checkF W H ts = r := ⟨_, rfl⟩
  have HS := Lib.hid hr.symm
  unfold checkF at HS
  rw [hr]
  rw [hf1] at HS HI
  have HI := Lib.hid HI
  have HF1 := Lib.hid hf1
  have HS2 := Lib.hid S2
  have HBB := Lib.hid BB
  have HT := Lib.hid (ht.keptK ((Kept.alloc (KS n₀) w (.cells #[.int .i64 W, .int .i64 H, .slice a ts.length cap] 69)).trans (Kept.alloc _ _ (.cells #[.int .i64 W, .int .i64 H] 3))))
  clear hf1 hr e1 BB S S2 hp ht
  go_enter Try.func32, Try.ntmps32
  go_wp2_with fail
  refine HI.out.mono ?_
  rintro e w2 ⟨rfl, rfl⟩
  cases f1
  · have HV : Hid (r = 2) := Lib.hid (by rw [HS.out]; simp)
    clear HS
    go_wp2
    go_ret
    exact ⟨ret_int (by rw [HV.out]), HBB.out⟩
  · by_cases hten : ts.length ≤ 10
    · have hWH : (1 ≤ W ∧ W ≤ 12) ∧ (1 ≤ H ∧ H ≤ 12) := by have := HF1.out; simp [inB] at this; omega
      have HC := containsBad_any n₀ _ W H _ ts _ hWH.1 hWH.2 HS2.out HT.out
      obtain ⟨q, hq⟩ : ∃ q, ts.all (fun t => isTierF (W * H) t.1 t.2) = q := ⟨_, rfl⟩
      rw [hq] at HC HS
      have HC := Lib.hid HC
      have hti : (ts.length : Int) ≤ 10 := by omega
      clear hq
      go_wp2_with fail
      refine HC.out.mono ?_
      rintro e w3 ⟨rfl, hb3⟩
      have HB3 := Lib.hid (HBB.out.trans (hb3.mono HBB.out.size))
      clear hb3
      cases q
      · have HV : Hid (r = 2) := Lib.hid (by rw [HS.out]; simp)
        clear HS
        go_wp2
        go_ret
        exact ⟨ret_int (by rw [HV.out]), HB3.out⟩
      · have HV : Hid (r = 0) := Lib.hid (by rw [HS.out]; simp [hten])
        clear HS
        go_wp2
        go_ret
        exact ⟨ret_int (by rw [HV.out]), HB3.out⟩
    · have HV : Hid (r = 2) := Lib.hid (by rw [HS.out]; simp [hten])
      have hti : 10 < (ts.length : Int) := by omega
      clear HS
      go_wp2
      go_ret
      exact ⟨ret_int (by rw [HV.out]), HBB.out⟩
end Go.Proofs.Ytopnlcjbklmicaa
