import Derived.Test.YtopnlcjbklmicaaK57
import Derived.Test.YtopnlcjbklmicaaL2
import Derived.WalkKit
import Derived.WalkSpells
import Derived.WalkLawsBesides
import Derived.Deep.QuietTactic
import Derived.BigQuiet
import Derived.Lib.Hide
import Derived.WalkSmall
import Derived.Maps.OwnSet
import Derived.Maps.RangeWalk
import Derived.Deep.RegionWith
import Derived.Deep.RegionHeld3
import Derived.Deep.DrawnRows
import Derived.Deep.DeepCutAuto
import Derived.OneCell
import Derived.KernelRfl
import Derived.Laws.StructEq
import Derived.StillTailTactics
import Derived.Laws.Externs
import Derived.RangeFuncBox
import Derived.Outline
import Derived.RangeFuncNested
import Derived.RangeFuncBound
import Derived.RangeFuncCalls
import Derived.RangeFuncLeaves
import Derived.Shelf.RegionOpen
import Derived.OwnWalkIn
import Derived.TacticsInMore
import Derived.LoopNIn
import Derived.LoopIn
import Derived.Test.YtopnlcjbklmicaaProg
namespace Go.Proofs.Ytopnlcjbklmicaa
open Go.RowKit Go.Maps Go.Shelf
set_option linter.unusedVariables false
set_option linter.unusedSimpArgs false
set_option maxHeartbeats 1000000 in
theorem refIn_any (n l h : Int) (w : World) : Calls Try.prog 62 #[.int .i64 n, .int .i64 l, .int .i64 h] w fun e w' => e = .returned (.bool (inB n l h)) ∧ w' = w := by
  obtain ⟨p, hp⟩ : ∃ p, inB n l h = p := ⟨_, rfl⟩
  have HP := Lib.hid hp
  unfold inB at HP
  rw [hp]
  clear hp
  go_enter Try.func62, Try.ntmps62
  by_cases h1 : l ≤ n
  · by_cases h2 : n ≤ h
    · have HP2 : Hid (p = true) := Lib.hid (by rw [← HP.out]; simp [h1, h2])
      clear HP
      go_wp2
      go_ret
      exact ⟨by rw [HP2.out]; rfl, rfl⟩
    · have HP2 : Hid (p = false) := Lib.hid (by rw [← HP.out]; simp [h2])
      clear HP
      go_wp2
      go_ret
      exact ⟨by rw [HP2.out]; rfl, rfl⟩
  · have HP2 : Hid (p = false) := Lib.hid (by rw [← HP.out]; simp [h1])
    clear HP
    go_wp2
    go_ret
    exact ⟨by rw [HP2.out]; rfl, rfl⟩
theorem undBools : Try.prog.underlying 152 = some (.slice 4) := by kernel_rfl
theorem infoBool : (Try.prog.info? 4).map (fun i => (i.zero, i.size, i.bytes)) = some (some (.bool false), 1, 1) := by kernel_rfl
theorem made_bools (n : Nat) : madeCells #[Value.bool false] n = Array.replicate n (.bool false) := by
  apply Array.ext
  · simp [madeCells]
  · intro i h1 h2
    simp [madeCells, Nat.mod_one]
theorem make_bools (n : Nat) (w : World) (hn : n ≤ 1000000) : (Instr.makeSlice 152 (.int .i64 n) (.int .i64 n)).run Try.prog w = .ok (.slice (some ⟨w.heap.size, 0, none⟩) n n) (w.alloc (.cells (Array.replicate n (.bool false)) 4)) := by
  obtain ⟨i0, hi, hz0, hz1, hz2⟩ := info_parts infoBool
  have h := run_makeSlice (P := Try.prog) (w := w) 152 4 i0 _ undBools hi hz0 .i64 .i64 (n : Int) (n : Int) (by omega) (Int.le_refl _) (by rw [hz1]; simp; omega) (by rw [hz2]; omega) (by omega)
  rw [hz1] at h
  rw [show (Value.bool false).cells = #[Value.bool false] from rfl] at h
  simpa [made_bools] using h
/-- Which bricks have come. -/
def hasV (n : Nat) (f : Nat → Bool) : Array Value := ((List.range n).map fun b => Value.bool (f b)).toArray
theorem hasV_none (n : Nat) (f : Nat → Bool) (hf : ∀ b, b < n → f b = false) : hasV n f = Array.replicate n (.bool false) := by
  apply Array.ext
  · simp [hasV]
  · intro i h1 h2
    have : i < n := by simpa [hasV] using h1
    simp [hasV, hf i this]
theorem hasV_get (n : Nat) (f : Nat → Bool) (b : Nat) (hb : b < n) : (hasV n f)[b]? = some (.bool (f b)) := by simp [hasV, hb]
theorem hasV_set (n : Nat) (f g : Nat → Bool) (j : Nat) (hg : ∀ b, b < n → g b = (f b || decide (b = j))) : (hasV n f).setIfInBounds j (.bool true) = hasV n g := by
  apply Array.ext
  · simp [hasV]
  · intro i h1 h2
    have hi : i < n := by simpa [hasV] using h1
    rw [Array.getElem_setIfInBounds (by simpa [hasV] using hi)]
    by_cases e : j = i
    · subst e; simp [hasV, hg j hi]
    · have e2 : i ≠ j := fun h => e h.symm
      simp [hasV, e, hg i hi, e2]
theorem hasV_step (l : List Int) (j xn b : Nat) (h : l.take (j + 1) = l.take j ++ [(xn : Int)]) : decide ((b : Int) ∈ l.take (j + 1)) = (decide ((b : Int) ∈ l.take j) || decide (b = xn)) := by
  have e : ((b : Int) = (xn : Int)) ↔ b = xn := by omega
  rw [h, Bool.eq_iff_iff]
  simp only [List.mem_append, List.mem_singleton, decide_eq_true_eq, Bool.or_eq_true]
  exact or_congr Iff.rfl e
theorem hasV_same (n : Nat) (f g : Nat → Bool) (h : ∀ b, b < n → f b = g b) : hasV n f = hasV n g := by
  apply Array.ext
  · simp [hasV]
  · intro i h1 h2
    have hi : i < n := by simpa [hasV] using h1
    simp [hasV, h i hi]
/-- Whether a tier is valid, as the reference asks it. -/
def refTier (N : Int) (cells weights : List Int) : Prop :=
  (cells.length : Int) = N ∧ weights.length ≤ cells.length ∧ (∀ i, i < cells.length → inB (cells[i]?.getD 0) (-1) ((weights.length : Int) - 1) = true) ∧ ∀ b, b < weights.length → (b : Int) ∈ cells ∧ inB (weights[b]?.getD 0) 0 1000 = true
theorem refTier_iff (N : Int) (cells weights : List Int) : isTierF N cells weights = true ↔ refTier N cells weights := by
  constructor
  · intro h
    have h2 := tier_parts h
    unfold isTierF at h
    simp only [Bool.and_eq_true, decide_eq_true_eq, List.all_eq_true, List.mem_range] at h
    obtain ⟨⟨⟨h1, h3⟩, h4⟩, h5⟩ := h
    exact ⟨h1, h2.2.1, fun i hi => h3 _ (by rw [List.getElem?_eq_getElem hi]; exact List.getElem_mem hi), fun b hb => ⟨h5 b hb, h4 _ (by rw [List.getElem?_eq_getElem hb]; exact List.getElem_mem hb)⟩⟩
  · rintro ⟨h1, h2, h3, h4⟩
    unfold isTierF
    simp only [Bool.and_eq_true, decide_eq_true_eq, List.all_eq_true, List.mem_range]
    refine ⟨⟨⟨h1, fun x hx => ?_⟩, fun x hx => ?_⟩, fun b hb => (h4 b hb).1⟩
    · obtain ⟨i, hi, rfl⟩ := List.getElem_of_mem hx
      have := h3 i hi
      rwa [List.getElem?_eq_getElem hi] at this
    · obtain ⟨i, hi, rfl⟩ := List.getElem_of_mem hx
      have := (h4 i hi).2
      rwa [List.getElem?_eq_getElem hi] at this
theorem checkF_iff (W H : Int) (ts : List (List Int × List Int)) : checkF W H ts = 0 ↔ inB W 1 12 = true ∧ inB H 1 12 = true ∧ ts.length ≤ 10 ∧ ∀ t, t < ts.length → refTier (W * H) (ts[t]?.getD ([], [])).1 (ts[t]?.getD ([], [])).2 := by
  unfold checkF
  constructor
  · intro h
    split at h
    · rename_i hc
      have h1 := hc.1
      rw [Bool.and_eq_true] at h1
      exact ⟨h1.1, h1.2, hc.2.1, fun t ht => (refTier_iff _ _ _).1 (List.all_eq_true.1 hc.2.2 (ts[t]?.getD ([], [])) (by rw [List.getElem?_eq_getElem ht]; exact List.getElem_mem ht))⟩
    · cases h
  · rintro ⟨h1, h2, h3, h4⟩
    rw [if_pos]
    refine ⟨by rw [h1, h2]; rfl, h3, List.all_eq_true.2 fun x hx => ?_⟩
    obtain ⟨i, hi, rfl⟩ := List.getElem_of_mem hx
    have := (refTier_iff _ _ _).2 (h4 i hi)
    rwa [List.getElem?_eq_getElem hi] at this
set_option maxRecDepth 100000 in
set_option maxHeartbeats 8000000 in
theorem refStack_any (W H : Int) (tv : Value) (ts : List (List Int × List Int)) (w : World) (hs : SrcT w tv ts) (hss : ∀ i, i < ts.length → (ts[i]?.getD ([], [])).1.length ≤ 1000 ∧ (ts[i]?.getD ([], [])).2.length ≤ 1000) :
    Calls Try.prog 36 #[.agg #[.int .i64 W, .int .i64 H, tv]] w fun e w' => e = .returned (.bool (decide (checkF W H ts = 0))) ∧ Below w.heap.size w w' := by
  obtain ⟨a, cap, rfl, hl, hp⟩ := hs
  have HCK := Lib.hid (checkF_iff W H ts)
  obtain ⟨res, hres⟩ : ∃ r, decide (checkF W H ts = 0) = r := ⟨_, rfl⟩
  have HRS := Lib.hid hres
  rw [hres]
  clear hres
  have A := Blk.new w #[.int .i64 W, .int .i64 H, .slice a ts.length cap] 69
  have B0 := (Below.refl _ w).alloc (Nat.le_refl _) (.cells #[.int .i64 W, .int .i64 H, .slice a ts.length cap] 69)
  have HP := Lib.hid hp
  have HSS := Lib.hid hss
  have HA := Lib.hid A
  have HB := Lib.hid B0
  have x0 := A.cell (i := 0) (v := .int .i64 W) rfl
  have x1 := A.cell (i := 1) (v := .int .i64 H) rfl
  have x2 := A.cell (i := 2) (v := .slice a ts.length cap) rfl
  have HI := Lib.hid refIn_any
  clear A B0 hp hss
  obtain ⟨pw, hpw⟩ : ∃ p, inB W 1 12 = p := ⟨_, rfl⟩
  obtain ⟨ph, hph⟩ : ∃ p, inB H 1 12 = p := ⟨_, rfl⟩
  have HPW := Lib.hid hpw
  have HPH := Lib.hid hph
  have HIW := Lib.hid fun w => refIn_any W 1 12 w
  have HIH := Lib.hid fun w => refIn_any H 1 12 w
  rw [hpw] at HIW
  rw [hph] at HIH
  clear hpw hph
  go_enter Try.func36, Try.ntmps36
  cases pw
  · have HN : Hid (res = false) := Lib.hid (by rw [← HRS.out, decide_eq_false_iff_not, HCK.out, HPW.out]; simp)
    clear HIH
    go_wp2_with (first | (go_at_call 62; first | (refine (HIW.out _).mono ?_; rintro e w9 ⟨rfl, rfl⟩)))
    go_ret
    exact ⟨by rw [HN.out]; rfl, HB.out⟩
  · cases ph
    · have HN : Hid (res = false) := Lib.hid (by rw [← HRS.out, decide_eq_false_iff_not, HCK.out, HPH.out]; simp)
      go_wp2_with (first | (go_at_call 62; first | (with_reducible refine (HIW.out _).mono ?_; rintro e w9 ⟨rfl, rfl⟩) | (with_reducible refine (HIH.out _).mono ?_; rintro e w9 ⟨rfl, rfl⟩)))
      go_ret
      exact ⟨by rw [HN.out]; rfl, HB.out⟩
    · by_cases h10 : 10 < ts.length
      · have h10i : (10 : Int) < (ts.length : Int) := by omega
        have HN : Hid (res = false) := Lib.hid (by rw [← HRS.out, decide_eq_false_iff_not, HCK.out]; omega)
        go_wp2_with (first | (go_at_call 62; first | (with_reducible refine (HIW.out _).mono ?_; rintro e w9 ⟨rfl, rfl⟩) | (with_reducible refine (HIH.out _).mono ?_; rintro e w9 ⟨rfl, rfl⟩)))
        go_ret
        exact ⟨by rw [HN.out]; rfl, HB.out⟩
      · have h10i : ¬ (10 : Int) < (ts.length : Int) := by omega
        have hW : 1 ≤ W ∧ W ≤ 12 := by have := HPW.out; simp only [inB, Bool.and_eq_true, decide_eq_true_eq] at this; exact this
        have hH : 1 ≤ H ∧ H ≤ 12 := by have := HPH.out; simp only [inB, Bool.and_eq_true, decide_eq_true_eq] at this; exact this
        go_wp2_with (first | (go_at_call 62; first | (with_reducible refine (HIW.out _).mono ?_; rintro e w9 ⟨rfl, rfl⟩) | (with_reducible refine (HIH.out _).mono ?_; rintro e w9 ⟨rfl, rfl⟩)))
        clear HIW HIH HPW HPH
        have hN : IntKind.i64.wrap (W * H) = W * H := by
          have := prod_range hW hH
          exact wrap_id (by omega) (by omega)
        have HCK2 : Hid (checkF W H ts = 0 ↔ ∀ t, t < ts.length → refTier (W * H) (ts[t]?.getD ([], [])).1 (ts[t]?.getD ([], [])).2) := Lib.hid ⟨fun h => (HCK.out.1 h).2.2.2, fun h => HCK.out.2 ⟨by simp [inB]; omega, by simp [inB]; omega, by omega, h⟩⟩
        obtain ⟨N, hNN⟩ : ∃ N, W * H = N := ⟨_, rfl⟩
        rw [hNN] at hN HCK2
        have HNN := Lib.hid hNN
        clear HCK hNN
        have hmulN : W * H = N := HNN.out
        go_loopw [3] (fun i wr => ∃ k : Nat, k ≤ ts.length ∧ i = .int .i64 k ∧ Hid (∀ t, t < k → refTier N (ts[t]?.getD ([], [])).1 (ts[t]?.getD ([], [])).2) ∧ Hid (Below w.heap.size w wr) ∧ Hid (Blk wr w.heap.size #[.int .i64 W, .int .i64 H, .slice a ts.length cap] 69)) (fun i _ => ts.length - (intOf i).toNat)
        case atStart => exact ⟨0, Nat.zero_le _, rfl, Lib.hid (fun t ht => by omega), HB, HA⟩
        case round =>
          obtain ⟨k, hk, rfl, HL, HBr, HAr⟩ := hrel
          rename World => wr
          clear HA HB x0 x1 x2
          have x0 := HAr.out.cell (i := 0) (v := .int .i64 W) rfl
          have x1 := HAr.out.cell (i := 1) (v := .int .i64 H) rfl
          have x2 := HAr.out.cell (i := 2) (v := .slice a ts.length cap) rfl
          by_cases hlt : k < ts.length
          · obtain ⟨b, off, rfl, hbb, vc, vw, c1, c2, s1, s2⟩ := HP.out k hlt
            have c1 := (HBr.out.cell (p := ⟨b, _, none⟩) hbb).trans c1
            have c2 := (HBr.out.cell (p := ⟨b, _, none⟩) hbb).trans c2
            obtain ⟨⟨l1, l2⟩, hel⟩ : ∃ t, ts[k]?.getD ([], []) = t := ⟨_, rfl⟩
            have hsl := HSS.out k hlt
            rw [hel] at s1 s2 hsl
            dsimp only at hsl s1 s2
            obtain ⟨ac, cc, rfl, hlc, hpc⟩ := s1.ints.placed
            obtain ⟨aw, cw, rfl, hlw, hpw⟩ := s2.ints.placed
            have HTN : Hid (res = true → refTier N l1 l2) := Lib.hid fun h => by
              have h1 := HCK2.out.1 (by have := HRS.out; rw [h] at this; exact of_decide_eq_true this) k hlt
              rw [hel] at h1; exact h1
            have HEL := Lib.hid hel
            have HPC := Lib.hid hpc
            have HPW := Lib.hid hpw
            obtain ⟨n1, hn1⟩ : ∃ n, l1.length = n := ⟨_, rfl⟩
            obtain ⟨n2, hn2⟩ : ∃ n, l2.length = n := ⟨_, rfl⟩
            rw [hn1] at c1 hsl hlc
            rw [hn2] at c2 hsl hlw
            have HN1 := Lib.hid hn1
            have HN2 := Lib.hid hn2
            clear s1 s2 hel hpc hpw hn1 hn2
            have hki : (0 : Int) ≤ (k : Int) := by omega
            have hkl : (k : Int) < (ts.length : Int) := by omega
            obtain ⟨bt, hbt⟩ : ∃ x, wr.heap.size = x := ⟨_, rfl⟩
            have T1 := Blk.newI wr bt #[.slice ac n1 cc, .slice aw n2 cw] 85 hbt
            have t0 := T1.cell (i := 0) (v := .slice ac n1 cc) rfl
            have t1 := T1.cell (i := 1) (v := .slice aw n2 cw) rfl
            have hbA := (Below.refl _ wr).alloc (Nat.le_refl _) (.cells #[.slice ac n1 cc, .slice aw n2 cw] 85)
            have x3 := (HAr.out.past hbA).cell (i := 0) (v := .int .i64 W) rfl
            have x4 := (HAr.out.past hbA).cell (i := 1) (v := .int .i64 H) rfl
            have HBA := Lib.hid (HBr.out.trans (hbA.mono HBr.out.size))
            have HAA := Lib.hid (HAr.out.past hbA)
            have HT1 := Lib.hid T1
            clear T1 hbA
            by_cases h1 : (n1 : Int) = N
            · have h1i : ((n1 : Int) != N) = false := by simp [h1]
              have H1 := Lib.hid h1
              by_cases h2 : n1 < n2
              · have h2i : (n1 : Int) < (n2 : Int) := by omega
                have HN : Hid (res = false) := Lib.hid (Bool.eq_false_iff.2 fun h => by have h3 := (HTN.out h).2.1; rw [HN1.out, HN2.out] at h3; omega)
                clear HTN HL
                go_wp2
                go_ret
                exact ⟨by rw [HN.out]; rfl, HBA.out⟩
              · have h2i : ¬ (n1 : Int) < (n2 : Int) := by omega
                have hsz : (wr.alloc (.cells #[.slice ac n1 cc, .slice aw n2 cw] 85)).heap.size = bt + 1 := by simp [hbt]
                have hmk := make_bools n2 (wr.alloc (.cells #[.slice ac n1 cc, .slice aw n2 cw] 85)) (by omega)
                rw [hsz] at hmk
                have hB2 := (Below.refl _ (wr.alloc (.cells #[.slice ac n1 cc, .slice aw n2 cw] 85))).alloc (Nat.le_refl _) (.cells (Array.replicate n2 (.bool false)) 4)
                have HH0 : Hid (Blk ((wr.alloc (.cells #[.slice ac n1 cc, .slice aw n2 cw] 85)).alloc (.cells (Array.replicate n2 (.bool false)) 4)) (bt + 1) (hasV n2 (fun b => decide ((b : Int) ∈ l1.take 0))) 4) := Lib.hid (by
                  rw [hasV_none _ _ (fun b _ => by simp)]
                  exact Blk.newI _ _ _ _ hsz)
                have HT2 := Lib.hid (HT1.out.past hB2)
                have HB2 := Lib.hid (HBA.out.trans (hB2.mono HBA.out.size))
                have HA2 := Lib.hid (HAA.out.past hB2)
                clear hsz hB2 HBr
                have HLT := Lib.hid hbt
                go_wp2_with fail
                clear hmk t0 t1 x0 x1 x2 x3 x4 c1 c2 HT1 HAA HBA hbt h1 h1i
                have hwl : w.heap.size + 1 ≤ bt := by have h3 := HAr.out.lt; have h4 := HLT.out; omega
                have hwn : IntKind.i64.wrap ((n2 : Int) - 1) = (n2 : Int) - 1 := wrap_id (by omega) (by omega)
                obtain ⟨z, hz⟩ : ∃ x, (wr.alloc (.cells #[.slice ac n1 cc, .slice aw n2 cw] 85)).alloc (.cells (Array.replicate n2 (.bool false)) 4) = x := ⟨_, rfl⟩
                rw [hz] at HH0 HT2 HB2 HA2 ⊢
                clear hz
                go_loopw [6] (fun i wr2 => ∃ j : Nat, j ≤ n1 ∧ i = .int .i64 j ∧ Hid (∀ i, i < j → inB (l1[i]?.getD 0) (-1) ((n2 : Int) - 1) = true) ∧ Hid (Blk wr2 (bt + 1) (hasV n2 (fun b => decide ((b : Int) ∈ l1.take j))) 4) ∧ Hid (Below bt z wr2 ∧ Blk wr2 bt #[.slice ac n1 cc, .slice aw n2 cw] 85)) (fun i _ => n1 - (intOf i).toNat)
                case atStart => exact ⟨0, Nat.zero_le _, rfl, Lib.hid (fun i hi => by omega), HH0, Lib.hid ⟨Below.refl _ _, HT2.out⟩⟩
                case round =>
                  obtain ⟨j, hj, rfl, HR2, HH, HW2⟩ := hrel
                  rename World => v
                  clear HH0
                  have hbz : bt ≤ z.heap.size := by have := HT2.out.lt; omega
                  have hBv := HB2.out.trans (HW2.out.1.mono (by omega))
                  have HBv := Lib.hid hBv
                  have t0 := HW2.out.2.cell (i := 0) (v := .slice ac n1 cc) rfl
                  have t1 := HW2.out.2.cell (i := 1) (v := .slice aw n2 cw) rfl
                  by_cases hjl : j < n1
                  · obtain ⟨cb, co, rfl, hcb, d1⟩ := HPC.out j (by rw [HN1.out]; exact hjl)
                    have d1 := (hBv.cell (p := ⟨cb, _, none⟩) hcb).trans d1
                    obtain ⟨x, hx⟩ : ∃ x, l1[j]?.getD 0 = x := ⟨_, rfl⟩
                    rw [hx] at d1
                    have hxm : x ∈ l1 := by rw [← hx, List.getElem?_eq_getElem (by rw [HN1.out]; exact hjl)]; exact List.getElem_mem _
                    have htk : l1.take (j + 1) = l1.take j ++ [x] := by rw [List.take_succ_eq_append_getElem (by rw [HN1.out]; exact hjl), ← hx, List.getElem?_eq_getElem (by rw [HN1.out]; exact hjl)]; rfl
                    have hji : (0 : Int) ≤ (j : Int) := by omega
                    have hjli : (j : Int) < (n1 : Int) := by omega
                    have HX := Lib.hid hx
                    have HTK := Lib.hid htk
                    obtain ⟨p, hp⟩ : ∃ p, inB x (-1) ((n2 : Int) - 1) = p := ⟨_, rfl⟩
                    have HIN := Lib.hid fun w => refIn_any x (-1) ((n2 : Int) - 1) w
                    rw [hp] at HIN
                    have HPX := Lib.hid hp
                    clear hBv hx htk hp
                    have hcbz : cb < w.heap.size := hcb
                    go_wp2_with fail
                    refine region_plain (fun X => X.cell? ⟨bt, 0, none⟩ = some (.slice (some ⟨cb, co, none⟩) n1 cc) ∧ X.cell? ⟨bt, 1, none⟩ = some (.slice aw n2 cw) ∧ X.cell? ⟨cb, co + j, none⟩ = some (.int .i64 x)) 11 #[false, false, false, false, false, false, false, false, false, false, false] rfl rfl (by kernel_rfl) ?_
                    obtain ⟨wx, hwx⟩ : ∃ q, v.drew = q := ⟨_, rfl⟩
                    have hSS : (wx.cell? ⟨bt, 0, none⟩ = some (.slice (some ⟨cb, co, none⟩) n1 cc) ∧ wx.cell? ⟨bt, 1, none⟩ = some (.slice aw n2 cw) ∧ wx.cell? ⟨cb, co + j, none⟩ = some (.int .i64 x)) := by rw [← hwx]; exact ⟨t0, t1, d1⟩
                    have HWX := Lib.hid (And.intro (show Below bt z wx by rw [← hwx]; exact HW2.out.1.drew) (show Blk wx bt #[.slice (some ⟨cb, co, none⟩) n1 cc, .slice aw n2 cw] 85 by rw [← hwx]; exact HW2.out.2.drew))
                    have HHX : Hid (Blk wx (bt + 1) (hasV n2 (fun b => decide ((b : Int) ∈ l1.take j))) 4) := Lib.hid (by rw [← hwx]; exact HH.out.drew)
                    have HBX : Hid (Below w.heap.size w wx) := Lib.hid (by rw [← hwx]; exact HBv.out.drew)
                    rw [hwx]
                    clear hwx t0 t1 d1 HW2 HH HBv
                    refine take_first (i := 0) (v := ?_) rfl (by kernel_rfl) (by kernel_rfl) (by kernel_rfl) (fun _ _ _ h => h) (by rfl) (by assumption) ?_ ?_
                    rotate_left 1
                    · intro X hSX
                      (try dsimp only at hSX)
                      first | (go_simp; done) | (go_simp; with_reducible rfl)
                    try simp only [Act.put, List.setIfInBounds_toArray, List.set_cons_zero, List.set_cons_succ]
                    refine take_first (i := 1) (v := ?_) rfl (by kernel_rfl) (by kernel_rfl) (by kernel_rfl) (fun _ _ _ h => h) (by rfl) (by assumption) ?_ ?_
                    rotate_left 1
                    · intro X hSX
                      (try dsimp only at hSX)
                      first | (go_simp; done) | (go_simp; with_reducible rfl)
                    try simp only [Act.put, List.setIfInBounds_toArray, List.set_cons_zero, List.set_cons_succ]
                    refine take_first (i := 2) (v := ?_) rfl (by kernel_rfl) (by kernel_rfl) (by kernel_rfl) (fun _ _ _ h => h) (by rfl) (by assumption) ?_ ?_
                    rotate_left 1
                    · intro X hSX
                      (try dsimp only at hSX)
                      first | (go_simp; done) | (go_simp; with_reducible rfl)
                    try simp only [Act.put, List.setIfInBounds_toArray, List.set_cons_zero, List.set_cons_succ]
                    refine take_first (i := 3) (v := ?_) rfl (by kernel_rfl) (by kernel_rfl) (by kernel_rfl) (fun _ _ _ h => h) (by rfl) (by assumption) ?_ ?_
                    rotate_left 1
                    · intro X hSX
                      (try dsimp only at hSX)
                      first | (go_simp; done) | (go_simp; with_reducible rfl)
                    try simp only [Act.put, List.setIfInBounds_toArray, List.set_cons_zero, List.set_cons_succ]
                    refine take_first (i := 4) (v := ?_) rfl (by kernel_rfl) (by kernel_rfl) (by kernel_rfl) (fun _ _ _ h => h) (by rfl) (by assumption) ?_ ?_
                    rotate_left 1
                    · intro X hSX
                      (try dsimp only at hSX)
                      first | (go_simp; done) | (go_simp; with_reducible rfl)
                    try simp only [Act.put, List.setIfInBounds_toArray, List.set_cons_zero, List.set_cons_succ]
                    refine take_first (i := 5) (v := ?_) rfl (by kernel_rfl) (by kernel_rfl) (by kernel_rfl) (fun _ _ _ h => h) (by rfl) (by assumption) ?_ ?_
                    rotate_left 1
                    · intro X hSX
                      (try dsimp only at hSX)
                      first | (go_simp; done) | (go_simp; with_reducible rfl)
                    try simp only [Act.put, List.setIfInBounds_toArray, List.set_cons_zero, List.set_cons_succ]
                    refine take_first (i := 6) (v := ?_) rfl (by kernel_rfl) (by kernel_rfl) (by kernel_rfl) (fun _ _ _ h => h) (by rfl) (by assumption) ?_ ?_
                    rotate_left 1
                    · intro X hSX
                      (try dsimp only at hSX)
                      first | (go_simp; done) | (go_simp; with_reducible rfl)
                    try simp only [Act.put, List.setIfInBounds_toArray, List.set_cons_zero, List.set_cons_succ]
                    refine take_first (i := 7) (v := ?_) rfl (by kernel_rfl) (by kernel_rfl) (by kernel_rfl) (fun _ _ _ h => h) (by rfl) (by assumption) ?_ ?_
                    rotate_left 1
                    · intro X hSX
                      (try dsimp only at hSX)
                      first | (go_simp; done) | (go_simp; with_reducible rfl)
                    try simp only [Act.put, List.setIfInBounds_toArray, List.set_cons_zero, List.set_cons_succ]
                    refine take_first (i := 8) (v := ?_) rfl (by kernel_rfl) (by kernel_rfl) (by kernel_rfl) (fun _ _ _ h => h) (by rfl) (by assumption) ?_ ?_
                    rotate_left 1
                    · intro X hSX
                      (try dsimp only at hSX)
                      first | (go_simp; done) | (go_simp; with_reducible rfl)
                    try simp only [Act.put, List.setIfInBounds_toArray, List.set_cons_zero, List.set_cons_succ]
                    refine only_one (i := 9) (by kernel_rfl) rfl (by rfl) ?_
                    intro K hK
                    go_simp
                    refine (HIN.out _).mono ?_
                    rintro e w9 ⟨rfl, rfl⟩
                    refine hK.out _ _ hSS ?_
                    clear hK K
                    try simp only [Act.put, List.setIfInBounds_toArray, List.set_cons_zero, List.set_cons_succ]
                    refine take_first (i := 10) (v := ?_) rfl (by kernel_rfl) (by kernel_rfl) (by kernel_rfl) (fun _ _ _ h => h) (by rfl) (by assumption) ?_ ?_
                    rotate_left 1
                    · intro X hSX
                      (try dsimp only at hSX)
                      first | (go_simp; done) | (go_simp; with_reducible rfl)
                    try simp only [Act.put, List.setIfInBounds_toArray, List.set_cons_zero, List.set_cons_succ]
                    refine wpAnyH_done (by kernel_rfl) ?_ _
                    obtain ⟨t0, t1, d1⟩ := hSS
                    cases p
                    · have HN : Hid (res = false) := Lib.hid (Bool.eq_false_iff.2 fun h => by
                        have h3 := (HTN.out h).2.2.1 j (by rw [HN1.out]; exact hjl)
                        rw [HX.out, HN2.out, HPX.out] at h3; cases h3)
                      clear HTN HL t0 t1 d1
                      go_wp2
                      go_ret
                      exact ⟨by rw [HN.out]; rfl, HBX.out⟩
                    · have hxr : -1 ≤ x ∧ x ≤ (n2 : Int) - 1 := by have := HPX.out; simp only [inB, Bool.and_eq_true, decide_eq_true_eq] at this; exact this
                      have HR3 : Hid (∀ i, i < j + 1 → inB (l1[i]?.getD 0) (-1) ((n2 : Int) - 1) = true) := Lib.hid fun i hi => by
                        rcases Nat.lt_or_ge i j with h | h
                        · exact HR2.out i h
                        · obtain rfl : i = j := by omega
                          rw [HX.out]; exact HPX.out
                      by_cases hx0 : 0 ≤ x
                      · obtain ⟨xn, rfl⟩ := Int.eq_ofNat_of_zero_le hx0
                        have hxn : (xn : Int) < (n2 : Int) := by omega
                        have hset := hasV_set n2 (fun b => decide ((b : Int) ∈ l1.take j)) (fun b => decide ((b : Int) ∈ l1.take (j + 1))) xn (fun b hb => hasV_step l1 j xn b HTK.out)
                        have h4 := hasV_get n2 (fun b => decide ((b : Int) ∈ l1.take j)) xn (by omega)
                        have g0 := HHX.out.cell (i := xn) h4
                        have g1 := HHX.out.fr (i := xn)
                        have HH4 := Lib.hid (HHX.out.set xn (by simp [hasV]; omega) (.bool true) rfl)
                        rw [hset] at HH4
                        have HW4 := Lib.hid (And.intro (HWX.out.1.setCell (p := ⟨bt + 1, xn, none⟩) (show bt ≤ bt + 1 by omega) (.bool true)) (HWX.out.2.far (b' := bt + 1) (i := xn) (u := .bool true) (by omega)))
                        clear hset h4 hxm
                        go_wp2
                        go_roundw
                        case rel => exact ⟨j + 1, by omega, by go_num, HR3, HH4, HW4⟩
                        case measure => simp [intOf]; omega
                      · have hxx : x = -1 := by omega
                        subst hxx
                        have HH4 : Hid (Blk w9 (bt + 1) (hasV n2 (fun b => decide ((b : Int) ∈ l1.take (j + 1)))) 4) := Lib.hid (by
                          rw [hasV_same n2 _ (fun b => decide ((b : Int) ∈ l1.take j)) (fun b hb => by
                            rw [HTK.out, Bool.eq_iff_iff]; simp <;> omega)]
                          exact HHX.out)
                        clear hxm
                        go_wp2
                        go_roundw
                        case rel => exact ⟨j + 1, by omega, by go_num, HR3, HH4, HWX⟩
                        case measure => simp [intOf]; omega
                  · have hje : j = n1 := by omega
                    subst hje
                    have HH5 : Hid (Blk v (bt + 1) (hasV n2 (fun b => decide ((b : Int) ∈ l1))) 4) := Lib.hid (by have := HH.out; rwa [← HN1.out, List.take_length] at this)
                    clear HH
                    go_wp2_with fail
                    go_loopw [7] (fun i wr3 => wr3 = v ∧ ∃ q : Nat, q ≤ n2 ∧ i = .int .i64 q ∧ Hid (∀ b, b < q → (b : Int) ∈ l1 ∧ inB (l2[b]?.getD 0) 0 1000 = true)) (fun i _ => n2 - (intOf i).toNat)
                    case atStart => exact ⟨rfl, 0, Nat.zero_le _, rfl, Lib.hid (fun b hb => by omega)⟩
                    case round =>
                      obtain ⟨rfl, q, hq, rfl, HQ⟩ := hrel
                      by_cases hql : q < n2
                      · have h4 := hasV_get n2 (fun b => decide ((b : Int) ∈ l1)) q hql
                        have g0 := HH5.out.cell (i := q) h4
                        obtain ⟨hb, hhb⟩ : ∃ r, decide ((q : Int) ∈ l1) = r := ⟨_, rfl⟩
                        rw [hhb] at g0
                        have HHB := Lib.hid hhb
                        obtain ⟨wb, wo, rfl, hwb, d1⟩ := HPW.out q (by rw [HN2.out]; exact hql)
                        have d1 := (HBv.out.cell (p := ⟨wb, _, none⟩) hwb).trans d1
                        obtain ⟨x, hx⟩ : ∃ x, l2[q]?.getD 0 = x := ⟨_, rfl⟩
                        rw [hx] at d1
                        obtain ⟨p, hp⟩ : ∃ p, inB x 0 1000 = p := ⟨_, rfl⟩
                        have HIN := Lib.hid fun w => refIn_any x 0 1000 w
                        rw [hp] at HIN
                        have HX := Lib.hid (And.intro hx hp)
                        have hqi : (0 : Int) ≤ (q : Int) := by omega
                        have hqli : (q : Int) < (n2 : Int) := by omega
                        clear h4 hhb hx hp
                        cases hb
                        · have HN : Hid (res = false) := Lib.hid (Bool.eq_false_iff.2 fun h => by
                            have h3 := ((HTN.out h).2.2.2 q (by rw [HN2.out]; exact hql)).1
                            exact of_decide_eq_false HHB.out h3)
                          clear HTN HL
                          go_wp2
                          go_ret
                          exact ⟨by rw [HN.out]; rfl, HBv.out⟩
                        · cases p
                          · have HN : Hid (res = false) := Lib.hid (Bool.eq_false_iff.2 fun h => by
                              have h3 := ((HTN.out h).2.2.2 q (by rw [HN2.out]; exact hql)).2
                              rw [HX.out.1, HX.out.2] at h3; cases h3)
                            clear HTN HL
                            go_wp2_with (first | (go_at_call 62; refine (HIN.out _).mono ?_; rintro e w9 ⟨rfl, rfl⟩))
                            go_ret
                            exact ⟨by rw [HN.out]; rfl, HBv.out⟩
                          · have HQ2 : Hid (∀ b, b < q + 1 → (b : Int) ∈ l1 ∧ inB (l2[b]?.getD 0) 0 1000 = true) := Lib.hid fun b hb => by
                              rcases Nat.lt_or_ge b q with h | h
                              · exact HQ.out b h
                              · obtain rfl : b = q := by omega
                                exact ⟨of_decide_eq_true HHB.out, by rw [HX.out.1]; exact HX.out.2⟩
                            go_wp2_with (first | (go_at_call 62; refine (HIN.out _).mono ?_; rintro e w9 ⟨rfl, rfl⟩))
                            go_roundw
                            case rel => exact ⟨trivial, q + 1, by omega, by go_num, HQ2⟩
                            case measure => simp [intOf]; omega
                      · have hqe : q = n2 := by omega
                        subst hqe
                        have HL2 : Hid (∀ t, t < k + 1 → refTier N (ts[t]?.getD ([], [])).1 (ts[t]?.getD ([], [])).2) := Lib.hid fun t ht => by
                          rcases Nat.lt_or_ge t k with h | h
                          · exact HL.out t h
                          · obtain rfl : t = k := by omega
                            rw [HEL.out]
                            exact ⟨by rw [HN1.out]; exact H1.out, by rw [HN1.out, HN2.out]; omega, fun i hi => by rw [HN2.out]; exact HR2.out i (by rw [← HN1.out]; exact hi), fun b hb => HQ.out b (by rw [← HN2.out]; exact hb)⟩
                        have HA5 := Lib.hid (HA2.out.below HW2.out.1 (by have h3 := HLT.out; omega))
                        clear HH5 HTN
                        go_wp2
                        go_roundw
                        case rel => exact ⟨k + 1, by omega, by go_num, HL2, HBv, HA5⟩
                        case measure => simp [intOf]; omega
            · have h1i : ((n1 : Int) != N) = true := by simpa using h1
              have HN : Hid (res = false) := Lib.hid (Bool.eq_false_iff.2 fun h => h1 (by have h3 := (HTN.out h).1; rw [HN1.out] at h3; exact h3))
              clear HTN HL h1
              go_wp2
              go_ret
              exact ⟨by rw [HN.out]; rfl, HBA.out⟩
          · have hke : k = ts.length := by omega
            subst hke
            have HN : Hid (res = true) := Lib.hid (by rw [← HRS.out]; exact decide_eq_true (HCK2.out.2 HL.out))
            clear HL hmulN
            go_wp2
            go_ret
            exact ⟨by rw [HN.out]; rfl, HBr.out⟩
end Go.Proofs.Ytopnlcjbklmicaa
