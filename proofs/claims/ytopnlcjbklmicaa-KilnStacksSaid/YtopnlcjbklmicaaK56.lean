import Derived.Test.YtopnlcjbklmicaaK55
import Derived.WalkKit
import Derived.WalkSpells
import Derived.WalkLawsBesides
import Derived.Deep.QuietTactic
import Derived.BigQuiet
import Derived.Lib.Hide
import Derived.WalkSmall
import Derived.Maps.OwnSet
import Derived.Maps.RangeWalk
import Derived.Deep.RegionWith
import Derived.Deep.RegionHeld3
import Derived.Deep.DrawnRows
import Derived.Deep.DeepCutAuto
import Derived.OneCell
import Derived.KernelRfl
import Derived.Laws.StructEq
import Derived.StillTailTactics
import Derived.Laws.Externs
import Derived.RangeFuncBox
import Derived.Outline
import Derived.RangeFuncNested
import Derived.RangeFuncBound
import Derived.RangeFuncCalls
import Derived.RangeFuncLeaves
import Derived.Shelf.RegionOpen
import Derived.OwnWalkIn
import Derived.TacticsInMore
import Derived.LoopNIn
import Derived.LoopIn
import Derived.Test.YtopnlcjbklmicaaProg
namespace Go.Proofs.Ytopnlcjbklmicaa
open Go.RowKit Go.Maps Go.Shelf
set_option linter.unusedVariables false
set_option linter.unusedSimpArgs false
theorem loads_okRows {ts : List (List Int × List Int)} {N : Nat} : ∀ (n : Nat) (rows rows' : List (List (Nat × Nat))) (pr pr' : List (Nat × Nat)), n ≤ rows.length → (∀ t, t < n → TierOk ts t ∧ (ts[t]?.getD ([], [])).1.length = N) → pr.length = N → (∀ i, i < pr.length → LoadOk (pr[i]?.getD (0, 1))) → loadsS ts N (List.range n).reverse rows pr = (rows', pr', 0) →
    (∀ t, n ≤ t → rows'[t]? = rows[t]?) ∧ (pr'.length = N ∧ ∀ i, i < N → LoadOk (pr'[i]?.getD (0, 1))) ∧ ∀ t, t < n → ∀ p ∈ rows'[t]?.getD [], LoadOk p := by
  intro n
  induction n with
  | zero =>
    intro rows rows' pr pr' _ _ hl hp h
    simp only [List.range_zero, List.reverse_nil, loadsS] at h
    cases h
    exact ⟨fun _ _ => rfl, ⟨hl, fun i hi => hp i (by omega)⟩, fun t ht => by omega⟩
  | succ n ih =>
    intro rows rows' pr pr' hr hT hl hp h
    rw [range_rev_succ] at h
    simp only [loadsS] at h
    split at h
    · rename_i h2
      obtain ⟨a1, a2, a3, a4⟩ := passF_ok hl hp (hT n (by omega)).2 (hT n (by omega)).1 h2
      obtain ⟨c1, c2, c3⟩ := ih _ _ _ _ (by simp; omega) (fun t ht => hT t (by omega)) a2 (fun i hi => a3 i (by omega)) h
      refine ⟨fun t ht => ?_, c2, fun t ht => ?_⟩
      · rw [c1 t (by omega), List.getElem?_set_ne (by omega)]
      · by_cases hlt : t < n
        · exact c3 t hlt
        · obtain rfl : t = n := by omega
          rw [c1 t (by omega), List.getElem?_set_self (by omega)]
          exact a4
    · rename_i h2
      exact absurd (congrArg (·.2.2) h) h2
/-- All loads are as they must be. -/
theorem loadsF_ok {ts : List (List Int × List Int)} {N : Nat} {rows : List (List (Nat × Nat))} {fl : List (Nat × Nat)} (hT : ∀ t, t < ts.length → TierOk ts t ∧ (ts[t]?.getD ([], [])).1.length = N) (h : loadsF ts N = (rows, fl, 0)) :
    (∀ i, i < N → LoadOk (fl[i]?.getD (0, 1))) ∧ ∀ t, t < ts.length → ∀ p ∈ rows[t]?.getD [], LoadOk p := by
  obtain ⟨_, c2, c3⟩ := loads_okRows ts.length _ _ _ _ (by simp) hT (by simp) (fun i hi => by simp at hi; simp [hi, LoadOk]) h
  exact ⟨c2.2, c3⟩
theorem crushN_of {W H : Int} {ts : List (List Int × List Int)} {bears : List Int} {rows : List (List (Nat × Nat))} {fl : List (Nat × Nat)} (hc : checkF W H ts = 0) (hf : FirstB ts (hangP ts) none) (h : loadsF ts (W * H).toNat = (rows, fl, 0)) (hl : bears.length = ts.length) (hb : (bears.all fun n => inB n 0 1000000) = true) : CrushN ts rows bears (W * H).toNat := by
  obtain ⟨k1, k2, k3, k4, k5⟩ := check_parts hc
  have hr := prod_range k1 k2
  have hT := tierV_of hc hf
  obtain ⟨v1, v2, v3, v4⟩ := loadsF_val hT h
  obtain ⟨_, o2⟩ := loadsF_ok (fun t ht => ⟨(k5 t ht).ok hf ht, k4 t ht⟩) h
  refine ⟨by omega, k4, v1, fun t ht => (v4 t ht).len, fun t ht b hb' => ?_, hl, fun t ht => ?_⟩
  · have hlen := (v4 t ht).len
    have h3 : b < (rows[t]?.getD []).length := by omega
    have h4 := o2 t ht ((rows[t]?.getD [])[b]) (List.getElem_mem h3)
    unfold loadAt
    rw [List.getElem?_eq_getElem h3]
    exact h4
  · have h3 := List.all_eq_true.1 hb (bears[t]?.getD 0) (by rw [List.getElem?_eq_getElem (by omega)]; exact List.getElem_mem _)
    simp only [inB, Bool.and_eq_true, decide_eq_true_eq] at h3
    exact h3
def CrushTo (w : World) (W H : Int) (ts : List (List Int × List Int)) (bears : List Int) (e : Ending) (w' : World) : Prop :=
  Below w.heap.size w w' ∧
  ((checkF W H ts ≠ 0 ∧ e = .returned (.tuple #[.agg #[.int .i64 0, .int .i64 0], .int .i64 (checkF W H ts)])) ∨
   (checkF W H ts = 0 ∧ bears.length ≠ ts.length ∧ e = .returned (.tuple #[.agg #[.int .i64 0, .int .i64 0], .int .i64 4])) ∨
   (checkF W H ts = 0 ∧ bears.length = ts.length ∧ (bears.all fun n => inB n 0 1000000) = false ∧ e = .returned (.tuple #[.agg #[.int .i64 0, .int .i64 0], .int .i64 3])) ∨
   (checkF W H ts = 0 ∧ bears.length = ts.length ∧ (bears.all fun n => inB n 0 1000000) = true ∧ ∃ r, FirstB ts (hangP ts) r ∧
      ((r ≠ none ∧ e = .returned (.tuple #[.agg #[.int .i64 0, .int .i64 0], .int .i64 80])) ∨
       (r = none ∧ (loadsF ts (W * H).toNat).2.2 ≠ 0 ∧ e = .returned (.tuple #[.agg #[.int .i64 0, .int .i64 0], .int .i64 (loadsF ts (W * H).toNat).2.2])) ∨
       (r = none ∧ (loadsF ts (W * H).toNat).2.2 = 0 ∧ ∃ q, FirstB ts (crushP ts (loadsF ts (W * H).toNat).1 bears) q ∧ e = .returned (.tuple #[brickV q, .int .i64 0])))))
set_option maxRecDepth 100000 in
set_option maxHeartbeats 4000000 in
theorem crushed_any (n₀ : Nat) (W H : Int) (tv bearsv : Value) (ts : List (List Int × List Int)) (bears : List Int) (w : World) (ht : TiersAt n₀ w tv ts) (hb : IntsAt w bearsv bears) :
    Calls Try.prog 42 #[.agg #[.int .i64 W, .int .i64 H, tv], bearsv] w (CrushTo w W H ts bears) := by
  obtain ⟨a, cap, rfl, hl, hn, hp⟩ := ht.placed
  obtain ⟨ab, cb, rfl, hlb, _⟩ := hb.placed
  have A1 := ((Blk.new w #[.int .i64 W, .int .i64 H, .slice a ts.length cap] 69).alloc (.cells #[.slice ab bears.length cb] 46)).alloc (.cells #[.int .i64 0, .int .i64 0] 74)
  have A2 := (Blk.newI (w.alloc (.cells #[.int .i64 W, .int .i64 H, .slice a ts.length cap] 69)) (w.heap.size + 1) #[.slice ab bears.length cb] 46 (by simp)).alloc (.cells #[.int .i64 0, .int .i64 0] 74)
  have A3 := Blk.newI ((w.alloc (.cells #[.int .i64 W, .int .i64 H, .slice a ts.length cap] 69)).alloc (.cells #[.slice ab bears.length cb] 46)) (w.heap.size + 1 + 1) #[.int .i64 0, .int .i64 0] 74 (by simp)
  have BB := (((Below.refl _ w).alloc (Nat.le_refl _) (.cells #[.int .i64 W, .int .i64 H, .slice a ts.length cap] 69)).alloc (by simp) (.cells #[.slice ab bears.length cb] 46)).alloc (by simp; omega) (.cells #[.int .i64 0, .int .i64 0] 74)
  have s0 := A1.cell (i := 0) (v := .int .i64 W) rfl
  have s1 := A1.cell (i := 1) (v := .int .i64 H) rfl
  have s2 := A1.cell (i := 2) (v := .slice a ts.length cap) rfl
  have HC := Lib.hid (checkStack_any n₀ W H _ ts _ (ht.past BB))
  obtain ⟨er, her⟩ : ∃ er, checkF W H ts = er := ⟨_, rfl⟩
  rw [her] at HC
  have HE := Lib.hid her
  have HT := Lib.hid ht
  have HI := Lib.hid hb
  have HA1 := Lib.hid A1
  have HA2 := Lib.hid A2
  have HA3 := Lib.hid A3
  have HBB := Lib.hid BB
  clear A1 A2 A3 BB ht hb hp her
  go_enter Try.func42, Try.ntmps42
  go_wp2_with fail
  refine HC.out.mono ?_
  rintro e w2 ⟨rfl, hb2⟩
  have S2 := HA1.out.past hb2
  have B2 := HA2.out.past hb2
  have R2 := HA3.out.past hb2
  have HB2 := Lib.hid (HBB.out.trans (hb2.mono HBB.out.size))
  clear hb2 HA1 HA2 HA3 HBB HC s0 s1 s2
  have HS2 := Lib.hid S2
  have HV2 := Lib.hid B2
  have HR2 := Lib.hid R2
  have s0 := S2.cell (i := 0) (v := .int .i64 W) rfl
  have s1 := S2.cell (i := 1) (v := .int .i64 H) rfl
  have s2 := S2.cell (i := 2) (v := .slice a ts.length cap) rfl
  have v0 := B2.cell (i := 0) (v := .slice ab bears.length cb) rfl
  have r0 := R2.cell (i := 0) (v := .int .i64 0) rfl
  have r1 := R2.cell (i := 1) (v := .int .i64 0) rfl
  have f0 := R2.fr (i := 0)
  have f1 := R2.fr (i := 1)
  clear S2 B2 R2
  by_cases he : er = 0
  · subst he
    obtain ⟨k1, k2, k3, k4, k5⟩ := check_parts HE.out
    by_cases hlen : bears.length = ts.length
    · have hli : (bears.length : Int) = (ts.length : Int) := by omega
      have HW := Lib.hid (areWithin_any 0 1000000 _ bears w2 (HI.out.below HB2.out))
      obtain ⟨q, hq⟩ : ∃ q, (bears.all fun n => inB n 0 1000000) = q := ⟨_, rfl⟩
      rw [hq] at HW
      have HQ := Lib.hid hq
      have HLI := Lib.hid hlen
      have hnl : ((bears.length : Int) != (ts.length : Int)) = false := by simp [hli]
      clear hq hli hlen k1 k2 k3 k4 k5
      go_wp2_with fail
      refine HW.out.mono ?_
      rintro e w3 ⟨rfl, rfl⟩
      cases q
      · go_wp2
        obtain ⟨d0, d1, d2, hg, _⟩ := blk_after HR2.out (.int .i64 0) (.int .i64 0) rfl rfl
        refine bodyPost_ret (v := .tuple #[.agg #[.int .i64 0, .int .i64 0], .int .i64 3]) ?_ rfl ?_
        · simp [results, Try.results42, go_sem, d0, d1, d2]
        · exact ⟨HB2.out.grown hg HB2.out.size (by intro k hk; cases hk; omega), .inr (.inr (.inl ⟨HE.out, HLI.out, HQ.out, rfl⟩))⟩
      · clear r0 r1 f0 f1 v0
        obtain ⟨b7, hb7⟩ : ∃ x, w3.heap.size = x := ⟨_, rfl⟩
        have V4 := Blk.newI w3 b7 #[.int .i64 W, .int .i64 H, .slice a ts.length cap] 143 hb7
        have hs3 : w.heap.size + 3 ≤ b7 := by have := HR2.out.lt; omega
        have hB4 := (Below.refl _ w3).alloc (Nat.le_refl _) (.cells #[.int .i64 W, .int .i64 H, .slice a ts.length cap] 143)
        go_wp2_with fail
        obtain ⟨w4, hw4⟩ : ∃ x, w3.alloc (.cells #[.int .i64 W, .int .i64 H, .slice a ts.length cap] 143) = x := ⟨_, rfl⟩
        rw [hw4] at V4 hB4 ⊢
        have HV4 := Lib.hid V4
        have HB4 := Lib.hid (HB2.out.trans (hB4.mono HB2.out.size))
        have HX4 := Lib.hid (HV2.out.past hB4)
        have HR4 := Lib.hid (HR2.out.past hB4)
        have HT4 := Lib.hid (HT.out.past HB4.out)
        clear hw4 V4 hB4 HV2 HR2 HS2 HW s0 s1 s2 hb7
        obtain ⟨k1, k2, k3, k4, k5⟩ := check_parts HE.out
        have HL := Lib.hid (loads_any n₀ W H _ ts w4 (W * H).toNat k1 k2 rfl k4 HT4.out (by omega) k5)
        clear k1 k2 k3 k4 k5
        refine HL.out.mono ?_
        rintro e w5 ⟨r, rv, fv, er, hf, rfl, hb5, hrn, hr0⟩
        have HB5 := Lib.hid (HB4.out.trans (hb5.mono HB4.out.size))
        have HV5 := Lib.hid (HV4.out.past hb5)
        have HX5 := Lib.hid (HX4.out.past hb5)
        have R5 := HR4.out.past hb5
        have HF := Lib.hid hf
        have HT5 := Lib.hid (HT4.out.past hb5)
        have HI5 := Lib.hid (HI.out.below HB5.out)
        have hrv : ∃ p n c, rv = .slice p n c := by
          by_cases h1 : r = none
          · by_cases h2 : er = 0
            · obtain ⟨gb, g, h3, _⟩ := (hr0 h1).2.2 h2
              exact ⟨_, _, _, h3⟩
            · exact ⟨_, _, _, ((hr0 h1).2.1 h2).1⟩
          · exact ⟨_, _, _, (hrn h1).1⟩
        obtain ⟨p5, n5, c5, rfl⟩ := hrv
        have hfv : ∃ p n c, fv = .slice p n c := by
          by_cases h1 : r = none
          · by_cases h2 : er = 0
            · obtain ⟨gb, g, _, _, _, h3, _⟩ := (hr0 h1).2.2 h2
              exact ⟨_, _, _, h3⟩
            · exact ⟨_, _, _, ((hr0 h1).2.1 h2).2⟩
          · exact ⟨_, _, _, (hrn h1).2.1⟩
        obtain ⟨p6, n6, c6, rfl⟩ := hfv
        have HRN := Lib.hid hrn
        have HR0 := Lib.hid hr0
        obtain ⟨b8, hb8⟩ : ∃ x, w5.heap.size = x := ⟨_, rfl⟩
        have L6 := Blk.newI w5 b8 #[.slice p5 n5 c5] 77 hb8
        have hB6 := (Below.refl _ w5).alloc (Nat.le_refl _) (.cells #[.slice p5 n5 c5] 77)
        have R6 := R5.past hB6
        have r0 := R6.cell (i := 0) (v := .int .i64 0) rfl
        have r1 := R6.cell (i := 1) (v := .int .i64 0) rfl
        have f0 := R6.fr (i := 0)
        have f1 := R6.fr (i := 1)
        have V6 := HV5.out.past hB6
        have v0 := V6.cell (i := 0) (v := .int .i64 W) rfl
        have v1 := V6.cell (i := 1) (v := .int .i64 H) rfl
        have v2 := V6.cell (i := 2) (v := .slice a ts.length cap) rfl
        have HL6 := Lib.hid L6
        have HV6 := Lib.hid V6
        have HR6 := Lib.hid R6
        have HX6 := Lib.hid (HX5.out.past hB6)
        have HT6 := Lib.hid (HT5.out.past hB6)
        have HI6 := Lib.hid (HI5.out.below hB6)
        have HBW := Lib.hid hB6
        have HB6 := Lib.hid (HB5.out.trans (hB6.mono HB5.out.size))
        have HBL := Lib.hid hb5
        clear hrn hr0 hf hb5 L6 V6 R6 R5 HT4 HX4 HR4 HV4 HB4 HB5 HV5 HX5 HT5 HI5 HL
        by_cases he : er = 0
        · subst he
          have hrr : r = none := by
            refine Classical.byContradiction fun h => ?_
            have h1 := (HRN.out h).2.2
            cases h1
          subst hrr
          obtain ⟨e1, _, e3⟩ := HR0.out rfl
          obtain ⟨gb, g, g1, g2, g3, g4, g5, g6⟩ := e3 rfl
          obtain ⟨rfl, rfl, rfl⟩ : p5 = some ⟨gb, 0, none⟩ ∧ n5 = ts.length ∧ c5 = ts.length := by simpa only [Value.slice.injEq] using g1
          obtain ⟨⟨rows, fl, el⟩, hlo⟩ : ∃ q, loadsF ts (W * H).toNat = q := ⟨_, rfl⟩
          rw [hlo] at e1 g3
          dsimp only at e1 g3
          obtain rfl : el = 0 := e1.symm
          have HNN := Lib.hid (crushN_of HE.out HF.out hlo HLI.out HQ.out)
          have HLO := Lib.hid hlo
          have HCB : Hid (CrushB n₀ b8 (w.heap.size + 1) b7 gb w4.heap.size W H (.slice a ts.length cap) (.slice ab bears.length cb) ts rows bears (w5.alloc (.cells #[.slice (some ⟨gb, 0, none⟩) ts.length ts.length] 77))) := Lib.hid ⟨HV6.out, HL6.out, HX6.out, HI6.out, g3.past HBW.out, HT6.out⟩
          have hts : ts.length ≤ 1000000 := by have := (check_parts HE.out).2.2.1; omega
          have HFC := Lib.hid (firstC_any n₀ b8 (w.heap.size + 1) b7 gb w4.heap.size W H _ _ ts rows bears _ _ HNN.out hts HCB.out)
          clear g1 g2 g3 g4 g5 g6 e1 e3 hlo HCB HNN
          go_wp2_with fail
          refine HFC.out.mono ?_
          rintro e w7 ⟨q, hq, rfl, hb7⟩
          have HQ7 := Lib.hid hq
          have R7 := HR6.out.past hb7
          have HB7 := Lib.hid (HB6.out.trans (hb7.mono HB6.out.size))
          have HR7 := Lib.hid R7
          clear r0 r1 f0 f1 hq hb7
          have r0 := R7.cell (i := 0) (v := .int .i64 0) rfl
          have r1 := R7.cell (i := 1) (v := .int .i64 0) rfl
          have f0 := R7.fr (i := 0)
          have f1 := R7.fr (i := 1)
          clear R7
          obtain ⟨x, y, hxy⟩ : ∃ x y : Int, brickV q = .agg #[.int .i64 x, .int .i64 y] := by
            cases q with
            | none => exact ⟨_, _, rfl⟩
            | some q => exact ⟨_, _, rfl⟩
          have HXY := Lib.hid hxy
          rw [hxy]
          clear hxy
          go_wp2
          obtain ⟨d0, d1, d2, hg, _⟩ := blk_after HR7.out (.int .i64 x) (.int .i64 y) rfl rfl
          refine bodyPost_ret (v := .tuple #[.agg #[.int .i64 x, .int .i64 y], .int .i64 0]) ?_ rfl ?_
          · simp [results, Try.results42, go_sem, d0, d1, d2]
          · exact ⟨HB7.out.grown hg HB7.out.size (by intro k hk; cases hk; omega), .inr (.inr (.inr ⟨HE.out, HLI.out, HQ.out, none, HF.out, .inr (.inr ⟨rfl, by rw [HLO.out], q, by rw [HLO.out]; exact HQ7.out, by rw [HXY.out]⟩)⟩))⟩
        · have hne : (er != 0) = true := by simpa using he
          have HEN := Lib.hid he
          clear he
          go_wp2
          obtain ⟨d0, d1, d2, hg, _⟩ := blk_after HR6.out (.int .i64 0) (.int .i64 0) rfl rfl
          refine bodyPost_ret (v := .tuple #[.agg #[.int .i64 0, .int .i64 0], .int .i64 er]) ?_ rfl ?_
          · simp [results, Try.results42, go_sem, d0, d1, d2]
          · refine ⟨HB6.out.grown hg HB6.out.size (by intro k hk; cases hk; omega), .inr (.inr (.inr ⟨HE.out, HLI.out, HQ.out, r, HF.out, ?_⟩))⟩
            by_cases h1 : r = none
            · have h2 := (HR0.out h1).1
              exact .inr (.inl ⟨h1, by rw [← h2]; exact HEN.out, by rw [← h2]⟩)
            · exact .inl ⟨h1, by rw [(HRN.out h1).2.2]⟩
    · have hnl : ((bears.length : Int) != (ts.length : Int)) = true := by simp; omega
      have HLI := Lib.hid hlen
      clear hlen k1 k2 k3 k4 k5
      go_wp2
      obtain ⟨d0, d1, d2, hg, _⟩ := blk_after HR2.out (.int .i64 0) (.int .i64 0) rfl rfl
      refine bodyPost_ret (v := .tuple #[.agg #[.int .i64 0, .int .i64 0], .int .i64 4]) ?_ rfl ?_
      · simp [results, Try.results42, go_sem, d0, d1, d2]
      · exact ⟨HB2.out.grown hg HB2.out.size (by intro k hk; cases hk; omega), .inr (.inl ⟨HE.out, HLI.out, rfl⟩)⟩
  · have hne : (er != 0) = true := by simpa using he
    go_wp2
    obtain ⟨d0, d1, d2, hg, _⟩ := blk_after HR2.out (.int .i64 0) (.int .i64 0) rfl rfl
    refine bodyPost_ret (v := .tuple #[.agg #[.int .i64 0, .int .i64 0], .int .i64 er]) ?_ rfl ?_
    · simp [results, Try.results42, go_sem, d0, d1, d2]
    · exact ⟨HB2.out.grown hg HB2.out.size (by intro k hk; cases hk; omega), .inl ⟨by rw [HE.out]; exact he, by rw [HE.out]⟩⟩
end Go.Proofs.Ytopnlcjbklmicaa
