/-
  Contracts of the program's own functions (and their plain mathematics), on the way to the law: each for all arguments that its hypotheses let.
-/
import Derived.Test.YtedpafdfecofnaaGreatDoorF31
import Derived.WalkKit
import Derived.WalkSpells
import Derived.WalkLawsBesides
import Derived.Deep.QuietTactic
import Derived.BigQuiet
import Derived.Lib.Hide
import Derived.WalkSmall
import Derived.Maps.OwnSet
import Derived.Maps.RangeWalk
import Derived.Deep.RegionWith
import Derived.Deep.RegionHeld3
import Derived.Deep.DrawnRows
import Derived.Deep.DeepCutAuto
import Derived.OneCell
import Derived.KernelRfl
import Derived.Laws.StructEq
import Derived.StillTailTactics
import Derived.Laws.Externs
import Derived.RangeFuncBox
import Derived.Deep.LoopGhost
import Derived.Deep.RegionLaw
import Derived.Test.YtedpafdfecofnaaGreatDoorPlain
set_option linter.unusedSimpArgs false
set_option linter.unusedVariables false

/-! ## S94 -/
namespace Go.Proofs.YtedpafdfecofnaaGreatDoor
open Go.RowKit Go.Maps Go.Shelf Go.Sort

/-- A part that is too large. -/
def badT (t : Int × Int) : Bool := decide (100000 < (t.1.natAbs : Int)) || decide (1000 < t.2)
theorem bad_part {t : Int × Int} (h : 0 ≤ t.2) : badT t = !isPartF t := by
  rw [Bool.eq_iff_iff]; simp [badT, isPartF, inB]; omega
theorem any_bad (l : List (Int × Int)) (h : ∀ t ∈ l, 0 ≤ t.2) : l.any badT = !l.all isPartF := by
  induction l with
  | nil => rfl
  | cons a l ih =>
    rw [List.any_cons, List.all_cons, ih (fun t ht => h t (List.mem_cons_of_mem _ ht)), bad_part (h a (List.mem_cons_self ..))]
    cases isPartF a <;> simp
theorem any_take {l : List (Int × Int)} {j : Nat} (hj : j < l.length) : (l.take (j + 1)).any badT = ((l.take j).any badT || badT (l[j]?.getD (0, 0))) := by
  rw [List.take_add_one, List.any_append]; simp [hj]
set_option maxRecDepth 1000000 in
set_option maxHeartbeats 40000000 in
theorem pseg38 : PSeg38 := by
  intro Q w W1 W den s ts xs v bX u0 u1 u2 u3 u6 u7 u8 u9 u10 u11 u12 u13 u15 u16 u17 u18 u19 u20 u21 u22 u23 u24 u25 u26 u27 u28 u29 u30 u31 u32 u33 u34 u35 u36 u37 u38 u39 u40 u41 u42 u43 u44 u45 u46 u47 u48 u49 u50 u51 u52 u53 u54 u55 u56 u57 u58 u59 u60 u61 u62 u63 u64 u65 u66 u67 u68 u69 u70 u71 u72 u73 u74 u75 u76 u77 u78 u79 u80 u81 u82 u83 u84 u85 u86 u87 u88 u89 u90 u91 u92 u93 u94 u95 u96 u97 u98 u99 u100 u101 u102 u103 u104 u105 u106 u107 u108 u109 u110 u111 u112 u113 u114 u115 u116 u117 u118 u119 u120 u121 u122 u123 u124 u125 u126 u127 u128 u129 u130 u131 u132 u133 u134 u135 u136 u137 u138 u139 u140 u141 u142 u143 u144 u145 u146 u147 u148 u149 u150 u151 u152 u153 u154 u155 u156 u157 u158 u159 u160 u161 u162 u163 u164 u165 u166 u167 u168 u169 u170 u171 u172 u173 u174 u175 u176 u177 u178 u179 u180 u181 u182 u183 u184 u185 u186 u187 u188 u189 u190 u191 u192 u193 u194 u195 u196 u197 u198 u199 u200 u201 u202 u203 u204 hd1 hd2 HD0 HB0 R1 HS1 hts hxs HN HIT HSG hs0 HCO HRO HX HOX HLOW HBB HQ
  conv => arg 2; whnf
  obtain ⟨q, hq⟩ : ∃ q, den.tdiv s = q := ⟨_, rfl⟩
  rw [hq] at HX
  have hsg : Hid (sgnDv den xs = s) := Lib.hid (by have := HSG.out; unfold sgnDv at this ⊢; rw [sel_dv HN.out HIT.out]; exact this)
  obtain ⟨L, hL⟩ : ∃ L, divS s xs = L := ⟨_, rfl⟩
  rw [hL] at HOX
  have hln : L.length = xs.length := by rw [← hL]; simp [divS]
  have HF : Hid (finF den xs = (if 4 < L.length then (0, [], 8) else if 100000 < q ∨ L.all isPartF = false then (0, [], 10) else (q, L, 0))) := Lib.hid (by simp only [finF]; rw [hsg.out, hq, hL, hln])
  have HLB : Hid (∀ t ∈ L, (-9000000000000000000 ≤ t.1 ∧ t.1 ≤ 9000000000000000000) ∧ 0 ≤ t.2 ∧ t.2 ≤ 1000000000000) := Lib.hid (by
    intro t ht
    rw [← hL] at ht
    obtain ⟨u, hu, rfl⟩ := List.mem_map.1 ht
    obtain ⟨x, r⟩ := u
    obtain ⟨h1, h2⟩ := (HIT.out.2 x r).1 hu
    obtain ⟨t, ht, e⟩ := coefOf_ne (l := ts) (r := r) (by omega)
    have h3 := coefOf_in HN.out ht
    rw [e, h1] at h3
    have h4 := HCO.out t ht
    have h5 := HRO.out t ht
    rw [← h3] at h4
    rw [e] at h5
    exact ⟨tdiv_abs x s hs0 _ h4.1 h4.2, by dsimp only; omega, h5.2⟩)
  have hl1 : L.length ≤ 1000 := by omega
  obtain ⟨a, cap, rfl, hsh⟩ := HOX.out.shape
  have HSH := Lib.hid hsh
  have HLO : Hid (∀ k, (Value.slice a L.length cap).ownBlock = some k → bX < k) := Lib.hid (fun k hk => by have := (HOX.out.lt k hk).1; omega)
  have HT0 : Hid (Two W w.heap.size (.int .i64 0) (.slice none 0 0) 24) := Lib.hid (R1.out.below HBB.out (by rw [HS1.out]; omega))
  have HBW : Hid (Below w.heap.size w W) := Lib.hid (HB0.out.trans (HBB.out.mono (by rw [HS1.out]; omega)))
  have HFI : ∀ e w', NumTo (finF den xs) w e w' → Q e w' := fun e w' h => HQ.out e w' ⟨xs, HIT.out, by omega, h⟩
  have HFIN := Lib.hid HFI
  clear HFI hsh HN HIT HSG HCO HRO HQ hsg hL hq hln R1 HB0
  have HLOW' := HLOW.out
  have hsz : w.heap.size < bX := by have := HLOW.out; have := HS1.out; omega
  have c0 := HT0.out.c0
  have c1 := HT0.out.c1
  have f0 := HT0.out.fr (i := 0)
  have f1 := HT0.out.fr (i := 1)
  have x0 := HX.out.c0
  have x1 := HX.out.c1
  by_cases h4 : 4 < L.length
  · go_wp2
    obtain ⟨d0, d1, d2, hg⟩ := two_after HT0.out (.int .i64 0) (.slice none 0 0) rfl
    refine bodyPost_ret (v := .tuple #[.agg #[.int .i64 0, .slice none 0 0], .int .i64 8]) ?_ rfl ?_
    · simp [results, Tryz.results56, go_sem, d0, d1, d2]
    · refine HFIN.out _ _ ?_
      rw [HF.out, if_pos h4]
      exact ⟨_, rfl, termsAt_nil _, HBW.out.grown hg HBW.out.size (by intro k hk; cases hk; exact Nat.le_refl _), fun k hk => by cases hk⟩
  · go_wp2
    go_loopw [17, 18] (fun f i wq => ∃ (j : Nat) (fb : Bool), j ≤ L.length ∧ i = .int .i64 j ∧ f = .bool fb ∧ Hid (fb = (decide (100000 < q) || (L.take j).any badT)) ∧ ∃ n, wq = W.drewN n) (fun _ i _ => L.length - (intOf i).toNat)
    case atStart => exact ⟨0, _, Nat.zero_le _, rfl, rfl, Lib.hid (by simp), 0, rfl⟩
    case round =>
      obtain ⟨j, fb, hj, rfl, rfl, HFB, n, rfl⟩ := hrel
      by_cases hlj : j < L.length
      rotate_left
      · have hjt : j = L.length := by omega
        have HFE : Hid (fb = (decide (100000 < q) || !L.all isPartF)) := Lib.hid (by rw [HFB.out, hjt, List.take_length, any_bad L (fun t ht => (HLB.out t ht).2.1)])
        clear hjt HFB x0 x1 c0 c1 f0 f1
        obtain ⟨w6, hw6⟩ : ∃ w6, W.drewN n = w6 := ⟨_, rfl⟩
        have HB6 : Hid (Below W.heap.size W w6) := Lib.hid (by rw [← hw6]; exact below_drewN (Below.refl _ _) _)
        have HTY : Hid (Two w6 w.heap.size (.int .i64 0) (.slice none 0 0) 24) := Lib.hid (HT0.out.below HB6.out (HT0.out.lt))
        have HXY : Hid (Two w6 bX (.int .i64 q) (.slice a L.length cap) 24) := Lib.hid (HX.out.below HB6.out HX.out.lt)
        have HOY : Hid (OwnT w6 (bX + 1) (.slice a L.length cap) L) := Lib.hid (HOX.out.below HB6.out)
        have HBY : Hid (Below w.heap.size w w6) := Lib.hid (HBW.out.trans (HB6.out.mono HBW.out.size))
        rw [hw6]
        clear hw6
        have c0 := HTY.out.c0
        have c1 := HTY.out.c1
        have f0 := HTY.out.fr (i := 0)
        have f1 := HTY.out.fr (i := 1)
        have x0 := HXY.out.c0
        have x1 := HXY.out.c1
        cases fb
        · have HG : Hid (finF den xs = (q, L, 0)) := Lib.hid (by
            have h := HFE.out
            rw [HF.out, if_neg h4, if_neg]
            intro hh
            rcases hh with hh | hh
            · simp [hh] at h
            · simp [hh] at h)
          go_wp2
          obtain ⟨d0, d1, d2, hg⟩ := two_after HTY.out (.int .i64 q) (.slice a L.length cap) rfl
          refine bodyPost_ret (v := .tuple #[.agg #[.int .i64 q, .slice a L.length cap], .int .i64 0]) ?_ rfl ?_
          · simp [results, Tryz.results56, go_sem, d0, d1, d2]
          · refine HFIN.out _ _ ?_
            rw [HG.out]
            refine ⟨_, rfl, (HOY.out.at (by omega)).kept hg ?_, HBY.out.grown hg HBY.out.size (by intro k hk; cases hk; exact Nat.le_refl _), fun k hk => by have := HLO.out k hk; omega⟩
            cases hv : (Value.slice a L.length cap).ownBlock with
            | none => exact .inl rfl
            | some k => right; have := HLO.out k hv; simp; omega
        · have HG : Hid (finF den xs = (0, [], 10)) := Lib.hid (by
            have h := HFE.out
            rw [HF.out, if_neg h4, if_pos]
            cases ha : L.all isPartF
            · exact .inr rfl
            · simp [ha] at h; exact .inl h)
          go_wp2
          obtain ⟨d0, d1, d2, hg⟩ := two_after HTY.out (.int .i64 0) (.slice none 0 0) rfl
          refine bodyPost_ret (v := .tuple #[.agg #[.int .i64 0, .slice none 0 0], .int .i64 10]) ?_ rfl ?_
          · simp [results, Tryz.results56, go_sem, d0, d1, d2]
          · refine HFIN.out _ _ ?_
            rw [HG.out]
            exact ⟨_, rfl, termsAt_nil _, HBY.out.grown hg HBY.out.size (by intro k hk; cases hk; exact Nat.le_refl _), fun k hk => by cases hk⟩
      · obtain ⟨g, rfl, hgb⟩ := HSH.out j hlj
        have hcell1 : W.cell? ⟨g, j * 2, none⟩ = some (.int .i64 (L[j]?.getD (0, 0)).1) := (World.ownsRow.cellAt HOX.out (j * 2) (by omega)).trans (flatT_get L j hlj).1
        have hcell2 : W.cell? ⟨g, j * 2 + 1, none⟩ = some (.int .i64 (L[j]?.getD (0, 0)).2) := (World.ownsRow.cellAt HOX.out (j * 2 + 1) (by omega)).trans (flatT_get L j hlj).2
        obtain ⟨⟨hb1, hb2⟩, hb3, hb4⟩ := HLB.out (L[j]?.getD (0, 0)) (by simp [hlj])
        have HAT := Lib.hid (any_take hlj)
        obtain ⟨u, hu⟩ : ∃ u, L[j]?.getD (0, 0) = u := ⟨_, rfl⟩
        rw [hu] at hcell1 hcell2 hb1 hb2 hb3 hb4 HAT
        obtain ⟨x, y⟩ := u
        dsimp only at hcell1 hcell2 hb1 hb2 hb3 hb4
        have HFN : Hid ((decide (100000 < q) || (L.take (j + 1)).any badT) = (fb || (decide (100000 < (x.natAbs : Int)) || decide (1000 < y)))) := Lib.hid (by rw [HAT.out, HFB.out, Bool.or_assoc]; rfl)
        clear hu HAT HFB
        cases fb
        · go_wp2_with fail
          refine (abs_any x _ (by omega) (by omega)).mono ?_
          rintro e w6 ⟨rfl, rfl⟩
          go_wp2
          all_goals
            try go_roundw
          all_goals first
            | (refine ⟨⟨j + 1, _, by omega, by go_num, rfl, Lib.hid ?_, _, rfl⟩, by simp only [intOf]; omega⟩)
            | (refine ⟨j + 1, _, by omega, by go_num, rfl, Lib.hid ?_, _, rfl⟩)
            | (simp only [intOf]; omega)
          all_goals
            rw [HFN.out]
            first
              | (simp; done)
              | (have ha : 100000 < (x.natAbs : Int) := by omega
                 simp [ha]; done)
              | (have ha : ¬ 100000 < (x.natAbs : Int) := by omega
                 simp [ha]; done)
        · go_wp2
          all_goals
            try go_roundw
          all_goals first
            | (refine ⟨⟨j + 1, _, by omega, by go_num, rfl, Lib.hid ?_, _, rfl⟩, by simp only [intOf]; omega⟩)
            | (refine ⟨j + 1, _, by omega, by go_num, rfl, Lib.hid ?_, _, rfl⟩)
            | (simp only [intOf]; omega)
          all_goals
            rw [HFN.out]
            first
              | (simp; done)
              | (have ha : 100000 < (x.natAbs : Int) := by omega
                 simp [ha]; done)
              | (have ha : ¬ 100000 < (x.natAbs : Int) := by omega
                 simp [ha]; done)
end Go.Proofs.YtedpafdfecofnaaGreatDoor

/-! ## S95 -/
namespace Go.Proofs.YtedpafdfecofnaaGreatDoor
open Go.RowKit Go.Maps Go.Shelf Go.Sort
/-- The reference's Parts(56), for any value of a list of terms. -/
theorem parts_any (den M : Int) (v : Value) (l : List (Int × Int)) (w : World) (ht : TermsAt w v l) (hl : l.length ≤ 1000) (hM : 0 ≤ M) (hM2 : M * l.length ≤ 9000000000000000000) (hP : PB l M) (hd1 : -9000000000000000000 ≤ den) (hd2 : den ≤ 9000000000000000000) (hd0 : den ≠ 0) :
    Calls Tryz.prog 56 #[.int .i64 den, v] w (PartsTo l den w) := by
  obtain ⟨a, cap, rfl, hp⟩ := ht.placed
  exact parts_walk den M a cap l w hp hl hM hM2 hP hd1 hd2 hd0 (pseg28 pseg38)
end Go.Proofs.YtedpafdfecofnaaGreatDoor

/-! ## S96 -/
namespace Go.Proofs.YtedpafdfecofnaaGreatDoor
open Go.RowKit Go.Maps Go.Shelf Go.Sort

/-- What the reference's Make gives. -/
def MakeR (den : Int) (l : List (Int × Int)) (w : World) (e : Ending) (w' : World) : Prop :=
  (16 < l.length ∧ NumTo (0, [], 5) w e w') ∨ (l.length ≤ 16 ∧ (inB den 1 100000 = false ∨ l.all isPartF = false) ∧ NumTo (0, [], 2) w e w') ∨ (l.length ≤ 16 ∧ inB den 1 100000 = true ∧ l.all isPartF = true ∧ PartsTo l den w e w')
theorem pb_part (l : List (Int × Int)) (h : l.all isPartF = true) : PB l 100000000 := by
  intro t ht
  have hp := List.all_eq_true.1 h t ht
  simp [isPartF, inB] at hp
  refine ⟨by omega, by omega, fun s h1 h2 => ?_⟩
  have hs : s ≤ 1000 := by
    rcases h2 with h2 | h2
    · have := Int.mul_le_mul_of_nonneg_right h1 (show 0 ≤ s by omega)
      omega
    · omega
  have a := Int.mul_le_mul_of_nonneg_right (show t.1 ≤ 100000 by omega) (show 0 ≤ s by omega)
  have b := Int.mul_le_mul_of_nonneg_right (show -100000 ≤ t.1 by omega) (show 0 ≤ s by omega)
  omega
theorem rall_take {l : List (Int × Int)} {j : Nat} (hj : j < l.length) : (l.take (j + 1)).all isPartF = ((l.take j).all isPartF && isPartF (l[j]?.getD (0, 0))) := by
  rw [List.take_add_one, List.all_append]; simp [hj]
set_option maxRecDepth 100000 in
set_option maxHeartbeats 4000000 in
theorem rmake_any (den : Int) (v : Value) (l : List (Int × Int)) (w : World) (ht : TermsAt w v l) :
    Calls Tryz.prog 21 #[.int .i64 den, v] w (MakeR den l w) := by
  have HT := Lib.hid ht
  obtain ⟨a, cap, rfl, px⟩ := ht.placed
  have PX := Lib.hid px
  clear ht px
  obtain ⟨W1, hW1⟩ : ∃ W1, w.alloc (.cells #[.int .i64 0, .slice none 0 0] 24) = W1 := ⟨_, rfl⟩
  have RR : Hid (Two W1 w.heap.size (.int .i64 0) (.slice none 0 0) 24) := Lib.hid (by rw [← hW1]; exact Two.new w _ _ 24)
  have HB : Hid (Below w.heap.size w W1) := Lib.hid (by rw [← hW1]; exact (Below.refl _ w).alloc (Nat.le_refl _) _)
  have c0 := RR.out.c0
  have c1 := RR.out.c1
  have f0 := RR.out.fr (i := 0)
  have f1 := RR.out.fr (i := 1)
  go_enter Tryz.func21, Tryz.ntmps21
  by_cases h16 : 16 < l.length
  · go_wp2
    obtain ⟨d0, d1, d2, hg⟩ := two_after RR.out (.int .i64 0) (.slice none 0 0) rfl
    refine bodyPost_ret (v := .tuple #[.agg #[.int .i64 0, .slice none 0 0], .int .i64 5]) ?_ rfl ?_
    · simp [results, Tryz.results21, go_sem, d0, d1, d2]
    · exact .inl ⟨h16, _, rfl, termsAt_nil _, HB.out.grown hg HB.out.size (by intro k hk; cases hk; exact Nat.le_refl _), fun k hk => by cases hk⟩
  go_wp2_with fail
  refine (in_any den 1 100000 _).mono ?_
  rintro e w2 ⟨rfl, rfl⟩
  try rw [hW1]
  clear hW1
  by_cases hdn : inB den 1 100000 = false
  · rw [hdn]
    go_wp2
    obtain ⟨d0, d1, d2, hg⟩ := two_after RR.out (.int .i64 0) (.slice none 0 0) rfl
    refine bodyPost_ret (v := .tuple #[.agg #[.int .i64 0, .slice none 0 0], .int .i64 2]) ?_ rfl ?_
    · simp [results, Tryz.results21, go_sem, d0, d1, d2]
    · exact .inr (.inl ⟨by omega, .inl hdn, _, rfl, termsAt_nil _, HB.out.grown hg HB.out.size (by intro k hk; cases hk; exact Nat.le_refl _), fun k hk => by cases hk⟩)
  have hdn : inB den 1 100000 = true := by simpa using hdn
  rw [hdn]
  have HDN := Lib.hid hdn
  clear hdn
  go_wp2
  go_loopw [6] (fun i wq => ∃ j : Nat, j ≤ l.length ∧ i = .int .i64 j ∧ Hid ((l.take j).all isPartF = true) ∧ ∃ n, wq = W1.drewN n) (fun i _ => l.length - (intOf i).toNat)
  case atStart => exact ⟨0, Nat.zero_le _, rfl, Lib.hid (by simp), 0, rfl⟩
  case round =>
    obtain ⟨j, hj, rfl, HALL, n, rfl⟩ := hrel
    clear c0 c1 f0 f1
    obtain ⟨w6, hw6⟩ : ∃ w6, W1.drewN n = w6 := ⟨_, rfl⟩
    have HB6 : Hid (Below W1.heap.size W1 w6) := Lib.hid (by rw [← hw6]; exact below_drewN (Below.refl _ _) _)
    have R6 : Hid (Two w6 w.heap.size (.int .i64 0) (.slice none 0 0) 24) := Lib.hid (RR.out.below HB6.out RR.out.lt)
    have HW6 : Hid (Below w.heap.size w w6) := Lib.hid (HB.out.trans (HB6.out.mono HB.out.size))
    have HT6 : Hid (TermsAt w6 (.slice a l.length cap) l) := Lib.hid (HT.out.below HW6.out)
    have HD6 : Hid (∃ n, w6 = W1.drewN n) := Lib.hid ⟨n, hw6.symm⟩
    rw [hw6]
    clear hw6
    have c0 := R6.out.c0
    have c1 := R6.out.c1
    have f0 := R6.out.fr (i := 0)
    have f1 := R6.out.fr (i := 1)
    by_cases hlj : j < l.length
    · obtain ⟨b, off, rfl, hb0, hp1, hp2⟩ := PX.out j hlj
      have hb1 : b < w.heap.size := hb0
      have hc1 := (HW6.out.cell (p := ⟨b, _, none⟩) hb0).trans hp1
      have hc2 := (HW6.out.cell (p := ⟨b, _, none⟩) hb0).trans hp2
      have HAT := Lib.hid (rall_take hlj)
      obtain ⟨u, hu⟩ : ∃ u, l[j]?.getD (0, 0) = u := ⟨_, rfl⟩
      rw [hu] at hc1 hc2 HAT
      have HEL := Lib.hid hu
      clear hu hp1 hp2
      obtain ⟨x, y⟩ := u
      dsimp only at hc1 hc2
      have HPX : Hid (isPartF (x, y) = (inB x (-100000) 100000 && inB y 0 1000)) := Lib.hid rfl
      have HNO : Hid (isPartF (x, y) = false → l.all isPartF = false) := Lib.hid (fun h => by
        cases ha : l.all isPartF
        · rfl
        · have := List.all_eq_true.1 ha (x, y) (by rw [← HEL.out]; simp [hlj])
          rw [h] at this; cases this)
      go_wp2_with fail
      refine (in_any x (-100000) 100000 _).mono ?_
      rintro e w7 ⟨rfl, rfl⟩
      cases hx : inB x (-100000) 100000
      · have HNA : Hid (l.all isPartF = false) := Lib.hid (HNO.out (by rw [HPX.out, hx]; rfl))
        clear hx
        go_wp2
        obtain ⟨d0, d1, d2, hg⟩ := two_after R6.out (.int .i64 0) (.slice none 0 0) rfl
        refine bodyPost_ret (v := .tuple #[.agg #[.int .i64 0, .slice none 0 0], .int .i64 2]) ?_ rfl ?_
        · simp [results, Tryz.results21, go_sem, d0, d1, d2]
        · exact .inr (.inl ⟨by omega, .inr HNA.out, _, rfl, termsAt_nil _, HW6.out.grown hg HW6.out.size (by intro k hk; cases hk; exact Nat.le_refl _), fun k hk => by cases hk⟩)
      · have HX1 := Lib.hid hx
        clear hx
        go_wp2_with fail
        refine (in_any y 0 1000 _).mono ?_
        rintro e w7 ⟨rfl, rfl⟩
        cases hy : inB y 0 1000
        · have HNA : Hid (l.all isPartF = false) := Lib.hid (HNO.out (by rw [HPX.out, hy, HX1.out]; rfl))
          clear hy
          go_wp2
          obtain ⟨d0, d1, d2, hg⟩ := two_after R6.out (.int .i64 0) (.slice none 0 0) rfl
          refine bodyPost_ret (v := .tuple #[.agg #[.int .i64 0, .slice none 0 0], .int .i64 2]) ?_ rfl ?_
          · simp [results, Tryz.results21, go_sem, d0, d1, d2]
          · exact .inr (.inl ⟨by omega, .inr HNA.out, _, rfl, termsAt_nil _, HW6.out.grown hg HW6.out.size (by intro k hk; cases hk; exact Nat.le_refl _), fun k hk => by cases hk⟩)
        · have HYS : Hid (isPartF (x, y) = true) := Lib.hid (by rw [HPX.out, hy, HX1.out]; rfl)
          clear hy
          go_wp2
          go_roundw
          case rel => exact ⟨j + 1, by omega, by go_num, Lib.hid (by rw [HAT.out, HALL.out, HYS.out]; rfl), HD6.out⟩
          case measure => simp only [intOf]; omega
    · have hjt : j = l.length := by omega
      have HAL : Hid (l.all isPartF = true) := Lib.hid (by have := HALL.out; rwa [hjt, List.take_length] at this)
      have hden := HDN.out
      simp [inB] at hden
      go_wp2_with fail
      refine (parts_any den 100000000 _ l _ HT6.out (by omega) (by omega) (by omega) (pb_part l HAL.out) (by omega) (by omega) (by omega)).mono ?_
      rintro e w7 ⟨us, hsp, lf, hit, hlf, v, rfl, hta, hbw, hfr⟩
      have R7 : Hid (Two w7 w.heap.size (.int .i64 0) (.slice none 0 0) 24) := Lib.hid (R6.out.below hbw R6.out.lt)
      have HW7 : Hid (Below w.heap.size w w7) := Lib.hid (HW6.out.trans (hbw.mono HW6.out.size))
      have HFR : Hid (∀ k, v.ownBlock = some k → w.heap.size < k) := Lib.hid (fun k hk => by have := hfr k hk; have := R6.out.lt; omega)
      have HTA := Lib.hid hta
      have HIT := Lib.hid hit
      have HSP := Lib.hid hsp
      obtain ⟨r, hr⟩ : ∃ r, finF den lf = r := ⟨_, rfl⟩
      rw [hr] at HTA
      rw [hr]
      have HR := Lib.hid hr
      obtain ⟨a7, cap7, rfl, _⟩ := HTA.out.placed
      clear hta hbw hfr hit hsp hr c0 c1 f0 f1
      have c0 := R7.out.c0
      have c1 := R7.out.c1
      have f0 := R7.out.fr (i := 0)
      have f1 := R7.out.fr (i := 1)
      go_wp2
      obtain ⟨d0, d1, d2, hg⟩ := two_after R7.out (.int .i64 r.1) (.slice a7 r.2.1.length cap7) rfl
      refine bodyPost_ret (v := .tuple #[.agg #[.int .i64 r.1, .slice a7 r.2.1.length cap7], .int .i64 r.2.2]) ?_ rfl ?_
      · simp [results, Tryz.results21, go_sem, d0, d1, d2]
      · refine .inr (.inr ⟨by omega, HDN.out, HAL.out, us, HSP.out, lf, HIT.out, hlf, ?_⟩)
        rw [HR.out]
        refine ⟨_, rfl, HTA.out.kept hg ?_, HW7.out.grown hg HW7.out.size (by intro k hk; cases hk; exact Nat.le_refl _), fun k hk => by have := HFR.out k hk; omega⟩
        cases hv : (Value.slice a7 r.2.1.length cap7).ownBlock with
        | none => exact .inl rfl
        | some k => right; have := HFR.out k hv; simp; omega
end Go.Proofs.YtedpafdfecofnaaGreatDoor

/-! ## S97 -/
namespace Go.Proofs.YtedpafdfecofnaaGreatDoor
open Go.RowKit Go.Maps Go.Shelf Go.Sort
theorem splitR_fn {n s r : Int} (h : SplitR n s r) (h2 : n ≤ 1000) : splitF n = (s, r) := by
  rcases h with ⟨rfl, rfl, rfl⟩ | ⟨h1, hs, hr, hsr, hq⟩
  · rfl
  · obtain ⟨g1, g2, g3, g4, g5, g6⟩ := splitF_spec n h1 h2
    have key := sqf_uniqN s.toNat (splitF n).1.toNat r.toNat (splitF n).2.toNat (by omega) (by omega) (by
      apply Int.natCast_inj.1
      rw [Int.natCast_mul, Int.natCast_mul, Int.natCast_mul, Int.natCast_mul, Int.toNat_of_nonneg (by omega), Int.toNat_of_nonneg (by omega), Int.toNat_of_nonneg (by omega), Int.toNat_of_nonneg (by omega), hsr, g5]) (sqfN hq hr) (sqfN g6 g3)
    have e1 : s = (splitF n).1 := by omega
    have e2 : r = (splitF n).2 := by omega
    rw [e1, e2]
/-- What Parts brings into its parts is what Make of the program brings in. -/
theorem spL_mkT {l us : List (Int × Int)} (h : SpL l us) (hp : l.all isPartF = true) : us = l.map mkT := by
  apply List.ext_getElem
  · simp [h.1]
  · intro i h1 h2
    have hi : i < l.length := by simpa using h2
    obtain ⟨s, q, hs, hu⟩ := h.2 i hi
    have hb := List.all_eq_true.1 hp l[i] (List.getElem_mem hi)
    simp [isPartF, inB] at hb
    simp [hi] at hs
    simp [hi, h1] at hu
    rw [hu, List.getElem_map, mkT, splitR_fn hs (by omega)]
    simp [Int.mul_comm]
/-- The reference's Make gives what the program's Make gives. -/
theorem rmake_fn (den : Int) (v : Value) (l : List (Int × Int)) (w : World) (ht : TermsAt w v l) :
    Calls Tryz.prog 21 #[.int .i64 den, v] w (NumP (makeF den l) w) := by
  refine (rmake_any den v l w ht).mono ?_
  rintro e w' (⟨h1, h⟩ | ⟨h1, h2, h⟩ | ⟨h1, h2, h3, us, hs, lf, hit, hlf, h⟩)
  · exact ⟨_, by simp [makeF, h1], h⟩
  · refine ⟨_, ?_, h⟩
    unfold makeF
    rw [if_neg (by omega), if_neg]
    rintro ⟨a, b⟩
    rcases h2 with h2 | h2
    · rw [h2] at a; cases a
    · rw [h2] at b; cases b
  · refine ⟨_, ?_, h⟩
    unfold makeF
    rw [if_neg (by omega), if_pos ⟨h2, h3⟩]
    rw [spL_mkT hs h3] at hit
    exact ⟨lf, hit, rfl⟩
/-- What Make gives is one thing. -/
theorem makeF_uniq {den : Int} {l : List (Int × Int)} {r r' : Int × List (Int × Int) × Int} (h : makeF den l r) (h' : makeF den l r') : r = r' := by
  unfold makeF at h h'
  split at h
  · rename_i c
    rw [if_pos c] at h'
    rw [h, h']
  · rename_i c
    rw [if_neg c] at h'
    split at h
    · rename_i d
      rw [if_pos d] at h'
      obtain ⟨t, ht, rfl⟩ := h
      obtain ⟨t', ht', rfl⟩ := h'
      rw [terms_uniq ht ht']
    · rename_i d
      rw [if_neg d] at h'
      rw [h, h']
end Go.Proofs.YtedpafdfecofnaaGreatDoor
