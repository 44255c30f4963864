/-
  Contracts of the program's own functions (and their plain mathematics), on the way to the law: each for all arguments that its hypotheses let.
-/
import Derived.Test.YtedpafdfecofnaaGreatDoorE31
import Derived.WalkKit
import Derived.WalkSpells
import Derived.WalkLawsBesides
import Derived.Deep.QuietTactic
import Derived.BigQuiet
import Derived.Lib.Hide
import Derived.WalkSmall
import Derived.Maps.OwnSet
import Derived.Maps.RangeWalk
import Derived.Deep.RegionWith
import Derived.Deep.RegionHeld3
import Derived.Deep.DrawnRows
import Derived.Deep.DeepCutAuto
import Derived.OneCell
import Derived.KernelRfl
import Derived.Laws.StructEq
import Derived.StillTailTactics
import Derived.Laws.Externs
import Derived.RangeFuncBox
import Derived.Test.YtedpafdfecofnaaGreatDoorPlain
set_option linter.unusedSimpArgs false
set_option linter.unusedVariables false

/-! ## S85 -/
namespace Go.Proofs.YtedpafdfecofnaaGreatDoor
open Go.RowKit Go.Maps Go.Shelf Go.Sort
attribute [local go_sem ↓] Go.wp_at_zero Go.wp_at_succ
set_option maxRecDepth 1000000 in
set_option maxHeartbeats 40000000 in
theorem oseg17 (hk : Hid KnownT) (hadd : Hid (OpC 24 (addF 1))) (hmul : Hid (OpC 27 mulF)) : OSeg17 := by
  intro w dx dy dz lx ly lz bt W n zz bC aC cC rC bD aD cD rD u0 u2 u5 u7 u9 u10 u11 u12 u13 u14 u18 u19 u20 u21 u22 u23 u24 u25 u26 u27 u28 u29 u30 u31 u32 u33 u34 u35 u36 u37 u38 u39 u40 u41 u42 u43 u44 u45 u46 u47 u48 u49 u50 u51 u52 u53 u54 u55 u56 u57 u58 u59 u60 u61 u62 u63 u64 u65 u66 u67 u68 u69 u70 u71 u72 u73 u74 u75 u76 u77 u78 u79 u80 u81 u82 u83 u84 u85 u86 u87 u88 u89 u90 u91 u92 u93 u94 u95 u96 u97 u98 u99 u100 u101 u102 u103 u104 u105 u106 u107 u108 u109 u110 u111 u112 u113 u114 u115 u116 u117 u118 u119 u120 u121 u122 u123 u124 u125 u126 u127 u128 u129 u130 u131 u132 u133 u134 u135 u136 u137 u138 u139 u140 u141 u142 u143 u144 u145 u146 u147 u148 u149 u150 u151 u152 u153 u154 u155 u156 u157 u158 u159 u160 u161 u162 u163 u164 u165 u166 u167 u168 u169 u170 u171 u172 u173 u174 u175 u176 u177 u178 u179 u180 u181 u182 u183 u184 u185 u186 u187 u188 u189 u190 u191 u192 u193 u194 u195 u196 u197 u198 u199 u200 u201 HW VX VY VZ HBW HC HD Sn Sz PC PD
  conv => arg 2; whnf
  obtain ⟨e1, he1⟩ : ∃ n : Int, rC.2.2 = n := ⟨_, rfl⟩
  obtain ⟨e2, he2⟩ : ∃ n : Int, rD.2.2 = n := ⟨_, rfl⟩
  rw [he1, he2]
  have E1 := Lib.hid he1
  have E2 := Lib.hid he2
  clear he1 he2
  go_upto_region 20 with fail
  go_cut [185] (fun s wx => s = .bool (decide (e1 = 0) && decide (e2 = 0)) ∧ Below W.heap.size W wx)
  case first =>
    by_cases h1 : e1 = 0
    rotate_left
    · have g1 : (e1 == 0) = false := by simpa using h1
      have H1 := Lib.hid h1
      clear h1
      go_wp2_with fail
      go_meet
      exact ⟨by simp [H1.out], Below.refl _ _⟩
    subst h1
    by_cases h2 : e2 = 0
    rotate_left
    · have g2 : (e2 == 0) = false := by simpa using h2
      have H2 := Lib.hid h2
      clear h2
      go_wp2_with fail
      go_meet
      exact ⟨by simp [H2.out], Below.refl _ _⟩
    subst h2
    go_wp2_with fail
    go_meet
    exact ⟨by simp, Below.refl _ _⟩
  case rest =>
    obtain ⟨rfl, hb⟩ := hcut
    obtain ⟨w113, hw⟩ : ∃ W, W = wc := ⟨wc, rfl⟩
    subst hw
    replace HC := Lib.hid (HC.out.at hb)
    replace HD := Lib.hid (HD.out.at hb)
    replace HBW := Lib.hid (HBW.out.trans (hb.mono HBW.out.size))
    clear hb
    obtain ⟨kk, hkk⟩ : ∃ k : Bool, (decide (e1 = 0) && decide (e2 = 0)) = k := ⟨_, rfl⟩
    rw [hkk]
    have KK := Lib.hid hkk
    clear hkk
    cases kk
    · skip
      go_wp2_with fail
      refine (hk.out _ (HW.out.below HBW.out)).mono ?_
      rintro e we ⟨rfl, hb⟩
      have HBF := Lib.hid (HBW.out.trans (hb.mono HBW.out.size))
      clear hb
      go_wp2
      go_ret
      exact ⟨rfl, HBF.out⟩
    have q := KK.out
    simp only [Bool.and_eq_true, decide_eq_true_eq] at q
    have va := mulF_vld VX.out VZ.out PC.out (E1.out.trans q.1)
    have vb := mulF_vld VY.out VZ.out PD.out (E2.out.trans q.2)
    have VA := Lib.hid va.1
    have VB := Lib.hid vb.1
    have PA0 := Lib.hid va.2
    have PB0 := Lib.hid vb.2
    have hr1 := Lib.hid Sn.out.range
    have hr2 := Lib.hid Sz.out.range
    clear q va vb
    have fC0 := HC.out.1.c0
    have fC1 := HC.out.1.c1
    have fCz := HC.out.1.lt
    have fD0 := HD.out.1.c0
    have fD1 := HD.out.1.c1
    have fDz := HD.out.1.lt
    go_wp2_with fail
    refine (cmp_call VA VB _ _ _ HC.out.2 HD.out.2).mono ?_
    rintro e we ⟨i, hP, rfl, hb⟩
    have hi : i = n * zz := cmp_mul VX.out VY.out VZ.out PA0.out PB0.out Sn.out Sz.out (cmp_sg VA.out VB.out hP)
    replace HBW := Lib.hid (HBW.out.trans (hb.mono HBW.out.size))
    have HI := Lib.hid hi
    clear hi hb hP fC0 fC1 fCz fD0 fD1 fDz
    rcases hr1.out with h | h | h <;> rcases hr2.out with h2 | h2 | h2
    all_goals
      subst h h2
      have hi := HI.out
      simp at hi
      subst hi
      go_wp2_with fail
      refine (hk.out _ (HW.out.below HBW.out)).mono ?_
      rintro e we ⟨rfl, hb⟩
      have HBF := Lib.hid (HBW.out.trans (hb.mono HBW.out.size))
      clear hb
      go_wp2
      go_ret
      exact ⟨rfl, HBF.out⟩
end Go.Proofs.YtedpafdfecofnaaGreatDoor
