/-
  Contracts of the program's own functions (and their plain mathematics), on the way to the law: each for all arguments that its hypotheses let.
-/
import Derived.Test.YtedpafdfecofnaaGreatDoorD34
import Derived.WalkKit
import Derived.WalkSpells
import Derived.WalkLawsBesides
import Derived.Deep.QuietTactic
import Derived.BigQuiet
import Derived.Lib.Hide
import Derived.WalkSmall
import Derived.Maps.OwnSet
import Derived.Maps.RangeWalk
import Derived.Deep.RegionWith
import Derived.Deep.RegionHeld3
import Derived.Deep.DrawnRows
import Derived.Deep.DeepCutAuto
import Derived.OneCell
import Derived.KernelRfl
import Derived.Laws.StructEq
import Derived.StillTailTactics
import Derived.Laws.Externs
import Derived.RangeFuncBox
import Derived.Test.YtedpafdfecofnaaGreatDoorPlain
set_option linter.unusedSimpArgs false
set_option linter.unusedVariables false

/-! ## S65 -/
namespace Go.Proofs.YtedpafdfecofnaaGreatDoor
open Go.RowKit Go.Maps Go.Shelf Go.Sort
attribute [local go_sem ↓] Go.wp_at_zero Go.wp_at_succ
set_option maxRecDepth 1000000 in
set_option maxHeartbeats 40000000 in
theorem seg7 (hk : Hid KnownT) (hadd : Hid (OpC 24 (addF 1))) (hmul : Hid (OpC 27 mulF)) (hsub : Hid (OpC 25 (addF (-1)))) (hquo : Hid (OpC 28 quoF)) (hnext : Seg12) : Seg7 := by
  intro w dx dy dz ax ay az cx cy cz lx ly lz bx bY bz W bA aA cA rA bB aB cB bC aC cC rC bD aD cD u0 u1 u14 u15 u16 u17 u18 u19 u20 u21 u22 u23 u24 u25 u26 u27 u28 u29 u30 u31 u32 u33 u34 u35 u36 u37 u38 u39 u40 u41 u42 u43 u44 u45 u46 u47 u48 u49 u50 u51 u52 u53 u54 u55 u56 u57 u58 u59 u60 u61 u62 u63 u64 u65 u66 u67 u68 u69 u70 u71 u72 u73 u74 u75 u76 u77 u78 u79 u80 u81 u82 u83 u84 u85 u86 u87 u88 u89 u90 u91 u92 u93 u94 u95 u96 u97 u98 u99 u100 u101 u102 u103 u104 u105 u106 u107 u108 u109 u110 u111 u112 u113 u114 u115 u116 u117 u118 u119 u120 u121 u122 u123 u124 u125 u126 u127 u128 u129 u130 u131 u132 u133 u134 u135 u136 u137 u138 u139 u140 u141 u142 u143 u144 u145 u146 u147 u148 u149 u150 u151 u152 u153 u154 u155 u156 u157 u158 u159 u160 u161 u162 u163 u164 u165 u166 u167 u168 u169 u170 u171 u172 u173 u174 u175 u176 u177 u178 u179 u180 u181 u182 u183 u184 u185 u186 u187 u188 u189 u190 u191 u192 u193 u194 u195 u196 u197 u198 u199 u200 u201 u202 u203 u204 u205 u206 u207 u208 u209 u210 u211 u212 u213 u214 u215 u216 u217 u218 u219 u220 u221 u222 u223 u224 u225 u226 u227 u228 u229 u230 u231 u232 u233 u234 u235 u236 u237 u238 HW VX VY VZ HBW Hx Hy Hz HA HB HC HD
  conv => arg 2; whnf
  have fA0 := HA.out.1.c0
  have fA1 := HA.out.1.c1
  have fAz := HA.out.1.lt
  have fB0 := HB.out.1.c0
  have fB1 := HB.out.1.c1
  have fBz := HB.out.1.lt
  have fC0 := HC.out.1.c0
  have fC1 := HC.out.1.c1
  have fCz := HC.out.1.lt
  have fD0 := HD.out.1.c0
  have fD1 := HD.out.1.c1
  have fDz := HD.out.1.lt
  go_wp2_with fail
  refine (same_any rA.1 rA.1 _ _ rA.2.1 rA.2.1 _ HA.out.2 HB.out.2).mono ?_
  rintro e w105 ⟨rfl, hb⟩
  rw [show decide (rA.1 = rA.1 ∧ rA.2.1 = rA.2.1) = true by simp]
  replace Hx := Lib.hid (Hx.out.at hb)
  replace Hy := Lib.hid (Hy.out.at hb)
  replace Hz := Lib.hid (Hz.out.at hb)
  replace HC := Lib.hid (HC.out.at hb)
  replace HD := Lib.hid (HD.out.at hb)
  replace HBW := Lib.hid (HBW.out.trans (hb.mono HBW.out.size))
  clear hb
  clear fA0 fA1 fAz fB0 fB1 fBz fC0 fC1 fCz fD0 fD1 fDz HA HB
  have fC0 := HC.out.1.c0
  have fC1 := HC.out.1.c1
  have fCz := HC.out.1.lt
  have fD0 := HD.out.1.c0
  have fD1 := HD.out.1.c1
  have fDz := HD.out.1.lt
  go_wp2_with fail
  refine (same_any rC.1 rC.1 _ _ rC.2.1 rC.2.1 _ HC.out.2 HD.out.2).mono ?_
  rintro e w106 ⟨rfl, hb⟩
  rw [show decide (rC.1 = rC.1 ∧ rC.2.1 = rC.2.1) = true by simp]
  replace Hx := Lib.hid (Hx.out.at hb)
  replace Hy := Lib.hid (Hy.out.at hb)
  replace Hz := Lib.hid (Hz.out.at hb)
  replace HBW := Lib.hid (HBW.out.trans (hb.mono HBW.out.size))
  clear hb
  clear fC0 fC1 fCz fD0 fD1 fDz HC HD
  have HC := Lib.hid (Below.refl w106.heap.size w106)
  have HB0 := HBW
  have Xb := Hx
  have Yb := Hy
  have Zb := Hz
  have fx0 := Hx.out.1.c0
  have fx1 := Hx.out.1.c1
  have fxz := Hx.out.1.lt
  have fy0 := Hy.out.1.c0
  have fy1 := Hy.out.1.c1
  have fyz := Hy.out.1.lt
  have fz0 := Hz.out.1.c0
  have fz1 := Hz.out.1.c1
  have fzz := Hz.out.1.lt
  go_wp2_with fail
  refine (twice_24_24 (addF 1) (addF 1) hadd hadd dx dy dz _ _ _ lx ly lz _ Hx.out.2 Hy.out.2 Hz.out.2 (by have := VX.out.len; omega) (by have := VY.out.len; omega) (by have := VZ.out.len; omega)).mono ?_
  rintro e w107 ⟨r1p, r2p, v, p1, p2, rfl, ht, hb, hk⟩
  obtain ⟨ap, cp, rfl, px⟩ := ht.placed
  obtain ⟨kp, hkp⟩ : ∃ k : Bool, (decide (r1p.2.2 = 0) && decide (r2p.2.2 = 0)) = k := ⟨_, rfl⟩
  rw [hkp]
  have Kp := Lib.hid hkp
  have P1p := Lib.hid p1
  have P2p := Lib.hid p2
  clear hkp p1 p2 px fx0 fx1 fxz fy0 fy1 fyz fz0 fz1 fzz
  obtain ⟨w108, hW⟩ : ∃ X, w107.alloc (.cells #[.int .i64 r2p.1, .slice ap r2p.2.1.length cp] 24) = X := ⟨_, rfl⟩
  obtain ⟨bP, hbn⟩ : ∃ n, w107.heap.size = n := ⟨_, rfl⟩
  have hb2 := hb.alloc hb.size (.cells #[.int .i64 r2p.1, .slice ap r2p.2.1.length cp] 24)
  have t1 : Box w108 bP r2p.1 (.slice ap r2p.2.1.length cp) r2p.2.1 := by rw [← hW, ← hbn]; exact ⟨Two.new _ _ _ 24, ht.alloc _⟩
  rw [hW] at hb2
  have gP : w106.heap.size ≤ bP := by have q1 := hb.size; have q2 := HC.out.size; rw [← hbn]; omega
  have GP := Lib.hid gP
  have HP : Hid (Box _ _ _ _ _) := Lib.hid t1
  replace Hx := Lib.hid (Hx.out.at hb2)
  replace Hy := Lib.hid (Hy.out.at hb2)
  replace Hz := Lib.hid (Hz.out.at hb2)
  replace HBW := Lib.hid (HBW.out.trans (hb2.mono HBW.out.size))
  replace HC := Lib.hid (HC.out.trans (hb2.mono HC.out.size))
  clear t1 hb2 hb ht hk gP
  have fx0 := Hx.out.1.c0
  have fx1 := Hx.out.1.c1
  have fxz := Hx.out.1.lt
  have fy0 := Hy.out.1.c0
  have fy1 := Hy.out.1.c1
  have fyz := Hy.out.1.lt
  have fz0 := Hz.out.1.c0
  have fz1 := Hz.out.1.c1
  have fzz := Hz.out.1.lt
  go_wp2_with fail
  refine (twice_24_24 (addF 1) (addF 1) hadd hadd dy dz dx _ _ _ ly lz lx _ Hy.out.2 Hz.out.2 Hx.out.2 (by have := VY.out.len; omega) (by have := VZ.out.len; omega) (by have := VX.out.len; omega)).mono ?_
  rintro e w109 ⟨r1q, r2q, v, p1, p2, rfl, ht, hb, hk⟩
  obtain ⟨aq, cq, rfl, px⟩ := ht.placed
  obtain ⟨kq, hkq⟩ : ∃ k : Bool, (decide (r1q.2.2 = 0) && decide (r2q.2.2 = 0)) = k := ⟨_, rfl⟩
  rw [hkq]
  have Kq := Lib.hid hkq
  have P1q := Lib.hid p1
  have P2q := Lib.hid p2
  clear hkq p1 p2 px fx0 fx1 fxz fy0 fy1 fyz fz0 fz1 fzz
  clear hW hbn
  obtain ⟨w110, hW⟩ : ∃ X, w109.alloc (.cells #[.int .i64 r2q.1, .slice aq r2q.2.1.length cq] 24) = X := ⟨_, rfl⟩
  obtain ⟨bQ, hbn⟩ : ∃ n, w109.heap.size = n := ⟨_, rfl⟩
  have hb2 := hb.alloc hb.size (.cells #[.int .i64 r2q.1, .slice aq r2q.2.1.length cq] 24)
  have t1 : Box w110 bQ r2q.1 (.slice aq r2q.2.1.length cq) r2q.2.1 := by rw [← hW, ← hbn]; exact ⟨Two.new _ _ _ 24, ht.alloc _⟩
  rw [hW] at hb2
  have gQ : w106.heap.size ≤ bQ := by have q1 := hb.size; have q2 := HC.out.size; rw [← hbn]; omega
  have GQ := Lib.hid gQ
  have GQP := Lib.hid (show bP < bQ by have q1 := HP.out.1.lt; have q2 := hb.size; rw [← hbn]; omega)
  have HQ : Hid (Box _ _ _ _ _) := Lib.hid t1
  replace Hx := Lib.hid (Hx.out.at hb2)
  replace Hy := Lib.hid (Hy.out.at hb2)
  replace Hz := Lib.hid (Hz.out.at hb2)
  replace HP := Lib.hid (HP.out.at hb2)
  replace HBW := Lib.hid (HBW.out.trans (hb2.mono HBW.out.size))
  replace HC := Lib.hid (HC.out.trans (hb2.mono HC.out.size))
  clear t1 hb2 hb ht hk gQ
  go_upto_region 12 with fail
  clear hW hbn
  go_cut [110] (fun s wx => s = .bool false ∧ Below w110.heap.size w110 wx)
  case first =>
    cases kp
    · go_wp2_with fail
      go_meet
      exact ⟨rfl, Below.refl _ _⟩
    cases kq
    · go_wp2_with fail
      go_meet
      exact ⟨rfl, Below.refl _ _⟩
    have fP0 := HP.out.1.c0
    have fP1 := HP.out.1.c1
    have fPz := HP.out.1.lt
    have fQ0 := HQ.out.1.c0
    have fQ1 := HQ.out.1.c1
    have fQz := HQ.out.1.lt
    go_wp2_with fail
    refine (same_any r2p.1 r2q.1 _ _ r2p.2.1 r2q.2.1 _ HP.out.2 HQ.out.2).mono ?_
    rintro e we ⟨rfl, hb⟩
    have hs : r2p.1 = r2q.1 ∧ r2p.2.1 = r2q.2.1 := assoc_add VX.out VY.out VZ.out P1p.out P2p.out P1q.out P2q.out Kp.out Kq.out
    rw [show decide (r2p.1 = r2q.1 ∧ r2p.2.1 = r2q.2.1) = true from decide_eq_true hs]
    clear hs fP0 fP1 fPz fQ0 fQ1 fQz
    go_wp2_with fail
    go_meet
    exact ⟨rfl, hb⟩
  case rest KK1 hKK1 KK0 hKK0 =>
    obtain ⟨rfl, hb⟩ := hcut
    obtain ⟨w111, hw⟩ : ∃ W, W = wc := ⟨wc, rfl⟩
    subst hw
    replace Hx := Lib.hid (Hx.out.at hb)
    replace Hy := Lib.hid (Hy.out.at hb)
    replace Hz := Lib.hid (Hz.out.at hb)
    replace HP := Lib.hid (HP.out.at hb)
    replace HQ := Lib.hid (HQ.out.at hb)
    replace HBW := Lib.hid (HBW.out.trans (hb.mono HBW.out.size))
    replace HC := Lib.hid (HC.out.trans (hb.mono HC.out.size))
    clear hb P1p P2p P1q P2q Kp Kq
    have HKK1 := Lib.hid hKK1
    clear hKK1
    go_wp2_with fail
    exact HKK1.out _ _ (hnext HW VX VY VZ HBW Hx Hy Hz HP HQ HC HB0 Xb Yb Zb GP GQ GQP)
end Go.Proofs.YtedpafdfecofnaaGreatDoor
