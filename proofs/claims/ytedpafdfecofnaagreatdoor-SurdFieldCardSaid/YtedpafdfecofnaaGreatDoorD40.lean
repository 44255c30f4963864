/-
  Contracts of the program's own functions (and their plain mathematics), on the way to the law: each for all arguments that its hypotheses let.
-/
import Derived.Test.YtedpafdfecofnaaGreatDoorD34
import Derived.WalkKit
import Derived.WalkSpells
import Derived.WalkLawsBesides
import Derived.Deep.QuietTactic
import Derived.BigQuiet
import Derived.Lib.Hide
import Derived.WalkSmall
import Derived.Maps.OwnSet
import Derived.Maps.RangeWalk
import Derived.Deep.RegionWith
import Derived.Deep.RegionHeld3
import Derived.Deep.DrawnRows
import Derived.Deep.DeepCutAuto
import Derived.OneCell
import Derived.KernelRfl
import Derived.Laws.StructEq
import Derived.StillTailTactics
import Derived.Laws.Externs
import Derived.RangeFuncBox
import Derived.Test.YtedpafdfecofnaaGreatDoorPlain
set_option linter.unusedSimpArgs false
set_option linter.unusedVariables false

/-! ## S68 -/
namespace Go.Proofs.YtedpafdfecofnaaGreatDoor
open Go.RowKit Go.Maps Go.Shelf Go.Sort
attribute [local go_sem ↓] Go.wp_at_zero Go.wp_at_succ
set_option maxRecDepth 1000000 in
set_option maxHeartbeats 40000000 in
theorem seg20 (hk : Hid KnownT) (hadd : Hid (OpC 24 (addF 1))) (hmul : Hid (OpC 27 mulF)) (hsub : Hid (OpC 25 (addF (-1)))) (hquo : Hid (OpC 28 quoF)) (hnext : Seg26) : Seg20 := by
  intro w dx dy dz ax ay az cx cy cz lx ly lz bx bY bz W Wb bP ap cp r1p r2p kp bU aU cU rU bV aV cV rV u0 u1 u6 u8 u10 u11 u12 u13 u16 u17 u20 u21 u22 u23 u24 u25 u26 u27 u28 u29 u30 u31 u32 u33 u34 u35 u36 u37 u38 u39 u40 u41 u42 u43 u44 u45 u46 u47 u48 u49 u50 u51 u52 u53 u54 u55 u56 u57 u58 u59 u60 u61 u62 u63 u64 u65 u66 u67 u68 u69 u70 u71 u72 u73 u74 u75 u76 u77 u78 u79 u80 u81 u82 u83 u84 u85 u86 u87 u88 u89 u90 u91 u92 u93 u94 u95 u96 u97 u98 u99 u100 u101 u102 u103 u104 u105 u106 u107 u108 u109 u110 u111 u112 u113 u114 u115 u116 u117 u118 u119 u120 u121 u122 u123 u124 u125 u126 u127 u128 u129 u130 u131 u132 u133 u134 u135 u136 u137 u138 u139 u140 u141 u142 u143 u144 u145 u146 u147 u148 u149 u150 u151 u152 u153 u154 u155 u156 u157 u158 u159 u160 u161 u162 u163 u164 u165 u166 u167 u168 u169 u170 u171 u172 u173 u174 u175 u176 u177 u178 u179 u180 u181 u182 u183 u184 u185 u186 u187 u188 u189 u190 u191 u192 u193 u194 u195 u196 u197 u198 u199 u200 u201 u202 u203 u204 u205 u206 u207 u208 u209 u210 u211 u212 u213 u214 u215 u216 u217 u218 u219 u220 u221 u222 u223 u224 u225 u226 u227 u228 u229 u230 u231 u232 u233 u234 u235 u236 u237 u238 HW VX VY VZ HBW Hx Hy Hz HP HU HV HC HB0 Xb Yb Zb GP Kp P1p P2p PU PV
  conv => arg 2; whnf
  obtain ⟨n1, hn1⟩ : ∃ n : Int, rU.2.2 = n := ⟨_, rfl⟩
  obtain ⟨n2, hn2⟩ : ∃ n : Int, rV.2.2 = n := ⟨_, rfl⟩
  rw [hn1, hn2]
  have N1 := Lib.hid hn1
  have N2 := Lib.hid hn2
  clear hn1 hn2
  go_upto_region 21 with fail
  go_cut [166] (fun s wx => s = .bool (kp && (decide (n1 = 0) && decide (n2 = 0))) ∧ Below W.heap.size W wx)
  case first =>
    cases kp
    · go_wp2_with fail
      go_meet
      exact ⟨rfl, Below.refl _ _⟩
    by_cases h1 : n1 = 0
    rotate_left
    · have g1 : (n1 == 0) = false := by simpa using h1
      have H1 := Lib.hid h1
      clear h1
      go_wp2_with fail
      go_meet
      exact ⟨by simp [H1.out], Below.refl _ _⟩
    subst h1
    by_cases h2 : n2 = 0
    rotate_left
    · have g2 : (n2 == 0) = false := by simpa using h2
      have H2 := Lib.hid h2
      clear h2
      go_wp2_with fail
      go_meet
      exact ⟨by simp [H2.out], Below.refl _ _⟩
    subst h2
    go_wp2_with fail
    go_meet
    exact ⟨by simp, Below.refl _ _⟩
  case rest =>
    obtain ⟨rfl, hb⟩ := hcut
    obtain ⟨w121, hw⟩ : ∃ W, W = wc := ⟨wc, rfl⟩
    subst hw
    replace Hx := Lib.hid (Hx.out.at hb)
    replace Hy := Lib.hid (Hy.out.at hb)
    replace Hz := Lib.hid (Hz.out.at hb)
    replace HP := Lib.hid (HP.out.at hb)
    replace HU := Lib.hid (HU.out.at hb)
    replace HV := Lib.hid (HV.out.at hb)
    replace HBW := Lib.hid (HBW.out.trans (hb.mono HBW.out.size))
    replace HC := Lib.hid (HC.out.trans (hb.mono HC.out.size))
    clear hb
    obtain ⟨kk, hkk⟩ : ∃ k : Bool, (kp && (decide (n1 = 0) && decide (n2 = 0))) = k := ⟨_, rfl⟩
    rw [hkk]
    have KK := Lib.hid hkk
    clear hkk
    go_upto_if 166 with fail
    go_cut [15] (fun s wx => Below w121.heap.size w121 wx)
    case first =>
      cases kk
      · go_wp2_with fail
        go_meet
        exact Below.refl _ _
      have fU0 := HU.out.1.c0
      have fU1 := HU.out.1.c1
      have fUz := HU.out.1.lt
      have fV0 := HV.out.1.c0
      have fV1 := HV.out.1.c1
      have fVz := HV.out.1.lt
      go_wp2_with fail
      refine (hadd.out.call rU.1 rV.1 _ _ rU.2.1 rV.2.1 _ HU.out.2 HV.out.2).mono ?_
      rintro e we ⟨r, hP, v, rfl, ht, hb, hk⟩
      have hr : r = (r2p.1, r2p.2.1, 0) := by
        have q := KK.out
        simp only [Bool.and_eq_true, decide_eq_true_eq] at q
        exact distrib_ok VX.out VY.out VZ.out P1p.out P2p.out PU.out PV.out hP (Kp.out.trans q.1) (N1.out.trans q.2.1) (N2.out.trans q.2.2)
      subst hr
      obtain ⟨a, c, rfl, px⟩ := ht.placed
      dsimp only at ht ⊢
      have HPe := Lib.hid (HP.out.at hb)
      obtain ⟨wf, hwf⟩ : ∃ X, we.alloc (.cells #[.int .i64 r2p.1, .slice a r2p.2.1.length c] 24) = X := ⟨_, rfl⟩
      have bx1 : Box wf we.heap.size r2p.1 (.slice a r2p.2.1.length c) r2p.2.1 := by rw [← hwf]; exact ⟨Two.new _ _ _ 24, ht.alloc _⟩
      have HPf := Lib.hid (show Box wf bP _ _ _ by rw [← hwf]; exact HPe.out.at ((Below.refl _ _).alloc (Nat.le_refl _) _))
      have hbf := Lib.hid (show Below w121.heap.size w121 wf by rw [← hwf]; exact hb.alloc hb.size _)
      have HS := Lib.hid bx1
      have u0 := HPf.out.1.c0
      have u1 := HPf.out.1.c1
      have u2 := HPf.out.1.lt
      have s0 := HS.out.1.c0
      have s1 := HS.out.1.c1
      have s2 := HS.out.1.lt
      clear bx1 hb hk ht px hP fU0 fU1 fUz fV0 fV1 fVz
      go_wp2_with fail
      refine (same_any _ _ _ _ r2p.2.1 r2p.2.1 _ HPf.out.2 HS.out.2).mono ?_
      rintro e wg ⟨rfl, hb⟩
      rw [show decide (r2p.1 = r2p.1 ∧ r2p.2.1 = r2p.2.1) = true by simp]
      clear u0 u1 u2 s0 s1 s2 hwf
      go_wp2_with fail
      go_meet
      exact Below.chain hbf.out hb
    case rest =>
      obtain ⟨w122, hw⟩ : ∃ W, W = wc := ⟨wc, rfl⟩
      subst hw
      have hb := hcut
      clear hcut KK
      replace Hx := Lib.hid (Hx.out.at hb)
      replace Hy := Lib.hid (Hy.out.at hb)
      replace HP := Lib.hid (HP.out.at hb)
      replace HBW := Lib.hid (HBW.out.trans (hb.mono HBW.out.size))
      replace HC := Lib.hid (HC.out.trans (hb.mono HC.out.size))
      clear hb HU HV PU PV P1p P2p Kp
      have fx0 := Hx.out.1.c0
      have fx1 := Hx.out.1.c1
      have fxz := Hx.out.1.lt
      have fy0 := Hy.out.1.c0
      have fy1 := Hy.out.1.c1
      have fyz := Hy.out.1.lt
      go_wp2_with fail
      refine (twice_24_25 (addF 1) (addF (-1)) hadd hsub dx dy dy _ _ _ lx ly ly _ Hx.out.2 Hy.out.2 Hy.out.2 (by have := VX.out.len; omega) (by have := VY.out.len; omega) (by have := VY.out.len; omega)).mono ?_
      rintro e w123 ⟨r1o, r2o, v, p1, p2, rfl, ht, hb, hk⟩
      obtain ⟨ao, co, rfl, px⟩ := ht.placed
      obtain ⟨ko, hko⟩ : ∃ k : Bool, (decide (r1o.2.2 = 0) && decide (r2o.2.2 = 0)) = k := ⟨_, rfl⟩
      rw [hko]
      have Ko := Lib.hid hko
      have P1o := Lib.hid p1
      have P2o := Lib.hid p2
      clear hko p1 p2 px fx0 fx1 fxz fy0 fy1 fyz
      have T1 := HP.out.1.below hb HP.out.1.lt
      have t0 := T1.c0
      have t1 := T1.c1
      have t2 := T1.fr (i := 0)
      have t3 := T1.fr (i := 1)
      have t4 := T1.lt
      obtain ⟨w124, hW⟩ : ∃ X, (w123.setCell ⟨bP, 0, none⟩ (.int .i64 r2o.1)).setCell ⟨bP, 1, none⟩ (.slice ao r2o.2.1.length co) = X := ⟨_, rfl⟩
      have two : Two w124 bP (.int .i64 r2o.1) (.slice ao r2o.2.1.length co) 24 := by rw [← hW]; exact (T1.set0 _).set1 _ rfl
      obtain ⟨_, _, _, hg⟩ := two_after T1 (.int .i64 r2o.1) (.slice ao r2o.2.1.length co) rfl
      rw [hW] at hg
      have lo : ∀ k, (Value.slice ao r2o.2.1.length co).ownBlock = some k → bP < k := fun k h => by have := hk k h; have := HP.out.1.lt; omega
      have tt : TermsAt w124 (.slice ao r2o.2.1.length co) r2o.2.1 := ht.kept hg (own_ne lo)
      replace HC := Lib.hid (show Below Wb.heap.size Wb w124 by rw [← hW]; exact ((HC.out.trans (hb.mono HC.out.size)).setCell GP.out _).setCell GP.out _)
      replace HBW := Lib.hid (HB0.out.trans (HC.out.mono HB0.out.size))
      replace Hx := Lib.hid (Xb.out.at HC.out)
      replace Hy := Lib.hid (Yb.out.at HC.out)
      replace HP : Hid (Box _ _ _ _ _) := Lib.hid ⟨two, tt⟩
      clear two tt lo hg hb ht hk T1
      go_upto_region 26 with fail
      clear t0 t1 t2 t3 t4 hW
      go_cut [194] (fun s wx => s = .bool false ∧ Below w124.heap.size w124 wx)
      case first =>
        cases ko
        · go_wp2_with fail
          go_meet
          exact ⟨rfl, Below.refl _ _⟩
        have fP0 := HP.out.1.c0
        have fP1 := HP.out.1.c1
        have fPz := HP.out.1.lt
        have fx0 := Hx.out.1.c0
        have fx1 := Hx.out.1.c1
        have fxz := Hx.out.1.lt
        go_wp2_with fail
        refine (same_any r2o.1 dx _ _ r2o.2.1 lx _ HP.out.2 Hx.out.2).mono ?_
        rintro e we ⟨rfl, hb⟩
        have hs : r2o.1 = dx ∧ r2o.2.1 = lx := back_ok VX.out VY.out P1o.out P2o.out Ko.out
        rw [show decide (r2o.1 = dx ∧ r2o.2.1 = lx) = true from decide_eq_true hs]
        clear hs fP0 fP1 fPz fx0 fx1 fxz
        go_wp2_with fail
        go_meet
        exact ⟨rfl, hb⟩
      case rest KK1 hKK1 KK0 hKK0 =>
        obtain ⟨rfl, hb⟩ := hcut
        obtain ⟨w125, hw⟩ : ∃ W, W = wc := ⟨wc, rfl⟩
        subst hw
        replace Hx := Lib.hid (Hx.out.at hb)
        replace Hy := Lib.hid (Hy.out.at hb)
        replace HBW := Lib.hid (HBW.out.trans (hb.mono HBW.out.size))
        replace HC := Lib.hid (HC.out.trans (hb.mono HC.out.size))
        clear hb P1o P2o Ko HP
        have HKK1 := Lib.hid hKK1
        clear hKK1
        go_wp2_with fail
        exact HKK1.out _ _ (hnext HW VX VY VZ HBW Hx Hy)
end Go.Proofs.YtedpafdfecofnaaGreatDoor
