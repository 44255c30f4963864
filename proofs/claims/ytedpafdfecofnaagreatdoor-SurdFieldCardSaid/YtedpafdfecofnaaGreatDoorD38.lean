/-
  Contracts of the program's own functions (and their plain mathematics), on the way to the law: each for all arguments that its hypotheses let.
-/
import Derived.Test.YtedpafdfecofnaaGreatDoorD34
import Derived.WalkKit
import Derived.WalkSpells
import Derived.WalkLawsBesides
import Derived.Deep.QuietTactic
import Derived.BigQuiet
import Derived.Lib.Hide
import Derived.WalkSmall
import Derived.Maps.OwnSet
import Derived.Maps.RangeWalk
import Derived.Deep.RegionWith
import Derived.Deep.RegionHeld3
import Derived.Deep.DrawnRows
import Derived.Deep.DeepCutAuto
import Derived.OneCell
import Derived.KernelRfl
import Derived.Laws.StructEq
import Derived.StillTailTactics
import Derived.Laws.Externs
import Derived.RangeFuncBox
import Derived.Test.YtedpafdfecofnaaGreatDoorPlain
set_option linter.unusedSimpArgs false
set_option linter.unusedVariables false

/-! ## S66 -/
namespace Go.Proofs.YtedpafdfecofnaaGreatDoor
open Go.RowKit Go.Maps Go.Shelf Go.Sort
attribute [local go_sem ↓] Go.wp_at_zero Go.wp_at_succ
set_option maxRecDepth 1000000 in
set_option maxHeartbeats 40000000 in
theorem seg12 (hk : Hid KnownT) (hadd : Hid (OpC 24 (addF 1))) (hmul : Hid (OpC 27 mulF)) (hsub : Hid (OpC 25 (addF (-1)))) (hquo : Hid (OpC 28 quoF)) (hnext : Seg16) : Seg12 := by
  intro w dx dy dz ax ay az cx cy cz lx ly lz bx bY bz W Wb bP ap cp r2p bQ aq cq r2q u0 u1 u6 u7 u8 u9 u10 u11 u12 u13 u15 u17 u18 u19 u20 u21 u22 u23 u24 u25 u26 u27 u28 u29 u30 u31 u32 u33 u34 u35 u36 u37 u38 u39 u40 u41 u42 u43 u44 u45 u46 u47 u48 u49 u50 u51 u52 u53 u54 u55 u56 u57 u58 u59 u60 u61 u62 u63 u64 u65 u66 u67 u68 u69 u70 u71 u72 u73 u74 u75 u76 u77 u78 u79 u80 u81 u82 u83 u84 u85 u86 u87 u88 u89 u90 u91 u92 u93 u94 u95 u96 u97 u98 u99 u100 u101 u102 u103 u104 u105 u106 u107 u108 u109 u110 u111 u112 u113 u114 u115 u116 u117 u118 u119 u120 u121 u122 u123 u124 u125 u126 u127 u128 u129 u130 u131 u132 u133 u134 u135 u136 u137 u138 u139 u140 u141 u142 u143 u144 u145 u146 u147 u148 u149 u150 u151 u152 u153 u154 u155 u156 u157 u158 u159 u160 u161 u162 u163 u164 u165 u166 u167 u168 u169 u170 u171 u172 u173 u174 u175 u176 u177 u178 u179 u180 u181 u182 u183 u184 u185 u186 u187 u188 u189 u190 u191 u192 u193 u194 u195 u196 u197 u198 u199 u200 u201 u202 u203 u204 u205 u206 u207 u208 u209 u210 u211 u212 u213 u214 u215 u216 u217 u218 u219 u220 u221 u222 u223 u224 u225 u226 u227 u228 u229 u230 u231 u232 u233 u234 u235 u236 u237 u238 HW VX VY VZ HBW Hx Hy Hz HP HQ HC HB0 Xb Yb Zb GP GQ GQP
  conv => arg 2; whnf
  have fx0 := Hx.out.1.c0
  have fx1 := Hx.out.1.c1
  have fxz := Hx.out.1.lt
  have fy0 := Hy.out.1.c0
  have fy1 := Hy.out.1.c1
  have fyz := Hy.out.1.lt
  have fz0 := Hz.out.1.c0
  have fz1 := Hz.out.1.c1
  have fzz := Hz.out.1.lt
  go_wp2_with fail
  refine (twice_27_27 (mulF) (mulF) hmul hmul dx dy dz _ _ _ lx ly lz _ Hx.out.2 Hy.out.2 Hz.out.2 (by have := VX.out.len; omega) (by have := VY.out.len; omega) (by have := VZ.out.len; omega)).mono ?_
  rintro e w112 ⟨r1p, r2p, v, p1, p2, rfl, ht, hb, hk⟩
  obtain ⟨ap, cp, rfl, px⟩ := ht.placed
  obtain ⟨kp, hkp⟩ : ∃ k : Bool, (decide (r1p.2.2 = 0) && decide (r2p.2.2 = 0)) = k := ⟨_, rfl⟩
  rw [hkp]
  have Kp := Lib.hid hkp
  have P1p := Lib.hid p1
  have P2p := Lib.hid p2
  clear hkp p1 p2 px fx0 fx1 fxz fy0 fy1 fyz fz0 fz1 fzz
  have T1 := HP.out.1.below hb HP.out.1.lt
  have t0 := T1.c0
  have t1 := T1.c1
  have t2 := T1.fr (i := 0)
  have t3 := T1.fr (i := 1)
  have t4 := T1.lt
  obtain ⟨w113, hW⟩ : ∃ X, (w112.setCell ⟨bP, 0, none⟩ (.int .i64 r2p.1)).setCell ⟨bP, 1, none⟩ (.slice ap r2p.2.1.length cp) = X := ⟨_, rfl⟩
  have two : Two w113 bP (.int .i64 r2p.1) (.slice ap r2p.2.1.length cp) 24 := by rw [← hW]; exact (T1.set0 _).set1 _ rfl
  obtain ⟨_, _, _, hg⟩ := two_after T1 (.int .i64 r2p.1) (.slice ap r2p.2.1.length cp) rfl
  rw [hW] at hg
  have lo : ∀ k, (Value.slice ap r2p.2.1.length cp).ownBlock = some k → bP < k := fun k h => by have := hk k h; have := HP.out.1.lt; omega
  have tt : TermsAt w113 (.slice ap r2p.2.1.length cp) r2p.2.1 := ht.kept hg (own_ne lo)
  have oq := (HQ.out.1.below hb HQ.out.1.lt).kept hg (by intro e; have := Option.some.inj e; have := GQP.out; omega)
  have loq : ∀ k, (Value.slice ap r2p.2.1.length cp).ownBlock = some k → bQ < k := fun k h => by have := hk k h; have := HQ.out.1.lt; omega
  have TQ := Lib.hid oq
  have LOQ := Lib.hid loq
  clear oq loq HQ
  replace HC := Lib.hid (show Below Wb.heap.size Wb w113 by rw [← hW]; exact ((HC.out.trans (hb.mono HC.out.size)).setCell GP.out _).setCell GP.out _)
  replace HBW := Lib.hid (HB0.out.trans (HC.out.mono HB0.out.size))
  replace Hx := Lib.hid (Xb.out.at HC.out)
  replace Hy := Lib.hid (Yb.out.at HC.out)
  replace Hz := Lib.hid (Zb.out.at HC.out)
  replace HP : Hid (Box _ _ _ _ _) := Lib.hid ⟨two, tt⟩
  clear two tt lo hg hb ht hk T1
  have fx0 := Hx.out.1.c0
  have fx1 := Hx.out.1.c1
  have fxz := Hx.out.1.lt
  have fy0 := Hy.out.1.c0
  have fy1 := Hy.out.1.c1
  have fyz := Hy.out.1.lt
  have fz0 := Hz.out.1.c0
  have fz1 := Hz.out.1.c1
  have fzz := Hz.out.1.lt
  go_wp2_with fail
  refine (twice_27_27 (mulF) (mulF) hmul hmul dy dz dx _ _ _ ly lz lx _ Hy.out.2 Hz.out.2 Hx.out.2 (by have := VY.out.len; omega) (by have := VZ.out.len; omega) (by have := VX.out.len; omega)).mono ?_
  rintro e w114 ⟨r1q, r2q, v, p1, p2, rfl, ht, hb, hk⟩
  obtain ⟨aq, cq, rfl, px⟩ := ht.placed
  obtain ⟨kq, hkq⟩ : ∃ k : Bool, (decide (r1q.2.2 = 0) && decide (r2q.2.2 = 0)) = k := ⟨_, rfl⟩
  rw [hkq]
  have Kq := Lib.hid hkq
  have P1q := Lib.hid p1
  have P2q := Lib.hid p2
  clear hkq p1 p2 px fx0 fx1 fxz fy0 fy1 fyz fz0 fz1 fzz
  clear t0 t1 t2 t3 t4 hW
  have T1 := TQ.out.below hb TQ.out.lt
  have t0 := T1.c0
  have t1 := T1.c1
  have t2 := T1.fr (i := 0)
  have t3 := T1.fr (i := 1)
  have t4 := T1.lt
  obtain ⟨w115, hW⟩ : ∃ X, (w114.setCell ⟨bQ, 0, none⟩ (.int .i64 r2q.1)).setCell ⟨bQ, 1, none⟩ (.slice aq r2q.2.1.length cq) = X := ⟨_, rfl⟩
  have two : Two w115 bQ (.int .i64 r2q.1) (.slice aq r2q.2.1.length cq) 24 := by rw [← hW]; exact (T1.set0 _).set1 _ rfl
  obtain ⟨_, _, _, hg⟩ := two_after T1 (.int .i64 r2q.1) (.slice aq r2q.2.1.length cq) rfl
  rw [hW] at hg
  have lo : ∀ k, (Value.slice aq r2q.2.1.length cq).ownBlock = some k → bQ < k := fun k h => by have := hk k h; have := TQ.out.lt; omega
  have tt : TermsAt w115 (.slice aq r2q.2.1.length cq) r2q.2.1 := ht.kept hg (own_ne lo)
  have op : Box w115 bP r2p.1 (.slice ap r2p.2.1.length cp) r2p.2.1 := ⟨(HP.out.1.below hb HP.out.1.lt).kept hg (by intro e; have := Option.some.inj e; have := GQP.out; omega), (HP.out.2.below hb).kept hg (own_ne LOQ.out)⟩
  replace HP := Lib.hid op
  clear op
  replace HC := Lib.hid (show Below Wb.heap.size Wb w115 by rw [← hW]; exact ((HC.out.trans (hb.mono HC.out.size)).setCell GQ.out _).setCell GQ.out _)
  replace HBW := Lib.hid (HB0.out.trans (HC.out.mono HB0.out.size))
  replace Hx := Lib.hid (Xb.out.at HC.out)
  replace Hy := Lib.hid (Yb.out.at HC.out)
  replace Hz := Lib.hid (Zb.out.at HC.out)
  have HQ : Hid (Box _ _ _ _ _) := Lib.hid ⟨two, tt⟩
  clear two tt lo hg hb ht hk T1
  clear TQ LOQ
  go_upto_region 16 with fail
  clear t0 t1 t2 t3 t4 hW
  go_cut [134] (fun s wx => s = .bool false ∧ Below w115.heap.size w115 wx)
  case first =>
    cases kp
    · go_wp2_with fail
      go_meet
      exact ⟨rfl, Below.refl _ _⟩
    cases kq
    · go_wp2_with fail
      go_meet
      exact ⟨rfl, Below.refl _ _⟩
    have fP0 := HP.out.1.c0
    have fP1 := HP.out.1.c1
    have fPz := HP.out.1.lt
    have fQ0 := HQ.out.1.c0
    have fQ1 := HQ.out.1.c1
    have fQz := HQ.out.1.lt
    go_wp2_with fail
    refine (same_any r2p.1 r2q.1 _ _ r2p.2.1 r2q.2.1 _ HP.out.2 HQ.out.2).mono ?_
    rintro e we ⟨rfl, hb⟩
    have hs : r2p.1 = r2q.1 ∧ r2p.2.1 = r2q.2.1 := assoc_mul VX.out VY.out VZ.out P1p.out P2p.out P1q.out P2q.out Kp.out Kq.out
    rw [show decide (r2p.1 = r2q.1 ∧ r2p.2.1 = r2q.2.1) = true from decide_eq_true hs]
    clear hs fP0 fP1 fPz fQ0 fQ1 fQz
    go_wp2_with fail
    go_meet
    exact ⟨rfl, hb⟩
  case rest KK1 hKK1 KK0 hKK0 =>
    obtain ⟨rfl, hb⟩ := hcut
    obtain ⟨w116, hw⟩ : ∃ W, W = wc := ⟨wc, rfl⟩
    subst hw
    replace Hx := Lib.hid (Hx.out.at hb)
    replace Hy := Lib.hid (Hy.out.at hb)
    replace Hz := Lib.hid (Hz.out.at hb)
    replace HP := Lib.hid (HP.out.at hb)
    replace HBW := Lib.hid (HBW.out.trans (hb.mono HBW.out.size))
    replace HC := Lib.hid (HC.out.trans (hb.mono HC.out.size))
    clear hb P1p P2p P1q P2q Kp Kq HQ
    have HKK1 := Lib.hid hKK1
    clear hKK1
    go_wp2_with fail
    exact HKK1.out _ _ (hnext HW VX VY VZ HBW Hx Hy Hz HP HC HB0 Xb Yb Zb GP)
end Go.Proofs.YtedpafdfecofnaaGreatDoor
