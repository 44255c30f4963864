/-
  Contracts of the program's own functions (and their plain mathematics), on the way to the law: each for all arguments that its hypotheses let.
-/
import Derived.Test.YtkjclafbpocabaaGreatDoorG32
import Derived.Test.YtkjclafbpocabaaGreatDoorG33
import Derived.WalkKit
import Derived.WalkSpells
import Derived.WalkLawsBesides
import Derived.Deep.QuietTactic
import Derived.BigQuiet
import Derived.Lib.Hide
import Derived.WalkSmall
import Derived.Maps.OwnSet
import Derived.Maps.RangeWalk
import Derived.Deep.RegionWith
import Derived.Deep.RegionHeld3
import Derived.Deep.DrawnRows
import Derived.Deep.DeepCutAuto
import Derived.OneCell
import Derived.KernelRfl
import Derived.Laws.StructEq
import Derived.StillTailTactics
import Derived.Laws.Externs
import Derived.RangeFuncBox
import Derived.Test.YtkjclafbpocabaaGreatDoorPlain
set_option linter.unusedSimpArgs false
set_option linter.unusedVariables false

/-! ## Y12 -/
namespace Go.Proofs.YtkjclafbpocabaaGreatDoor
open Go.RowKit Go.Maps Go.Shelf Go.Sort
attribute [local go_sem ↓] Go.wp_at_zero Go.wp_at_succ
set_option maxRecDepth 1000000 in
set_option maxHeartbeats 40000000 in
theorem yseg12 (hsort : Hid SortC) (hnext : YSeg14) : YSeg12 := by
  intro w p q u v fr to_ W ba aa ca ra bb ab cb rb bx ax cx rx bz az cz rz bq aq cq rq bh ah ch rh bk ak ck rk u0 u1 u2 u3 u4 u5 u6 u11 u13 u15 u17 u18 u22 u23 u24 u25 u26 u27 u28 u29 u30 u31 u32 u33 u34 u35 u36 u37 u38 u39 u40 u41 u42 u43 u44 u45 u46 u47 u48 u49 u50 u51 u52 u53 u54 u55 u56 u57 u58 u59 u60 u61 u62 u63 u64 u65 u66 u67 u68 u69 u70 u71 u72 u73 u74 u75 u76 u77 u78 u79 u80 u81 u82 u83 u84 u85 u86 u87 u88 u89 u90 u91 u92 u93 u94 u95 u96 u97 u98 u99 u100 u101 u102 u103 u104 u105 u106 u107 u108 u109 u110 u111 u112 u113 u114 u115 u116 u117 u118 u119 u120 u121 u122 u123 u124 u125 u126 u127 u128 u129 u130 u131 u132 u133 u134 u135 u136 u137 u138 u139 u140 u141 u142 u143 u144 u145 u146 u147 u148 u149 u150 u151 u152 u153 u154 u155 u156 u157 u158 u159 u160 u161 u162 u163 u164 u165 u166 u167 u168 u169 u170 u171 u172 u173 u174 u175 u176 u177 u178 u179 u180 u181 u182 u183 u184 u185 u186 u187 u188 u189 u190 u191 u192 u193 u194 u195 u196 u197 u198 u199 u200 u201 u202 u203 u204 u205 u206 u207 u208 u209 HW HR HBW Ha Hb Hx Hz Hq Hh Hk VA VB VX VZ Px Pz Pq Ph Pk
  conv => arg 2; whnf
  have wf : IntKind.i64.wrap fr = fr := wrap_year (by have := HR.out.f1; omega) (by have := HR.out.f2; omega)
  have wt : IntKind.i64.wrap to_ = to_ := wrap_year (by have := HR.out.t1; omega) (by have := HR.out.t2; omega)
  have wf1 : IntKind.i64.wrap (fr + 1) = fr + 1 := wrap_year (by have := HR.out.f1; omega) (by have := HR.out.f2; omega)
  have ff1 := HR.out.f1
  have ff2 := HR.out.f2
  have tt1 := HR.out.t1
  have tt2 := HR.out.t2
  have ya := year_factor VA VB HR (Y := fr) (Z := to_) (by omega) (by omega) (by omega) (by omega) Ph.out
  have yb := year_factor VA VB HR (Y := to_) (Z := fr) (by omega) (by omega) (by omega) (by omega) Pk.out
  have x1 := year_pos VA VB HR (Y := fr) (by omega) (by omega) Px.out
  have z1 := year_pos VA VB HR (Y := to_) (by omega) (by omega) Pz.out
  have hq := quo_err2 VZ.out VX.out x1 Pq.out
  have VQ0 := Lib.hid (val_quo VZ.out VX.out x1 Pq.out)
  have YA := Lib.hid ya
  have YB := Lib.hid yb
  have X1 := Lib.hid x1
  have Z1 := Lib.hid z1
  have hN : 1 ≤ v * q := VX.out.2.1
  have HN := Lib.hid hN
  clear wf wt wf1 ff1 ff2 tt1 tt2 x1 z1 hN
  by_cases hall : rq.2.2 = 0 ∧ rh.2.2 = 0 ∧ rk.2.2 = 0
  rotate_left
  · have hh : rh.2.2 = 0 ∨ rh.2.2 = 10 := by rcases ya with e | ⟨e, _⟩ <;> omega
    have hk : rk.2.2 = 0 ∨ rk.2.2 = 10 := by rcases yb with e | ⟨e, _⟩ <;> omega
    have HA := Lib.hid hall
    have HL := Lib.hid (linkYears_any hsort W (HW.out.below HBW.out))
    clear ya yb YA YB hall VQ0 Pq Ph Pk Px Pz VX VZ VA VB Ha Hb Hx Hz Hq Hh Hk X1 Z1 HN
    rcases hq with h1 | h1 <;> rcases hh with h2 | h2 <;> rcases hk with h3 | h3
    all_goals first
      | (exfalso; have hA := HA.out; omega)
      | (rw [h1, h2, h3]
         clear h1 h2 h3 HA
         go_wp2_with fail
         refine HL.out.mono ?_
         rintro e we ⟨rfl, hb⟩
         have HBF := Lib.hid (HBW.out.trans (hb.mono HBW.out.size))
         clear hb HL
         go_wp2
         go_ret
         exact ⟨rfl, HBF.out⟩)
  obtain ⟨h1, h2, h3⟩ := hall
  rw [h1, h2, h3]
  obtain ⟨D, c, k, m, e1, v1, hc, hk, vm, q1, rt⟩ : ∃ (D c k : Int) (m : Int × List (Int × Int) × Int), rh = (D, [(c, k)], 0) ∧ Vld D [(c, k)] ∧ 1 ≤ c ∧ Rt k ∧ Val m.1 m.2.1 ((q * (u * to_) + v * p) * (v * q)) ((v * q) * (q * (u * fr) + v * p)) ∧ c * c * k * ((v * q) * (q * (u * fr) + v * p)) = (q * (u * to_) + v * p) * (v * q) * (D * D) ∧ RootP m.1 m.2.1 (D, [(c, k)], 0) := by
    rcases YA.out with e | ⟨_, h⟩
    · omega
    · exact h
  obtain ⟨E, b, j, m2, e2, v2, hb, hj, _, q2, _⟩ : ∃ (D c k : Int) (m : Int × List (Int × Int) × Int), rk = (D, [(c, k)], 0) ∧ Vld D [(c, k)] ∧ 1 ≤ c ∧ Rt k ∧ Val m.1 m.2.1 ((q * (u * fr) + v * p) * (v * q)) ((v * q) * (q * (u * to_) + v * p)) ∧ c * c * k * ((v * q) * (q * (u * to_) + v * p)) = (q * (u * fr) + v * p) * (v * q) * (D * D) ∧ RootP m.1 m.2.1 (D, [(c, k)], 0) := by
    rcases YB.out with e | ⟨_, h⟩
    · omega
    · exact h
  have vq : Val rq.1 rq.2.1 ((q * (u * to_) + v * p) * (v * q)) ((v * q) * (q * (u * fr) + v * p)) := by
    rcases VQ0.out with ⟨_, h⟩ | h
    · exact h
    · rw [h] at h1; simp at h1
  have hmq := val_uniq vm vq
  have VH := Lib.hid (show Vld rh.1 rh.2.1 ∧ True by rw [e1]; exact ⟨v1, trivial⟩)
  have LQ := Lib.hid (show rq.2.1.length ≤ 1000 by have := vq.1.len; omega)
  have PS := Lib.hid (show ∀ s, mulF rh.1 rh.2.1 rh.1 rh.2.1 s → s = (rq.1, rq.2.1, 0) from fun s hs => by rw [e1] at hs; rw [fact_square vm rt hs, hmq.1, hmq.2])
  have PO := Lib.hid (show ∀ s, mulF rh.1 rh.2.1 rk.1 rk.2.1 s → s = (1, [(1, 1)], 0) from fun s hs => by rw [e1, e2] at hs; exact back_one v1 hc hk v2 hb hj X1.out Z1.out HN.out q1 q2 hs)
  have SG := Lib.hid (show sgnZ rh.2.1 = 1 by rw [e1]; exact sgn_single v1 hc hk)
  clear hq ya yb YA YB VQ0 X1 Z1 HN h1 h2 h3 e1 v1 hc hk vm q1 rt e2 v2 hb hj q2 vq hmq Pq Ph Pk Px Pz VX VZ VA VB Ha Hb Hx Hz
  go_upto_region 12 with fail
  go_cut [149] (fun s wx => s = .bool false ∧ wx = W)
  case first =>
    go_wp2_with fail
    go_meet
    exact ⟨rfl, rfl⟩
  case rest KK1 hKK1 KK0 hKK0 =>
    obtain ⟨rfl, rfl⟩ := hcut
    have HKK1 := Lib.hid hKK1
    clear hKK1
    go_wp2_with fail
    exact HKK1.out _ _ (hnext HW HR HBW Hq Hh Hk VH LQ PS PO SG)
end Go.Proofs.YtkjclafbpocabaaGreatDoor
