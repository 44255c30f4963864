/-
  Contracts of the program's own functions (and their plain mathematics), on the way to the law: each for all arguments that its hypotheses let.
-/
import Derived.Test.YtkjclafbpocabaaGreatDoorG32
import Derived.Test.YtkjclafbpocabaaGreatDoorG33
import Derived.WalkKit
import Derived.WalkSpells
import Derived.WalkLawsBesides
import Derived.Deep.QuietTactic
import Derived.BigQuiet
import Derived.Lib.Hide
import Derived.WalkSmall
import Derived.Maps.OwnSet
import Derived.Maps.RangeWalk
import Derived.Deep.RegionWith
import Derived.Deep.RegionHeld3
import Derived.Deep.DrawnRows
import Derived.Deep.DeepCutAuto
import Derived.OneCell
import Derived.KernelRfl
import Derived.Laws.StructEq
import Derived.StillTailTactics
import Derived.Laws.Externs
import Derived.RangeFuncBox
import Derived.Test.YtkjclafbpocabaaGreatDoorPlain
set_option linter.unusedSimpArgs false
set_option linter.unusedVariables false

/-! ## Y16 -/
namespace Go.Proofs.YtkjclafbpocabaaGreatDoor
open Go.RowKit Go.Maps Go.Shelf Go.Sort
attribute [local go_sem ↓] Go.wp_at_zero Go.wp_at_succ
set_option maxRecDepth 1000000 in
set_option maxHeartbeats 40000000 in
theorem yseg16 (hsort : Hid SortC) : YSeg16 := by
  intro w p q u v fr to_ W bq aq cq rq bh ah ch rh bg ag cg rg bo ao co ro u0 u1 u2 u3 u4 u5 u6 u7 u8 u9 u10 u11 u13 u15 u16 u17 u18 u21 u24 u25 u26 u27 u28 u29 u30 u31 u32 u33 u34 u35 u36 u37 u38 u39 u40 u41 u42 u43 u44 u45 u46 u47 u48 u49 u50 u51 u52 u53 u54 u55 u56 u57 u58 u59 u60 u61 u62 u63 u64 u65 u66 u67 u68 u69 u70 u71 u72 u73 u74 u75 u76 u77 u78 u79 u80 u81 u82 u83 u84 u85 u86 u87 u88 u89 u90 u91 u92 u93 u94 u95 u96 u97 u98 u99 u100 u101 u102 u103 u104 u105 u106 u107 u108 u109 u110 u111 u112 u113 u114 u115 u116 u117 u118 u119 u120 u121 u122 u123 u124 u125 u126 u127 u128 u129 u130 u131 u132 u133 u134 u135 u136 u137 u138 u139 u140 u141 u142 u143 u144 u145 u146 u147 u148 u149 u150 u151 u152 u153 u154 u155 u156 u157 u158 u159 u160 u161 u162 u163 u164 u165 u166 u167 u168 u169 u170 u171 u172 u173 u174 u175 u176 u177 u178 u179 u180 u181 u182 u183 u184 u185 u186 u187 u188 u189 u190 u191 u192 u193 u194 u195 u196 u197 u198 u199 u200 u201 u202 u203 u204 u205 u206 u207 u208 u209 HW HR HBW Hq Hh Hg Ho VH PS PO SG
  conv => arg 2; whnf
  have wf : IntKind.i64.wrap fr = fr := wrap_year (by have := HR.out.f1; omega) (by have := HR.out.f2; omega)
  have wt : IntKind.i64.wrap to_ = to_ := wrap_year (by have := HR.out.t1; omega) (by have := HR.out.t2; omega)
  have wf1 : IntKind.i64.wrap (fr + 1) = fr + 1 := wrap_year (by have := HR.out.f1; omega) (by have := HR.out.f2; omega)
  have ff1 := HR.out.f1
  have ff2 := HR.out.f2
  have tt1 := HR.out.t1
  have tt2 := HR.out.t2
  clear wf wt wf1 ff1 ff2 tt1 tt2
  go_upto_region 16 with fail
  go_cut [24, 16] (fun p q wx => p = .int .i64 1 ∧ q = .int .i64 0 ∧ Below W.heap.size W wx)
  case first =>
    have fh0 := Hh.out.1.c0
    have fh1 := Hh.out.1.c1
    have fhz := Hh.out.1.lt
    go_wp2_with fail
    refine (sign_call VH SG _ _ Hh.out.2).mono ?_
    rintro e wf ⟨rfl, hb⟩
    have HBF := Lib.hid hb
    clear hb fh0 fh1 fhz
    go_wp2_with fail
    go_meet
    exact ⟨rfl, rfl, HBF.out⟩
  case rest KK0 hKK0 =>
    obtain ⟨rfl, rfl, hb⟩ := hcut
    obtain ⟨w111, hw⟩ : ∃ W, W = wc := ⟨wc, rfl⟩
    subst hw
    replace Hq := Lib.hid (Hq.out.at hb)
    replace Hg := Lib.hid (Hg.out.at hb)
    replace Ho := Lib.hid (Ho.out.at hb)
    replace HBW := Lib.hid (HBW.out.trans (hb.mono HBW.out.size))
    clear hb Hh VH SG
    have K0 := Lib.hid hKK0
    clear hKK0
    refine K0.out _ _ ?_
    have KK : Hid (∀ w', Below w111.heap.size w111 w' → w'.cell? ⟨bq, 0, none⟩ = some (.int .i64 rq.1) ∧ w'.cell? ⟨bq, 1, none⟩ = some (.slice aq rq.2.1.length cq) ∧ w'.cell? ⟨bg, 0, none⟩ = some (.int .i64 rg.1) ∧ w'.cell? ⟨bg, 1, none⟩ = some (.slice ag rg.2.1.length cg) ∧ w'.cell? ⟨bo, 0, none⟩ = some (.int .i64 ro.1) ∧ w'.cell? ⟨bo, 1, none⟩ = some (.slice ao ro.2.1.length co)) := Lib.hid fun w' hb => by
      have aq := Hq.out.at hb
      have ag := Hg.out.at hb
      have ao := Ho.out.at hb
      exact ⟨aq.1.c0, aq.1.c1, ag.1.c0, ag.1.c1, ao.1.c0, ao.1.c1⟩
    have E1 := Lib.hid (fun w' (hb : Below w111.heap.size w111 w') => equal_call (d := rg.1) (e := rq.1) (l := rg.2.1) (m := rq.2.1) (by rw [PS.out]; exact ⟨rfl, rfl⟩) (.slice ag rg.2.1.length cg) (.slice aq rq.2.1.length cq) w' (Hg.out.at hb).2 (Hq.out.at hb).2)
    have E2 := Lib.hid (fun w' v (hb : Below w111.heap.size w111 w') (hv : TermsAt w' v [(1, 1)]) => equal_call (d := ro.1) (e := 1) (l := ro.2.1) (m := [(1, 1)]) (by rw [PO.out]; exact ⟨rfl, rfl⟩) (.slice ao ro.2.1.length co) v w' (Ho.out.at hb).2 hv)
    have E3 := Lib.hid (one_call hsort)
    have E4 := Lib.hid (fun w' (hb : Below w111.heap.size w111 w') => linkYears_any hsort w' (HW.out.below (HBW.out.trans (hb.mono HBW.out.size))))
    have B0 := Below.refl w111.heap.size w111
    clear PS PO Hg Hq Ho
    go_upto_region 17 with fail
    go_cut [6] (fun s wx => s = .bool true ∧ Below w111.heap.size w111 wx)
    case first =>
      go_region_held3 (fun w' => w'.cell? ⟨bq, 0, none⟩ = some (.int .i64 rq.1) ∧ w'.cell? ⟨bq, 1, none⟩ = some (.slice aq rq.2.1.length cq) ∧ w'.cell? ⟨bg, 0, none⟩ = some (.int .i64 rg.1) ∧ w'.cell? ⟨bg, 1, none⟩ = some (.slice ag rg.2.1.length cg) ∧ w'.cell? ⟨bo, 0, none⟩ = some (.int .i64 ro.1) ∧ w'.cell? ⟨bo, 1, none⟩ = some (.slice ao ro.2.1.length co))
        (exact KK.out _ (by (first | assumption | exact B0 | exact B0.drew | exact B0.alloc (by first | exact Nat.le_refl _ | exact B0.size) _ | exact (B0.drew).alloc (by first | exact Nat.le_refl _ | exact B0.size) _ | exact Below.alloc (by assumption) (Below.size (by assumption)) _)))
        (first
          | (go_at_call 65; (with_reducible refine (E3.out _).mono ?_); rintro e w3 ⟨v3, rfl, ht3, hb3, hk3⟩; have B3 := Below.chain (W := w111) (by (first | assumption | exact B0 | exact B0.drew | exact B0.alloc (by first | exact Nat.le_refl _ | exact B0.size) _ | exact (B0.drew).alloc (by first | exact Nat.le_refl _ | exact B0.size) _ | exact Below.alloc (by assumption) (Below.size (by assumption)) _)) hb3)
          | (go_at_call 70; (with_reducible refine (E4.out _ (by (first | assumption | exact B0 | exact B0.drew | exact B0.alloc (by first | exact Nat.le_refl _ | exact B0.size) _ | exact (B0.drew).alloc (by first | exact Nat.le_refl _ | exact B0.size) _ | exact Below.alloc (by assumption) (Below.size (by assumption)) _))).mono ?_); rintro e w5 ⟨rfl, hb5⟩; have B5 := Below.chain (W := w111) (by (first | assumption | exact B0 | exact B0.drew | exact B0.alloc (by first | exact Nat.le_refl _ | exact B0.size) _ | exact (B0.drew).alloc (by first | exact Nat.le_refl _ | exact B0.size) _ | exact Below.alloc (by assumption) (Below.size (by assumption)) _)) hb5)
          | (go_at_call 67; (have hq1 := ht3); clear hq1; (with_reducible refine (E2.out _ _ (by (first | assumption | exact B0 | exact B0.drew | exact B0.alloc (by first | exact Nat.le_refl _ | exact B0.size) _ | exact (B0.drew).alloc (by first | exact Nat.le_refl _ | exact B0.size) _ | exact Below.alloc (by assumption) (Below.size (by assumption)) _)) ?_).mono ?_); (exact ht3); rintro e w4 ⟨rfl, hb4⟩; have B4 := Below.chain (W := w111) (by (first | assumption | exact B0 | exact B0.drew | exact B0.alloc (by first | exact Nat.le_refl _ | exact B0.size) _ | exact (B0.drew).alloc (by first | exact Nat.le_refl _ | exact B0.size) _ | exact Below.alloc (by assumption) (Below.size (by assumption)) _)) hb4)
          | (go_at_call 67; (with_reducible refine (E1.out _ (by (first | assumption | exact B0 | exact B0.drew | exact B0.alloc (by first | exact Nat.le_refl _ | exact B0.size) _ | exact (B0.drew).alloc (by first | exact Nat.le_refl _ | exact B0.size) _ | exact Below.alloc (by assumption) (Below.size (by assumption)) _))).mono ?_); rintro e w2 ⟨rfl, hb2⟩; have B2 := Below.chain (W := w111) (by (first | assumption | exact B0 | exact B0.drew | exact B0.alloc (by first | exact Nat.le_refl _ | exact B0.size) _ | exact (B0.drew).alloc (by first | exact Nat.le_refl _ | exact B0.size) _ | exact Below.alloc (by assumption) (Below.size (by assumption)) _)) hb2))
      all_goals
        go_wp2_with fail
        go_meet
        exact ⟨rfl, B5⟩
    case rest KK1 hKK1 =>
      obtain ⟨rfl, hb⟩ := hcut
      have HBF := Lib.hid (HBW.out.trans (hb.mono HBW.out.size))
      clear hb
      go_wp2
      go_ret
      exact ⟨rfl, HBF.out⟩
end Go.Proofs.YtkjclafbpocabaaGreatDoor
