/-
  Contracts of the program's own functions (and their plain mathematics), on the way to the law: each for all arguments that its hypotheses let.
-/
import Derived.Test.YtedpafdfecofnaaGreatDoorE31
import Derived.WalkKit
import Derived.WalkSpells
import Derived.WalkLawsBesides
import Derived.Deep.QuietTactic
import Derived.BigQuiet
import Derived.Lib.Hide
import Derived.WalkSmall
import Derived.Maps.OwnSet
import Derived.Maps.RangeWalk
import Derived.Deep.RegionWith
import Derived.Deep.RegionHeld3
import Derived.Deep.DrawnRows
import Derived.Deep.DeepCutAuto
import Derived.OneCell
import Derived.KernelRfl
import Derived.Laws.StructEq
import Derived.StillTailTactics
import Derived.Laws.Externs
import Derived.RangeFuncBox
import Derived.Test.YtedpafdfecofnaaGreatDoorPlain
set_option linter.unusedSimpArgs false
set_option linter.unusedVariables false

/-! ## S82 -/
namespace Go.Proofs.YtedpafdfecofnaaGreatDoor
open Go.RowKit Go.Maps Go.Shelf Go.Sort
attribute [local go_sem ↓] Go.wp_at_zero Go.wp_at_succ
set_option maxRecDepth 1000000 in
set_option maxHeartbeats 40000000 in
theorem oseg9 (hk : Hid KnownT) (hadd : Hid (OpC 24 (addF 1))) (hmul : Hid (OpC 27 mulF)) (hnext : OSeg10) : OSeg9 := by
  intro w dx dy dz ax ay az cx cy cz lx ly lz bt W n u0 u2 u4 u5 u6 u7 u8 u9 u10 u11 u12 u13 u14 u15 u16 u17 u18 u19 u20 u21 u22 u23 u24 u25 u26 u27 u28 u29 u30 u31 u32 u33 u34 u35 u36 u37 u38 u39 u40 u41 u42 u43 u44 u45 u46 u47 u48 u49 u50 u51 u52 u53 u54 u55 u56 u57 u58 u59 u60 u61 u62 u63 u64 u65 u66 u67 u68 u69 u70 u71 u72 u73 u74 u75 u76 u77 u78 u79 u80 u81 u82 u83 u84 u85 u86 u87 u88 u89 u90 u91 u92 u93 u94 u95 u96 u97 u98 u99 u100 u101 u102 u103 u104 u105 u106 u107 u108 u109 u110 u111 u112 u113 u114 u115 u116 u117 u118 u119 u120 u121 u122 u123 u124 u125 u126 u127 u128 u129 u130 u131 u132 u133 u134 u135 u136 u137 u138 u139 u140 u141 u142 u143 u144 u145 u146 u147 u148 u149 u150 u151 u152 u153 u154 u155 u156 u157 u158 u159 u160 u161 u162 u163 u164 u165 u166 u167 u168 u169 u170 u171 u172 u173 u174 u175 u176 u177 u178 u179 u180 u181 u182 u183 u184 u185 u186 u187 u188 u189 u190 u191 u192 u193 u194 u195 u196 u197 u198 u199 u200 u201 HW VX VY VZ HBW Hx Hy Hz Sn
  conv => arg 2; whnf
  have KK : Hid (∀ w', Below W.heap.size W w' → w'.cell? ⟨bt, 0, none⟩ = some (.int .i64 dx) ∧ w'.cell? ⟨bt, 1, none⟩ = some (.slice ax lx.length cx) ∧ w'.cell? ⟨bt, 4, none⟩ = some (.int .i64 dz) ∧ w'.cell? ⟨bt, 5, none⟩ = some (.slice az lz.length cz)) := Lib.hid fun w' hb => by
    have ax := Hx.out.at hb
    have az := Hz.out.at hb
    exact ⟨ax.1, ax.2.1, az.1, az.2.1⟩
  have Tx := Lib.hid (fun w' (hb : Below W.heap.size W w') => (Hx.out.at hb).2.2.1)
  have Tz := Lib.hid (fun w' (hb : Below W.heap.size W w') => (Hz.out.at hb).2.2.1)
  have Ox := Lib.hid (fun w' h => own_any dx (.slice ax lx.length cx) lx w' h (by have := VX.out.len; omega))
  have Oz := Lib.hid (fun w' h => own_any dz (.slice az lz.length cz) lz w' h (by have := VZ.out.len; omega))
  have B0 := Below.refl W.heap.size W
  have zx := Hx.out.2.2.2
  have zz := Hz.out.2.2.2
  go_upto_region 9 with fail
  go_cut [11, 4] (fun p q wx => Mid (addF 1 dx lx dz lz) W p q wx)
  case first =>
    go_region_held3 (fun w' => w'.cell? ⟨bt, 0, none⟩ = some (.int .i64 dx) ∧ w'.cell? ⟨bt, 1, none⟩ = some (.slice ax lx.length cx) ∧ w'.cell? ⟨bt, 4, none⟩ = some (.int .i64 dz) ∧ w'.cell? ⟨bt, 5, none⟩ = some (.slice az lz.length cz))
      (first | exact KK.out _ (by (first | assumption | exact B0 | exact B0.drew | exact B0.alloc (by first | exact Nat.le_refl _ | exact B0.size) _ | exact (B0.drew).alloc (by first | exact Nat.le_refl _ | exact B0.size) _ | exact Below.alloc (by assumption) (Below.size (by assumption)) _)) | exact KK.out _ (by (exact (B3.setCell (by first | exact Nat.le_refl _ | exact B0.size | exact B1.size | exact B2.size) _).setCell (by first | exact Nat.le_refl _ | exact B0.size | exact B1.size | exact B2.size) _)))
      (first
        | (go_at_call 19; ((with_reducible refine (Ox.out _ ?_).mono ?_); (exact Tx.out _ (by (first | assumption | exact B0 | exact B0.drew | exact B0.alloc (by first | exact Nat.le_refl _ | exact B0.size) _ | exact (B0.drew).alloc (by first | exact Nat.le_refl _ | exact B0.size) _ | exact Below.alloc (by assumption) (Below.size (by assumption)) _)))); rintro e w1 ⟨v1, rfl, ht1, hb1, hk1⟩; have B1 := Below.chain (W := W) (by (first | assumption | exact B0 | exact B0.drew | exact B0.alloc (by first | exact Nat.le_refl _ | exact B0.size) _ | exact (B0.drew).alloc (by first | exact Nat.le_refl _ | exact B0.size) _ | exact Below.alloc (by assumption) (Below.size (by assumption)) _)) hb1; first | (have RX : Two w1 W.heap.size (.int .i64 0) (.slice none 0 0) 24 := (Two.new W.drew (.int .i64 0) (.slice none 0 0) 24).below hb1 (by simp)) | skip)
        | (go_at_call 19; ((with_reducible refine (Oz.out _ ?_).mono ?_); (exact Tz.out _ (by (first | assumption | exact B0 | exact B0.drew | exact B0.alloc (by first | exact Nat.le_refl _ | exact B0.size) _ | exact (B0.drew).alloc (by first | exact Nat.le_refl _ | exact B0.size) _ | exact Below.alloc (by assumption) (Below.size (by assumption)) _)))); rintro e w2 ⟨v2, rfl, ht2, hb2, hk2⟩; have B2 := Below.chain (W := W) (by (first | assumption | exact B0 | exact B0.drew | exact B0.alloc (by first | exact Nat.le_refl _ | exact B0.size) _ | exact (B0.drew).alloc (by first | exact Nat.le_refl _ | exact B0.size) _ | exact Below.alloc (by assumption) (Below.size (by assumption)) _)) hb2; have ht1 := (by first | exact ht1.below hb2 | exact (ht1.alloc _).below hb2); first | (have RX := RX.below hb2 RX.lt) | (have RX : Two w2 w1.heap.size (.int .i64 0) (.slice none 0 0) 24 := (Two.new w1 (.int .i64 0) (.slice none 0 0) 24).below hb2 (by simp)) | skip)
        | (go_at_call 24; ((with_reducible refine (hadd.out.call dx dz _ _ lx lz _ ?_ ?_).mono ?_); (first | exact ht1 | exact ht1.alloc _); (first | exact ht2 | exact ht2.alloc _)); rintro e w3 ⟨r, hP, v3, rfl, ht3, hb3, hk3⟩; obtain ⟨a3, c3, rfl, px3⟩ := ht3.placed; have B3 := Below.chain (W := W) (by (first | assumption | exact B0 | exact B0.drew | exact B0.alloc (by first | exact Nat.le_refl _ | exact B0.size) _ | exact (B0.drew).alloc (by first | exact Nat.le_refl _ | exact B0.size) _ | exact Below.alloc (by assumption) (Below.size (by assumption)) _)) hb3; first | (have RX := RX.below hb3 RX.lt; have r0 := RX.c0; have r1 := RX.c1; have f0 := RX.fr (i := 0); have f1 := RX.fr (i := 1); have hr := RX.lt) | (have RX : Two w3 w2.heap.size (.int .i64 0) (.slice none 0 0) 24 := (Two.new w2 (.int .i64 0) (.slice none 0 0) 24).below hb3 (by simp); have r0 := RX.c0; have r1 := RX.c1; have f0 := RX.fr (i := 0); have f1 := RX.fr (i := 1); have hr := RX.lt) | skip))
    all_goals
      go_wp2_with fail
      go_meet
      first | exact mid_new hP ht3 (fun k hk => by have q1 := hk3 k hk; have q2 := B2.size; omega) B3 | exact mid_close RX hP ht3 (fun k hk => by have q1 := hb1.size; have q2 := hb2.size; have q3 := hk3 k hk; simp at q1 q2 q3; omega) (by first | exact Nat.le_refl _ | exact B0.size | exact B1.size | exact B2.size) B3
  case rest KK0 hKK0 =>
    obtain ⟨bA, rA, v, rfl, rfl, pA, t1, t2, hsA, hb, hkA⟩ := hcut
    obtain ⟨aA, cA, rfl, px⟩ := t2.placed
    obtain ⟨w106, hw⟩ : ∃ W, W = wc := ⟨wc, rfl⟩
    subst hw
    have HA : Hid (Box _ _ _ _ _) := Lib.hid ⟨t1, t2⟩
    have PA := Lib.hid pA
    replace Hx := Lib.hid (Hx.out.at hb)
    replace Hy := Lib.hid (Hy.out.at hb)
    replace Hz := Lib.hid (Hz.out.at hb)
    replace HBW := Lib.hid (HBW.out.trans (hb.mono HBW.out.size))
    clear B0 KK Tx Tz zx zz Ox Oz hb pA t1 t2 px hsA hkA
    have KK : Hid (∀ w', Below w106.heap.size w106 w' → w'.cell? ⟨bt, 2, none⟩ = some (.int .i64 dy) ∧ w'.cell? ⟨bt, 3, none⟩ = some (.slice ay ly.length cy) ∧ w'.cell? ⟨bt, 4, none⟩ = some (.int .i64 dz) ∧ w'.cell? ⟨bt, 5, none⟩ = some (.slice az lz.length cz)) := Lib.hid fun w' hb => by
      have ay := Hy.out.at hb
      have az := Hz.out.at hb
      exact ⟨ay.1, ay.2.1, az.1, az.2.1⟩
    have Ty := Lib.hid (fun w' (hb : Below w106.heap.size w106 w') => (Hy.out.at hb).2.2.1)
    have Tz := Lib.hid (fun w' (hb : Below w106.heap.size w106 w') => (Hz.out.at hb).2.2.1)
    have Oy := Lib.hid (fun w' h => own_any dy (.slice ay ly.length cy) ly w' h (by have := VY.out.len; omega))
    have Oz := Lib.hid (fun w' h => own_any dz (.slice az lz.length cz) lz w' h (by have := VZ.out.len; omega))
    have B0 := Below.refl w106.heap.size w106
    have zy := Hy.out.2.2.2
    have zz := Hz.out.2.2.2
    go_upto_region 10 with fail
    go_cut [12, 6] (fun p q wx => Mid (addF 1 dy ly dz lz) w106 p q wx)
    case first =>
      go_region_held3 (fun w' => w'.cell? ⟨bt, 2, none⟩ = some (.int .i64 dy) ∧ w'.cell? ⟨bt, 3, none⟩ = some (.slice ay ly.length cy) ∧ w'.cell? ⟨bt, 4, none⟩ = some (.int .i64 dz) ∧ w'.cell? ⟨bt, 5, none⟩ = some (.slice az lz.length cz))
        (first | exact KK.out _ (by (first | assumption | exact B0 | exact B0.drew | exact B0.alloc (by first | exact Nat.le_refl _ | exact B0.size) _ | exact (B0.drew).alloc (by first | exact Nat.le_refl _ | exact B0.size) _ | exact Below.alloc (by assumption) (Below.size (by assumption)) _)) | exact KK.out _ (by (exact (B3.setCell (by first | exact Nat.le_refl _ | exact B0.size | exact B1.size | exact B2.size) _).setCell (by first | exact Nat.le_refl _ | exact B0.size | exact B1.size | exact B2.size) _)))
        (first
          | (go_at_call 19; ((with_reducible refine (Oy.out _ ?_).mono ?_); (exact Ty.out _ (by (first | assumption | exact B0 | exact B0.drew | exact B0.alloc (by first | exact Nat.le_refl _ | exact B0.size) _ | exact (B0.drew).alloc (by first | exact Nat.le_refl _ | exact B0.size) _ | exact Below.alloc (by assumption) (Below.size (by assumption)) _)))); rintro e w1 ⟨v1, rfl, ht1, hb1, hk1⟩; have B1 := Below.chain (W := w106) (by (first | assumption | exact B0 | exact B0.drew | exact B0.alloc (by first | exact Nat.le_refl _ | exact B0.size) _ | exact (B0.drew).alloc (by first | exact Nat.le_refl _ | exact B0.size) _ | exact Below.alloc (by assumption) (Below.size (by assumption)) _)) hb1; first | (have RX : Two w1 w106.heap.size (.int .i64 0) (.slice none 0 0) 24 := (Two.new w106.drew (.int .i64 0) (.slice none 0 0) 24).below hb1 (by simp)) | skip)
          | (go_at_call 19; ((with_reducible refine (Oz.out _ ?_).mono ?_); (exact Tz.out _ (by (first | assumption | exact B0 | exact B0.drew | exact B0.alloc (by first | exact Nat.le_refl _ | exact B0.size) _ | exact (B0.drew).alloc (by first | exact Nat.le_refl _ | exact B0.size) _ | exact Below.alloc (by assumption) (Below.size (by assumption)) _)))); rintro e w2 ⟨v2, rfl, ht2, hb2, hk2⟩; have B2 := Below.chain (W := w106) (by (first | assumption | exact B0 | exact B0.drew | exact B0.alloc (by first | exact Nat.le_refl _ | exact B0.size) _ | exact (B0.drew).alloc (by first | exact Nat.le_refl _ | exact B0.size) _ | exact Below.alloc (by assumption) (Below.size (by assumption)) _)) hb2; have ht1 := (by first | exact ht1.below hb2 | exact (ht1.alloc _).below hb2); first | (have RX := RX.below hb2 RX.lt) | (have RX : Two w2 w1.heap.size (.int .i64 0) (.slice none 0 0) 24 := (Two.new w1 (.int .i64 0) (.slice none 0 0) 24).below hb2 (by simp)) | skip)
          | (go_at_call 24; ((with_reducible refine (hadd.out.call dy dz _ _ ly lz _ ?_ ?_).mono ?_); (first | exact ht1 | exact ht1.alloc _); (first | exact ht2 | exact ht2.alloc _)); rintro e w3 ⟨r, hP, v3, rfl, ht3, hb3, hk3⟩; obtain ⟨a3, c3, rfl, px3⟩ := ht3.placed; have B3 := Below.chain (W := w106) (by (first | assumption | exact B0 | exact B0.drew | exact B0.alloc (by first | exact Nat.le_refl _ | exact B0.size) _ | exact (B0.drew).alloc (by first | exact Nat.le_refl _ | exact B0.size) _ | exact Below.alloc (by assumption) (Below.size (by assumption)) _)) hb3; first | (have RX := RX.below hb3 RX.lt; have r0 := RX.c0; have r1 := RX.c1; have f0 := RX.fr (i := 0); have f1 := RX.fr (i := 1); have hr := RX.lt) | (have RX : Two w3 w2.heap.size (.int .i64 0) (.slice none 0 0) 24 := (Two.new w2 (.int .i64 0) (.slice none 0 0) 24).below hb3 (by simp); have r0 := RX.c0; have r1 := RX.c1; have f0 := RX.fr (i := 0); have f1 := RX.fr (i := 1); have hr := RX.lt) | skip))
      all_goals
        go_wp2_with fail
        go_meet
        first | exact mid_new hP ht3 (fun k hk => by have q1 := hk3 k hk; have q2 := B2.size; omega) B3 | exact mid_close RX hP ht3 (fun k hk => by have q1 := hb1.size; have q2 := hb2.size; have q3 := hk3 k hk; simp at q1 q2 q3; omega) (by first | exact Nat.le_refl _ | exact B0.size | exact B1.size | exact B2.size) B3
    case rest KK0 hKK0 =>
      obtain ⟨bB, rB, v, rfl, rfl, pB, t1, t2, hsB, hb, hkB⟩ := hcut
      obtain ⟨aB, cB, rfl, px⟩ := t2.placed
      obtain ⟨w107, hw⟩ : ∃ W, W = wc := ⟨wc, rfl⟩
      subst hw
      have HB : Hid (Box _ _ _ _ _) := Lib.hid ⟨t1, t2⟩
      have PB := Lib.hid pB
      replace Hx := Lib.hid (Hx.out.at hb)
      replace Hy := Lib.hid (Hy.out.at hb)
      replace Hz := Lib.hid (Hz.out.at hb)
      replace HA := Lib.hid (HA.out.at hb)
      replace HBW := Lib.hid (HBW.out.trans (hb.mono HBW.out.size))
      clear B0 KK Ty Tz zy zz Oy Oz hb pB t1 t2 px hsB hkB
      exact hKK0 _ _ (hnext HW VX VY VZ HBW Hx Hy Hz HA HB Sn PA PB)
end Go.Proofs.YtedpafdfecofnaaGreatDoor
