/-
  Contracts of the program's own functions (and their plain mathematics), on the way to the law: each for all arguments that its hypotheses let.
-/
import Derived.Test.YtedpafdfecofnaaGreatDoorD28
import Derived.WalkKit
import Derived.WalkSpells
import Derived.WalkLawsBesides
import Derived.Deep.QuietTactic
import Derived.BigQuiet
import Derived.Lib.Hide
import Derived.WalkSmall
import Derived.Maps.OwnSet
import Derived.Maps.RangeWalk
import Derived.Deep.RegionWith
import Derived.Deep.RegionHeld3
import Derived.Deep.DrawnRows
import Derived.Deep.DeepCutAuto
import Derived.OneCell
import Derived.KernelRfl
import Derived.Laws.StructEq
import Derived.StillTailTactics
import Derived.Laws.Externs
import Derived.RangeFuncBox
import Derived.Test.YtedpafdfecofnaaGreatDoorPlain
set_option linter.unusedSimpArgs false
set_option linter.unusedVariables false

/-! ## S59 -/
namespace Go.Proofs.YtedpafdfecofnaaGreatDoor
open Go.RowKit Go.Maps Go.Shelf Go.Sort
attribute [local go_sem ↓] Go.wp_at_zero Go.wp_at_succ
set_option maxRecDepth 100000 in
set_option maxHeartbeats 4000000 in
theorem twice_27_27 (F G : Int → List (Int × Int) → Int → List (Int × Int) → Int × List (Int × Int) × Int → Prop) (hF : Hid (OpC 27 F)) (hG : Hid (OpC 27 G)) (dx dy dz : Int) (vx vy vz : Value) (lx ly lz : List (Int × Int)) (w : World) (hx : TermsAt w vx lx) (hy : TermsAt w vy ly) (hz : TermsAt w vz lz)
    (ex : lx.length ≤ 1000) (ey : ly.length ≤ 1000) (ez : lz.length ≤ 1000) :
    Calls Tryz.prog 47 #[.func (.func 27) #[] #[], .func (.func 27) #[] #[], .agg #[.int .i64 dx, vx], .agg #[.int .i64 dy, vy], .agg #[.int .i64 dz, vz]] w (TwiceTo F G dx dy dz lx ly lz w) := by
  obtain ⟨ax, cx, rfl, _⟩ := hx.placed
  obtain ⟨ay, cy, rfl, _⟩ := hy.placed
  obtain ⟨az, cz, rfl, _⟩ := hz.placed
  obtain ⟨W4, hW4⟩ : ∃ W4, (((w.alloc (.cells #[.int .i64 dx, .slice ax lx.length cx] 24)).alloc (.cells #[.int .i64 dy, .slice ay ly.length cy] 24)).alloc (.cells #[.int .i64 dz, .slice az lz.length cz] 24)).alloc (.cells #[.int .i64 0, .slice none 0 0] 24) = W4 := ⟨_, rfl⟩
  have b4 : Below w.heap.size w W4 := by rw [← hW4]; exact ((((Below.refl _ w).alloc (Nat.le_refl _) _).alloc (by simp) _).alloc (by simp; omega) _).alloc (by simp; omega) _
  have hs4 : W4.heap.size = w.heap.size + 4 := by rw [← hW4]; simp
  have x6 : Two W4 w.heap.size (.int .i64 dx) (.slice ax lx.length cx) 24 := by
    rw [← hW4]; exact (((Two.new w _ _ 24).alloc _).alloc _).alloc _
  have y6 : Two W4 (w.heap.size + 1) (.int .i64 dy) (.slice ay ly.length cy) 24 := by
    rw [← hW4]
    have := ((Two.new (w.alloc (.cells #[.int .i64 dx, .slice ax lx.length cx] 24)) (.int .i64 dy) (.slice ay ly.length cy) 24).alloc (.cells #[.int .i64 dz, .slice az lz.length cz] 24)).alloc (.cells #[.int .i64 0, .slice none 0 0] 24)
    simpa using this
  have z6 : Two W4 (w.heap.size + 2) (.int .i64 dz) (.slice az lz.length cz) 24 := by
    rw [← hW4]
    have := (Two.new ((w.alloc (.cells #[.int .i64 dx, .slice ax lx.length cx] 24)).alloc (.cells #[.int .i64 dy, .slice ay ly.length cy] 24)) (.int .i64 dz) (.slice az lz.length cz) 24).alloc (.cells #[.int .i64 0, .slice none 0 0] 24)
    simpa using this
  have r6 : Two W4 (w.heap.size + 3) (.int .i64 0) (.slice none 0 0) 24 := by
    rw [← hW4]
    have := Two.new (((w.alloc (.cells #[.int .i64 dx, .slice ax lx.length cx] 24)).alloc (.cells #[.int .i64 dy, .slice ay ly.length cy] 24)).alloc (.cells #[.int .i64 dz, .slice az lz.length cz] 24)) (.int .i64 0) (.slice none 0 0) 24
    simpa using this
  have RR := Lib.hid r6
  have HB := Lib.hid b4
  have HX := Lib.hid (fun w' (hb : Below W4.heap.size W4 w') => (hx.below b4).below hb)
  have HY := Lib.hid (fun w' (hb : Below W4.heap.size W4 w') => (hy.below b4).below hb)
  have HZ := Lib.hid (fun w' (hb : Below W4.heap.size W4 w') => (hz.below b4).below hb)
  have KK : Hid (∀ w', Below W4.heap.size W4 w' → w'.cell? ⟨w.heap.size, 0, none⟩ = some (.int .i64 dx) ∧ w'.cell? ⟨w.heap.size, 1, none⟩ = some (.slice ax lx.length cx) ∧ w'.cell? ⟨w.heap.size + 1, 0, none⟩ = some (.int .i64 dy) ∧ w'.cell? ⟨w.heap.size + 1, 1, none⟩ = some (.slice ay ly.length cy)) := Lib.hid fun w' hb => by
    have a := x6.below hb (by omega)
    have b := y6.below hb (by omega)
    exact ⟨a.c0, a.c1, b.c0, b.c1⟩
  have XX := Lib.hid x6
  have YY := Lib.hid y6
  have ZZ := Lib.hid z6
  have HS := Lib.hid hs4
  have OX := Lib.hid (fun w' h => own_any dx (.slice ax lx.length cx) lx w' h ex)
  have OY := Lib.hid (fun w' h => own_any dy (.slice ay ly.length cy) ly w' h ey)
  have OZ := Lib.hid (fun w' h => own_any dz (.slice az lz.length cz) lz w' h ez)
  have hz1 : w.heap.size < W4.heap.size := by omega
  have hz2 : w.heap.size + 1 < W4.heap.size := by omega
  have hz3 : w.heap.size + 2 < W4.heap.size := by omega
  have hz4 : w.heap.size + 3 < W4.heap.size := by omega
  have B0 := Below.refl W4.heap.size W4
  clear hx hy hz x6 y6 z6 r6 b4 hs4 ex ey ez
  go_enter Tryz.func47, Tryz.ntmps47
  go_upto_region 1 with fail
  clear hW4
  go_cut [12, 13] (fun p q wx => Mid (F dx lx dy ly) W4 p q wx)
  case first =>
    go_region_held3 (fun w' => w'.cell? ⟨w.heap.size, 0, none⟩ = some (.int .i64 dx) ∧ w'.cell? ⟨w.heap.size, 1, none⟩ = some (.slice ax lx.length cx) ∧ w'.cell? ⟨w.heap.size + 1, 0, none⟩ = some (.int .i64 dy) ∧ w'.cell? ⟨w.heap.size + 1, 1, none⟩ = some (.slice ay ly.length cy))
      (first | exact KK.out _ (by (first | assumption | exact B0.drew | exact (B0.drew).alloc (by simp) _ | exact Below.alloc (by assumption) (Below.size (by assumption)) _)) | exact KK.out _ (by (exact (B3.setCell (by first | exact Nat.le_refl _ | exact B1.size | exact B2.size) _).setCell (by first | exact Nat.le_refl _ | exact B1.size | exact B2.size) _)))
      (first
        | (go_at_call 19; ((with_reducible refine (OX.out _ ?_).mono ?_); (exact HX.out _ (by (first | assumption | exact B0.drew | exact (B0.drew).alloc (by simp) _ | exact Below.alloc (by assumption) (Below.size (by assumption)) _)))); rintro e w1 ⟨v1, rfl, ht1, hb1, hk1⟩; have B1 := Below.chain (W := W4) (by (first | assumption | exact B0.drew | exact (B0.drew).alloc (by simp) _ | exact Below.alloc (by assumption) (Below.size (by assumption)) _)) hb1; first | (have RX : Two w1 W4.heap.size (.int .i64 0) (.slice none 0 0) 24 := (Two.new W4.drew (.int .i64 0) (.slice none 0 0) 24).below hb1 (by simp)) | skip)
        | (go_at_call 19; ((with_reducible refine (OY.out _ ?_).mono ?_); (exact HY.out _ (by (first | assumption | exact B0.drew | exact (B0.drew).alloc (by simp) _ | exact Below.alloc (by assumption) (Below.size (by assumption)) _)))); rintro e w2 ⟨v2, rfl, ht2, hb2, hk2⟩; have B2 := Below.chain (W := W4) (by (first | assumption | exact B0.drew | exact (B0.drew).alloc (by simp) _ | exact Below.alloc (by assumption) (Below.size (by assumption)) _)) hb2; have ht1 := (by first | exact ht1.below hb2 | exact (ht1.alloc _).below hb2); first | (have RX := RX.below hb2 RX.lt) | (have RX : Two w2 w1.heap.size (.int .i64 0) (.slice none 0 0) 24 := (Two.new w1 (.int .i64 0) (.slice none 0 0) 24).below hb2 (by simp)) | skip)
        | (go_at_call 27; ((with_reducible refine (hF.out.call dx dy _ _ lx ly _ ?_ ?_).mono ?_); (first | exact ht1 | exact ht1.alloc _); (first | exact ht2 | exact ht2.alloc _)); rintro e w3 ⟨r, hP, v3, rfl, ht3, hb3, hk3⟩; obtain ⟨a3, c3, rfl, px3⟩ := ht3.placed; have B3 := Below.chain (W := W4) (by (first | assumption | exact B0.drew | exact (B0.drew).alloc (by simp) _ | exact Below.alloc (by assumption) (Below.size (by assumption)) _)) hb3; first | (have RX := RX.below hb3 RX.lt; have r0 := RX.c0; have r1 := RX.c1; have f0 := RX.fr (i := 0); have f1 := RX.fr (i := 1); have hr := RX.lt) | (have RX : Two w3 w2.heap.size (.int .i64 0) (.slice none 0 0) 24 := (Two.new w2 (.int .i64 0) (.slice none 0 0) 24).below hb3 (by simp); have r0 := RX.c0; have r1 := RX.c1; have f0 := RX.fr (i := 0); have f1 := RX.fr (i := 1); have hr := RX.lt) | skip))
    all_goals
      go_wp2_with fail
      go_meet
      first | exact mid_new hP ht3 (fun k hk => by have q1 := hk3 k hk; have q2 := B2.size; omega) B3 | exact mid_close RX hP ht3 (fun k hk => by have q1 := hb1.size; have q2 := hb2.size; have q3 := hk3 k hk; simp at q1 q2 q3; omega) (by first | exact Nat.le_refl _ | exact B1.size | exact B2.size) B3
  case rest =>
    obtain ⟨b, r, v, rfl, rfl, hP, R1, ht, hbs, HB1, hk1⟩ := hcut
    obtain ⟨a, c, rfl, px⟩ := ht.placed
    clear px hk1
    have HP := Lib.hid hP
    have RRm := Lib.hid (RR.out.below HB1 (by have := HS.out; omega))
    have Z1 := (ZZ.out).below HB1 (by have := HS.out; omega)
    have HZ1 := HZ.out _ HB1
    have HB2 := Lib.hid (HB.out.trans (HB1.mono (by have := HS.out; omega)))
    have hbb : w.heap.size + 2 < b := by have := HS.out; omega
    have e1 : w.heap.size + 2 < wc.heap.size := Z1.lt
    have e2 : b < wc.heap.size := R1.lt
    have KZ : Hid (∀ w', Below wc.heap.size wc w' → w'.cell? ⟨b, 0, none⟩ = some (.int .i64 r.1) ∧ w'.cell? ⟨b, 1, none⟩ = some (.slice a r.2.1.length c) ∧ w'.cell? ⟨w.heap.size + 2, 0, none⟩ = some (.int .i64 dz) ∧ w'.cell? ⟨w.heap.size + 2, 1, none⟩ = some (.slice az lz.length cz)) := Lib.hid fun w' hb => by
      have p := R1.below hb e2
      have q := Z1.below hb e1
      exact ⟨p.c0, p.c1, q.c0, q.c1⟩
    have HR := Lib.hid (fun w' (hb : Below wc.heap.size wc w') => ht.below hb)
    have HZ2 := Lib.hid (fun w' (hb : Below wc.heap.size wc w') => HZ1.below hb)
    have B0 := Below.refl wc.heap.size wc
    have hk := KZ.out wc B0
    obtain ⟨k0, k1, k2, k3⟩ := hk
    clear B0 hP ht HB1 Z1 HZ1 R1
    have B0 := Below.refl wc.heap.size wc
    have e3 : w.heap.size < wc.heap.size := by omega
    have e4 : w.heap.size + 1 < wc.heap.size := by omega
    clear hbs hz1 hz2 hz3 hz4
    go_upto_region 2 with fail
    go_cut [14, 15] (fun p q wx => Mid (G r.1 r.2.1 dz lz) wc p q wx)
    case first =>
      go_region_held3 (fun w' => w'.cell? ⟨b, 0, none⟩ = some (.int .i64 r.1) ∧ w'.cell? ⟨b, 1, none⟩ = some (.slice a r.2.1.length c) ∧ w'.cell? ⟨w.heap.size + 2, 0, none⟩ = some (.int .i64 dz) ∧ w'.cell? ⟨w.heap.size + 2, 1, none⟩ = some (.slice az lz.length cz))
        (first | exact KZ.out _ (by (first | assumption | exact B0.drew | exact (B0.drew).alloc (by simp) _ | exact Below.alloc (by assumption) (Below.size (by assumption)) _)) | exact KZ.out _ (by (exact (B3.setCell (by first | exact Nat.le_refl _ | exact B1.size | exact B2.size) _).setCell (by first | exact Nat.le_refl _ | exact B1.size | exact B2.size) _)))
        (first
          | (go_at_call 19; ((with_reducible refine (OZ.out _ ?_).mono ?_); (exact HZ2.out _ (by (first | assumption | exact B0.drew | exact (B0.drew).alloc (by simp) _ | exact Below.alloc (by assumption) (Below.size (by assumption)) _)))); rintro e w2 ⟨v2, rfl, ht2, hb2, hk2⟩; have B2 := Below.chain (W := wc) (by (first | assumption | exact B0.drew | exact (B0.drew).alloc (by simp) _ | exact Below.alloc (by assumption) (Below.size (by assumption)) _)) hb2; first | (have RX : Two w2 wc.heap.size (.int .i64 0) (.slice none 0 0) 24 := (Two.new wc.drew (.int .i64 0) (.slice none 0 0) 24).below hb2 (by simp)) | skip)
          | (go_at_call 27; ((with_reducible refine (hG.out.call r.1 dz _ _ r.2.1 lz _ ?_ ?_).mono ?_); (exact HR.out _ (by (first | assumption | exact B0.drew | exact (B0.drew).alloc (by simp) _ | exact Below.alloc (by assumption) (Below.size (by assumption)) _))); (first | exact ht2 | exact ht2.alloc _)); rintro e w3 ⟨r3, hP, v3, rfl, ht3, hb3, hk3⟩; obtain ⟨a3, c3, rfl, px3⟩ := ht3.placed; have B3 := Below.chain (W := wc) (by (first | assumption | exact B0.drew | exact (B0.drew).alloc (by simp) _ | exact Below.alloc (by assumption) (Below.size (by assumption)) _)) hb3; first | (have RX := RX.below hb3 RX.lt; have r0 := RX.c0; have r1 := RX.c1; have f0 := RX.fr (i := 0); have f1 := RX.fr (i := 1); have hr := RX.lt) | (have RX : Two w3 w2.heap.size (.int .i64 0) (.slice none 0 0) 24 := (Two.new w2 (.int .i64 0) (.slice none 0 0) 24).below hb3 (by simp); have r0 := RX.c0; have r1 := RX.c1; have f0 := RX.fr (i := 0); have f1 := RX.fr (i := 1); have hr := RX.lt) | skip))
      all_goals
        go_wp2_with fail
        go_meet
        first | exact mid_new hP ht3 (fun k hk => by have q1 := hk3 k hk; have q2 := B2.size; omega) B3 | exact mid_close RX hP ht3 (fun k hk => by have q2 := hb2.size; have q3 := hk3 k hk; simp at q2 q3; omega) (by first | exact Nat.le_refl _ | exact B2.size) B3
    case rest =>
      obtain ⟨b2, r3, v, rfl, rfl, hP3, R2, ht2, hbs2, HB3, hk3⟩ := hcut
      obtain ⟨a2, c2, rfl, px2⟩ := ht2.placed
      have RQ := RRm.out.below HB3 RRm.out.lt
      have HBF := Lib.hid (HB2.out.trans (HB3.mono HB2.out.size))
      have HT := Lib.hid ht2
      have HQ := Lib.hid RQ
      have HP3 := Lib.hid hP3
      have HK := Lib.hid (fun k h => show w.heap.size + 4 ≤ k by have := hk3 k h; have := RRm.out.lt; omega)
      have hbb2 : w.heap.size + 3 < b2 := by have := RRm.out.lt; omega
      have d0 := R2.c0
      have d1 := R2.c1
      have d2 := RQ.c0
      have d3 := RQ.c1
      have d4 := RQ.fr (i := 0)
      have d5 := RQ.fr (i := 1)
      have hl := RQ.lt
      obtain ⟨n1, hn1⟩ : ∃ n : Int, r.2.2 = n := ⟨_, rfl⟩
      obtain ⟨n2, hn2⟩ : ∃ n : Int, r3.2.2 = n := ⟨_, rfl⟩
      rw [hn1, hn2]
      have N1 := Lib.hid hn1
      have N2 := Lib.hid hn2
      clear hk3 hn1 hn2 hP3 R2 RQ ht2 px2 HB3 hbs2 k0 k1 k2 k3 KZ HR HZ2 e1 e2 e3 e4
      by_cases h1 : n1 = 0
      · subst h1
        by_cases h2 : n2 = 0
        · subst h2
          go_wp2
          obtain ⟨q0, q1, q2, hg⟩ := two_after (b := w.heap.size + 1 + 1 + 1) HQ.out (.int .i64 r3.1) (.slice a2 r3.2.1.length c2) rfl
          refine bodyPost_ret (v := .tuple #[.agg #[.int .i64 r3.1, .slice a2 r3.2.1.length c2], .bool true]) ?_ rfl ?_
          · simp [results, Tryz.results47, go_sem, q0, q1, q2]
          · refine ⟨r, r3, _, HP.out, HP3.out, by rw [N1.out, N2.out]; simp , HT.out.kept hg ?_, HBF.out.grown hg HBF.out.size (by intro k hk; cases hk; omega), fun k hk => by have := HK.out k hk; omega⟩
            cases hv : (Value.slice a2 r3.2.1.length c2).ownBlock with
            | none => exact .inl rfl
            | some k => right; have := HK.out k hv; intro e; have := Option.some.inj e; omega
        · have g2 : (n2 == 0) = false := by simpa using h2
          have H2 := Lib.hid h2
          clear h2
          go_wp2
          obtain ⟨q0, q1, q2, hg⟩ := two_after (b := w.heap.size + 1 + 1 + 1) HQ.out (.int .i64 r3.1) (.slice a2 r3.2.1.length c2) rfl
          refine bodyPost_ret (v := .tuple #[.agg #[.int .i64 r3.1, .slice a2 r3.2.1.length c2], .bool false]) ?_ rfl ?_
          · simp [results, Tryz.results47, go_sem, q0, q1, q2]
          · refine ⟨r, r3, _, HP.out, HP3.out, by rw [N1.out, N2.out]; simp [H2.out], HT.out.kept hg ?_, HBF.out.grown hg HBF.out.size (by intro k hk; cases hk; omega), fun k hk => by have := HK.out k hk; omega⟩
            cases hv : (Value.slice a2 r3.2.1.length c2).ownBlock with
            | none => exact .inl rfl
            | some k => right; have := HK.out k hv; intro e; have := Option.some.inj e; omega
      · have g1 : (n1 == 0) = false := by simpa using h1
        have H1 := Lib.hid h1
        clear h1
        go_wp2
        obtain ⟨q0, q1, q2, hg⟩ := two_after (b := w.heap.size + 1 + 1 + 1) HQ.out (.int .i64 r3.1) (.slice a2 r3.2.1.length c2) rfl
        refine bodyPost_ret (v := .tuple #[.agg #[.int .i64 r3.1, .slice a2 r3.2.1.length c2], .bool false]) ?_ rfl ?_
        · simp [results, Tryz.results47, go_sem, q0, q1, q2]
        · refine ⟨r, r3, _, HP.out, HP3.out, by rw [N1.out, N2.out]; simp [H1.out], HT.out.kept hg ?_, HBF.out.grown hg HBF.out.size (by intro k hk; cases hk; omega), fun k hk => by have := HK.out k hk; omega⟩
          cases hv : (Value.slice a2 r3.2.1.length c2).ownBlock with
          | none => exact .inl rfl
          | some k => right; have := HK.out k hv; intro e; have := Option.some.inj e; omega
end Go.Proofs.YtedpafdfecofnaaGreatDoor
