/-
  Contracts of the program's own functions (and their plain mathematics), on the way to the law: each for all arguments that its hypotheses let.
-/
import Derived.Test.YtkjclafbpocabaaGreatDoorH10
import Derived.Test.YtkjclafbpocabaaGreatDoorH11
import Derived.Test.YtkjclafbpocabaaGreatDoorH12
import Derived.Test.YtkjclafbpocabaaGreatDoorG31
import Derived.Test.YtkjclafbpocabaaGreatDoorG33
import Derived.WalkKit
import Derived.WalkSpells
import Derived.WalkLawsBesides
import Derived.Deep.QuietTactic
import Derived.BigQuiet
import Derived.Lib.Hide
import Derived.WalkSmall
import Derived.Maps.OwnSet
import Derived.Maps.RangeWalk
import Derived.Deep.RegionWith
import Derived.Deep.RegionHeld3
import Derived.Deep.DrawnRows
import Derived.Deep.DeepCutAuto
import Derived.OneCell
import Derived.KernelRfl
import Derived.Laws.StructEq
import Derived.StillTailTactics
import Derived.Laws.Externs
import Derived.RangeFuncBox
import Derived.Test.YtkjclafbpocabaaGreatDoorPlain
set_option linter.unusedSimpArgs false
set_option linter.unusedVariables false

/-! ## ZC17 -/
namespace Go.Proofs.YtkjclafbpocabaaGreatDoor
open Go.RowKit Go.Maps Go.Shelf Go.Sort
def BoxO (W : World) (b : Nat) (n : Int) (v : Value) : Prop := Two W b (.int .i64 n) v 24
set_option maxRecDepth 100000 in
set_option maxHeartbeats 8000000 in
theorem corrected_walk (hsort : Hid SortC) (n N : Int) (v : Value) (ps : PiecesL) (w : World) (h : PiecesAtz w v ps) (hbig : ps.length * 32 ≤ 140737488351232) (hw : WOk w) : Calls Tryz.prog 16 #[.agg #[.int .i64 n, v], .int .i64 N] w (AnsB true w) := by
  obtain ⟨a, cap, rfl, _, _⟩ := h.placed
  have B1 := (Below.refl w.heap.size w).alloc (Nat.le_refl _) (.cells #[.int .i64 n, .slice a ps.length cap] 24)
  have X1 := Two.new w (.int .i64 n) (.slice a ps.length cap) 24
  have P1 := h.below B1
  obtain ⟨w1, hw1⟩ : ∃ w1, w.alloc (.cells #[.int .i64 n, .slice a ps.length cap] 24) = w1 := ⟨_, rfl⟩
  rw [hw1] at B1 X1 P1
  have HK := Lib.hid (fun (W : World) (hb : Below w.heap.size w W) => knownCords_any hsort W (hw.below hb))
  have HOO := Lib.hid (fun (W : World) (hb : Below w1.heap.size w1 W) => oldOf_any n _ ps W (P1.below hb) hbig)
  have x0 := X1.c0
  have x1 := X1.c1
  have HX1 := Lib.hid X1
  have HB1 := Lib.hid B1
  clear h hw hbig P1 X1 B1
  go_enter Tryz.func16, Tryz.ntmps16
  go_wp2_with fail
  clear hw1
  refine (HOO.out _ (Below.refl _ _)).mono ?_
  rintro e w2 ⟨hb2, ⟨hsh, a2, k2, c2, rfl⟩ | ⟨hsh, ms2, v2, rfl, hrow2, hmi2⟩⟩
  · have HB2 := Lib.hid (HB1.out.trans (hb2.mono HB1.out.size))
    have HKC := Lib.hid (HK.out _ (HB2.out.alloc HB2.out.size (.cells #[.int .i64 n, .slice a2 k2 c2] 24)))
    clear hb2 hsh x0 x1
    go_wp2_with fail
    refine HKC.out.mono ?_
    rintro e w3 ⟨rfl, hb3⟩
    have HB3 := Lib.hid ((HB2.out.alloc HB2.out.size (.cells #[.int .i64 n, .slice a2 k2 c2] 24)).trans (hb3.mono (by have := HB2.out.size; simp; omega)))
    clear hb3
    go_wp2
    go_ret
    exact ⟨rfl, HB3.out⟩
  · obtain ⟨a2, c2, rfl, _⟩ := hrow2.shape
    have B2 := HB1.out.trans (hb2.mono HB1.out.size)
    by_cases h12 : ps.length ≤ 12
    · rw [show decide (ps.length ≤ 12) = true from decide_eq_true h12]
      have HSH := Lib.hid hsh
      have HX2 := Lib.hid ((HX1.out.below hb2 HX1.out.lt).alloc (.cells #[.int .i64 n, .slice a2 ps.length c2] 24))
      have HB2 := Lib.hid (B2.alloc B2.size (.cells #[.int .i64 n, .slice a2 ps.length c2] 24))
      have HI2 := Lib.hid (Two.new w2 (.int .i64 n) (.slice a2 ps.length c2) 24)
      have hp2 := (hrow2.at hmi2 (by omega)).alloc (.cells #[.int .i64 n, .slice a2 ps.length c2] 24)
      have HB12 := Lib.hid (hb2.alloc hb2.size (.cells #[.int .i64 n, .slice a2 ps.length c2] 24))
      have HEX := Lib.hid (extend_old hsort n N _ ps _ hp2)
      have i0 := HI2.out.c0
      have i1 := HI2.out.c1
      have H12 := Lib.hid h12
      clear hb2 hrow2 hmi2 B2 hsh x0 x1 hp2 h12
      go_wp2_with fail
      refine HEX.out.mono ?_
      rintro e w3 ⟨⟨⟨n3, ps3⟩, e3⟩, ms3, v3, he3, rfl, hrow3, hmi3, hpl3, hb3⟩
      obtain ⟨a3, c3, rfl, _⟩ := hrow3.shape
      simp only at hrow3 hmi3 hpl3
      dsimp only
      have HX3 := Lib.hid ((HX2.out.below hb3 HX2.out.lt).alloc (.cells #[.int .i64 n3, .slice a3 ps3.length c3] 24))
      have B3' := HB2.out.trans (hb3.mono HB2.out.size)
      have HB3 := Lib.hid (B3'.alloc B3'.size (.cells #[.int .i64 n3, .slice a3 ps3.length c3] 24))
      have B13' := HB12.out.trans (hb3.mono HB12.out.size)
      have HB13 := Lib.hid (B13'.alloc B13'.size (.cells #[.int .i64 n3, .slice a3 ps3.length c3] 24))
      have HQ3 := Lib.hid (Two.new w3 (.int .i64 n3) (.slice a3 ps3.length c3) 24)
      have HP3 := Lib.hid ((hrow3.at hmi3 (by omega)).alloc (.cells #[.int .i64 n3, .slice a3 ps3.length c3] 24))
      have HE3 := Lib.hid he3
      have q0 := HQ3.out.c0
      have q1 := HQ3.out.c1
      clear hrow3 hmi3 hb3 B3' B13' he3 HX2 HB2 HI2 HB12 HEX i0 i1
      by_cases h0 : e3 = 0
      · subst h0
        have HE : Hid (ExtTo (n, ps) N ((n3, ps3), 0)) := HE3
        obtain ⟨_, hN, _⟩ := ext_ok HE.out rfl
        have hN1 : ¬ N < 1 := by omega
        have hN2 : ¬ 1000 < N := by omega
        have HN := Lib.hid hN
        clear hN
        have x0 := HX3.out.c0
        have x1 := HX3.out.c1
        go_wp2_with fail
        refine (HOO.out _ HB13.out).mono ?_
        rintro e w5 ⟨hb5, ⟨hsh5, _⟩ | ⟨_, ms5, v5, rfl, hrow5, hmi5⟩⟩
        · exact absurd (hsh5.symm.trans HSH.out) (by simp)
        · obtain ⟨a5, c5, rfl, _⟩ := hrow5.shape
          have l12 := H12.out
          have HQ5 := Lib.hid ((HQ3.out.below hb5 HQ3.out.lt).alloc (.cells #[.int .i64 n, .slice a5 ps.length c5] 24))
          have HP5 := Lib.hid ((HP3.out.below hb5).alloc (.cells #[.int .i64 n, .slice a5 ps.length c5] 24))
          have B5' := HB3.out.trans (hb5.mono HB3.out.size)
          have HB5 := Lib.hid (B5'.alloc B5'.size (.cells #[.int .i64 n, .slice a5 ps.length c5] 24))
          have HO5 := Lib.hid (Two.new w5 (.int .i64 n) (.slice a5 ps.length c5) 24)
          have HVX := Lib.hid (value_any hsort n _ ps _ ((hrow5.at hmi5 (by omega)).alloc (.cells #[.int .i64 n, .slice a5 ps.length c5] 24)))
          have o0 := HO5.out.c0
          have o1 := HO5.out.c1
          clear hb5 hrow5 hmi5 B5' x0 x1 q0 q1 HX3 HB13 HQ3 HP3 HB3 HOO l12
          go_wp2_with fail
          refine HVX.out.mono ?_
          rintro e w6 ⟨x, hx, vx, rfl, htx, hb6, _⟩
          obtain ⟨ax, cx, rfl, _⟩ := htx.placed
          obtain ⟨hx0, _, hxv⟩ := cor_x HE.out rfl hx
          rw [hx0]
          have HXV := Lib.hid hxv
          have HXX := Lib.hid hx
          have HQ6 := Lib.hid ((HQ5.out.below hb6 HQ5.out.lt).alloc (.cells #[.int .i64 x.1, .slice ax x.2.1.length cx] 34))
          have HP6 := Lib.hid ((HP5.out.below hb6).alloc (.cells #[.int .i64 x.1, .slice ax x.2.1.length cx] 34))
          have B6' := HB5.out.trans (hb6.mono HB5.out.size)
          have HB6 := Lib.hid (B6'.alloc B6'.size (.cells #[.int .i64 x.1, .slice ax x.2.1.length cx] 34))
          have HT6 := Lib.hid (htx.alloc (.cells #[.int .i64 x.1, .slice ax x.2.1.length cx] 34))
          have HX6 := Lib.hid (Two.new w6 (.int .i64 x.1) (.slice ax x.2.1.length cx) 34)
          have q0 := HQ6.out.c0
          have q1 := HQ6.out.c1
          have HVY := Lib.hid (value_any hsort n3 _ ps3 _ HP6.out)
          clear hb6 htx B6' o0 o1 HQ5 HP5 HB5 HO5 HVX hx0 hxv hx
          go_wp2_with fail
          refine HVY.out.mono ?_
          rintro e w7 ⟨y, hy, vy, rfl, hty, hb7, _⟩
          obtain ⟨ay, cy, rfl, _⟩ := hty.placed
          have hy0 := cor_y HE.out rfl hy
          have HYY := Lib.hid hy
          have HX7 := Lib.hid ((HX6.out.below hb7 HX6.out.lt).alloc (.cells #[.int .i64 y.1, .slice ay y.2.1.length cy] 34))
          have HT7 := Lib.hid ((HT6.out.below hb7).alloc (.cells #[.int .i64 y.1, .slice ay y.2.1.length cy] 34))
          have B7' := HB6.out.trans (hb7.mono HB6.out.size)
          have HB7 := Lib.hid (B7'.alloc B7'.size (.cells #[.int .i64 y.1, .slice ay y.2.1.length cy] 34))
          have HTY7 := Lib.hid (hty.alloc (.cells #[.int .i64 y.1, .slice ay y.2.1.length cy] 34))
          have HY7 := Lib.hid (Two.new w7 (.int .i64 y.1) (.slice ay y.2.1.length cy) 34)
          clear hb7 hty B7' q0 q1 HQ6 HP6 HB6 HT6 HX6 HVY hy
          rcases hy0 with hy0 | hy0
          · have HY0 := Lib.hid hy0
            rw [hy0]
            clear hy0
            obtain ⟨W, hW⟩ : ∃ W, w7.alloc (.cells #[.int .i64 y.1, .slice ay y.2.1.length cy] 34) = W := ⟨_, rfl⟩
            rw [hW] at HX7 HT7 HB7 HTY7 HY7
            have OX := Lib.hid (fun w' (hb : TermsAt w' (.slice ax x.2.1.length cx) x.2.1) => copied_any x.1 (.slice ax x.2.1.length cx) x.2.1 w' hb (by have := HXV.out.len; omega))
            have G1 : Hid (∀ r, makeF 1 [(N, 1)] r → r.2.2 = 0) := Lib.hid fun r h => (val_make (by omega) (by omega) (by have := HN.out; omega) (by have := HN.out; omega) h).1
            have TX := Lib.hid (fun w' (hb : Below W.heap.size W w') => HT7.out.below hb)
            have zx := HX7.out.lt
            have KK : Hid (∀ w', Below W.heap.size W w' → w'.cell? ⟨w6.heap.size, 0, none⟩ = some (.int .i64 x.1) ∧ w'.cell? ⟨w6.heap.size, 1, none⟩ = some (.slice ax x.2.1.length cx)) := Lib.hid fun w' hb => ⟨(HX7.out.below hb HX7.out.lt).c0, (HX7.out.below hb HX7.out.lt).c1⟩
            have B0 := Below.refl W.heap.size W
            go_upto_region 14 with fail
            go_cut [14, 8] (fun pz qz wx => Mid (fun r => ∃ f, makeF 1 [(N, 1)] f ∧ quoF f.1 f.2.1 x.1 x.2.1 r) W pz qz wx)
            case first =>
              go_region_held3 (fun w' => w'.cell? ⟨w6.heap.size, 0, none⟩ = some (.int .i64 x.1) ∧ w'.cell? ⟨w6.heap.size, 1, none⟩ = some (.slice ax x.2.1.length cx))
                (first | exact KK.out _ (by (first | assumption | exact B0 | exact B0.drew | exact B0.alloc (by first | exact Nat.le_refl _ | exact B0.size) _ | exact (B0.drew).alloc (by first | exact Nat.le_refl _ | exact B0.size) _ | exact Below.alloc (by assumption) (Below.size (by assumption)) _)) | exact KK.out _ (by (exact (B3.setCell (by first | exact Nat.le_refl _ | exact B0.size | exact B1.size | exact B2.size) _).setCell (by first | exact Nat.le_refl _ | exact B0.size | exact B1.size | exact B2.size) _)))
                (first
                  | (go_at_call 65; refine (tfraction_any hsort N 1 _ G1).mono ?_; rintro e w1 ⟨f, hf, v1, rfl, ht1, hb1, hk1⟩; have B1 := Below.chain (W := W) (by (first | assumption | exact B0 | exact B0.drew | exact B0.alloc (by first | exact Nat.le_refl _ | exact B0.size) _ | exact (B0.drew).alloc (by first | exact Nat.le_refl _ | exact B0.size) _ | exact Below.alloc (by assumption) (Below.size (by assumption)) _)) hb1; first | (have RX : Two w1 W.heap.size (.int .i64 0) (.slice none 0 0) 34 := (Two.new W.drew (.int .i64 0) (.slice none 0 0) 34).below hb1 (by simp)) | (have RX : Two w1 W.heap.size (.int .i64 0) (.slice none 0 0) 34 := (Two.new W (.int .i64 0) (.slice none 0 0) 34).below hb1 (by simp)) | skip)
                  | (go_at_call 66; refine (OX.out _ (TX.out _ (by (first | assumption | exact B0 | exact B0.drew | exact B0.alloc (by first | exact Nat.le_refl _ | exact B0.size) _ | exact (B0.drew).alloc (by first | exact Nat.le_refl _ | exact B0.size) _ | exact Below.alloc (by assumption) (Below.size (by assumption)) _)))).mono ?_; rintro e w2 ⟨v2, rfl, ht2, hb2, hk2⟩; have B2 := Below.chain (W := W) (by (first | assumption | exact B0 | exact B0.drew | exact B0.alloc (by first | exact Nat.le_refl _ | exact B0.size) _ | exact (B0.drew).alloc (by first | exact Nat.le_refl _ | exact B0.size) _ | exact Below.alloc (by assumption) (Below.size (by assumption)) _)) hb2; have ht1 := (by first | exact ht1.below hb2 | exact (ht1.alloc _).below hb2); first | (have RX := RX.below hb2 RX.lt) | (have RX : Two w2 w1.heap.size (.int .i64 0) (.slice none 0 0) 34 := (Two.new w1 (.int .i64 0) (.slice none 0 0) 34).below hb2 (by simp)) | skip)
                  | (go_at_call 60; ((with_reducible refine (quo_call hsort f.1 x.1 f.2.1 x.2.1 _ _ _ ?_ ?_).mono ?_); (first | exact ht1 | exact ht1.alloc _); (first | exact ht2 | exact ht2.alloc _)); rintro e w3 ⟨r, hP0, v3, rfl, ht3, hb3, hk3⟩; have hP : ∃ f, makeF 1 [(N, 1)] f ∧ quoF f.1 f.2.1 x.1 x.2.1 r := ⟨f, hf, hP0⟩; obtain ⟨a3, c3, rfl, px3⟩ := ht3.placed; have B3 := Below.chain (W := W) (by (first | assumption | exact B0 | exact B0.drew | exact B0.alloc (by first | exact Nat.le_refl _ | exact B0.size) _ | exact (B0.drew).alloc (by first | exact Nat.le_refl _ | exact B0.size) _ | exact Below.alloc (by assumption) (Below.size (by assumption)) _)) hb3; first | (have RX := RX.below hb3 RX.lt; have r0 := RX.c0; have r1 := RX.c1; have f0 := RX.fr (i := 0); have f1 := RX.fr (i := 1); have hr := RX.lt) | (have RX : Two w3 w2.heap.size (.int .i64 0) (.slice none 0 0) 34 := (Two.new w2 (.int .i64 0) (.slice none 0 0) 34).below hb3 (by simp); have r0 := RX.c0; have r1 := RX.c1; have f0 := RX.fr (i := 0); have f1 := RX.fr (i := 1); have hr := RX.lt) | skip))
              all_goals
                go_wp2_with fail
                go_meet
                first | exact mid_new hP ht3 (fun k hk => by have q1 := hk3 k hk; have q2 := B2.size; omega) B3 | exact mid_close RX hP ht3 (fun k hk => by have q1 := hb1.size; have q2 := hb2.size; have q9 := hk3 k hk; (try simp at q1); (try simp at q2); (try simp at q9); omega) (by first | exact Nat.le_refl _ | exact B0.size | exact B1.size | exact B2.size) B3
            case rest KK0 hKK0 =>
              obtain ⟨bq, q, vq, rfl, rfl, ⟨f, hf, hq⟩, tq, ttq, hsq, hbq, hkq⟩ := hcut
              obtain ⟨aq, cq, rfl, _⟩ := ttq.placed
              obtain ⟨W2, hw⟩ : ∃ W, W = wc := ⟨wc, rfl⟩
              subst hw
              have hcq := cor_q HE.out rfl HXX.out hf hq
              have HFQ := Lib.hid (And.intro hf hq)
              have HX8 := Lib.hid (HX7.out.below hbq HX7.out.lt)
              have HT8 := Lib.hid (HT7.out.below hbq)
              have HY8 := Lib.hid (HY7.out.below hbq HY7.out.lt)
              have HTY8 := Lib.hid (HTY7.out.below hbq)
              have HB8 := Lib.hid (HB7.out.trans (hbq.mono HB7.out.size))
              have HQ8 := Lib.hid tq
              have HTQ8 := Lib.hid ttq
              have zw := hbq.size
              have hyl := HY7.out.lt
              clear hf hq tq ttq hkq HX7 HT7 HB7 HTY7 HY7 TX KK B0 G1 hbq
              obtain ⟨hq0, hs0⟩ := hcq
              have HS0 := Lib.hid hs0
              clear hs0
              rcases hq0 with hq0 | hq0
              · have HQ0 := Lib.hid hq0
                rw [hq0]
                clear hq0
                have TX2 := Lib.hid (fun w' (hb : Below W2.heap.size W2 w') => HT8.out.below hb)
                have TQ2 := Lib.hid (fun w' (hb : Below W2.heap.size W2 w') => HTQ8.out.below hb)
                have zx2 := HX8.out.lt
                have zq2 := HQ8.out.lt
                have KK : Hid (∀ w', Below W2.heap.size W2 w' → w'.cell? ⟨w6.heap.size, 0, none⟩ = some (.int .i64 x.1) ∧ w'.cell? ⟨w6.heap.size, 1, none⟩ = some (.slice ax x.2.1.length cx) ∧ w'.cell? ⟨bq, 0, none⟩ = some (.int .i64 q.1) ∧ w'.cell? ⟨bq, 1, none⟩ = some (.slice aq q.2.1.length cq)) := Lib.hid fun w' hb => ⟨(HX8.out.below hb HX8.out.lt).c0, (HX8.out.below hb HX8.out.lt).c1, (HQ8.out.below hb HQ8.out.lt).c0, (HQ8.out.below hb HQ8.out.lt).c1⟩
                have B0 := Below.refl W2.heap.size W2
                go_upto_region 17 with fail
                go_cut [15, 8] (fun pz qz wx => Mid (fun r => addF 1 x.1 x.2.1 q.1 q.2.1 r) W2 pz qz wx)
                case first =>
                  go_region_held3 (fun w' => w'.cell? ⟨w6.heap.size, 0, none⟩ = some (.int .i64 x.1) ∧ w'.cell? ⟨w6.heap.size, 1, none⟩ = some (.slice ax x.2.1.length cx) ∧ w'.cell? ⟨bq, 0, none⟩ = some (.int .i64 q.1) ∧ w'.cell? ⟨bq, 1, none⟩ = some (.slice aq q.2.1.length cq))
                    (first | exact KK.out _ (by (first | assumption | exact B0 | exact B0.drew | exact B0.alloc (by first | exact Nat.le_refl _ | exact B0.size) _ | exact (B0.drew).alloc (by first | exact Nat.le_refl _ | exact B0.size) _ | exact Below.alloc (by assumption) (Below.size (by assumption)) _)) | exact KK.out _ (by (exact (B2.setCell (by first | exact Nat.le_refl _ | exact B0.size | exact B1.size | exact B2.size) _).setCell (by first | exact Nat.le_refl _ | exact B0.size | exact B1.size | exact B2.size) _)))
                    (first
                      | (go_at_call 66; refine (OX.out _ (TX2.out _ (by (first | assumption | exact B0 | exact B0.drew | exact B0.alloc (by first | exact Nat.le_refl _ | exact B0.size) _ | exact (B0.drew).alloc (by first | exact Nat.le_refl _ | exact B0.size) _ | exact Below.alloc (by assumption) (Below.size (by assumption)) _)))).mono ?_; rintro e w1 ⟨v1, rfl, ht1, hb1, hk1⟩; have B1 := Below.chain (W := W2) (by (first | assumption | exact B0 | exact B0.drew | exact B0.alloc (by first | exact Nat.le_refl _ | exact B0.size) _ | exact (B0.drew).alloc (by first | exact Nat.le_refl _ | exact B0.size) _ | exact Below.alloc (by assumption) (Below.size (by assumption)) _)) hb1; first | (have RX : Two w1 W2.heap.size (.int .i64 0) (.slice none 0 0) 34 := (Two.new W2.drew (.int .i64 0) (.slice none 0 0) 34).below hb1 (by simp)) | (have RX : Two w1 W2.heap.size (.int .i64 0) (.slice none 0 0) 34 := (Two.new W2 (.int .i64 0) (.slice none 0 0) 34).below hb1 (by simp)) | skip)
                      | (go_at_call 59; ((with_reducible refine (add_call hsort x.1 q.1 x.2.1 q.2.1 _ _ _ ?_ ?_).mono ?_); (first | exact ht1 | exact ht1.alloc _); (exact TQ2.out _ (by (first | assumption | exact B0 | exact B0.drew | exact B0.alloc (by first | exact Nat.le_refl _ | exact B0.size) _ | exact (B0.drew).alloc (by first | exact Nat.le_refl _ | exact B0.size) _ | exact Below.alloc (by assumption) (Below.size (by assumption)) _)))); rintro e w2 ⟨r, hP, v2, rfl, ht2, hb2, hk2⟩; obtain ⟨a2, c2, rfl, px2⟩ := ht2.placed; have B2 := Below.chain (W := W2) (by (first | assumption | exact B0 | exact B0.drew | exact B0.alloc (by first | exact Nat.le_refl _ | exact B0.size) _ | exact (B0.drew).alloc (by first | exact Nat.le_refl _ | exact B0.size) _ | exact Below.alloc (by assumption) (Below.size (by assumption)) _)) hb2; first | (have RX := RX.below hb2 RX.lt; have r0 := RX.c0; have r1 := RX.c1; have f0 := RX.fr (i := 0); have f1 := RX.fr (i := 1); have hr := RX.lt) | (have RX : Two w2 w1.heap.size (.int .i64 0) (.slice none 0 0) 34 := (Two.new w1 (.int .i64 0) (.slice none 0 0) 34).below hb2 (by simp); have r0 := RX.c0; have r1 := RX.c1; have f0 := RX.fr (i := 0); have f1 := RX.fr (i := 1); have hr := RX.lt) | skip))
                  all_goals
                    go_wp2_with fail
                    go_meet
                    first | exact mid_new hP ht2 (fun k hk => by have q1 := hk2 k hk; have q2 := B1.size; omega) B2 | exact mid_close RX hP ht2 (fun k hk => by have q1 := hb1.size; have q9 := hk2 k hk; (try simp at q1); (try simp at q9); omega) (by first | exact Nat.le_refl _ | exact B0.size | exact B1.size | exact B2.size) B2
                case rest KK1 hKK1 =>
                  obtain ⟨bs, s, vs, rfl, rfl, hs, ts, tts, hss, hbs, hks⟩ := hcut
                  obtain ⟨aS, cS, rfl, _⟩ := tts.placed
                  obtain ⟨W3, hw⟩ : ∃ W, W = wc := ⟨wc, rfl⟩
                  subst hw
                  have hs0 := HS0.out HQ0.out s hs
                  have HSS := Lib.hid hs
                  have HX9 := Lib.hid (HX8.out.below hbs HX8.out.lt)
                  have HT9 := Lib.hid (HT8.out.below hbs)
                  have HY9 := Lib.hid (HY8.out.below hbs HY8.out.lt)
                  have HTY9 := Lib.hid (HTY8.out.below hbs)
                  have HB9 := Lib.hid (HB8.out.trans (hbs.mono HB8.out.size))
                  have HS9 := Lib.hid ts
                  have HTS9 := Lib.hid tts
                  have zw2 := hbs.size
                  have hsl := ts.lt
                  clear hs ts tts hks HX8 HT8 HB8 HTY8 HY8 TX2 TQ2 KK B0 hbs HQ8 HTQ8 HS0
                  have G2 : Hid (∀ r, makeF 1 [(2, 1)] r → r.2.2 = 0) := Lib.hid fun r h => (val_make (by omega) (by omega) (by omega) (by omega) h).1
                  have TS3 := Lib.hid (fun w' (hb : Below W3.heap.size W3 w') => HTS9.out.below hb)
                  have HS10 := Lib.hid hs0
                  clear hs0
                  have KK : Hid (∀ w', Below W3.heap.size W3 w' → w'.cell? ⟨bs, 0, none⟩ = some (.int .i64 s.1) ∧ w'.cell? ⟨bs, 1, none⟩ = some (.slice aS s.2.1.length cS)) := Lib.hid fun w' hb => ⟨(HS9.out.below hb HS9.out.lt).c0, (HS9.out.below hb HS9.out.lt).c1⟩
                  have B0 := Below.refl W3.heap.size W3
                  go_upto_region 18 with fail
                  go_cut [16, 13] (fun pz qz wx => Mid (fun r => ∃ g, makeF 1 [(2, 1)] g ∧ quoF s.1 s.2.1 g.1 g.2.1 r) W3 pz qz wx)
                  case first =>
                    go_region_held3 (fun w' => w'.cell? ⟨bs, 0, none⟩ = some (.int .i64 s.1) ∧ w'.cell? ⟨bs, 1, none⟩ = some (.slice aS s.2.1.length cS))
                      (first | exact KK.out _ (by (first | assumption | exact B0 | exact B0.drew | exact B0.alloc (by first | exact Nat.le_refl _ | exact B0.size) _ | exact (B0.drew).alloc (by first | exact Nat.le_refl _ | exact B0.size) _ | exact Below.alloc (by assumption) (Below.size (by assumption)) _)) | exact KK.out _ (by (exact (B2.setCell (by first | exact Nat.le_refl _ | exact B0.size | exact B1.size | exact B2.size) _).setCell (by first | exact Nat.le_refl _ | exact B0.size | exact B1.size | exact B2.size) _)))
                      (first
                        | (go_at_call 65; refine (tfraction_any hsort 2 1 _ G2).mono ?_; rintro e w1 ⟨g, hg, v1, rfl, ht1, hb1, hk1⟩; have B1 := Below.chain (W := W3) (by (first | assumption | exact B0 | exact B0.drew | exact B0.alloc (by first | exact Nat.le_refl _ | exact B0.size) _ | exact (B0.drew).alloc (by first | exact Nat.le_refl _ | exact B0.size) _ | exact Below.alloc (by assumption) (Below.size (by assumption)) _)) hb1; first | (have RX : Two w1 W3.heap.size (.int .i64 0) (.slice none 0 0) 34 := (Two.new W3.drew (.int .i64 0) (.slice none 0 0) 34).below hb1 (by simp)) | (have RX : Two w1 W3.heap.size (.int .i64 0) (.slice none 0 0) 34 := (Two.new W3 (.int .i64 0) (.slice none 0 0) 34).below hb1 (by simp)) | skip)
                        | (go_at_call 60; ((with_reducible refine (quo_call hsort s.1 g.1 s.2.1 g.2.1 _ _ _ ?_ ?_).mono ?_); (exact TS3.out _ (by (first | assumption | exact B0 | exact B0.drew | exact B0.alloc (by first | exact Nat.le_refl _ | exact B0.size) _ | exact (B0.drew).alloc (by first | exact Nat.le_refl _ | exact B0.size) _ | exact Below.alloc (by assumption) (Below.size (by assumption)) _))); (first | exact ht1 | exact ht1.alloc _)); rintro e w2 ⟨r, hP0, v2, rfl, ht2, hb2, hk2⟩; have hP : ∃ g, makeF 1 [(2, 1)] g ∧ quoF s.1 s.2.1 g.1 g.2.1 r := ⟨g, hg, hP0⟩; obtain ⟨a2, c2, rfl, px2⟩ := ht2.placed; have B2 := Below.chain (W := W3) (by (first | assumption | exact B0 | exact B0.drew | exact B0.alloc (by first | exact Nat.le_refl _ | exact B0.size) _ | exact (B0.drew).alloc (by first | exact Nat.le_refl _ | exact B0.size) _ | exact Below.alloc (by assumption) (Below.size (by assumption)) _)) hb2; first | (have RX := RX.below hb2 RX.lt; have r0 := RX.c0; have r1 := RX.c1; have f0 := RX.fr (i := 0); have f1 := RX.fr (i := 1); have hr := RX.lt) | (have RX : Two w2 w1.heap.size (.int .i64 0) (.slice none 0 0) 34 := (Two.new w1 (.int .i64 0) (.slice none 0 0) 34).below hb2 (by simp); have r0 := RX.c0; have r1 := RX.c1; have f0 := RX.fr (i := 0); have f1 := RX.fr (i := 1); have hr := RX.lt) | skip))
                    all_goals
                      go_wp2_with fail
                      go_meet
                      first | exact mid_new hP ht2 (fun k hk => by have q1 := hk2 k hk; have q2 := B1.size; omega) B2 | exact mid_close RX hP ht2 (fun k hk => by have q1 := hb1.size; have q9 := hk2 k hk; (try simp at q1); (try simp at q9); omega) (by first | exact Nat.le_refl _ | exact B0.size | exact B1.size | exact B2.size) B2
                  case rest KK2 hKK2 =>
                    obtain ⟨bt, t, vt, rfl, rfl, ⟨g, hg, ht⟩, tt, ttt, hst, hbt, hkt⟩ := hcut
                    obtain ⟨aT, cT, rfl, _⟩ := ttt.placed
                    obtain ⟨W4, hw⟩ : ∃ W, W = wc := ⟨wc, rfl⟩
                    subst hw
                    have hcor := corrected HE.out rfl HXX.out HYY.out HFQ.out.1 HFQ.out.2 HSS.out hg ht
                    have hall := (hcor.2.2.2 HQ0.out).2
                    have HALL := Lib.hid hall
                    have HXf := Lib.hid (HX9.out.below hbt HX9.out.lt)
                    have HTf := Lib.hid (HT9.out.below hbt)
                    have HYf := Lib.hid (HY9.out.below hbt HY9.out.lt)
                    have HTYf := Lib.hid (HTY9.out.below hbt)
                    have HBf := Lib.hid (HB9.out.trans (hbt.mono HB9.out.size))
                    have HHf := Lib.hid tt
                    have HTHf := Lib.hid ttt
                    clear hcor hall hg ht tt ttt hkt HX9 HT9 HB9 HTY9 HY9 TS3 KK B0 hbt HS9 HTS9 G2 hst
                    rcases HS10.out with hs0 | hs0
                    · have HS1 := Lib.hid hs0
                      rw [hs0]
                      have ht0 := (HALL.out hs0).1
                      clear hs0
                      rcases ht0 with ht0 | ht0
                      · have heq := (HALL.out HS1.out).2 ht0 HY0.out
                        have HT1 := Lib.hid ht0
                        rw [ht0]
                        have HEQ1 := Lib.hid (equal_call heq.1 (.slice aT t.2.1.length cT) (.slice ay y.2.1.length cy) W4 HTHf.out HTYf.out)
                        have HNE := Lib.hid heq.2
                        have h0 := HHf.out.c0
                        have h1 := HHf.out.c1
                        have y0 := HYf.out.c0
                        have y1 := HYf.out.c1
                        clear ht0 heq
                        go_wp2_with fail
                        refine HEQ1.out.mono ?_
                        rintro e w10 ⟨rfl, hb10⟩
                        have HX10 := HXf.out.below hb10 HXf.out.lt
                        have HY10 := HYf.out.below hb10 HYf.out.lt
                        have HB10 := Lib.hid (HBf.out.trans (hb10.mono HBf.out.size))
                        have HEQ2 := Lib.hid (equals_any x.1 y.1 _ _ x.2.1 y.2.1 w10 (HTf.out.below hb10) (HTYf.out.below hb10))
                        clear h0 h1 y0 y1
                        have x0 := HX10.c0
                        have x1 := HX10.c1
                        have y0 := HY10.c0
                        have y1 := HY10.c1
                        clear hb10 HX10 HY10
                        go_wp2_with fail
                        refine HEQ2.out.mono ?_
                        rintro e w11 ⟨rfl, hb11⟩
                        rw [show decide (x.1 = y.1 ∧ x.2.1 = y.2.1) = false from decide_eq_false HNE.out]
                        have HB11 := Lib.hid (HB10.out.trans (hb11.mono HB10.out.size))
                        clear hb11 x0 x1 y0 y1
                        have HKC := Lib.hid (HK.out _ HB11.out)
                        go_wp2_with fail
                        refine HKC.out.mono ?_
                        rintro e w12 ⟨rfl, hbk⟩
                        have HBK := Lib.hid (HB11.out.trans (hbk.mono HB11.out.size))
                        clear hbk
                        go_wp2
                        go_ret
                        exact ⟨rfl, HBK.out⟩
                      · rw [ht0]
                        clear ht0
                        have HKC := Lib.hid (HK.out _ HBf.out)
                        go_wp2_with fail
                        refine HKC.out.mono ?_
                        rintro e w12 ⟨rfl, hbk⟩
                        have HBK := Lib.hid (HBf.out.trans (hbk.mono HBf.out.size))
                        clear hbk
                        go_wp2
                        go_ret
                        exact ⟨rfl, HBK.out⟩
                    · rw [hs0]
                      clear hs0
                      have HKC := Lib.hid (HK.out _ HBf.out)
                      go_wp2_with fail
                      refine HKC.out.mono ?_
                      rintro e w12 ⟨rfl, hbk⟩
                      have HBK := Lib.hid (HBf.out.trans (hbk.mono HBf.out.size))
                      clear hbk
                      go_wp2
                      go_ret
                      exact ⟨rfl, HBK.out⟩
              · rw [hq0]
                clear hq0
                have HKC := Lib.hid (HK.out _ HB8.out)
                go_wp2_with fail
                refine HKC.out.mono ?_
                rintro e w9 ⟨rfl, hbk⟩
                have HBK := Lib.hid (HB8.out.trans (hbk.mono HB8.out.size))
                clear hbk
                go_wp2
                go_ret
                exact ⟨rfl, HBK.out⟩
          · rw [hy0]
            have HKC := Lib.hid (HK.out _ HB7.out)
            clear hy0
            go_wp2_with fail
            refine HKC.out.mono ?_
            rintro e w8 ⟨rfl, hb8⟩
            have HB8 := Lib.hid (HB7.out.trans (hb8.mono HB7.out.size))
            clear hb8
            go_wp2
            go_ret
            exact ⟨rfl, HB8.out⟩
      · have hnil : n3 = 0 ∧ ps3 = [] := by
          have := ext_err HE3.out h0
          exact ⟨congrArg Prod.fst this, congrArg Prod.snd this⟩
        obtain ⟨rfl, rfl⟩ := hnil
        have HKC := Lib.hid (HK.out _ HB3.out)
        have H0 := Lib.hid h0
        go_wp2_with fail
        refine HKC.out.mono ?_
        rintro e w4 ⟨rfl, hb4⟩
        have HB4 := Lib.hid (HB3.out.trans (hb4.mono HB3.out.size))
        clear hb4
        go_wp2
        go_ret
        exact ⟨rfl, HB4.out⟩
    · rw [show decide (ps.length ≤ 12) = false from decide_eq_false h12]
      have B3 := B2.alloc B2.size (.cells #[.int .i64 n, .slice a2 ps.length c2] 24)
      have HKC := Lib.hid (HK.out _ B3)
      have HB3 := Lib.hid B3
      clear hb2 hsh x0 x1 B2 B3 hrow2 hmi2
      go_wp2_with fail
      refine HKC.out.mono ?_
      rintro e w3 ⟨rfl, hb3⟩
      have HB4 := Lib.hid (HB3.out.trans (hb3.mono HB3.out.size))
      clear hb3
      go_wp2
      go_ret
      exact ⟨rfl, HB4.out⟩
end Go.Proofs.YtkjclafbpocabaaGreatDoor
