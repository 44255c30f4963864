/-
  Contracts of the program's own functions (and their plain mathematics), on the way to the law: each for all arguments that its hypotheses let.
-/
import Derived.Test.YtedpafdfecofnaaGreatDoorF12
import Derived.Test.YtedpafdfecofnaaGreatDoorF52
import Derived.WalkKit
import Derived.WalkSpells
import Derived.WalkLawsBesides
import Derived.Deep.QuietTactic
import Derived.BigQuiet
import Derived.Lib.Hide
import Derived.WalkSmall
import Derived.Maps.OwnSet
import Derived.Maps.RangeWalk
import Derived.Deep.RegionWith
import Derived.Deep.RegionHeld3
import Derived.Deep.DrawnRows
import Derived.Deep.DeepCutAuto
import Derived.OneCell
import Derived.KernelRfl
import Derived.Laws.StructEq
import Derived.StillTailTactics
import Derived.Laws.Externs
import Derived.RangeFuncBox
import Derived.Test.YtedpafdfecofnaaGreatDoorPlain
set_option linter.unusedSimpArgs false
set_option linter.unusedVariables false

/-! ## S124 -/
namespace Go.Proofs.YtedpafdfecofnaaGreatDoor
open Go.RowKit Go.Maps Go.Shelf Go.Sort
theorem parse_long {L : List UInt8} (h : 64 < L.length) : parseF L = (0, [], 5) := by unfold parseF; rw [if_pos h]
theorem parse_none {L : List UInt8} (h : ¬ 64 < L.length) (hn : ∀ d l, validF d l = true → textB d l ≠ L) : parseF L = (0, [], 4) := by
  rcases parse_cases L with e | e | ⟨d, l, _, h1, h2⟩
  · unfold parseF at e; rw [if_neg h] at e
    split at e
    · rename_i hh; exact absurd hh.2 (hn _ _ hh.1)
    · cases e
  · exact e
  · exact absurd h2 (hn d l h1)
theorem parse_some {L : List UInt8} {d : Int} {l : List (Int × Int)} (hrb : ReadsBack) (h1 : validF d l = true) (h2 : textB d l = L) : parseF L = (d, l, 0) := by
  have := (hrb d l h1).1
  rw [h2] at this
  exact this
set_option maxRecDepth 100000 in
set_option maxHeartbeats 8000000 in
theorem texts_walk (hk : Hid KnownT) (hrb : Hid ReadsBack) (d : Int) (v : Value) (l : List (Int × Int)) (L : List UInt8) (w : World) (ht : TermsAt w v l) (hw : WOk w) (hL : L.length ≤ 140737488355328) :
    Calls Tryz.prog 9 #[.agg #[.int .i64 d, v], .string ⟨L.toArray⟩] w (AnsB true w) := by
  obtain ⟨a, cap, rfl, px⟩ := ht.placed
  have HB0 : Hid (Below w.heap.size w (w.alloc (.cells #[.int .i64 d, .slice a l.length cap] 24))) := Lib.hid ((Below.refl _ w).alloc (Nat.le_refl _) _)
  have HT0 := Lib.hid (ht.below HB0.out)
  have HW := Lib.hid hw
  have X := Lib.hid (Two.new w (.int .i64 d) (.slice a l.length cap) 24)
  clear px ht hw
  go_enter Tryz.func9, Tryz.ntmps9
  go_wp2_with fail
  refine (long_any d _ l _ HT0.out).mono ?_
  rintro e w1 ⟨rfl, hb1⟩
  have HBn := Lib.hid (HB0.out.trans (hb1.mono HB0.out.size))
  have HT1 := Lib.hid (HT0.out.below hb1)
  have X1 := Lib.hid (X.out.below hb1 (by simp))
  clear hb1 HT0 HB0 X
  by_cases hlong : 8 < l.length
  · have e : decide (8 < l.length) = true := decide_eq_true hlong
    rw [e]
    clear e
    go_wp2_with fail
    refine (hk.out _ (HW.out.below HBn.out)).mono ?_
    rintro e wk ⟨rfl, hbk⟩
    have HBk := Lib.hid (HBn.out.trans (hbk.mono HBn.out.size))
    clear hbk
    go_wp2
    go_ret
    exact ⟨rfl, HBk.out⟩
  have e : decide (8 < l.length) = false := decide_eq_false hlong
  rw [e]
  clear e
  by_cases hLl : 80 < L.length
  · go_wp2_with fail
    refine (hk.out _ (HW.out.below HBn.out)).mono ?_
    rintro e wk ⟨rfl, hbk⟩
    have HBk := Lib.hid (HBn.out.trans (hbk.mono HBn.out.size))
    clear hbk
    go_wp2
    go_ret
    exact ⟨rfl, HBk.out⟩
  have c0 := X1.out.c0
  have c1 := X1.out.c1
  have hz : w.heap.size < w1.heap.size := X1.out.lt
  go_wp2_with fail
  refine (own_any d _ l _ HT1.out (by omega)).mono ?_
  rintro e w2 ⟨v2, rfl, ht2, hb2, _⟩
  have HB2 := Lib.hid (HBn.out.trans (hb2.mono HBn.out.size))
  have HT2 := Lib.hid ht2
  have HX2 := Lib.hid (X1.out.below hb2 hz)
  have HTX := Lib.hid (HT1.out.below hb2)
  clear hb2 ht2 c0 c1 HBn
  go_wp2_with fail
  refine (format_any d _ l _ HT2.out (HW.out.below HB2.out)).mono ?_
  rintro e w3 ⟨rfl, hb3⟩
  have HB3 := Lib.hid (HB2.out.trans (hb3.mono HB2.out.size))
  have HX3 := Lib.hid (HX2.out.below hb3 HX2.out.lt)
  have HTX3 := Lib.hid (HTX.out.below hb3)
  clear hb3 HT2 HB2 HX2 HTX
  have hnum := number_any d (.slice a l.length cap) l
  by_cases hv : validF d l = true
  · rw [if_pos hv, if_pos hv]
    simp only [hv] at hnum
    have V := vld_of hv
    have hbb : Hid (∀ t ∈ l, (-1000000 < t.1 ∧ t.1 < 1000000) ∧ (0 < t.2 ∧ t.2 < 1000000) ∧ t.1 ≠ 0) := Lib.hid (fun t ht => by have h1 := vld_pt V t ht; have h2 := V.cf t ht; exact ⟨by omega, by omega, h2.2.2⟩)
    have hl4 := V.len
    have hd1 := V.d1
    have hd2 := V.d2
    have htx := fun w0 h0 => rtext_any d (.slice a l.length cap) l w0 h0 hl4 (by omega) (by omega) hbb
    obtain ⟨T, hT⟩ : ∃ T, textB d l = T := ⟨_, rfl⟩
    rw [hT] at htx ⊢
    have HTXT := Lib.hid htx
    have HNUM := Lib.hid hnum
    clear hv hnum hT htx V hbb
    go_wp2_with fail
    refine (parse_any L (by omega) _ (HW.out.below HB3.out)).mono ?_
    rintro e wp ⟨vp, rfl, htp, hbp, _⟩
    obtain ⟨ap, cp, rfl, _⟩ := htp.placed
    have hq1 : Below wp.heap.size wp (wp.alloc (.cells #[.int .i64 (parseF L).1, .slice ap (parseF L).2.1.length cp] 24)) := (Below.refl _ _).alloc (Nat.le_refl _) _
    have HB4 := Lib.hid ((HB3.out.trans (hbp.mono HB3.out.size)).alloc (Nat.le_trans HB3.out.size hbp.size) (.cells #[.int .i64 (parseF L).1, .slice ap (parseF L).2.1.length cp] 24))
    have HX4 := Lib.hid ((HX3.out.below hbp HX3.out.lt).alloc (.cells #[.int .i64 (parseF L).1, .slice ap (parseF L).2.1.length cp] 24))
    have HTX4 := Lib.hid ((HTX3.out.below hbp).below hq1)
    have HY4 := Lib.hid (Two.new wp (.int .i64 (parseF L).1) (.slice ap (parseF L).2.1.length cp) 24)
    have HTP4 := Lib.hid (htp.below hq1)
    have c0 := HX4.out.c0
    have c1 := HX4.out.c1
    have hz : w.heap.size < wp.heap.size + 1 := by have := HX4.out.lt; simpa using this
    clear htp hbp hq1 HB3 HX3 HTX3
    go_wp2_with fail
    refine (HNUM.out _ HTX4.out).mono ?_
    rintro e w5 ⟨rfl, hb5⟩
    have HB5 := Lib.hid (HB4.out.trans (hb5.mono HB4.out.size))
    have HX5 := Lib.hid (HX4.out.below hb5 HX4.out.lt)
    have HTX5 := Lib.hid (HTX4.out.below hb5)
    have HY5 := Lib.hid (HY4.out.below hb5 HY4.out.lt)
    have HTP5 := Lib.hid (HTP4.out.below hb5)
    clear hb5 c0 c1 hz HB4 HX4 HTX4 HY4 HTP4
    have c0 := HX5.out.c0
    have c1 := HX5.out.c1
    have hz := HX5.out.lt
    go_wp2_with fail
    refine (HNUM.out _ HTX5.out).mono ?_
    rintro e w6 ⟨rfl, hb6⟩
    have HB6 := Lib.hid (HB5.out.trans (hb6.mono HB5.out.size))
    have HX6 := Lib.hid (HX5.out.below hb6 HX5.out.lt)
    have HTX6 := Lib.hid (HTX5.out.below hb6)
    have HY6 := Lib.hid (HY5.out.below hb6 HY5.out.lt)
    have HTP6 := Lib.hid (HTP5.out.below hb6)
    clear hb6 c0 c1 hz HB5 HX5 HTX5 HY5 HTP5
    have c0 := HX6.out.c0
    have c1 := HX6.out.c1
    have hz := HX6.out.lt
    go_wp2_with fail
    refine (HTXT.out _ HTX6.out).mono ?_
    rintro e w7 ⟨rfl, hb7⟩
    have HBq := Lib.hid (HB6.out.trans (hb7.mono HB6.out.size))
    have HYq := Lib.hid (HY6.out.below hb7 HY6.out.lt)
    have HTPq := Lib.hid (HTP6.out.below hb7)
    clear hb7 c0 c1 hz HB6 HX6 HTX6 HY6 HTP6 HTXT
    have hLr : L.length ≤ 80 := by omega
    go_wp2_with fail
    refine (rread_any L hLr _).mono ?_
    rintro e wr ⟨zd, zl, vz, ok, rfl, hz1, hz2, hz3, hz4⟩
    have HRO := Lib.hid hz3
    have HRN := Lib.hid hz4
    obtain ⟨az, cz, rfl, _⟩ := hz1.placed
    have hq2 : Below wr.heap.size wr (wr.alloc (.cells #[.int .i64 zd, .slice az zl.length cz] 24)) := (Below.refl _ _).alloc (Nat.le_refl _) _
    have HTZ := Lib.hid (hz1.below hq2)
    have HZT := Lib.hid (Two.new wr (.int .i64 zd) (.slice az zl.length cz) 24)
    have HBZ := Lib.hid ((HBq.out.trans (hz2.mono HBq.out.size)).alloc (Nat.le_trans HBq.out.size hz2.size) (.cells #[.int .i64 zd, .slice az zl.length cz] 24))
    have HYT := Lib.hid ((HYq.out.below hz2 HYq.out.lt).alloc (.cells #[.int .i64 zd, .slice az zl.length cz] 24))
    have HTP := Lib.hid ((HTPq.out.below hz2).below hq2)
    clear hz1 hz2 hz3 hz4 hq2 HYq HTPq HBq
    by_cases hlong : 64 < L.length
    · have hg : decide (64 < (L.length : Int)) = true := decide_eq_true (by omega)
      have hpf : parseF L = (0, [], 5) := parse_long hlong
      rw [hpf] at HYT HTP ⊢
      dsimp only at HYT HTP ⊢
      have y0 := HYT.out.c0
      have y1 := HYT.out.c1
      have hyz := HYT.out.lt
      clear hpf
      go_wp2_with fail
      refine (none_any 0 _ [] _ HTP.out).mono ?_
      rintro e wn ⟨rfl, hbn⟩
      have HBn := Lib.hid (HBZ.out.trans (hbn.mono HBZ.out.size))
      clear hbn y0 y1
      go_wp2_with fail
      refine (hk.out _ (HW.out.below HBn.out)).mono ?_
      rintro e wk ⟨rfl, hbk⟩
      have HBk := Lib.hid (HBn.out.trans (hbk.mono HBn.out.size))
      clear hbk
      go_wp2
      go_ret
      exact ⟨rfl, HBk.out⟩
    have hg : decide (64 < (L.length : Int)) = false := decide_eq_false (by omega)
    cases ok
    · have hpf : parseF L = (0, [], 4) := parse_none hlong (HRN.out rfl)
      rw [hpf] at HYT HTP ⊢
      dsimp only at HYT HTP ⊢
      have y0 := HYT.out.c0
      have y1 := HYT.out.c1
      have hyz := HYT.out.lt
      clear hpf
      go_wp2_with fail
      refine (none_any 0 _ [] _ HTP.out).mono ?_
      rintro e wn ⟨rfl, hbn⟩
      have HBn := Lib.hid (HBZ.out.trans (hbn.mono HBZ.out.size))
      clear hbn y0 y1
      go_wp2_with fail
      refine (hk.out _ (HW.out.below HBn.out)).mono ?_
      rintro e wk ⟨rfl, hbk⟩
      have HBk := Lib.hid (HBn.out.trans (hbk.mono HBn.out.size))
      clear hbk
      go_wp2
      go_ret
      exact ⟨rfl, HBk.out⟩
    · obtain ⟨hv1, hv2⟩ := HRO.out rfl
      have hpf : parseF L = (zd, zl, 0) := parse_some hrb.out hv1 hv2
      rw [hpf] at HYT HTP ⊢
      dsimp only at HYT HTP ⊢
      have y0 := HYT.out.c0
      have y1 := HYT.out.c1
      have hyz := HYT.out.lt
      have z0 := HZT.out.c0
      have z1 := HZT.out.c1
      have hzz := HZT.out.lt
      clear hpf hv1 hv2
      go_wp2_with fail
      refine (same_any zd zd _ _ zl zl _ HTP.out HTZ.out).mono ?_
      rintro e wn ⟨rfl, hbn⟩
      have HBn := Lib.hid (HBZ.out.trans (hbn.mono HBZ.out.size))
      clear hbn y0 y1 z0 z1
      rw [show decide (zd = zd ∧ zl = zl) = true by simp]
      go_wp2_with fail
      refine (hk.out _ (HW.out.below HBn.out)).mono ?_
      rintro e wk ⟨rfl, hbk⟩
      have HBk := Lib.hid (HBn.out.trans (hbk.mono HBn.out.size))
      clear hbk
      go_wp2
      go_ret
      exact ⟨rfl, HBk.out⟩
  · rw [if_neg hv, if_neg hv]
    have hv0 : validF d l = false := by simpa using hv
    simp only [hv0] at hnum
    have HNUM := Lib.hid hnum
    clear hv hv0 hnum
    go_wp2_with fail
    refine (parse_any L (by omega) _ (HW.out.below HB3.out)).mono ?_
    rintro e wp ⟨vp, rfl, htp, hbp, _⟩
    obtain ⟨ap, cp, rfl, _⟩ := htp.placed
    have hq1 : Below wp.heap.size wp (wp.alloc (.cells #[.int .i64 (parseF L).1, .slice ap (parseF L).2.1.length cp] 24)) := (Below.refl _ _).alloc (Nat.le_refl _) _
    have HB4 := Lib.hid ((HB3.out.trans (hbp.mono HB3.out.size)).alloc (Nat.le_trans HB3.out.size hbp.size) (.cells #[.int .i64 (parseF L).1, .slice ap (parseF L).2.1.length cp] 24))
    have HX4 := Lib.hid ((HX3.out.below hbp HX3.out.lt).alloc (.cells #[.int .i64 (parseF L).1, .slice ap (parseF L).2.1.length cp] 24))
    have HTX4 := Lib.hid ((HTX3.out.below hbp).below hq1)
    have HY4 := Lib.hid (Two.new wp (.int .i64 (parseF L).1) (.slice ap (parseF L).2.1.length cp) 24)
    have HTP4 := Lib.hid (htp.below hq1)
    have c0 := HX4.out.c0
    have c1 := HX4.out.c1
    have hz : w.heap.size < wp.heap.size + 1 := by have := HX4.out.lt; simpa using this
    clear htp hbp hq1 HB3 HX3 HTX3
    go_wp2_with fail
    refine (HNUM.out _ HTX4.out).mono ?_
    rintro e w5 ⟨rfl, hb5⟩
    have HB5 := Lib.hid (HB4.out.trans (hb5.mono HB4.out.size))
    have HX5 := Lib.hid (HX4.out.below hb5 HX4.out.lt)
    have HTX5 := Lib.hid (HTX4.out.below hb5)
    have HY5 := Lib.hid (HY4.out.below hb5 HY4.out.lt)
    have HTP5 := Lib.hid (HTP4.out.below hb5)
    clear hb5 c0 c1 hz HB4 HX4 HTX4 HY4 HTP4
    have c0 := HX5.out.c0
    have c1 := HX5.out.c1
    have hz := HX5.out.lt
    go_wp2_with fail
    refine (HNUM.out _ HTX5.out).mono ?_
    rintro e w6 ⟨rfl, hb6⟩
    have HBq := Lib.hid (HB5.out.trans (hb6.mono HB5.out.size))
    have HYq := Lib.hid (HY5.out.below hb6 HY5.out.lt)
    have HTPq := Lib.hid (HTP5.out.below hb6)
    clear hb6 c0 c1 hz HB5 HX5 HTX5 HY5 HTP5
    have hLr : L.length ≤ 80 := by omega
    go_wp2_with fail
    refine (rread_any L hLr _).mono ?_
    rintro e wr ⟨zd, zl, vz, ok, rfl, hz1, hz2, hz3, hz4⟩
    have HRO := Lib.hid hz3
    have HRN := Lib.hid hz4
    obtain ⟨az, cz, rfl, _⟩ := hz1.placed
    have hq2 : Below wr.heap.size wr (wr.alloc (.cells #[.int .i64 zd, .slice az zl.length cz] 24)) := (Below.refl _ _).alloc (Nat.le_refl _) _
    have HTZ := Lib.hid (hz1.below hq2)
    have HZT := Lib.hid (Two.new wr (.int .i64 zd) (.slice az zl.length cz) 24)
    have HBZ := Lib.hid ((HBq.out.trans (hz2.mono HBq.out.size)).alloc (Nat.le_trans HBq.out.size hz2.size) (.cells #[.int .i64 zd, .slice az zl.length cz] 24))
    have HYT := Lib.hid ((HYq.out.below hz2 HYq.out.lt).alloc (.cells #[.int .i64 zd, .slice az zl.length cz] 24))
    have HTP := Lib.hid ((HTPq.out.below hz2).below hq2)
    clear hz1 hz2 hz3 hz4 hq2 HYq HTPq HBq
    by_cases hlong : 64 < L.length
    · have hg : decide (64 < (L.length : Int)) = true := decide_eq_true (by omega)
      have hpf : parseF L = (0, [], 5) := parse_long hlong
      rw [hpf] at HYT HTP ⊢
      dsimp only at HYT HTP ⊢
      have y0 := HYT.out.c0
      have y1 := HYT.out.c1
      have hyz := HYT.out.lt
      clear hpf
      go_wp2_with fail
      refine (none_any 0 _ [] _ HTP.out).mono ?_
      rintro e wn ⟨rfl, hbn⟩
      have HBn := Lib.hid (HBZ.out.trans (hbn.mono HBZ.out.size))
      clear hbn y0 y1
      go_wp2_with fail
      refine (hk.out _ (HW.out.below HBn.out)).mono ?_
      rintro e wk ⟨rfl, hbk⟩
      have HBk := Lib.hid (HBn.out.trans (hbk.mono HBn.out.size))
      clear hbk
      go_wp2
      go_ret
      exact ⟨rfl, HBk.out⟩
    have hg : decide (64 < (L.length : Int)) = false := decide_eq_false (by omega)
    cases ok
    · have hpf : parseF L = (0, [], 4) := parse_none hlong (HRN.out rfl)
      rw [hpf] at HYT HTP ⊢
      dsimp only at HYT HTP ⊢
      have y0 := HYT.out.c0
      have y1 := HYT.out.c1
      have hyz := HYT.out.lt
      clear hpf
      go_wp2_with fail
      refine (none_any 0 _ [] _ HTP.out).mono ?_
      rintro e wn ⟨rfl, hbn⟩
      have HBn := Lib.hid (HBZ.out.trans (hbn.mono HBZ.out.size))
      clear hbn y0 y1
      go_wp2_with fail
      refine (hk.out _ (HW.out.below HBn.out)).mono ?_
      rintro e wk ⟨rfl, hbk⟩
      have HBk := Lib.hid (HBn.out.trans (hbk.mono HBn.out.size))
      clear hbk
      go_wp2
      go_ret
      exact ⟨rfl, HBk.out⟩
    · obtain ⟨hv1, hv2⟩ := HRO.out rfl
      have hpf : parseF L = (zd, zl, 0) := parse_some hrb.out hv1 hv2
      rw [hpf] at HYT HTP ⊢
      dsimp only at HYT HTP ⊢
      have y0 := HYT.out.c0
      have y1 := HYT.out.c1
      have hyz := HYT.out.lt
      have z0 := HZT.out.c0
      have z1 := HZT.out.c1
      have hzz := HZT.out.lt
      clear hpf hv1 hv2
      go_wp2_with fail
      refine (same_any zd zd _ _ zl zl _ HTP.out HTZ.out).mono ?_
      rintro e wn ⟨rfl, hbn⟩
      have HBn := Lib.hid (HBZ.out.trans (hbn.mono HBZ.out.size))
      clear hbn y0 y1 z0 z1
      rw [show decide (zd = zd ∧ zl = zl) = true by simp]
      go_wp2_with fail
      refine (hk.out _ (HW.out.below HBn.out)).mono ?_
      rintro e wk ⟨rfl, hbk⟩
      have HBk := Lib.hid (HBn.out.trans (hbk.mono HBn.out.size))
      clear hbk
      go_wp2
      go_ret
      exact ⟨rfl, HBk.out⟩
end Go.Proofs.YtedpafdfecofnaaGreatDoor
