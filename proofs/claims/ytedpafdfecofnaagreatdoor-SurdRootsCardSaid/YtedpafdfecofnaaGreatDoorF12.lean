/-
  Contracts of the program's own functions (and their plain mathematics), on the way to the law: each for all arguments that its hypotheses let.
-/
import Derived.Test.YtedpafdfecofnaaGreatDoorF11
import Derived.WalkKit
import Derived.WalkSpells
import Derived.WalkLawsBesides
import Derived.Deep.QuietTactic
import Derived.BigQuiet
import Derived.Lib.Hide
import Derived.WalkSmall
import Derived.Maps.OwnSet
import Derived.Maps.RangeWalk
import Derived.Deep.RegionWith
import Derived.Deep.RegionHeld3
import Derived.OneCell
import Derived.KernelRfl
import Derived.Laws.StructEq
import Derived.StillTailTactics
import Derived.Laws.Externs
import Derived.RangeFuncBox
import Derived.Test.YtedpafdfecofnaaGreatDoorPlain
set_option linter.unusedSimpArgs false
set_option linter.unusedVariables false

/-! ## S33 -/
namespace Go.Proofs.YtedpafdfecofnaaGreatDoor
open Go.RowKit Go.Maps Go.Shelf Go.Sort
/-- What 'known' is to answer. -/
def KnownT : Prop := ∀ w, WOk w → Calls Tryz.prog 16 #[] w (AnsB true w)
def ReadsBack : Prop := ∀ d l, validF d l = true → parseF (textB d l) = (d, l, 0) ∧ (textB d l).length ≤ 64
theorem parse_cases (L : List UInt8) : parseF L = (0, [], 5) ∨ parseF L = (0, [], 4) ∨ ∃ d l, parseF L = (d, l, 0) ∧ validF d l = true ∧ textB d l = L := by
  unfold parseF
  split
  · exact .inl rfl
  · split
    · rename_i h
      exact .inr (.inr ⟨_, _, rfl, h.1, h.2⟩)
    · exact .inr (.inl rfl)
set_option maxRecDepth 100000 in
set_option maxHeartbeats 4000000 in
theorem spelled_walk (hk : Hid KnownT) (hrb : Hid ReadsBack) (d : Int) (v : Value) (l : List (Int × Int)) (L : List UInt8) (w : World) (ht : TermsAt w v l) (hw : WOk w) (hL : L.length ≤ 140737488355328) :
    Calls Tryz.prog 14 #[.agg #[.int .i64 d, v], .string ⟨L.toArray⟩] w (AnsB true w) := by
  obtain ⟨a, cap, rfl, px⟩ := ht.placed
  have HB0 : Hid (Below w.heap.size w (w.alloc (.cells #[.int .i64 d, .slice a l.length cap] 24))) := Lib.hid ((Below.refl _ w).alloc (Nat.le_refl _) _)
  have HT0 := Lib.hid (ht.below HB0.out)
  have HW := Lib.hid hw
  have X := Lib.hid (Two.new w (.int .i64 d) (.slice a l.length cap) 24)
  clear px ht hw
  go_enter Tryz.func14, Tryz.ntmps14
  go_wp2_with fail
  refine (long_any d _ l _ HT0.out).mono ?_
  rintro e w1 ⟨rfl, hb1⟩
  have HB1 := Lib.hid (HB0.out.trans (hb1.mono HB0.out.size))
  have HT1 := Lib.hid (HT0.out.below hb1)
  have X1 := Lib.hid (X.out.below hb1 (by simp))
  clear hb1 HT0 HB0 X
  by_cases hlong : 8 < l.length
  · have e : decide (8 < l.length) = true := decide_eq_true hlong
    rw [e]
    clear e
    go_wp2_with fail
    refine (hk.out _ (HW.out.below HB1.out)).mono ?_
    rintro e w2 ⟨rfl, hb2⟩
    have HB2 := Lib.hid (HB1.out.trans (hb2.mono HB1.out.size))
    clear hb2
    go_wp2
    go_ret
    exact ⟨rfl, HB2.out⟩
  · have e : decide (8 < l.length) = false := decide_eq_false hlong
    rw [e]
    clear e
    by_cases hLl : 80 < L.length
    · go_wp2_with fail
      refine (hk.out _ (HW.out.below HB1.out)).mono ?_
      rintro e w2 ⟨rfl, hb2⟩
      have HB2 := Lib.hid (HB1.out.trans (hb2.mono HB1.out.size))
      clear hb2
      go_wp2
      go_ret
      exact ⟨rfl, HB2.out⟩
    · have c0 := X1.out.c0
      have c1 := X1.out.c1
      have hz : w.heap.size < w1.heap.size := X1.out.lt
      go_wp2_with fail
      refine (own_any d _ l _ HT1.out (by omega)).mono ?_
      rintro e w2 ⟨v2, rfl, ht2, hb2, _⟩
      have HB2 := Lib.hid (HB1.out.trans (hb2.mono HB1.out.size))
      have HT2 := Lib.hid ht2
      have HX2 := Lib.hid (X1.out.below hb2 hz)
      have HTX := Lib.hid (HT1.out.below hb2)
      clear hb2 ht2 c0 c1
      go_wp2_with fail
      refine (format_any d _ l _ HT2.out (HW.out.below HB2.out)).mono ?_
      rintro e w3 ⟨rfl, hb3⟩
      have HB3 := Lib.hid (HB2.out.trans (hb3.mono HB2.out.size))
      have HX3 := Lib.hid (HX2.out.below hb3 HX2.out.lt)
      have HTX3 := Lib.hid (HTX.out.below hb3)
      clear hb3 HT2
      by_cases hv : validF d l = true
      · obtain ⟨hb1', hb2'⟩ := hrb.out d l hv
        rw [if_pos hv, if_pos hv]
        obtain ⟨T, hT⟩ : ∃ T, textB d l = T := ⟨_, rfl⟩
        rw [hT] at hb1' hb2' ⊢
        have HPF := Lib.hid hb1'
        clear hT hv hb1'
        go_wp2_with fail
        refine (parse_any T (by omega) _ (HW.out.below HB3.out)).mono ?_
        rintro e w4 ⟨v4, rfl, ht4, hb4, _⟩
        rw [HPF.out] at ht4 ⊢
        dsimp only at ht4 ⊢
        obtain ⟨a4, c4, rfl, _⟩ := ht4.placed
        have X4 := (HX3.out.below hb4 HX3.out.lt).alloc (.cells #[.int .i64 d, .slice a4 l.length c4] 24)
        have Y4 := Two.new w4 (.int .i64 d) (.slice a4 l.length c4) 24
        have hbq := (Below.refl w4.heap.size w4).alloc (Nat.le_refl _) (.cells #[.int .i64 d, .slice a4 l.length c4] 24)
        have HB4 := HB3.out.trans (hb4.mono HB3.out.size)
        have HT5 := Lib.hid ((HTX3.out.below hb4).below hbq)
        have HT6 := Lib.hid (ht4.below hbq)
        have HB5 := Lib.hid (HB4.alloc HB4.size (.cells #[.int .i64 d, .slice a4 l.length c4] 24))
        have x0 := X4.c0
        have x1 := X4.c1
        have y0 := Y4.c0
        have y1 := Y4.c1
        clear ht4 hb4 hbq HB4 X4 Y4
        go_wp2_with fail
        refine (same_any d d _ _ l l _ HT5.out HT6.out).mono ?_
        rintro e w6 ⟨rfl, hb6⟩
        have HB6 := Lib.hid (HB5.out.trans (hb6.mono HB5.out.size))
        clear hb6 x0 x1 y0 y1
        rw [show decide (d = d ∧ l = l) = true by simp]
        go_wp2_with fail
        refine (parse_any L (by omega) _ (HW.out.below HB6.out)).mono ?_
        rintro e wp ⟨vp, rfl, htp, hbp, _⟩
        obtain ⟨ap, cp, rfl, _⟩ := htp.placed
        have HBP := Lib.hid (HB6.out.trans (hbp.mono HB6.out.size))
        have HTP := Lib.hid htp
        clear hbp htp
        rcases parse_cases L with hp | hp | ⟨pd, pl, hp, hpv, hpt⟩
        · rw [hp] at HTP ⊢
          dsimp only at HTP ⊢
          clear hp
          have HTQ := Lib.hid (HTP.out.below ((Below.refl _ wp).alloc (Nat.le_refl _) (.cells #[.int .i64 0, .slice ap 0 cp] 24)))
          have HBQ := Lib.hid (HBP.out.alloc HBP.out.size (.cells #[.int .i64 0, .slice ap 0 cp] 24))
          go_wp2_with fail
          refine (none_any 0 _ [] _ HTQ.out).mono ?_
          rintro e wn ⟨rfl, hbn⟩
          have HBN := Lib.hid (HBQ.out.trans (hbn.mono HBQ.out.size))
          clear hbn
          go_wp2_with fail
          refine (hk.out _ (HW.out.below HBN.out)).mono ?_
          rintro e wk ⟨rfl, hbk⟩
          have HBK := Lib.hid (HBN.out.trans (hbk.mono HBN.out.size))
          clear hbk
          go_wp2
          go_ret
          exact ⟨rfl, HBK.out⟩
        · rw [hp] at HTP ⊢
          dsimp only at HTP ⊢
          clear hp
          have HTQ := Lib.hid (HTP.out.below ((Below.refl _ wp).alloc (Nat.le_refl _) (.cells #[.int .i64 0, .slice ap 0 cp] 24)))
          have HBQ := Lib.hid (HBP.out.alloc HBP.out.size (.cells #[.int .i64 0, .slice ap 0 cp] 24))
          go_wp2_with fail
          refine (none_any 0 _ [] _ HTQ.out).mono ?_
          rintro e wn ⟨rfl, hbn⟩
          have HBN := Lib.hid (HBQ.out.trans (hbn.mono HBQ.out.size))
          clear hbn
          go_wp2_with fail
          refine (hk.out _ (HW.out.below HBN.out)).mono ?_
          rintro e wk ⟨rfl, hbk⟩
          have HBK := Lib.hid (HBN.out.trans (hbk.mono HBN.out.size))
          clear hbk
          go_wp2
          go_ret
          exact ⟨rfl, HBK.out⟩
        · rw [hp] at HTP ⊢
          dsimp only at HTP ⊢
          clear hp
          have HPV := Lib.hid hpv
          have HPT := Lib.hid hpt
          clear hpv hpt
          have HTQ := Lib.hid (HTP.out.below ((Below.refl _ wp).alloc (Nat.le_refl _) (.cells #[.int .i64 pd, .slice ap pl.length cp] 24)))
          have HBQ := Lib.hid (HBP.out.alloc HBP.out.size (.cells #[.int .i64 pd, .slice ap pl.length cp] 24))
          have XQ := Lib.hid (Two.new wp (.int .i64 pd) (.slice ap pl.length cp) 24)
          go_wp2_with fail
          refine (format_any pd _ pl _ HTQ.out (HW.out.below HBQ.out)).mono ?_
          rintro e wf ⟨rfl, hbf⟩
          have HBF := Lib.hid (HBQ.out.trans (hbf.mono HBQ.out.size))
          have HTF := Lib.hid (HTQ.out.below hbf)
          have XF := XQ.out.below hbf (by simp)
          have q0 := XF.c0
          have q1 := XF.c1
          have hzf : wp.heap.size < wf.heap.size := XF.lt
          clear hbf XF
          rw [if_pos HPV.out, if_pos HPV.out, HPT.out]
          go_wp2_with fail
          refine (check_any pd _ pl _ HTF.out).mono ?_
          rintro e wc ⟨rfl, hbc⟩
          have HBC := Lib.hid (HBF.out.trans (hbc.mono HBF.out.size))
          clear hbc q0 q1
          rw [if_pos HPV.out]
          go_wp2_with fail
          refine (hk.out _ (HW.out.below HBC.out)).mono ?_
          rintro e wk ⟨rfl, hbk⟩
          have HBK := Lib.hid (HBC.out.trans (hbk.mono HBC.out.size))
          clear hbk
          go_wp2
          go_ret
          exact ⟨rfl, HBK.out⟩

      · rw [if_neg hv, if_neg hv]
        clear hv
        go_wp2_with fail
        refine (parse_any L (by omega) _ (HW.out.below HB3.out)).mono ?_
        rintro e wp ⟨vp, rfl, htp, hbp, _⟩
        obtain ⟨ap, cp, rfl, _⟩ := htp.placed
        have HBP := Lib.hid (HB3.out.trans (hbp.mono HB3.out.size))
        have HTP := Lib.hid htp
        clear hbp htp
        rcases parse_cases L with hp | hp | ⟨pd, pl, hp, hpv, hpt⟩
        · rw [hp] at HTP ⊢
          dsimp only at HTP ⊢
          clear hp
          have HTQ := Lib.hid (HTP.out.below ((Below.refl _ wp).alloc (Nat.le_refl _) (.cells #[.int .i64 0, .slice ap 0 cp] 24)))
          have HBQ := Lib.hid (HBP.out.alloc HBP.out.size (.cells #[.int .i64 0, .slice ap 0 cp] 24))
          go_wp2_with fail
          refine (none_any 0 _ [] _ HTQ.out).mono ?_
          rintro e wn ⟨rfl, hbn⟩
          have HBN := Lib.hid (HBQ.out.trans (hbn.mono HBQ.out.size))
          clear hbn
          go_wp2_with fail
          refine (hk.out _ (HW.out.below HBN.out)).mono ?_
          rintro e wk ⟨rfl, hbk⟩
          have HBK := Lib.hid (HBN.out.trans (hbk.mono HBN.out.size))
          clear hbk
          go_wp2
          go_ret
          exact ⟨rfl, HBK.out⟩
        · rw [hp] at HTP ⊢
          dsimp only at HTP ⊢
          clear hp
          have HTQ := Lib.hid (HTP.out.below ((Below.refl _ wp).alloc (Nat.le_refl _) (.cells #[.int .i64 0, .slice ap 0 cp] 24)))
          have HBQ := Lib.hid (HBP.out.alloc HBP.out.size (.cells #[.int .i64 0, .slice ap 0 cp] 24))
          go_wp2_with fail
          refine (none_any 0 _ [] _ HTQ.out).mono ?_
          rintro e wn ⟨rfl, hbn⟩
          have HBN := Lib.hid (HBQ.out.trans (hbn.mono HBQ.out.size))
          clear hbn
          go_wp2_with fail
          refine (hk.out _ (HW.out.below HBN.out)).mono ?_
          rintro e wk ⟨rfl, hbk⟩
          have HBK := Lib.hid (HBN.out.trans (hbk.mono HBN.out.size))
          clear hbk
          go_wp2
          go_ret
          exact ⟨rfl, HBK.out⟩
        · rw [hp] at HTP ⊢
          dsimp only at HTP ⊢
          clear hp
          have HPV := Lib.hid hpv
          have HPT := Lib.hid hpt
          clear hpv hpt
          have HTQ := Lib.hid (HTP.out.below ((Below.refl _ wp).alloc (Nat.le_refl _) (.cells #[.int .i64 pd, .slice ap pl.length cp] 24)))
          have HBQ := Lib.hid (HBP.out.alloc HBP.out.size (.cells #[.int .i64 pd, .slice ap pl.length cp] 24))
          have XQ := Lib.hid (Two.new wp (.int .i64 pd) (.slice ap pl.length cp) 24)
          go_wp2_with fail
          refine (format_any pd _ pl _ HTQ.out (HW.out.below HBQ.out)).mono ?_
          rintro e wf ⟨rfl, hbf⟩
          have HBF := Lib.hid (HBQ.out.trans (hbf.mono HBQ.out.size))
          have HTF := Lib.hid (HTQ.out.below hbf)
          have XF := XQ.out.below hbf (by simp)
          have q0 := XF.c0
          have q1 := XF.c1
          have hzf : wp.heap.size < wf.heap.size := XF.lt
          clear hbf XF
          rw [if_pos HPV.out, if_pos HPV.out, HPT.out]
          go_wp2_with fail
          refine (check_any pd _ pl _ HTF.out).mono ?_
          rintro e wc ⟨rfl, hbc⟩
          have HBC := Lib.hid (HBF.out.trans (hbc.mono HBF.out.size))
          clear hbc q0 q1
          rw [if_pos HPV.out]
          go_wp2_with fail
          refine (hk.out _ (HW.out.below HBC.out)).mono ?_
          rintro e wk ⟨rfl, hbk⟩
          have HBK := Lib.hid (HBC.out.trans (hbk.mono HBC.out.size))
          clear hbk
          go_wp2
          go_ret
          exact ⟨rfl, HBK.out⟩

end Go.Proofs.YtedpafdfecofnaaGreatDoor
