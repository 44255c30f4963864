/-
  Contracts of the program's own functions (and their plain mathematics), on the way to the law: each for all arguments that its hypotheses let.
-/
import Derived.Test.YtedpafdfecofnaaGreatDoorF57
import Derived.WalkKit
import Derived.WalkSpells
import Derived.WalkLawsBesides
import Derived.Deep.QuietTactic
import Derived.BigQuiet
import Derived.Lib.Hide
import Derived.WalkSmall
import Derived.Maps.OwnSet
import Derived.Maps.RangeWalk
import Derived.Deep.RegionWith
import Derived.Deep.RegionHeld3
import Derived.Deep.DrawnRows
import Derived.Deep.DeepCutAuto
import Derived.OneCell
import Derived.KernelRfl
import Derived.Laws.StructEq
import Derived.StillTailTactics
import Derived.Laws.Externs
import Derived.RangeFuncBox
import Derived.Test.YtedpafdfecofnaaGreatDoorPlain
set_option linter.unusedSimpArgs false
set_option linter.unusedVariables false

/-! ## D8 -/
namespace Go.Proofs.YtedpafdfecofnaaGreatDoor
open Go.RowKit Go.Maps Go.Shelf Go.Sort
/-- What rooted gives: the root, rounded down, of a number with zeros behind it, and whether it is exact. -/
def RootedTo (l : List Nat) (more : Nat) (w : World) (e : Ending) (w' : World) : Prop :=
  ∃ (r : List Nat) (v : Value) (ex : Bool), Dg r ∧ (dval r * dval r ≤ dval l * 100 ^ more ∧ dval l * 100 ^ more < (dval r + 1) * (dval r + 1)) ∧ ex = decide (dval r * dval r = dval l * 100 ^ more) ∧ r.length ≤ 20000 ∧ e = .returned (.tuple #[v, .bool ex]) ∧ DigsN w' v r ∧ Below w.heap.size w w'
theorem pref_succ {E : List Nat} {j : Nat} (h : 2 * j + 1 < E.length) : dval (E.take (2 * (j + 1))) = 100 * dval (E.take (2 * j)) + (10 * E.getD (2 * j) 0 + E.getD (2 * j + 1) 0) := by
  rw [show 2 * (j + 1) = 2 * j + 1 + 1 by omega, take_snoc h, dval_snoc, take_snoc (show 2 * j < E.length by omega), dval_snoc]
  omega
theorem dval_shift (l : List Nat) (more : Nat) : dval (l ++ List.replicate (2 * more) 0) = dval l * 100 ^ more := by
  rw [dval_append, dval_zeros, List.length_replicate, Nat.pow_mul]
  rfl
theorem getD_left {l z : List Nat} {i : Nat} (h : i < l.length) : (l ++ z).getD i 0 = l.getD i 0 := by
  rw [List.getD_eq_getElem?_getD, List.getElem?_append_left h, List.getD_eq_getElem?_getD]
theorem getD_zeros {l : List Nat} {n i : Nat} (h : l.length ≤ i) : (l ++ List.replicate n 0).getD i 0 = 0 := by
  rw [List.getD_eq_getElem?_getD, List.getElem?_append_right h, List.getElem?_replicate]
  split <;> rfl
theorem emptyN (w : World) {W : World} (hb : Below (w.heap.size + 1) (w.alloc (.cells #[] 3)) W) : DigsN W (.slice (some ⟨w.heap.size, 0, none⟩) 0 0) [] := by
  refine ⟨by simp, w.heap.size, 0, 0, rfl, Nat.le_refl _, ?_, fun i hi => by simp at hi⟩
  have := hb.size
  simp at this
  omega
theorem newsOne (w : World) (x : Nat) : ∀ j u, (iv [x])[j]? = some u → (w.alloc (.cells #[.int .i64 (x : Nat)] 3)).cell? ((⟨w.heap.size, 0, none⟩ : Addr).add j) = some u :=
  newsD (W := w.alloc (.cells #[.int .i64 (x : Nat)] 3)) (b := w.heap.size) (off := 0) (by simp) (fun i hi => by
    rw [Nat.zero_add]; exact (oneD w x).cellAt i hi) (Below.refl _ _)
/-- A copy into a new list: what append leaves. -/
theorem app_copy {W w3 : World} {l : List Nat} {v' : Value} (hown : w3.ownsRow W.heap.size 3 1 v' (0 + l.length) (iv [] ++ iv l)) (hg : (W.alloc (.cells #[] 3)).grownBy w3 (some W.heap.size)) (hiff : v' = .slice none 0 0 ↔ Value.slice (some ⟨W.heap.size, 0, none⟩) 0 0 = .slice none 0 0 ∧ l.length = 0) :
    (∃ g cap, v' = .slice (some ⟨g, 0, none⟩) l.length cap) ∧ OwnD w3 W.heap.size v' l ∧ Below W.heap.size W w3 := by
  have hne : v' ≠ .slice none 0 0 := fun e => by have := (hiff.1 e).1; cases this
  have ho : OwnD w3 W.heap.size v' l := by unfold OwnD; have := hown; rw [Nat.zero_add] at this; exact this
  exact ⟨ownD_shape ho hne, ho, ((Below.refl _ W).alloc (Nat.le_refl _) _).grown hg (by simp) (fun q hq => by have := Option.some.inj hq; omega)⟩
/-- One list more behind a list of the call's own. -/
theorem app_two {W w3 w4 : World} {l m : List Nat} {k : Nat} {v v' : Value} (hm : m.length = k) (hk : 0 < k) (hb : Below W.heap.size W w3) (ho : OwnD w3 W.heap.size v l) (hown : w4.ownsRow W.heap.size 3 1 v' (l.length + k) (iv l ++ iv m)) (hg : w3.grownBy w4 v.ownBlock) :
    (∃ g cap, v' = .slice (some ⟨g, 0, none⟩) (l.length + k) cap) ∧ OwnD w4 W.heap.size v' (l ++ m) ∧ Below W.heap.size W w4 ∧ v' ≠ .slice none 0 0 := by
  have ho' : OwnD w4 W.heap.size v' (l ++ m) := by unfold OwnD; rw [List.length_append, iv_append, hm]; exact hown
  obtain ⟨g, cap, e⟩ : ∃ g cap, v' = .slice (some ⟨g, 0, none⟩) (l.length + k) cap := by
    obtain ⟨k', rfl⟩ : ∃ k', k = k' + 1 := ⟨k - 1, by omega⟩
    exact ownsRow_succ hown
  exact ⟨⟨g, cap, e⟩, ho', app_more hb ho hg, by rw [e]; intro h; cases h⟩
set_option maxRecDepth 100000 in
set_option maxHeartbeats 40000000 in
/-- rooted: a square root, digit by digit. -/
theorem rooted_dig (v : Value) (l : List Nat) (more : Nat) (hl : l.length ≤ 200) (hm : more ≤ 10000) (heven : l.length % 2 = 0) (w : World) (hd : Dg l) (h : DigsN w v l) : Calls Tryz.prog 69 #[v, .int .i64 more] w (RootedTo l more w) := by
  obtain ⟨i0, hi, hz0, hz1, hz2⟩ := info_parts info3
  obtain ⟨_, bn, on, cn, rfl, hcn, hbn, hcells⟩ := h
  have HC := Lib.hid hcells
  clear hcells
  obtain ⟨E, hE⟩ : ∃ E, l ++ List.replicate (2 * more) 0 = E := ⟨_, rfl⟩
  obtain ⟨M, hM⟩ : ∃ M, 2 * more = M := ⟨_, rfl⟩
  obtain ⟨J, hJ⟩ : ∃ J, l.length + M = 2 * J := ⟨(l.length + M) / 2, by omega⟩
  have hEl : E.length = 2 * J := by rw [← hE]; simp; omega
  have hDE : Dg E := by rw [← hE]; exact Dg.append hd (Dg.zeros _)
  have hvE : dval E = dval l * 100 ^ more := by rw [← hE]; exact dval_shift l more
  have HVE := Lib.hid hvE
  have HDE := Lib.hid hDE
  have HLO : Hid (∀ i, i < l.length → E.getD i 0 = l.getD i 0) := Lib.hid (fun i hi => by rw [← hE]; exact getD_left hi)
  have HHI : Hid (∀ i, l.length ≤ i → E.getD i 0 = 0) := Lib.hid (fun i hi => by rw [← hE]; exact getD_zeros hi)
  obtain ⟨T, hT⟩ : ∃ T, 2 * J = T := ⟨_, rfl⟩
  have m1 : (2 : Int) * (more : Int) = (M : Int) := by omega
  have m2 : IntKind.i64.wrap (M : Int) = (M : Int) := IntWalk.i64_in _ (by omega)
  have m3 : (l.length : Int) + (M : Int) = (T : Int) := by omega
  have m4 : IntKind.i64.wrap (T : Int) = (T : Int) := IntWalk.i64_in _ (by omega)
  have HT := Lib.hid hT
  have HJ : Hid (J ≤ 10100) := Lib.hid (by omega)
  have HEL := Lib.hid hEl
  have HEV := Lib.hid heven
  clear hE hEl hDE hvE hd heven hM hJ
  have HI0 : Hid (DigsN ((w.alloc (.cells #[] 3)).alloc (.cells #[] 3)) (.slice (some ⟨w.heap.size, 0, none⟩) 0 0) [] ∧ DigsN ((w.alloc (.cells #[] 3)).alloc (.cells #[] 3)) (.slice (some ⟨w.heap.size + 1, 0, none⟩) 0 0) [] ∧ Below w.heap.size w ((w.alloc (.cells #[] 3)).alloc (.cells #[] 3))) := Lib.hid ⟨emptyN w ((Below.refl _ _).alloc (by simp) _), ⟨by simp, w.heap.size + 1, 0, 0, rfl, Nat.le_refl _, by simp, fun i hi => by simp at hi⟩, ((Below.refl _ w).alloc (Nat.le_refl _) _).alloc (by simp) _⟩
  go_enter Tryz.func69, Tryz.ntmps69
  go_wp2_with fail
  go_loopw [6, 7, 8, 9, 10, 11, 12, 13] (fun s6 s7 s8 _ _ _ _ _ wr => ∃ (j i : Nat) (R S : List Nat) (b6 o6 c6 b7 o7 c7 : Nat), s6 = .slice (some ⟨b6, o6, none⟩) R.length c6 ∧ s7 = .slice (some ⟨b7, o7, none⟩) S.length c7 ∧ s8 = .int .i64 (i : Nat) ∧ i = 2 * j ∧ i ≤ T ∧ R.length = j ∧ S.length ≤ i + 3 ∧ Hid (Dg R ∧ Dg S ∧ dval R * dval R + dval S = dval (E.take i) ∧ dval (E.take i) < (dval R + 1) * (dval R + 1) ∧ (S = [] ↔ dval S = 0)) ∧ Hid (DigsN wr (.slice (some ⟨b6, o6, none⟩) R.length c6) R ∧ DigsN wr (.slice (some ⟨b7, o7, none⟩) S.length c7) S ∧ Below w.heap.size w wr)) (fun _ _ s8 _ _ _ _ _ _ => T - (intOf s8).toNat)
  case atStart => exact ⟨0, 0, [], [], w.heap.size, 0, 0, w.heap.size + 1, 0, 0, rfl, rfl, rfl, rfl, Nat.zero_le _, rfl, by simp, Lib.hid ⟨Dg.nil, Dg.nil, by simp [dval], by simp [dval], by simp [dval]⟩, HI0⟩
  case round =>
    clear HI0
    obtain ⟨j, i, R, S, b6, o6, c6, b7, o7, c7, rfl, rfl, rfl, hij, hiT, hRl, hSl, HV, HO⟩ := hrel
    have HIJ : Hid (i = 2 * j ∧ R.length = j) := Lib.hid ⟨hij, hRl⟩
    by_cases hlt : i < T
    rotate_left
    · clear hij hRl
      have hie : i = T := by omega
      have HF : Hid (dval R * dval R ≤ dval l * 100 ^ more ∧ dval l * 100 ^ more < (dval R + 1) * (dval R + 1)) := Lib.hid (by
        have h := HV.out
        rw [List.take_of_length_le (by rw [HEL.out]; omega), HVE.out] at h
        exact ⟨by omega, h.2.2.2.1⟩)
      have HX : Hid (∀ q : Bool, q = ((S.length : Int) == 0) → q = decide (dval R * dval R = dval l * 100 ^ more)) := Lib.hid (by
        rintro q rfl
        have h := HV.out
        rw [List.take_of_length_le (by rw [HEL.out]; omega), HVE.out] at h
        by_cases h0 : S.length = 0
        · have h1 : dval S = 0 := h.2.2.2.2.1 (List.length_eq_zero_iff.1 h0)
          rw [h0, decide_eq_true (by omega)]; rfl
        · have h1 : dval S ≠ 0 := fun e => h0 (List.length_eq_zero_iff.2 (h.2.2.2.2.2 e))
          rw [decide_eq_false (by omega)]
          simp; intro e; exact h0 (List.length_eq_zero_iff.2 e))
      have hRb : R.length ≤ 20000 := by have := HJ.out; have := HIJ.out; have := HT.out; omega
      obtain ⟨q, hq⟩ : ∃ q, ((S.length : Int) == 0) = q := ⟨_, rfl⟩
      have HQ := Lib.hid (HX.out q hq.symm)
      clear HX hie
      have hq2 : decide ((i : Int) < (T : Int)) = false := decide_eq_false (by omega)
      have HQ2 := Lib.hid hq
      clear hq
      go_wp2
      go_ret2
      exact ⟨R, .slice (some ⟨b6, o6, none⟩) R.length c6, q, HV.out.1, HF.out, HQ.out, hRb, (by have h := HQ2.out; subst h; rfl), HO.out.1, HO.out.2.2⟩
    have hjl : R.length + 1 ≤ 10101 := by have := HJ.out; have := HT.out; omega
    have hil2 : i ≤ 20200 := by have := HJ.out; have := HT.out; omega
    have HTI : Hid (i + 2 ≤ T) := Lib.hid (by have := HT.out; omega)
    obtain ⟨p0, hp0⟩ : ∃ p, E.getD i 0 = p := ⟨_, rfl⟩
    obtain ⟨p1, hp1⟩ : ∃ p, E.getD (i + 1) 0 = p := ⟨_, rfl⟩
    have hp0b : p0 < 10 := by rw [← hp0]; exact HDE.out.getD i
    have hp1b : p1 < 10 := by rw [← hp1]; exact HDE.out.getD (i + 1)
    have HPF : Hid (dval (E.take (i + 2)) = 100 * dval (E.take i) + (10 * p0 + p1)) := Lib.hid (by
      subst hij
      rw [← hp0, ← hp1]
      exact pref_succ (by rw [HEL.out]; have := HT.out; omega))
    clear hij hRl
    have bz := HO.out.2.2.size
    go_upto_if 29 with fail
    go_cut [9] (fun s wx => ∃ b9, s = .slice (some ⟨b9, 0, none⟩) 2 2 ∧ b9 < wx.heap.size ∧ wx.cell? ⟨b9, 0, none⟩ = some (.int .i64 (p0 : Nat)) ∧ wx.cell? ⟨b9, 1, none⟩ = some (.int .i64 (p1 : Nat)) ∧ Below wr.heap.size wr wx)
    case first =>
      by_cases hil : i < l.length
      · have hil1 : i + 1 < l.length := by have := HEV.out; have := HIJ.out; omega
        have x0 := ((HO.out.2.2.cell (p := ⟨bn, _, none⟩) hbn).trans (HC.out i hil))
        have x1 := ((HO.out.2.2.cell (p := ⟨bn, _, none⟩) hbn).trans (HC.out (i + 1) hil1))
        rw [← HLO.out i hil, hp0] at x0
        rw [← HLO.out (i + 1) hil1, hp1] at x1
        have BA : Below wr.heap.size wr (wr.alloc (.cells #[.int .i64 0, .int .i64 0] 3)) := (Below.refl _ _).alloc (Nat.le_refl _) _
        have hbw : bn < wr.heap.size := by omega
        have y0 : (wr.alloc (.cells #[.int .i64 0, .int .i64 0] 3)).cell? ⟨bn, on + i, none⟩ = some (.int .i64 (p0 : Nat)) := (BA.cell (p := ⟨bn, _, none⟩) hbw).trans x0
        have y1 : (wr.alloc (.cells #[.int .i64 0, .int .i64 0] 3)).cell? ⟨bn, on + (i + 1), none⟩ = some (.int .i64 (p1 : Nat)) := (BA.cell (p := ⟨bn, _, none⟩) hbw).trans x1
        obtain ⟨W, hW⟩ : ∃ W, wr.alloc (.cells #[.int .i64 0, .int .i64 0] 3) = W := ⟨_, rfl⟩
        rw [hW] at y0 y1 BA ⊢
        obtain ⟨i', hi'⟩ : ∃ i', i + 1 = i' := ⟨_, rfl⟩
        rw [hi'] at y1 hil1
        have hi1 : (i : Int) + 1 = (i' : Int) := by omega
        have hi2 : IntKind.i64.wrap (i' : Int) = (i' : Int) := IntWalk.i64_in _ (by omega)
        have hg0 : (0 : Int) ≤ (i : Int) := by omega
        have hg1 : (i : Int) < (l.length : Int) := by omega
        have hg2 : (0 : Int) ≤ (i' : Int) := by omega
        have hg3 : (i' : Int) < (l.length : Int) := by omega
        have HBA := Lib.hid BA
        have hq1 : decide ((i : Int) < (l.length : Int)) = true := decide_eq_true hg1
        clear x0 x1 hW BA hp0 hp1 hil1 hi'
        go_wp2_with fail
        go_region
        all_goals
          go_wp2_with fail
          go_meet
          exact ⟨W.heap.size, rfl, by simp, (Two.new _ _ _ 3).c0, (Two.new _ _ _ 3).c1, (HBA.out.alloc HBA.out.size _).drew⟩
      · have z0 : p0 = 0 := by rw [← hp0]; exact HHI.out i (by omega)
        have z1 : p1 = 0 := by rw [← hp1]; exact HHI.out (i + 1) (by omega)
        subst z0 z1
        have hq1 : decide ((i : Int) < (l.length : Int)) = false := decide_eq_false (by omega)
        clear hp0 hp1
        go_wp2_with fail
        go_meet
        exact ⟨wr.heap.size, rfl, by simp, (Two.new _ _ _ 3).c0, (Two.new _ _ _ 3).c1, (Below.refl _ _).alloc (Nat.le_refl _) _⟩
    case rest KK0 hKK0 =>
      obtain ⟨b9, rfl, hb9, hc90, hc91, hbq⟩ := hcut
      obtain ⟨W, hw⟩ : ∃ W, W = wc := ⟨wc, rfl⟩
      subst hw
      have HBW : Hid (Below w.heap.size w W) := Lib.hid (HO.out.2.2.trans (hbq.mono bz))
      have HR : Hid (DigsN W (.slice (some ⟨b6, o6, none⟩) R.length c6) R) := Lib.hid (HO.out.1.below hbq)
      have HS : Hid (DigsN W (.slice (some ⟨b7, o7, none⟩) S.length c7) S) := Lib.hid (HO.out.2.1.below hbq)
      have HP9 : Hid (∀ i, i < [p0, p1].length → W.cell? ⟨b9, 0 + i, none⟩ = some (.int .i64 ([p0, p1].getD i 0 : Nat))) := Lib.hid (fun i hi => by
        rcases i with _ | _ | i
        · exact hc90
        · exact hc91
        · simp at hi; try omega)
      have HNC : Hid (∀ j u, (iv S)[j]? = some u → (W.alloc (.cells #[] 3)).cell? ((⟨b7, o7, none⟩ : Addr).add j) = some u) := Lib.hid (by
        obtain ⟨_, b, o, c, e, _, hb, hc⟩ := HS.out
        obtain ⟨rfl, rfl⟩ : b7 = b ∧ o7 = o := by cases e; exact ⟨rfl, rfl⟩
        exact newsD hb hc ((Below.refl _ W).alloc (Nat.le_refl _) _))
      clear hbq HO hc90 hc91 hp0 hp1
      go_wp2_with (first
        | (at_builtin; refine wpList_append_own _ rfl _ _ 88 rfl W.heap.size 3 i0 (.int .i64 0) 1 8 und88 hi hz0 hz1 hz2 rfl (by decide) (.slice (some ⟨W.heap.size, 0, none⟩) 0 0) 0 (iv []) rfl (emptyD W) ⟨b7, o7, none⟩ S.length c7 (iv S) rfl (by rw [iv_len]; omega) HNC.out (iv_one _) (by unfold maxLen; omega) (by omega) (by simp) ?_; intro v1 w31 hown3 hgrow3 hiff3; obtain ⟨⟨g1, c1, rfl⟩, hod1, hbd1⟩ := app_copy hown3 hgrow3 hiff3; have HOD1 := Lib.hid hod1; have HBD1 := Lib.hid hbd1; clear hown3 hgrow3 hiff3 hod1 hbd1)
        | (at_builtin; refine wpList_append_own _ rfl _ _ 88 rfl W.heap.size 3 i0 (.int .i64 0) 1 8 und88 hi hz0 hz1 hz2 rfl (by decide) (.slice (some ⟨g1, 0, none⟩) S.length c1) S.length (iv S) rfl HOD1.out ⟨b9, 0, none⟩ 2 2 (iv [p0, p1]) rfl rfl (newsD (l := [p0, p1]) hb9 HP9.out HBD1.out) (iv_one _) (by unfold maxLen; omega) (by omega) (by have := HBD1.out.size; omega) ?_; intro v2 w4 hown4 hgrow4 hiff4; obtain ⟨⟨g2, c2, rfl⟩, hod2, hbd2, hne2⟩ := app_two (m := [p0, p1]) (k := 2) rfl (by omega) HBD1.out HOD1.out hown4 hgrow4; have HOD2 := Lib.hid hod2; have HBD2 := Lib.hid hbd2; have HNE2 := Lib.hid hne2; clear hown4 hgrow4 hiff4 hod2 hbd2 hne2))
      have HSD : Hid (Dg (S ++ [p0, p1]) ∧ dval (S ++ [p0, p1]) = 100 * dval S + (10 * p0 + p1)) := Lib.hid ⟨Dg.append HV.out.2.1 (Dg.cons hp0b (Dg.one hp1b)), by
        rw [dval_append]; simp [dval]; omega⟩
      have hSl2 : (S ++ [p0, p1]).length = S.length + 2 := by simp
      have HN2 := Lib.hid (HOD2.out.atN HNE2.out (by omega))
      refine (trim_dig _ (S ++ [p0, p1]) (by omega) _ HN2.out).mono ?_
      rintro e w5 ⟨S2, v7, hS2, rfl, hn5, hb5⟩
      have HB5 : Hid (Below W.heap.size W w5) := Lib.hid (HBD2.out.trans (hb5.mono HBD2.out.size))
      have HS2 : Hid (Dg S2 ∧ dval S2 = 100 * dval S + (10 * p0 + p1)) := Lib.hid (by rw [hS2]; exact ⟨HSD.out.1.trim, by rw [dval_trim]; exact HSD.out.2⟩)
      have hS2l : S2.length ≤ S.length + 2 := by rw [hS2]; have := trim_len (S ++ [p0, p1]); omega
      have HN5 := Lib.hid hn5
      have HBW5 : Hid (Below w.heap.size w w5) := Lib.hid (HBW.out.trans (HB5.out.mono HBW.out.size))
      have HR5 := Lib.hid (HR.out.below HB5.out)
      obtain ⟨_, b7', o7', c7', rfl, _⟩ := hn5
      clear hS2 hb5 HOD1 HBD1 HOD2 HBD2 HNE2 HN2 HSD HS HP9 HNC HR HB5 HBW hb9
      have HI1 : Hid (DigsN (w5.alloc (.cells #[] 3)) (.slice (some ⟨w5.heap.size, 0, none⟩) 0 0) [] ∧ Below w5.heap.size w5 (w5.alloc (.cells #[] 3))) := Lib.hid ⟨emptyN w5 (Below.refl _ _), (Below.refl _ _).alloc (Nat.le_refl _) _⟩
      go_wp2_with fail
      go_loopw [10, 11, 12, 13] (fun s10 s11 s12 _ wq => ∃ (d : Nat) (P : List Nat) (b11 o11 c11 : Nat), s10 = .int .i64 (d : Nat) ∧ s11 = .slice (some ⟨b11, o11, none⟩) P.length c11 ∧ s12 = .int .i64 ((d : Int) + 1) ∧ d ≤ 9 ∧ P.length ≤ R.length + 3 ∧ Hid (Dg P ∧ dval P = (20 * dval R + d) * d ∧ dval P ≤ dval S2) ∧ Hid (DigsN wq (.slice (some ⟨b11, o11, none⟩) P.length c11) P ∧ Below w5.heap.size w5 wq)) (fun _ _ s12 _ _ => 10 - (intOf s12).toNat)
      case atStart => exact ⟨0, [], w5.heap.size, 0, 0, rfl, rfl, rfl, by omega, by simp, Lib.hid ⟨Dg.nil, by simp [dval], by simp [dval]⟩, HI1⟩
      case round =>
        clear HI1
        obtain ⟨d, P, b11, o11, c11, rfl, rfl, rfl, hd9, hPl, HPV, HPO⟩ := hrel
        have HRq := Lib.hid (HR5.out.below HPO.out.2)
        have HSq := Lib.hid (HN5.out.below HPO.out.2)
        have HBq := Lib.hid (HBW5.out.trans (HPO.out.2.mono HBW5.out.size))
        by_cases hd8 : d ≤ 8
        rotate_left
        · have hde : d = 9 := by omega
          have HST : Hid (d = 9 ∨ 100 * dval S + (10 * p0 + p1) < (20 * dval R + (d + 1)) * (d + 1)) := Lib.hid (.inl hde)
          have hq9 : ¬ (d : Int) + 1 ≤ 9 := by omega
          clear hde hd8
          have HNC : Hid (∀ j u, (iv R)[j]? = some u → (wr.alloc (.cells #[] 3)).cell? ((⟨b6, o6, none⟩ : Addr).add j) = some u) := Lib.hid (by
            obtain ⟨_, b, o, c, e, _, hb, hc⟩ := HRq.out
            obtain ⟨rfl, rfl⟩ : b6 = b ∧ o6 = o := by cases e; exact ⟨rfl, rfl⟩
            exact newsD hb hc ((Below.refl _ wr).alloc (Nat.le_refl _) _))
          go_wp2_with (first
            | (at_builtin; refine wpList_append_own _ rfl _ _ 88 rfl wr.heap.size 3 i0 (.int .i64 0) 1 8 und88 hi hz0 hz1 hz2 rfl (by decide) (.slice (some ⟨wr.heap.size, 0, none⟩) 0 0) 0 (iv []) rfl (emptyD wr) ⟨b6, o6, none⟩ R.length c6 (iv R) rfl (by rw [iv_len]; omega) HNC.out (iv_one _) (by unfold maxLen; omega) (by omega) (by simp) ?_; intro v1 w31 hown3 hgrow3 hiff3; obtain ⟨⟨g1, c1, rfl⟩, hod1, hbd1⟩ := app_copy hown3 hgrow3 hiff3; have HOD1 := Lib.hid hod1; have HBD1 := Lib.hid hbd1; have HNO := Lib.hid (newsOne w31 d); have hsz1 := hbd1.size; clear hown3 hgrow3 hiff3 hod1 hbd1)
            | (at_builtin; refine wpList_append_own _ rfl _ _ 88 rfl wr.heap.size 3 i0 (.int .i64 0) 1 8 und88 hi hz0 hz1 hz2 rfl (by decide) (.slice (some ⟨g1, 0, none⟩) R.length c1) R.length (iv R) rfl (World.ownsRow.alloc HOD1.out _) ⟨w31.heap.size, 0, none⟩ 1 1 (iv [d]) rfl rfl HNO.out (iv_one _) (by unfold maxLen; omega) (by omega) (by simp; omega) ?_; intro v2 w4 hown4 hgrow4 hiff4; obtain ⟨⟨g2, c2, rfl⟩, hod2, hbd2, hne2⟩ := app_two (m := [d]) (k := 1) rfl (by omega) (HBD1.out.alloc HBD1.out.size _) (World.ownsRow.alloc HOD1.out _) hown4 hgrow4; have HOD2 := Lib.hid hod2; have HBD2 := Lib.hid hbd2; have HNE2 := Lib.hid hne2; clear hown4 hgrow4 hiff4 hod2 hbd2 hne2))
          have HRD : Hid (Dg (R ++ [d]) ∧ dval (R ++ [d]) = 10 * dval R + d) := Lib.hid ⟨Dg.append HV.out.1 (Dg.one (by omega)), dval_snoc R d⟩
          have hRl2 : (R ++ [d]).length = R.length + 1 := by simp
          have HN2 := Lib.hid (HOD2.out.atN HNE2.out (by omega))
          refine (sub_dig _ _ S2 P (by omega) (by omega) _ HPV.out.2.2 HS2.out.1 HPV.out.1 (HSq.out.below HBD2.out).at (HPO.out.1.below HBD2.out).at).mono ?_
          rintro e w5' ⟨D, vd, ⟨hD1, hD2, hD3⟩, rfl, hne, hod, hbd⟩
          have HN3 := Lib.hid (HN2.out.below hbd)
          have HB3 : Hid (Below wr.heap.size wr w5') := Lib.hid (HBD2.out.trans (hbd.mono HBD2.out.size))
          have HD := Lib.hid (And.intro hD1 hD2)
          have hDl : D.length ≤ i + 5 := by have := HIJ.out; omega
          have HND := Lib.hid (hod.atN hne (by omega))
          clear hod hbd hne hD1 hD2 HOD1 HBD1 HOD2 HBD2 HNE2 HN2 HNC HNO
          go_wp2_with fail
          refine (trim_dig _ D (by omega) _ HND.out).mono ?_
          rintro e w6 ⟨S3, v8, hS3, rfl, hn6, hb6⟩
          have HN6 := Lib.hid hn6
          have HN4 := Lib.hid (HN3.out.below hb6)
          have HB6 : Hid (Below w.heap.size w w6) := Lib.hid ((HBq.out.trans (HB3.out.mono HBq.out.size)).trans (hb6.mono (Nat.le_trans HBq.out.size HB3.out.size)))
          have HV2 : Hid (Dg (R ++ [d]) ∧ Dg S3 ∧ dval (R ++ [d]) * dval (R ++ [d]) + dval S3 = dval (E.take (i + 2)) ∧ dval (E.take (i + 2)) < (dval (R ++ [d]) + 1) * (dval (R ++ [d]) + 1) ∧ (S3 = [] ↔ dval S3 = 0)) := Lib.hid (by
            obtain ⟨h1, h2⟩ := root_step (R := dval R) (rest := dval S) (NN := dval (E.take i)) (d := d) (pair := 10 * p0 + p1) HV.out.2.2.1 HV.out.2.2.2.1 (by omega) hd9 (by have := HPV.out; have := HS2.out.2; omega) HST.out
            have hs : dval S3 = 100 * dval S + (10 * p0 + p1) - (20 * dval R + d) * d := by rw [hS3, dval_trim, HD.out.2, HS2.out.2, HPV.out.2.1]
            rw [HRD.out.2, hs, HPF.out]
            exact ⟨HRD.out.1, by rw [hS3]; exact HD.out.1.trim, h1, h2, by rw [← hs, hS3, trim_empty, dval_trim]⟩)
          have hS3l : S3.length ≤ i + 2 + 3 := by rw [hS3]; have := trim_len D; omega
          obtain ⟨i2, hi2⟩ : ∃ i2, i + 2 = i2 := ⟨_, rfl⟩
          have hg1 : (i : Int) + 2 = (i2 : Int) := by omega
          have hg2 : IntKind.i64.wrap (i2 : Int) = (i2 : Int) := IntWalk.i64_in _ (by omega)
          have HI2' := Lib.hid hi2
          obtain ⟨_, b8, o8, c8, rfl, _⟩ := hn6
          have hiT2 : i + 2 ≤ T := HTI.out
          have hi2T : i < i2 := by omega
          rw [hi2] at hS3l hiT2 HV2
          clear hS3 hb6 HND HD HN3 HB3 HRD HPV HST hi2
          go_wp2
          go_roundw
          case rel => exact ⟨j + 1, i2, R ++ [d], S3, g2, 0, c2, b8, o8, c8, by rw [hRl2], rfl, rfl, by have := HIJ.out; have := HI2'.out; omega, hiT2, by have := HIJ.out; omega, hS3l, HV2, Lib.hid ⟨by rw [hRl2]; exact HN4.out, HN6.out, HB6.out⟩⟩
          case measure => simp [intOf]; omega
        · obtain ⟨nx, hnx⟩ : ∃ nx, d + 1 = nx := ⟨_, rfl⟩
          have hnx' : (d : Int) + 1 = (nx : Int) := by omega
          rw [hnx']
          have hq9 : (nx : Int) ≤ 9 := by omega
          have hn9 : nx ≤ 9 := by omega
          have HNX := Lib.hid hnx
          clear hnx'
          go_wp2_with fail
          refine (times_dig _ R 2 (by omega) (by omega) _ HV.out.1 HRq.out.at).mono ?_
          rintro e wa ⟨A, va, ⟨hA1, hA2, hA3⟩, rfl, hne, hoa, hba⟩
          obtain ⟨ga, ca, rfl⟩ := ownD_shape hoa hne
          have HOA := Lib.hid hoa
          have HBA := Lib.hid hba
          have HA := Lib.hid (And.intro hA1 hA2)
          have HNO := Lib.hid (newsOne wa nx)
          have hsz := hba.size
          clear hoa hba hA1 hA2 hne
          go_wp2_with (first
            | (at_builtin; refine wpList_append_own _ rfl _ _ 88 rfl wr.heap.size 3 i0 (.int .i64 0) 1 8 und88 hi hz0 hz1 hz2 rfl (by decide) (.slice (some ⟨ga, 0, none⟩) A.length ca) A.length (iv A) rfl (World.ownsRow.alloc HOA.out _) ⟨wa.heap.size, 0, none⟩ 1 1 (iv [nx]) rfl rfl HNO.out (iv_one _) (by unfold maxLen; omega) (by omega) (by simp; omega) ?_; intro v2 w4 hown4 hgrow4 hiff4; obtain ⟨⟨g2, c2, rfl⟩, hod2, hbd2, hne2⟩ := app_two (m := [nx]) (k := 1) rfl (by omega) (HBA.out.alloc HBA.out.size _) (World.ownsRow.alloc HOA.out _) hown4 hgrow4; have HOD2 := Lib.hid hod2; have HBD2 := Lib.hid hbd2; clear hown4 hgrow4 hiff4 hod2 hbd2 hne2))
          have HA2 : Hid (Dg (A ++ [nx]) ∧ dval (A ++ [nx]) = 20 * dval R + nx) := Lib.hid ⟨Dg.append HA.out.1 (Dg.one (by omega)), by rw [dval_snoc, HA.out.2]; omega⟩
          have hAl : (A ++ [nx]).length = A.length + 1 := by simp
          have HN2 := Lib.hid (HOD2.out.at (by omega))
          refine (times_dig _ (A ++ [nx]) nx hn9 (by omega) _ HA2.out.1 HN2.out).mono ?_
          rintro e wb ⟨C, vc, ⟨hC1, hC2, hC3⟩, rfl, hne, hoc, hbc⟩
          have HBC : Hid (Below wr.heap.size wr wb) := Lib.hid (HBD2.out.trans (hbc.mono HBD2.out.size))
          have HNC := Lib.hid (hoc.atN hne (by omega))
          have HCV : Hid (Dg C ∧ dval C = (20 * dval R + nx) * nx) := Lib.hid ⟨hC1, by rw [hC2, HA2.out.2]⟩
          have hCl : C.length ≤ R.length + 3 := by omega
          have HSb := Lib.hid (HSq.out.below HBC.out)
          obtain ⟨gc, cc, rfl⟩ := ownD_shape hoc hne
          clear hoc hbc hC1 hC2 hne HN2 HOD2 HBD2 HA2 HNO HA HOA HBA
          go_wp2_with fail
          refine (atLeast_dig _ _ S2 C (by omega) (by omega) _ HS2.out.1 HCV.out.1 HSb.out.at HNC.out.at).mono ?_
          rintro e wd ⟨rfl, hbd⟩
          have HBD : Hid (Below wr.heap.size wr wd) := Lib.hid (HBC.out.trans (hbd.mono HBC.out.size))
          have HND := Lib.hid (HNC.out.below hbd)
          clear hbd HNC HBC HSb
          by_cases hle : dval C ≤ dval S2
          · rw [decide_eq_true hle]
            have HPV2 : Hid (Dg C ∧ dval C = (20 * dval R + nx) * nx ∧ dval C ≤ dval S2) := Lib.hid ⟨HCV.out.1, HCV.out.2, hle⟩
            have HPO2 : Hid (DigsN wd (.slice (some ⟨gc, 0, none⟩) C.length cc) C ∧ Below w5.heap.size w5 wd) := Lib.hid ⟨HND.out, HPO.out.2.trans (HBD.out.mono HPO.out.2.size)⟩
            have hlt9 : d < nx := by omega
            clear hle HCV HND hnx
            go_wp2
            go_roundw
            case rel => exact ⟨nx, C, gc, 0, cc, rfl, rfl, by go_num, hn9, hCl, HPV2, HPO2⟩
            case measure => simp [intOf]; omega
          · rw [decide_eq_false hle]
            have HST : Hid (d = 9 ∨ 100 * dval S + (10 * p0 + p1) < (20 * dval R + (d + 1)) * (d + 1)) := Lib.hid (.inr (by
              have h1 := HCV.out.2
              have h2 := HS2.out.2
              rw [← hnx] at h1
              omega))
            have HPO2 : Hid (DigsN wd (.slice (some ⟨b11, o11, none⟩) P.length c11) P ∧ Below w5.heap.size w5 wd) := Lib.hid ⟨HPO.out.1.below HBD.out, HPO.out.2.trans (HBD.out.mono HPO.out.2.size)⟩
            have HRd := Lib.hid (HRq.out.below HBD.out)
            have HSd := Lib.hid (HSq.out.below HBD.out)
            have HBd := Lib.hid (HBq.out.trans (HBD.out.mono HBq.out.size))
            clear hle HCV HND HRq HSq HBq HBD
            have HNC : Hid (∀ j u, (iv R)[j]? = some u → (wd.alloc (.cells #[] 3)).cell? ((⟨b6, o6, none⟩ : Addr).add j) = some u) := Lib.hid (by
              obtain ⟨_, b, o, c, e, _, hb, hc⟩ := HRd.out
              obtain ⟨rfl, rfl⟩ : b6 = b ∧ o6 = o := by cases e; exact ⟨rfl, rfl⟩
              exact newsD hb hc ((Below.refl _ wd).alloc (Nat.le_refl _) _))
            go_wp2_with (first
              | (at_builtin; refine wpList_append_own _ rfl _ _ 88 rfl wd.heap.size 3 i0 (.int .i64 0) 1 8 und88 hi hz0 hz1 hz2 rfl (by decide) (.slice (some ⟨wd.heap.size, 0, none⟩) 0 0) 0 (iv []) rfl (emptyD wd) ⟨b6, o6, none⟩ R.length c6 (iv R) rfl (by rw [iv_len]; omega) HNC.out (iv_one _) (by unfold maxLen; omega) (by omega) (by simp) ?_; intro v1 w31 hown3 hgrow3 hiff3; obtain ⟨⟨g1, c1, rfl⟩, hod1, hbd1⟩ := app_copy hown3 hgrow3 hiff3; have HOD1 := Lib.hid hod1; have HBD1 := Lib.hid hbd1; have HNO := Lib.hid (newsOne w31 d); have hsz1 := hbd1.size; clear hown3 hgrow3 hiff3 hod1 hbd1)
              | (at_builtin; refine wpList_append_own _ rfl _ _ 88 rfl wd.heap.size 3 i0 (.int .i64 0) 1 8 und88 hi hz0 hz1 hz2 rfl (by decide) (.slice (some ⟨g1, 0, none⟩) R.length c1) R.length (iv R) rfl (World.ownsRow.alloc HOD1.out _) ⟨w31.heap.size, 0, none⟩ 1 1 (iv [d]) rfl rfl HNO.out (iv_one _) (by unfold maxLen; omega) (by omega) (by simp; omega) ?_; intro v2 w4 hown4 hgrow4 hiff4; obtain ⟨⟨g2, c2, rfl⟩, hod2, hbd2, hne2⟩ := app_two (m := [d]) (k := 1) rfl (by omega) (HBD1.out.alloc HBD1.out.size _) (World.ownsRow.alloc HOD1.out _) hown4 hgrow4; have HOD2 := Lib.hid hod2; have HBD2 := Lib.hid hbd2; have HNE2 := Lib.hid hne2; clear hown4 hgrow4 hiff4 hod2 hbd2 hne2))
            have HRD : Hid (Dg (R ++ [d]) ∧ dval (R ++ [d]) = 10 * dval R + d) := Lib.hid ⟨Dg.append HV.out.1 (Dg.one (by omega)), dval_snoc R d⟩
            have hRl2 : (R ++ [d]).length = R.length + 1 := by simp
            have HN2 := Lib.hid (HOD2.out.atN HNE2.out (by omega))
            refine (sub_dig _ _ S2 P (by omega) (by omega) _ HPV.out.2.2 HS2.out.1 HPV.out.1 (HSd.out.below HBD2.out).at (HPO2.out.1.below HBD2.out).at).mono ?_
            rintro e w5' ⟨D, vd, ⟨hD1, hD2, hD3⟩, rfl, hne, hod, hbd⟩
            have HN3 := Lib.hid (HN2.out.below hbd)
            have HB3 : Hid (Below wd.heap.size wd w5') := Lib.hid (HBD2.out.trans (hbd.mono HBD2.out.size))
            have HD := Lib.hid (And.intro hD1 hD2)
            have hDl : D.length ≤ i + 5 := by have := HIJ.out; omega
            have HND := Lib.hid (hod.atN hne (by omega))
            clear hod hbd hne hD1 hD2 HOD1 HBD1 HOD2 HBD2 HNE2 HN2 HNC HNO
            go_wp2_with fail
            refine (trim_dig _ D (by omega) _ HND.out).mono ?_
            rintro e w6 ⟨S3, v8, hS3, rfl, hn6, hb6⟩
            have HN6 := Lib.hid hn6
            have HN4 := Lib.hid (HN3.out.below hb6)
            have HB6 : Hid (Below w.heap.size w w6) := Lib.hid ((HBd.out.trans (HB3.out.mono HBd.out.size)).trans (hb6.mono (Nat.le_trans HBd.out.size HB3.out.size)))
            have HV2 : Hid (Dg (R ++ [d]) ∧ Dg S3 ∧ dval (R ++ [d]) * dval (R ++ [d]) + dval S3 = dval (E.take (i + 2)) ∧ dval (E.take (i + 2)) < (dval (R ++ [d]) + 1) * (dval (R ++ [d]) + 1) ∧ (S3 = [] ↔ dval S3 = 0)) := Lib.hid (by
              obtain ⟨h1, h2⟩ := root_step (R := dval R) (rest := dval S) (NN := dval (E.take i)) (d := d) (pair := 10 * p0 + p1) HV.out.2.2.1 HV.out.2.2.2.1 (by omega) hd9 (by have := HPV.out; have := HS2.out.2; omega) HST.out
              have hs : dval S3 = 100 * dval S + (10 * p0 + p1) - (20 * dval R + d) * d := by rw [hS3, dval_trim, HD.out.2, HS2.out.2, HPV.out.2.1]
              rw [HRD.out.2, hs, HPF.out]
              exact ⟨HRD.out.1, by rw [hS3]; exact HD.out.1.trim, h1, h2, by rw [← hs, hS3, trim_empty, dval_trim]⟩)
            have hS3l : S3.length ≤ i + 2 + 3 := by rw [hS3]; have := trim_len D; omega
            obtain ⟨i2, hi2⟩ : ∃ i2, i + 2 = i2 := ⟨_, rfl⟩
            have hg1 : (i : Int) + 2 = (i2 : Int) := by omega
            have hg2 : IntKind.i64.wrap (i2 : Int) = (i2 : Int) := IntWalk.i64_in _ (by omega)
            have HI2' := Lib.hid hi2
            obtain ⟨_, b8, o8, c8, rfl, _⟩ := hn6
            have hiT2 : i + 2 ≤ T := HTI.out
            have hi2T : i < i2 := by omega
            rw [hi2] at hS3l hiT2 HV2
            clear hS3 hb6 HND HD HN3 HB3 HRD HPV HST hi2
            go_wp2
            go_roundw
            case rel => exact ⟨j + 1, i2, R ++ [d], S3, g2, 0, c2, b8, o8, c8, by rw [hRl2], rfl, rfl, by have := HIJ.out; have := HI2'.out; omega, hiT2, by have := HIJ.out; omega, hS3l, HV2, Lib.hid ⟨by rw [hRl2]; exact HN4.out, HN6.out, HB6.out⟩⟩
            case measure => simp [intOf]; omega
end Go.Proofs.YtedpafdfecofnaaGreatDoor
