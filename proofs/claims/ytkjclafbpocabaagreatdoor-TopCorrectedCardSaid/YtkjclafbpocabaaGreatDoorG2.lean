/-
  Contracts of the program's own functions (and their plain mathematics), on the way to the law: each for all arguments that its hypotheses let.
-/
import Derived.Test.YtkjclafbpocabaaGreatDoorG1
import Derived.WalkKit
import Derived.WalkSpells
import Derived.WalkLawsBesides
import Derived.Deep.QuietTactic
import Derived.BigQuiet
import Derived.Lib.Hide
import Derived.WalkSmall
import Derived.Maps.OwnSet
import Derived.Maps.RangeWalk
set_option linter.unusedSimpArgs false
set_option linter.unusedVariables false

/-! ## S5 -/
namespace Go.Proofs.YtkjclafbpocabaaGreatDoor
open Go.RowKit
def validF (d : Int) (l : List (Int × Int)) : Bool := inB d 1 100000 && (decide (l.length ≤ 4) && (l.all isTermF && (ascF l && decide (dvF d l = 1))))

/-- What a closure of 'valid' is handed: the box of a number. -/
def BoxN (w : World) (p : Nat) (d : Int) (v : Value) (l : List (Int × Int)) : Prop :=
  w.cell? ⟨p, 0, none⟩ = some (.int .i64 d) ∧ w.cell? ⟨p, 1, none⟩ = some v ∧ p < w.heap.size ∧ TermsAt w v l
theorem BoxN.below {w w' : World} {p : Nat} {d : Int} {v : Value} {l : List (Int × Int)} (h : BoxN w p d v l) (hw : Below w.heap.size w w') : BoxN w' p d v l :=
  ⟨(hw.cell (p := ⟨p, 0, none⟩) h.2.2.1).trans h.1, (hw.cell (p := ⟨p, 1, none⟩) h.2.2.1).trans h.2.1, Nat.lt_of_lt_of_le h.2.2.1 hw.size, h.2.2.2.below hw⟩

theorem valid1 (p : Nat) (d : Int) (v : Value) (l : List (Int × Int)) (w : World) (h : BoxN w p d v l) :
    Calls Tryz.prog 161 #[.pointer (some ⟨p, 0, none⟩)] w (AnsB (inB d 1 100000) w) := by
  obtain ⟨h0, h1, hp, _⟩ := h
  go_enter Tryz.func161, Tryz.ntmps161
  go_wp2_with fail
  refine (within_any d 1 100000 _).mono ?_
  rintro e w2 ⟨rfl, rfl⟩
  go_wp2
  go_ret
  exact ⟨rfl, Below.refl _ _⟩

theorem valid2 (p : Nat) (d : Int) (v : Value) (l : List (Int × Int)) (w : World) (h : BoxN w p d v l) :
    Calls Tryz.prog 162 #[.pointer (some ⟨p, 0, none⟩)] w (AnsB (decide (l.length ≤ 4)) w) := by
  obtain ⟨h0, h1, hp, hl, ⟨rfl, a, cap, rfl⟩ | ⟨b, off, cap, rfl, _, hb, hc⟩⟩ := h
  · go_enter Tryz.func162, Tryz.ntmps162
    go_wp2
    go_ret
    exact ⟨rfl, Below.refl _ _⟩
  · have HC := Lib.hid hc
    clear hc
    go_enter Tryz.func162, Tryz.ntmps162
    go_wp2
    go_ret
    exact ⟨ret_bool (by rw [Bool.eq_iff_iff]; simp; try omega), Below.refl _ _⟩

theorem valid3 (p : Nat) (d : Int) (v : Value) (l : List (Int × Int)) (w : World) (h : BoxN w p d v l) :
    Calls Tryz.prog 163 #[.pointer (some ⟨p, 0, none⟩)] w (AnsB (l.all isTermF) w) := by
  obtain ⟨h0, h1, hp, ht⟩ := h
  have HT := Lib.hid ht
  clear ht
  go_enter Tryz.func163, Tryz.ntmps163
  go_wp2_with fail
  refine (everyTerm_at v l _ HT.out).mono ?_
  rintro e w2 ⟨rfl, hb⟩
  have HB := Lib.hid hb
  clear hb
  go_wp2
  go_ret
  exact ⟨rfl, HB.out⟩

theorem valid4 (p : Nat) (d : Int) (v : Value) (l : List (Int × Int)) (w : World) (h : BoxN w p d v l) :
    Calls Tryz.prog 165 #[.pointer (some ⟨p, 0, none⟩)] w (AnsB (ascF l) w) := by
  obtain ⟨h0, h1, hp, ht⟩ := h
  have HT := Lib.hid ht
  clear ht
  go_enter Tryz.func165, Tryz.ntmps165
  go_wp2_with fail
  refine (ascending_at v l _ HT.out).mono ?_
  rintro e w2 ⟨rfl, n, rfl⟩
  go_wp2
  go_ret
  exact ⟨rfl, below_drewN (Below.refl _ _) _⟩

theorem valid5 (p : Nat) (d : Int) (v : Value) (l : List (Int × Int)) (w : World) (h : BoxN w p d v l)
    (hd1 : -9000000000000000000 ≤ d) (hd2 : d ≤ 9000000000000000000) (hlb : Hid (∀ t ∈ l, -9000000000000000000 ≤ t.1 ∧ t.1 ≤ 9000000000000000000)) :
    Calls Tryz.prog 167 #[.pointer (some ⟨p, 0, none⟩)] w (AnsB (decide (dvF d l = 1)) w) := by
  obtain ⟨h0, h1, hp, ht⟩ := h
  have HT := Lib.hid ht
  clear ht
  go_enter Tryz.func167, Tryz.ntmps167
  go_wp2_with fail
  refine (divisor_at d v l _ HT.out hd1 hd2 hlb).mono ?_
  rintro e w2 ⟨rfl, hb⟩
  have HB := Lib.hid hb
  clear hb
  go_wp2
  go_ret
  exact ⟨ret_bool (by rw [Bool.eq_iff_iff]; simp; try omega), HB.out⟩


def condF (d : Int) (l : List (Int × Int)) : Nat → Bool
  | 0 => inB d 1 100000
  | 1 => decide (l.length ≤ 4)
  | 2 => l.all isTermF
  | 3 => ascF l
  | _ => decide (dvF d l = 1)
theorem validF_no (d : Int) (l : List (Int × Int)) (k : Nat) (h : condF d l k = false) : validF d l = false := by
  match k, h with
  | 0, h => simp only [condF] at h; simp [validF, h]
  | 1, h => simp only [condF] at h; simp [validF, h]
  | 2, h => simp only [condF] at h; simp [validF, h]
  | 3, h => simp only [condF] at h; simp [validF, h]
  | k + 4, h => simp only [condF] at h; simp [validF, h]
theorem validF_yes (d : Int) (l : List (Int × Int)) (h : ∀ k, k < 5 → condF d l k = true) : validF d l = true := by
  have h0 := h 0 (by omega); have h1 := h 1 (by omega); have h2 := h 2 (by omega); have h3 := h 3 (by omega); have h4 := h 4 (by omega)
  simp only [condF] at h0 h1 h2 h3 h4
  simp [validF, h0, h1, h2, h3, h4]
theorem cond_bd (d : Int) (l : List (Int × Int)) (h0 : condF d l 0 = true) (h2 : condF d l 2 = true) : (-9000000000000000000 ≤ d ∧ d ≤ 9000000000000000000) ∧ ∀ t ∈ l, -9000000000000000000 ≤ t.1 ∧ t.1 ≤ 9000000000000000000 := by
  simp only [condF, inB] at h0 h2
  simp at h0 h2
  refine ⟨by omega, fun t ht => ?_⟩
  have := h2 t.1 t.2 ht
  simp [isTermF, isPartF, inB] at this
  omega

def CondAt (w : World) (q p : Nat) : Prop :=
  w.cell? ⟨q, 0, none⟩ = some (.func (.func 161) #[] #[.pointer (some ⟨p, 0, none⟩)]) ∧ w.cell? ⟨q, 1, none⟩ = some (.func (.func 162) #[] #[.pointer (some ⟨p, 0, none⟩)]) ∧
  w.cell? ⟨q, 2, none⟩ = some (.func (.func 163) #[] #[.pointer (some ⟨p, 0, none⟩)]) ∧ w.cell? ⟨q, 3, none⟩ = some (.func (.func 165) #[] #[.pointer (some ⟨p, 0, none⟩)]) ∧
  w.cell? ⟨q, 4, none⟩ = some (.func (.func 167) #[] #[.pointer (some ⟨p, 0, none⟩)])
theorem CondAt.below {w w' : World} {q p : Nat} (h : CondAt w q p) (hq : q < w.heap.size) (hw : Below w.heap.size w w') : CondAt w' q p := by
  obtain ⟨h0, h1, h2, h3, h4⟩ := h
  exact ⟨(hw.cell (p := ⟨q, 0, none⟩) hq).trans h0, (hw.cell (p := ⟨q, 1, none⟩) hq).trans h1, (hw.cell (p := ⟨q, 2, none⟩) hq).trans h2, (hw.cell (p := ⟨q, 3, none⟩) hq).trans h3, (hw.cell (p := ⟨q, 4, none⟩) hq).trans h4⟩

theorem cond_call (d : Int) (v : Value) (l : List (Int × Int)) (q p k : Nat) (w : World) (hb : BoxN w p d v l) (hk : k < 5) (hp : ∀ j, j < k → condF d l j = true) (f : Nat)
    (hf : (k = 0 ∧ f = 161) ∨ (k = 1 ∧ f = 162) ∨ (k = 2 ∧ f = 163) ∨ (k = 3 ∧ f = 165) ∨ (k = 4 ∧ f = 167)) :
    Calls Tryz.prog f #[.pointer (some ⟨p, 0, none⟩)] w (AnsB (condF d l k) w) := by
  rcases hf with ⟨rfl, rfl⟩ | ⟨rfl, rfl⟩ | ⟨rfl, rfl⟩ | ⟨rfl, rfl⟩ | ⟨rfl, rfl⟩
  · exact valid1 p d v l w hb
  · exact valid2 p d v l w hb
  · exact valid3 p d v l w hb
  · exact valid4 p d v l w hb
  · have := cond_bd d l (hp 0 (by omega)) (hp 2 (by omega))
    exact valid5 p d v l w hb this.1.1 this.1.2 (Lib.hid this.2)

theorem cond_succ (d : Int) (l : List (Int × Int)) (k : Nat) (h : ∀ j, j < k → condF d l j = true) (hk : condF d l k = true) : ∀ j, j < k + 1 → condF d l j = true := by
  intro j hj
  by_cases he : j = k
  · subst he; exact hk
  · exact h j (by omega)

set_option maxHeartbeats 1000000 in
theorem all_valid (d : Int) (v : Value) (l : List (Int × Int)) (q p : Nat) (w : World) (hb : BoxN w p d v l) (hq : q < w.heap.size) (hc : CondAt w q p) :
    Calls Tryz.prog 160 #[.slice (some ⟨q, 0, none⟩) 5 5] w (AnsB (validF d l) w) := by
  have HB := Lib.hid hb
  have HC := Lib.hid hc
  clear hb hc
  go_enter Tryz.func160, Tryz.ntmps160
  go_wp2
  go_loopw [4, 7] (fun u i wr => ∃ k : Nat, k ≤ 5 ∧ i = .int .i64 k ∧ Hid (∀ j, j < k → condF d l j = true) ∧ Below w.heap.size w wr) (fun _ i _ => 5 - (intOf i).toNat)
  case atStart => exact ⟨0, Nat.zero_le _, rfl, Lib.hid (fun j hj => by omega), Below.refl _ _⟩
  case round =>
    obtain ⟨k, hk, rfl, HP, hbw⟩ := hrel
    obtain ⟨c0, c1, c2, c3, c4⟩ := HC.out.below hq hbw
    have hcall := fun f h hf => cond_call d v l q p k wr (HB.out.below hbw) h HP.out f hf
    have HCA := Lib.hid hcall
    have HBW := Lib.hid hbw
    clear hcall hbw
    have hkk : k = 0 ∨ k = 1 ∨ k = 2 ∨ k = 3 ∨ k = 4 ∨ k = 5 := by omega
    rcases hkk with rfl | rfl | rfl | rfl | rfl | rfl
    · go_wp2_with fail
      refine (HCA.out 161 (by omega) (by simp)).mono ?_
      rintro e w2 ⟨rfl, hb2⟩
      have HB2 := Lib.hid (HBW.out.trans (hb2.mono HBW.out.size))
      clear hb2
      cases hco : condF d l 0
      · have HN := Lib.hid (validF_no d l _ hco)
        clear hco
        go_wp2
        go_ret
        exact ⟨ret_bool HN.out.symm, HB2.out⟩
      · have HY := Lib.hid (cond_succ d l _ HP.out hco)
        clear hco
        go_wp2
        go_roundw
        case rel => exact ⟨1, by omega, rfl, HY, HB2.out⟩
        case measure => simp [intOf]
    · go_wp2_with fail
      refine (HCA.out 162 (by omega) (by simp)).mono ?_
      rintro e w2 ⟨rfl, hb2⟩
      have HB2 := Lib.hid (HBW.out.trans (hb2.mono HBW.out.size))
      clear hb2
      cases hco : condF d l 1
      · have HN := Lib.hid (validF_no d l _ hco)
        clear hco
        go_wp2
        go_ret
        exact ⟨ret_bool HN.out.symm, HB2.out⟩
      · have HY := Lib.hid (cond_succ d l _ HP.out hco)
        clear hco
        go_wp2
        go_roundw
        case rel => exact ⟨2, by omega, rfl, HY, HB2.out⟩
        case measure => simp [intOf]
    · go_wp2_with fail
      refine (HCA.out 163 (by omega) (by simp)).mono ?_
      rintro e w2 ⟨rfl, hb2⟩
      have HB2 := Lib.hid (HBW.out.trans (hb2.mono HBW.out.size))
      clear hb2
      cases hco : condF d l 2
      · have HN := Lib.hid (validF_no d l _ hco)
        clear hco
        go_wp2
        go_ret
        exact ⟨ret_bool HN.out.symm, HB2.out⟩
      · have HY := Lib.hid (cond_succ d l _ HP.out hco)
        clear hco
        go_wp2
        go_roundw
        case rel => exact ⟨3, by omega, rfl, HY, HB2.out⟩
        case measure => simp [intOf]
    · go_wp2_with fail
      refine (HCA.out 165 (by omega) (by simp)).mono ?_
      rintro e w2 ⟨rfl, hb2⟩
      have HB2 := Lib.hid (HBW.out.trans (hb2.mono HBW.out.size))
      clear hb2
      cases hco : condF d l 3
      · have HN := Lib.hid (validF_no d l _ hco)
        clear hco
        go_wp2
        go_ret
        exact ⟨ret_bool HN.out.symm, HB2.out⟩
      · have HY := Lib.hid (cond_succ d l _ HP.out hco)
        clear hco
        go_wp2
        go_roundw
        case rel => exact ⟨4, by omega, rfl, HY, HB2.out⟩
        case measure => simp [intOf]
    · go_wp2_with fail
      refine (HCA.out 167 (by omega) (by simp)).mono ?_
      rintro e w2 ⟨rfl, hb2⟩
      have HB2 := Lib.hid (HBW.out.trans (hb2.mono HBW.out.size))
      clear hb2
      cases hco : condF d l 4
      · have HN := Lib.hid (validF_no d l _ hco)
        clear hco
        go_wp2
        go_ret
        exact ⟨ret_bool HN.out.symm, HB2.out⟩
      · have HY := Lib.hid (cond_succ d l _ HP.out hco)
        clear hco
        go_wp2
        go_roundw
        case rel => exact ⟨5, by omega, rfl, HY, HB2.out⟩
        case measure => simp [intOf]
    · have HY := Lib.hid (validF_yes d l HP.out)
      go_wp2
      go_ret
      exact ⟨ret_bool HY.out.symm, HBW.out⟩

theorem TermsAt.alloc {w : World} {v : Value} {l : List (Int × Int)} (h : TermsAt w v l) (o : Obj) : TermsAt (w.alloc o) v l := h.below ((Below.refl _ _).alloc (Nat.le_refl _) _)

set_option maxHeartbeats 400000 in
theorem valid_any (d : Int) (v : Value) (l : List (Int × Int)) (w : World) (h : TermsAt w v l) :
    Calls Tryz.prog 107 #[.agg #[.int .i64 d, v]] w (AnsB (validF d l) w) := by
  have HT := Lib.hid h
  clear h
  go_enter Tryz.func107, Tryz.ntmps107
  go_wp2_with fail
  refine (all_valid d v l (w.heap.size + 1) w.heap.size _ ?_ (by simp) ?_).mono ?_
  · exact ⟨by go_simp, by go_simp, by simp; omega, (HT.out.alloc _).alloc _⟩
  · exact ⟨by go_simp, by go_simp, by go_simp, by go_simp, by go_simp⟩
  rintro e w2 ⟨rfl, hb⟩
  have HB := Lib.hid (((Below.refl _ _).alloc (Nat.le_refl _) _).alloc (by simp) _ |>.trans (hb.mono (by simp; omega)))
  clear hb
  go_wp2
  go_ret
  exact ⟨rfl, HB.out⟩

/-- Check -/
theorem check_any (d : Int) (v : Value) (l : List (Int × Int)) (w : World) (h : TermsAt w v l) :
    Calls Tryz.prog 87 #[.agg #[.int .i64 d, v]] w fun e w' => e = .returned (.int .i64 (if validF d l then 0 else 2)) ∧ Below w.heap.size w w' := by
  have HT := Lib.hid h
  clear h
  cases hv : validF d l
  all_goals
    have HV := Lib.hid hv
    clear hv
    go_enter Tryz.func87, Tryz.ntmps87
    go_wp2_with fail
    refine (valid_any d v l _ (by first | exact HT.out | exact HT.out.alloc _)).mono ?_
    rintro e w2 ⟨rfl, hb⟩
    rw [HV.out]
    have HB := Lib.hid hb
    clear hb
    go_wp2
    go_ret
    exact ⟨rfl, (by first | exact HB.out | exact ((Below.refl _ _).alloc (Nat.le_refl _) _).trans (HB.out.mono (by simp)))⟩

end Go.Proofs.YtkjclafbpocabaaGreatDoor

/-! ## S6 -/
namespace Go.Proofs.YtkjclafbpocabaaGreatDoor
open Go.RowKit Go.Maps
theorem und67 : Tryz.prog.underlying 152 = some (.map 3 3) := by kernel_rfl
theorem und3 : Tryz.prog.underlying 3 = some (.int .i64) := by kernel_rfl
theorem law3 : Keyed Tryz.prog 3 := int_keyed und3
theorem zero3 (w : World) : (zeroValue 3).run Tryz.prog w = .ok (.int .i64 0) w := by kernel_rfl


/-- A datum of a map that holds just these coefficients. -/
def SumD (D : DataW Unit) (c : Int → Int) : Prop :=
  IsMap D ∧ ∀ r, (c r ≠ 0 → ∀ z, D.atKey (.int .i64 r) z = .lit (.int .i64 (c r))) ∧ (c r = 0 → Maps.has D (.int .i64 r) = false)
def OwnSum (w : World) (b n : Nat) (c : Int → Int) : Prop := ∃ D, w.ownsMap Tryz.prog 3 (plainElem Tryz.prog 3) b n D ∧ SumD D c

theorem SumD.at0 {D : DataW Unit} {c : Int → Int} (h : SumD D c) {r x : Int} (hat : D.atKey (.int .i64 r) (.lit (.int .i64 0)) = .lit (.int .i64 x)) : x = c r := by
  by_cases h0 : c r = 0
  · have := (h.2 r).2 h0
    rw [atKey_of_not_has this] at hat
    simp at hat; omega
  · rw [(h.2 r).1 h0] at hat; simp at hat; exact hat.symm
def upd (c : Int → Int) (r x : Int) : Int → Int := fun s => if s = r then x else c s
theorem SumD.put {D : DataW Unit} {c : Int → Int} (h : SumD D c) (r x : Int) (hx : x ≠ 0) : SumD (D.put (.int .i64 r) (.lit (.int .i64 x))) (upd c r x) := by
  refine ⟨h.1.put _ _, fun s => ?_⟩
  by_cases hs : s = r
  · subst hs
    simp only [upd, if_pos]
    exact ⟨fun _ z => atKey_put_same (k := .int .i64 s) h.1 trivial _ _, fun h0 => absurd h0 hx⟩
  · have hne : (Lit.int .i64 s) ≠ .int .i64 r := by simpa using hs
    simp only [upd, if_neg hs]
    exact ⟨fun h0 z => by rw [atKey_put_other hne]; exact (h.2 s).1 h0 z, fun h0 => by rw [has_put_other hne]; exact (h.2 s).2 h0⟩
theorem SumD.put_del {D : DataW Unit} {c : Int → Int} (h : SumD D c) (r : Int) (d : DataW Unit) : SumD ((D.put (.int .i64 r) d).del (.int .i64 r)) (upd c r 0) := by
  refine ⟨(h.1.put _ _).del _, fun s => ?_⟩
  by_cases hs : s = r
  · subst hs
    simp only [upd, if_pos]
    exact ⟨fun h0 => absurd rfl h0, fun _ => has_del_same⟩
  · have hne : (Lit.int .i64 s) ≠ .int .i64 r := by simpa using hs
    simp only [upd, if_neg hs]
    exact ⟨fun h0 z => by rw [atKey_del_other hne, atKey_put_other hne]; exact (h.2 s).1 h0 z, fun h0 => by rw [has_del_other hne, has_put_other hne]; exact (h.2 s).2 h0⟩
theorem sumD_empty : SumD (.map []) (fun _ => 0) := ⟨isMap_empty, fun r => ⟨fun h => absurd rfl h, fun _ => rfl⟩⟩

/-- How often a root stands in a list of terms. -/
def coefOf (l : List (Int × Int)) (r : Int) : Int := l.foldl (fun s t => if t.2 = r then s + t.1 else s) 0
theorem coefOf_snoc (l : List (Int × Int)) (t : Int × Int) (r : Int) : coefOf (l ++ [t]) r = if t.2 = r then coefOf l r + t.1 else coefOf l r := by
  unfold coefOf; rw [List.foldl_append]; rfl
theorem coefOf_take_succ (l : List (Int × Int)) (k : Nat) (h : k < l.length) (r : Int) : coefOf (l.take (k + 1)) r = if (l[k]?.getD (0, 0)).2 = r then coefOf (l.take k) r + (l[k]?.getD (0, 0)).1 else coefOf (l.take k) r := by
  rw [List.take_succ_eq_append_getElem h, coefOf_snoc]; simp [h]

def plusC (c : Int → Int) (m : Int) (l : List (Int × Int)) : Int → Int := fun r => c r + m * coefOf l r
theorem plusC_succ (c : Int → Int) (m : Int) (l : List (Int × Int)) (k : Nat) (h : k < l.length) :
    plusC c m (l.take (k + 1)) = upd (plusC c m (l.take k)) (l[k]?.getD (0, 0)).2 (plusC c m (l.take k) (l[k]?.getD (0, 0)).2 + m * (l[k]?.getD (0, 0)).1) := by
  funext s
  simp only [plusC, upd]
  rw [coefOf_take_succ l k h]
  by_cases hs : (l[k]?.getD (0, 0)).2 = s
  · rw [if_pos hs, if_pos hs.symm, hs, Int.mul_add]; omega
  · rw [if_neg hs, if_neg (fun e => hs e.symm)]

set_option maxRecDepth 100000 in
set_option maxHeartbeats 1000000 in
theorem add_cells (B n : Nat) (c : Int → Int) (m : Int) (b off cap : Nat) (l : List (Int × Int)) (w : World) (hb : b < w.heap.size) (hBb : B ≠ b) (hc : TermsC w b off l) (hl : l.length ≤ 1000) (hn : n ≤ 1000000)
    (hs : OwnSum w B n c) (hkb : Hid (∀ t ∈ l, -1000000000000 ≤ t.2 ∧ t.2 ≤ 1000000000000 ∧ -9000000000000000000 ≤ m * t.1 ∧ m * t.1 ≤ 9000000000000000000))
    (hcb : Hid (∀ k, k ≤ l.length → ∀ r, -9000000000000000000 ≤ plusC c m (l.take k) r ∧ plusC c m (l.take k) r ≤ 9000000000000000000)) :
    Calls Tryz.prog 113 #[.map (some B), .int .i64 m, .slice (some ⟨b, off, none⟩) l.length cap] w fun e w' => e = .returned (.tuple #[]) ∧ OwnSum w' B (n + l.length) (plusC c m l) ∧ w.grownBy w' (some B) := by
  have HC := Lib.hid hc
  clear hc
  have HSM := Lib.hid hs
  clear hs
  go_enter Tryz.func113, Tryz.ntmps113
  go_wp2
  go_loopw [10] (fun i wr => ∃ k : Nat, k ≤ l.length ∧ i = .int .i64 k ∧ Hid (OwnSum wr B (n + k) (plusC c m (l.take k))) ∧ Hid (w.grownBy wr (some B))) (fun i _ => l.length - (intOf i).toNat)
  case atStart => exact ⟨0, Nat.zero_le _, rfl, Lib.hid (by have e : plusC c m (l.take 0) = c := by { funext r; simp [plusC, coefOf] }; rw [e]; exact HSM.out), Lib.hid (World.grownBy.refl _ _)⟩
  case round =>
    obtain ⟨k, hk, rfl, HO, HG⟩ := hrel
    by_cases hlt : k < l.length
    · obtain ⟨hc1, hc2⟩ := HC.out k hlt
      replace hc1 := HG.out.cell hc1 (by simp; omega)
      replace hc2 := HG.out.cell hc2 (by simp; omega)
      have hsu := plusC_succ c m l k hlt
      have hbk := hkb.out (l[k]?.getD (0, 0)) (by simp [hlt])
      have hbn := hcb.out (k + 1) (by omega)
      have hbn0 := hcb.out k (by omega)
      obtain ⟨x, r, hel⟩ : ∃ x r, l[k]?.getD (0, 0) = (x, r) := ⟨_, _, rfl⟩
      rw [hel] at hc1 hc2 hsu hbk
      rw [hsu] at hbn
      replace hbn := hbn r
      replace hbn0 := hbn0 r
      dsimp only at hc1 hc2 hsu hbk hbn
      simp only [upd, if_pos] at hbn
      have HSU := Lib.hid hsu
      obtain ⟨hk1, hk2, hm1, hm2⟩ := hbk
      clear hel hsu
      obtain ⟨D, hown, hsd⟩ := HO.out
      generalize hpc : plusC c m (l.take k) = pc at hsd hbn hbn0 HSU
      obtain ⟨hb1, hb2⟩ := hbn
      obtain ⟨hb3, hb4⟩ := hbn0
      have HSD := Lib.hid hsd
      clear hsd hpc HO
      have hkey : keyOf Tryz.prog 3 (.int .i64 r) = some (.int .i64 r) := keyOf_int_mk und3 (WalkArith.wf_i64 (by omega))
      have hwf : (Lit.int .i64 (pc r + m * x)).wf = true := WalkArith.wf_i64 (by omega)
      have hput : ∀ x2 : Int, (D.put (.int .i64 r) (.lit (.int .i64 (pc r + m * x)))).atKey (.int .i64 r) (.lit (.int .i64 0)) = .lit (.int .i64 x2) → x2 = pc r + m * x := by
        intro x2 h2
        rw [atKey_put_same (k := .int .i64 r) HSD.out.1 trivial] at h2
        simp at h2; omega
      have HPUT := Lib.hid hput
      clear hput
      have HAT : Hid (∀ x1 : Int, D.atKey (.int .i64 r) (.lit (.int .i64 0)) = .lit (.int .i64 x1) → x1 = pc r) := Lib.hid (fun x1 => HSD.out.at0)
      have hBlt := hown.lt
      by_cases hz : pc r + m * x = 0
      · have hz1 : (pc r + m * x == 0) = true := by simpa using hz
        have HD : Hid (SumD ((D.put (.int .i64 r) (.lit (.int .i64 (pc r + m * x)))).del (.int .i64 r)) (plusC c m (l.take (k + 1)))) := Lib.hid (by rw [HSU.out, hz]; exact HSD.out.put_del r _)
        clear hz
        go_wp2_with (first
          | (at_lookup; refine wpList_lookup_own_int _ rfl _ _ 152 rfl 3 3 .i64 law3 und67 und3 (zero3 _) B (n + k) _ rfl (hown.alloc _) _ _ rfl hkey ?_; intro x1 hat hwc; obtain rfl := HAT.out x1 hat; clear hat)
          | (at_mapUpdate; refine wpList_mapUpdate_own _ rfl _ _ _ 152 rfl 3 3 law3 und67 _ B (n + k) _ rfl (hown.alloc _) (by unfold maxLen; omega) _ _ _ rfl rfl hkey _ [] (plainElem_int und3 hwf) ?_; intro w1 hown1 hgrow1; have hx1 := hgrow1.cell (a := ⟨wr.heap.size, 1, none⟩) (v := .int .i64 r) (cell_two_new _ _ _ _ 1 _ rfl) (by simp; omega); clear hown)
          | (at_lookup; refine wpList_lookup_own_int _ rfl _ _ 152 rfl 3 3 .i64 law3 und67 und3 (zero3 _) B (n + k + 1) _ rfl hown1 _ _ rfl hkey ?_; intro x2 hat2 hwc2; obtain rfl := HPUT.out x2 hat2; clear hat2)
          | (at_delete; refine wpList_delete_own _ rfl _ _ _ _ rfl 3 law3 und67 _ B (n + k + 1) _ rfl hown1 _ _ rfl hkey ?_; intro w2 hown2 hturn; go_frame))
        go_roundw
        case rel => exact ⟨k + 1, by omega, by go_num, Lib.hid ⟨_, hown2, HD.out⟩, Lib.hid (((HG.out.trans (World.grownBy_alloc _ _ _)).trans hgrow1).trans hturn.grown)⟩
        case measure => simp [intOf]; omega
      · have hz1 : (pc r + m * x == 0) = false := by simpa using hz
        have HD : Hid (SumD (D.put (.int .i64 r) (.lit (.int .i64 (pc r + m * x)))) (plusC c m (l.take (k + 1)))) := Lib.hid (by rw [HSU.out]; exact HSD.out.put r _ hz)
        clear hz
        go_wp2_with (first
          | (at_lookup; refine wpList_lookup_own_int _ rfl _ _ 152 rfl 3 3 .i64 law3 und67 und3 (zero3 _) B (n + k) _ rfl (hown.alloc _) _ _ rfl hkey ?_; intro x1 hat hwc; obtain rfl := HAT.out x1 hat; clear hat)
          | (at_mapUpdate; refine wpList_mapUpdate_own _ rfl _ _ _ 152 rfl 3 3 law3 und67 _ B (n + k) _ rfl (hown.alloc _) (by unfold maxLen; omega) _ _ _ rfl rfl hkey _ [] (plainElem_int und3 hwf) ?_; intro w1 hown1 hgrow1; have hx1 := hgrow1.cell (a := ⟨wr.heap.size, 1, none⟩) (v := .int .i64 r) (cell_two_new _ _ _ _ 1 _ rfl) (by simp; omega); clear hown)
          | (at_lookup; refine wpList_lookup_own_int _ rfl _ _ 152 rfl 3 3 .i64 law3 und67 und3 (zero3 _) B (n + k + 1) _ rfl hown1 _ _ rfl hkey ?_; intro x2 hat2 hwc2; obtain rfl := HPUT.out x2 hat2; clear hat2))
        go_roundw
        case rel => exact ⟨k + 1, by omega, by go_num, Lib.hid ⟨_, hown1, HD.out⟩, Lib.hid ((HG.out.trans (World.grownBy_alloc _ _ _)).trans hgrow1)⟩
        case measure => simp [intOf]; omega
    · have hk : k = l.length := by omega
      have HO2 : Hid (OwnSum wr B (n + l.length) (plusC c m l)) := Lib.hid (by have := HO.out; rwa [hk, List.take_length] at this)
      clear hk HO
      go_wp2
      go_end0
      exact ⟨rfl, HO2.out, HG.out⟩

theorem OwnSum.kept {w w' : World} {B n : Nat} {c : Int → Int} {row : Option Nat} (h : OwnSum w B n c) (hg : w.grownBy w' row) (hne : some B ≠ row) : OwnSum w' B n c := by
  obtain ⟨D, h1, h2⟩ := h; exact ⟨D, h1.kept hg hne, h2⟩
theorem OwnSum.lt {w : World} {B n : Nat} {c : Int → Int} (h : OwnSum w B n c) : B < w.heap.size := by
  obtain ⟨D, h1, h2⟩ := h; exact h1.lt
theorem OwnSum.mono {w : World} {B n n' : Nat} {c : Int → Int} (h : OwnSum w B n c) (hn : n ≤ n') : OwnSum w B n' c := by
  obtain ⟨D, h1, h2⟩ := h; exact ⟨D, h1.mono hn, h2⟩
theorem OwnSum.below {w w' : World} {B n : Nat} {c : Int → Int} (h : OwnSum w B n c) (hw : Below w.heap.size w w') : OwnSum w' B n c := by
  obtain ⟨D, ⟨es, clock, h1, h2, h3, h4⟩, h5⟩ := h
  have hB : B < w.heap.size := (Array.getElem?_eq_some_iff.1 h1).1
  exact ⟨D, ⟨es, clock, (hw.block B hB).trans h1, h2, h3, h4⟩, h5⟩

def AddTo (B n : Nat) (c : Int → Int) (w : World) (e : Ending) (w' : World) : Prop := e = .returned (.tuple #[]) ∧ OwnSum w' B n c ∧ w.grownBy w' (some B)

theorem add_at (B n : Nat) (c : Int → Int) (m : Int) (v : Value) (l : List (Int × Int)) (w : World) (ht : TermsAt w v l) (hBb : ∀ b off len cap, v = .slice (some ⟨b, off, none⟩) len cap → len ≠ 0 → B ≠ b) (hl : l.length ≤ 1000) (hn : n ≤ 1000000)
    (hs : OwnSum w B n c) (hkb : Hid (∀ t ∈ l, -1000000000000 ≤ t.2 ∧ t.2 ≤ 1000000000000 ∧ -9000000000000000000 ≤ m * t.1 ∧ m * t.1 ≤ 9000000000000000000))
    (hcb : Hid (∀ k, k ≤ l.length → ∀ r, -9000000000000000000 ≤ plusC c m (l.take k) r ∧ plusC c m (l.take k) r ≤ 9000000000000000000)) :
    Calls Tryz.prog 113 #[.map (some B), .int .i64 m, v] w (AddTo B (n + l.length) (plusC c m l) w) := by
  obtain ⟨hl, ⟨rfl, a, cap, rfl⟩ | ⟨b, off, cap, rfl, _, hb, hc⟩⟩ := ht
  · have HS := Lib.hid hs
    clear hs
    go_enter Tryz.func113, Tryz.ntmps113
    go_wp2
    refine wp_loop_rounds 1 ?_
    rw [rounds_succ]
    go_wp2
    go_end0
    exact ⟨rfl, by have e : plusC c m [] = c := by { funext r; simp [plusC, coefOf] }
                   rw [e]; exact HS.out, World.grownBy.refl _ _⟩
  · by_cases h0 : l.length = 0
    · have : l = [] := List.length_eq_zero_iff.1 h0
      subst this
      have HS := Lib.hid hs
      clear hs
      simp only [List.length_nil]
      go_enter Tryz.func113, Tryz.ntmps113
      go_wp2
      refine wp_loop_rounds 1 ?_
      rw [rounds_succ]
      go_wp2
      go_end0
      exact ⟨rfl, by have e : plusC c m [] = c := by { funext r; simp [plusC, coefOf] }
                     rw [e]; exact HS.out, World.grownBy.refl _ _⟩
    · exact add_cells B n c m b off cap l w hb (hBb b off _ cap rfl h0) hc (by omega) hn hs hkb hcb

theorem coefOf_bd (l : List (Int × Int)) (K : Int) (hK : 0 ≤ K) (h : ∀ t ∈ l, -K ≤ t.1 ∧ t.1 ≤ K) (r : Int) : -(K * l.length) ≤ coefOf l r ∧ coefOf l r ≤ K * l.length := by
  have key : ∀ (l : List (Int × Int)) (s : Int), (∀ t ∈ l, -K ≤ t.1 ∧ t.1 ≤ K) → s - K * l.length ≤ l.foldl (fun s t => if t.2 = r then s + t.1 else s) s ∧ l.foldl (fun s t => if t.2 = r then s + t.1 else s) s ≤ s + K * l.length := by
    intro l
    induction l with
    | nil => intro s _; simp
    | cons t l ih =>
      intro s h
      have ht := h t (by simp)
      have := ih (if t.2 = r then s + t.1 else s) (fun u hu => h u (by simp [hu]))
      simp only [List.foldl_cons, List.length_cons]
      have e : K * ((l.length + 1 : Nat) : Int) = K * l.length + K := by
        rw [Int.natCast_add, Int.mul_add]; simp
      rw [e]
      by_cases hr : t.2 = r
      · rw [if_pos hr] at this ⊢; omega
      · rw [if_neg hr] at this ⊢; omega
  have := key l 0 h
  unfold coefOf
  omega

theorem mul_abs_le (a b A B : Int) (h1 : -A ≤ a) (h2 : a ≤ A) (h3 : -B ≤ b) (h4 : b ≤ B) : -(A * B) ≤ a * b ∧ a * b ≤ A * B := by
  have ha : (a.natAbs : Int) ≤ A := by omega
  have hb : (b.natAbs : Int) ≤ B := by omega
  have h : (a.natAbs : Int) * b.natAbs ≤ A * B := Int.mul_le_mul ha hb (by omega) (by omega)
  have e : ((a * b).natAbs : Int) = (a.natAbs : Int) * b.natAbs := by rw [Int.natAbs_mul]; simp
  omega

/-- What a valid number is. -/
structure Vld (d : Int) (l : List (Int × Int)) : Prop where
  d1 : 1 ≤ d
  d2 : d ≤ 100000
  len : l.length ≤ 4
  cf : ∀ t ∈ l, -100000 ≤ t.1 ∧ t.1 ≤ 100000 ∧ t.1 ≠ 0
  rt : ∀ t ∈ l, 1 ≤ t.2 ∧ t.2 ≤ 1000
  sq : ∀ t ∈ l, SqF t.2
  asc : ascUp l l.length
  dv : dvF d l = 1
theorem vld_of {d : Int} {l : List (Int × Int)} (h : validF d l = true) : Vld d l := by
  simp only [validF, Bool.and_eq_true, decide_eq_true_eq, List.all_eq_true] at h
  obtain ⟨h0, h1, h2, h3, h4⟩ := h
  simp only [inB, Bool.and_eq_true, decide_eq_true_eq] at h0
  have ht : ∀ t ∈ l, (-100000 ≤ t.1 ∧ t.1 ≤ 100000 ∧ t.1 ≠ 0) ∧ (1 ≤ t.2 ∧ t.2 ≤ 1000) ∧ SqF t.2 := by
    intro t ht
    have := h2 t ht
    simp only [isTermF, isPartF, inB, Bool.and_eq_true, decide_eq_true_eq] at this
    have hr : 1 ≤ t.2 := by omega
    exact ⟨by omega, by omega, (sqfB_iff t.2 hr (by omega)).1 this.2⟩
  refine ⟨h0.1, h0.2, h1, fun t h => (ht t h).1, fun t h => (ht t h).2.1, fun t h => (ht t h).2.2, ?_, h4⟩
  intro i hi hil
  unfold ascF at h3
  rw [List.all_eq_true] at h3
  have := h3 i (by simp; exact hil)
  simp at this
  rcases this with h | h
  · omega
  · simpa using h

theorem plus_bd (c : Int → Int) (m : Int) (l : List (Int × Int)) (C M K : Int) (hc : ∀ r, -C ≤ c r ∧ c r ≤ C) (hm1 : -M ≤ m) (hm2 : m ≤ M) (hK : 0 ≤ K) (h : ∀ t ∈ l, -K ≤ t.1 ∧ t.1 ≤ K) (hM : 0 ≤ M) (L : Nat) (hL : l.length ≤ L) :
    ∀ k, k ≤ l.length → ∀ r, -(C + M * (K * L)) ≤ plusC c m (l.take k) r ∧ plusC c m (l.take k) r ≤ C + M * (K * L) := by
  intro k hk r
  have h1 := coefOf_bd (l.take k) K hK (fun t ht => h t (List.mem_of_mem_take ht)) r
  have h3 : K * ((l.take k).length : Int) ≤ K * L := Int.mul_le_mul_of_nonneg_left (by simp; omega) hK
  have h2 := mul_abs_le m (coefOf (l.take k) r) M (K * L) hm1 hm2 (by omega) (by omega)
  have := hc r
  unfold plusC
  omega


theorem TermsAt.blk {w : World} {v : Value} {l : List (Int × Int)} (h : TermsAt w v l) {B : Nat} (hB : w.heap.size ≤ B) : ∀ b off len cap, v = .slice (some ⟨b, off, none⟩) len cap → len ≠ 0 → B ≠ b := by
  intro b off len cap hv h0
  obtain ⟨_, ⟨rfl, a, cap', rfl⟩ | ⟨b', off', cap', rfl, _, hb, _⟩⟩ := h
  · simp at hv; omega
  · simp at hv; omega

def zeroC : Int → Int := fun _ => 0
def combC (dx : Int) (lx : List (Int × Int)) (dy : Int) (ly : List (Int × Int)) (s : Int) : Int → Int := plusC (plusC zeroC dy lx) (s * dx) ly
def SumTo (c : Int → Int) (w : World) (e : Ending) (w' : World) : Prop := ∃ B, e = .returned (.map (some B)) ∧ OwnSum w' B 1000 c ∧ Below w.heap.size w w'

theorem box2_grown {w w2 : World} {x y : Value} {T : TypeId} {row : Option Nat} (hg : (w.alloc (.cells #[x, y] T)).grownBy w2 row) (hne : some w.heap.size ≠ row) :
    w2.cell? ⟨w.heap.size, 0, none⟩ = some x ∧ w2.cell? ⟨w.heap.size, 1, none⟩ = some y :=
  ⟨hg.cell (a := ⟨w.heap.size, 0, none⟩) (cell_two_new w x y T 0 x rfl) hne, hg.cell (a := ⟨w.heap.size, 1, none⟩) (cell_two_new w x y T 1 y rfl) hne⟩

theorem ownSum_made {W : World} {b : Nat} (hb : b = W.heap.size) : OwnSum (W.alloc (.map #[] 0)) b 0 (fun _ => 0) := by
  subst hb; exact ⟨_, World.ownsMap_made _ _ _ _, sumD_empty⟩

set_option maxHeartbeats 1000000 in
theorem combined_any (dx dy s : Int) (vx vy : Value) (lx ly : List (Int × Int)) (w : World) (hx : TermsAt w vx lx) (hy : TermsAt w vy ly) (vldx : Vld dx lx) (vldy : Vld dy ly) (hs : s = 1 ∨ s = -1) :
    Calls Tryz.prog 115 #[.agg #[.int .i64 dx, vx], .agg #[.int .i64 dy, vy], .int .i64 s] w (SumTo (combC dx lx dy ly s) w) := by
  have hmm := @run_makeMap Tryz.prog
  have HX := Lib.hid hx
  have HY := Lib.hid hy
  have VX := Lib.hid vldx
  have VY := Lib.hid vldy
  clear hx hy vldx vldy
  have HS := Lib.hid hs
  have hd1 := VX.out.d1
  have hd2 := VX.out.d2
  have hd3 := VY.out.d1
  have hd4 := VY.out.d2
  have hs1 : -100000 ≤ s * dx := by rcases hs with rfl | rfl <;> omega
  have hs2 : s * dx ≤ 100000 := by rcases hs with rfl | rfl <;> omega
  clear hs
  have hB1 := plus_bd zeroC dy lx 0 100000 100000 (fun r => by simp [zeroC]) (by omega) (by omega) (by omega) (fun t ht => ⟨(VX.out.cf t ht).1, (VX.out.cf t ht).2.1⟩) (by omega) 4 VX.out.len
  have hB1f : ∀ r, -40000000000 ≤ plusC zeroC dy lx r ∧ plusC zeroC dy lx r ≤ 40000000000 := fun r => by have := hB1 lx.length (Nat.le_refl _) r; rw [List.take_length] at this; omega
  have hB2 := plus_bd (plusC zeroC dy lx) (s * dx) ly 40000000000 100000 100000 hB1f (by omega) (by omega) (by omega) (fun t ht => ⟨(VY.out.cf t ht).1, (VY.out.cf t ht).2.1⟩) (by omega) 4 VY.out.len
  have K1 : Hid (∀ t ∈ lx, -1000000000000 ≤ t.2 ∧ t.2 ≤ 1000000000000 ∧ -9000000000000000000 ≤ dy * t.1 ∧ dy * t.1 ≤ 9000000000000000000) := Lib.hid (fun t ht => by
    have h1 := VX.out.cf t ht
    have h2 := VX.out.rt t ht
    have h3 := mul_abs_le dy t.1 100000 100000 (by omega) (by omega) (by omega) (by omega)
    omega)
  have K2 : Hid (∀ t ∈ ly, -1000000000000 ≤ t.2 ∧ t.2 ≤ 1000000000000 ∧ -9000000000000000000 ≤ (s * dx) * t.1 ∧ (s * dx) * t.1 ≤ 9000000000000000000) := Lib.hid (fun t ht => by
    have h1 := VY.out.cf t ht
    have h2 := VY.out.rt t ht
    have h3 := mul_abs_le (s * dx) t.1 100000 100000 (by omega) (by omega) (by omega) (by omega)
    omega)
  have C1 : Hid (∀ k, k ≤ lx.length → ∀ r, -9000000000000000000 ≤ plusC zeroC dy (lx.take k) r ∧ plusC zeroC dy (lx.take k) r ≤ 9000000000000000000) := Lib.hid (fun k hk r => by have := hB1 k hk r; omega)
  have C2 : Hid (∀ k, k ≤ ly.length → ∀ r, -9000000000000000000 ≤ plusC (plusC zeroC dy lx) (s * dx) (ly.take k) r ∧ plusC (plusC zeroC dy lx) (s * dx) (ly.take k) r ≤ 9000000000000000000) := Lib.hid (fun k hk r => by have := hB2 k hk r; omega)
  clear hB1 hB1f hB2
  go_enter Tryz.func115, Tryz.ntmps115
  go_wp2_with fail
  refine (add_at (w.heap.size + 1 + 1) 0 zeroC dy vx lx _ (((HX.out.alloc _).alloc _).alloc _) (HX.out.blk (by omega)) (by have := VX.out.len; omega) (by omega) (ownSum_made (by simp)) K1 C1).mono ?_
  rintro e w1 ⟨rfl, ho1, hg1⟩
  have HBW : Hid (Below w.heap.size w w1) := Lib.hid (((((Below.refl _ _).alloc (Nat.le_refl _) _).alloc (by simp) _).alloc (by simp; omega) _).grown hg1 (by simp; omega) (by intro k hk; cases hk; omega))
  have HG1 := Lib.hid hg1
  have HO1 := Lib.hid ho1
  have a0 := hg1.cell (a := ⟨w.heap.size, 0, none⟩) (v := .int .i64 dx) (by go_simp) (by simp; omega)
  have a1 := hg1.cell (a := ⟨w.heap.size, 1, none⟩) (v := vx) (by go_simp) (by simp; omega)
  have b0 := hg1.cell (a := ⟨w.heap.size + 1, 0, none⟩) (v := .int .i64 dy) (by go_simp) (by simp)
  have b1 := hg1.cell (a := ⟨w.heap.size + 1, 1, none⟩) (v := vy) (by go_simp) (by simp)
  clear hg1 ho1
  go_wp2_with fail
  refine (add_at (w.heap.size + 1 + 1) (0 + lx.length) _ (s * dx) vy ly _ (HY.out.below HBW.out) (HY.out.blk (by omega)) (by have := VY.out.len; omega) (by have := VX.out.len; omega) HO1.out K2 C2).mono ?_
  rintro e w2 ⟨rfl, ho2, hg2⟩
  have HO2 := Lib.hid ho2
  have HB2 : Hid (Below w.heap.size w w2) := Lib.hid (HBW.out.grown hg2 HBW.out.size (by intro k hk; cases hk; omega))
  clear ho2 hg2
  go_wp2
  go_ret
  exact ⟨_, rfl, HO2.out.mono (by have := VX.out.len; have := VY.out.len; omega), HB2.out⟩
end Go.Proofs.YtkjclafbpocabaaGreatDoor
