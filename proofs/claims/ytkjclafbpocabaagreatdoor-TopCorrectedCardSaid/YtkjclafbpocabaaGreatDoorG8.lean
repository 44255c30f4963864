/-
  Contracts of the program's own functions (and their plain mathematics), on the way to the law: each for all arguments that its hypotheses let.
-/
import Derived.Test.YtkjclafbpocabaaGreatDoorG5
import Derived.Test.YtkjclafbpocabaaGreatDoorG7
import Derived.WalkKit
import Derived.WalkSpells
import Derived.WalkLawsBesides
import Derived.Deep.QuietTactic
import Derived.BigQuiet
import Derived.Lib.Hide
import Derived.WalkSmall
import Derived.Maps.OwnSet
import Derived.Maps.RangeWalk
import Derived.Deep.RegionWith
import Derived.Deep.RegionHeld3
import Derived.Deep.DrawnRows
import Derived.Deep.DeepCutAuto
import Derived.OneCell
import Derived.KernelRfl
import Derived.Laws.StructEq
import Derived.StillTailTactics
import Derived.Laws.Externs
import Derived.RangeFuncBox
set_option linter.unusedSimpArgs false
set_option linter.unusedVariables false

/-! ## R3 -/
namespace Go.Proofs.YtkjclafbpocabaaGreatDoor
open Go.RowKit Go.Maps
def OneN (r : Int × List (Int × Int)) (w : World) (e : Ending) (w' : World) : Prop :=
  ∃ v, e = .returned (.agg #[.int .i64 r.1, v]) ∧ TermsAt w' v r.2 ∧ Below w.heap.size w w' ∧ ∀ k, v.ownBlock = some k → w.heap.size ≤ k
theorem terms_lit (w : World) (c r : Int) (T : TypeId) : TermsAt (w.alloc (.cells #[.int .i64 c, .int .i64 r] T)) (.slice (some ⟨w.heap.size, 0, none⟩) 1 1) [(c, r)] := by
  refine ⟨by simp, .inr ⟨w.heap.size, 0, 1, rfl, by simp, by simp, fun i hi => ?_⟩⟩
  obtain rfl : i = 0 := by simp at hi; omega
  have h := Two.new w (.int .i64 c) (.int .i64 r) T
  exact ⟨h.c0, h.c1⟩
theorem terms_lit' {w : World} {b : Nat} (hb : w.heap.size = b) (c r : Int) (T : TypeId) : TermsAt (w.alloc (.cells #[.int .i64 c, .int .i64 r] T)) (.slice (some ⟨b, 0, none⟩) 1 1) [(c, r)] := by
  subst hb; exact terms_lit w c r T
set_option maxRecDepth 100000 in
set_option maxHeartbeats 1000000 in
theorem fraction_any (hsort : Hid SortC) (num den : Int) (w : World) :
    Calls Tryz.prog 74 #[.int .i64 num, .int .i64 den] w fun e w' => ∃ r, makeF den [(num, 1)] r ∧ OneN (r.1, r.2.1) w e w' := by
  have R := Two.new w (.int .i64 0) (.slice none 0 0) 34
  have BB : Below w.heap.size w ((w.alloc (.cells #[.int .i64 0, .slice none 0 0] 34)).alloc (.cells #[.int .i64 num, .int .i64 1] 85)) := ((Below.refl _ w).alloc (Nat.le_refl _) _).alloc (by simp) _
  have R1 := R.alloc (.cells #[.int .i64 num, .int .i64 1] 85)
  have HT := terms_lit' (w := w.alloc (.cells #[.int .i64 0, .slice none 0 0] 34)) (b := w.heap.size + 1) (by simp) num 1 85
  have HM := Lib.hid (make_any hsort den _ _ _ HT)
  have RR := Lib.hid R1
  have HB := Lib.hid BB
  clear R BB R1 HT
  go_enter Tryz.func74, Tryz.ntmps74
  go_wp2_with fail
  refine HM.out.mono ?_
  rintro e w2 ⟨r, hr, v, rfl, hta, hb, hfr⟩
  obtain ⟨a, cap, rfl, _⟩ := hta.placed
  have R2 := RR.out.below hb RR.out.lt
  have B2 := HB.out.trans (hb.mono HB.out.size)
  have R3 := R2.alloc (.cells #[.int .i64 r.1, .slice a r.2.1.length cap] 34)
  have B3 := Lib.hid (B2.alloc B2.size (.cells #[.int .i64 r.1, .slice a r.2.1.length cap] 34))
  have RR2 := Lib.hid R2
  have hsz : w.heap.size < w2.heap.size := R2.lt
  have r0 := R3.c0
  have r1 := R3.c1
  have f0 := R3.fr (i := 0)
  have f1 := R3.fr (i := 1)
  have s0 := R2.c0
  have s1 := R2.c1
  have g0 := R2.fr (i := 0)
  have g1 := R2.fr (i := 1)
  have HR := Lib.hid hr
  have HTA := Lib.hid hta
  have HFR := Lib.hid hfr
  have HB2 := Lib.hid B2
  clear hr hta hfr hb R2 B2 HM R3
  go_wp2
  obtain ⟨_, _, _, hg⟩ := two_after RR2.out (.int .i64 r.1) (.slice a r.2.1.length cap) rfl
  have T4 := ((RR2.out.set0 (.int .i64 r.1)).set1 (.slice a r.2.1.length cap) rfl).alloc (.cells #[.int .i64 r.1, .slice a r.2.1.length cap] 34)
  have d0 := T4.c0
  have d1 := T4.c1
  refine bodyPost_ret (v := .agg #[.int .i64 r.1, .slice a r.2.1.length cap]) ?_ rfl ?_
  · simp [results, Tryz.results74, go_sem, d0, d1]
  · have hk := HTA.out.kept hg (by
      cases hv : (Value.slice a r.2.1.length cap).ownBlock with
      | none => exact .inl rfl
      | some k => right; have := HFR.out k hv; simp at this ⊢; omega)
    have B4 := HB2.out.grown hg HB2.out.size (by intro k hk; cases hk; omega)
    refine ⟨r, HR.out, _, rfl, hk.alloc _, B4.alloc B4.size _, fun k hk => ?_⟩
    have := HFR.out k hk; simp at this; omega
end Go.Proofs.YtkjclafbpocabaaGreatDoor

/-! ## R9 -/
namespace Go.Proofs.YtkjclafbpocabaaGreatDoor
open Go.RowKit Go.Maps
theorem notMark (bx : Nat) (x : Int) (w : World) (hb : w.cell? ⟨bx, 0, none⟩ = some (.func (.func 135) #[] #[])) :
    Calls Tryz.prog 194 #[.int .i64 x, .pointer (some ⟨bx, 0, none⟩)] w fun e w' => e = .returned (.bool (!isMarkF x)) ∧ w' = w := by
  go_enter Tryz.func194, Tryz.ntmps194
  go_wp2_with fail
  refine (isMark_any x _).mono ?_
  rintro e w2 ⟨rfl, rfl⟩
  go_wp2
  go_ret
  exact ⟨rfl, rfl⟩
set_option maxHeartbeats 1000000 in
theorem index_int (bx : Nat) (v : Value) (l : List Int) (w : World) (h : MarksAt w v l) (hb : w.cell? ⟨bx, 0, none⟩ = some (.func (.func 135) #[] #[])) (hbx : bx < w.heap.size) :
    Calls Tryz.prog 226 #[v, .func (.func 194) #[] #[.pointer (some ⟨bx, 0, none⟩)]] w fun e w' => ∃ k : Int, e = .returned (.int .i64 k) ∧ Hid (0 ≤ k ↔ l.all isMarkF = false) ∧ Below w.heap.size w w' := by
  obtain ⟨a, cap, rfl, hl, hp⟩ := h.placed
  have HC := Lib.hid hp
  have HBX := Lib.hid hb
  clear hp hb h
  go_enter Tryz.func226, Tryz.ntmps226
  go_wp2
  go_loopw [5, 8] (fun _ i wr => ∃ k : Nat, k ≤ l.length ∧ i = .int .i64 k ∧ Hid ((l.take k).all isMarkF = true) ∧ Hid (Below w.heap.size w wr)) (fun _ i _ => l.length - (intOf i).toNat)
  case atStart => exact ⟨0, Nat.zero_le _, rfl, Lib.hid (by simp), Lib.hid (Below.refl _ _)⟩
  case round =>
    obtain ⟨k, hk, rfl, HA, HB⟩ := hrel
    by_cases hlt : k < l.length
    · obtain ⟨b, off, rfl, hbb, c1⟩ := HC.out k hlt
      have c1 := (HB.out.cell (p := ⟨b, _, none⟩) hbb).trans c1
      have has := allN_take_succ 0 isMarkF l k hlt
      have hno := allN_not 0 isMarkF l k hlt
      obtain ⟨x, hel⟩ : ∃ t, l[k]?.getD 0 = t := ⟨_, rfl⟩
      rw [hel] at c1 has hno
      have HAS := Lib.hid has
      have HNO := Lib.hid hno
      have hbx2 := (HB.out.cell (p := ⟨bx, 0, none⟩) hbx).trans HBX.out
      have HBX2 := Lib.hid hbx2
      clear hel has hno hbx2
      go_wp2_with fail
      refine (notMark bx x _ HBX2.out).mono ?_
      rintro e w2 ⟨rfl, rfl⟩
      cases hp : isMarkF x
      · have HP := Lib.hid (HNO.out hp)
        clear hp
        go_wp2
        go_ret
        exact ⟨(k : Int), rfl, Lib.hid ⟨fun _ => HP.out, fun _ => by omega⟩, HB.out⟩
      · have HP := Lib.hid hp
        clear hp
        go_wp2
        go_roundw
        case rel => exact ⟨k + 1, by omega, by go_num, Lib.hid (by rw [HAS.out, HA.out]; exact HP.out), HB⟩
        case measure => simp [intOf]; omega
    · have hke : k = l.length := by omega
      have HA2 : Hid (l.all isMarkF = true) := Lib.hid (by have := HA.out; rwa [hke, List.take_length] at this)
      clear HA hke
      go_wp2
      go_ret
      exact ⟨-1, rfl, Lib.hid ⟨fun h => by omega, fun h => by rw [HA2.out] at h; cases h⟩, HB.out⟩
theorem contains_int (bx : Nat) (v : Value) (l : List Int) (w : World) (h : MarksAt w v l) (hb : w.cell? ⟨bx, 0, none⟩ = some (.func (.func 135) #[] #[])) (hbx : bx < w.heap.size) :
    Calls Tryz.prog 193 #[v, .func (.func 194) #[] #[.pointer (some ⟨bx, 0, none⟩)]] w (AnsB (!l.all isMarkF) w) := by
  have hi := index_int bx v l w h hb hbx
  obtain ⟨a, cap, rfl, _⟩ := h.placed
  have HI := Lib.hid hi
  clear hi hb h
  go_enter Tryz.func193, Tryz.ntmps193
  go_wp2_with fail
  refine HI.out.mono ?_
  rintro e w2 ⟨k, rfl, hk, hb2⟩
  have HB2 := Lib.hid hb2
  clear hb2
  by_cases hk0 : 0 ≤ k
  · have HA := Lib.hid (hk.out.1 hk0)
    clear hk
    go_wp2
    go_ret
    exact ⟨ret_bool (by rw [HA.out]; simp; try omega), HB2.out⟩
  · have HA : Hid (l.all isMarkF = true) := Lib.hid (by cases h : l.all isMarkF with | true => rfl | false => exact absurd (hk.out.2 h) hk0)
    clear hk
    go_wp2
    go_ret
    exact ⟨ret_bool (by rw [HA.out]; simp; try omega), HB2.out⟩
theorem every_int (v : Value) (l : List Int) (w : World) (h : MarksAt w v l) :
    Calls Tryz.prog 137 #[.func (.func 135) #[] #[], v] w (AnsB (l.all isMarkF) w) := by
  have BB : Hid (Below w.heap.size w (w.alloc (.cells #[.func (.func 135) #[] #[]] 179))) := Lib.hid ((Below.refl _ _).alloc (Nat.le_refl _) _)
  have hnew := (cell_new1 w (.func (.func 135) #[] #[]) 179).1
  have hc := contains_int w.heap.size v l _ (h.below BB.out) hnew (by simp)
  obtain ⟨a, cap, rfl, _⟩ := h.placed
  have HC := Lib.hid hc
  clear hc hnew h
  go_enter Tryz.func137, Tryz.ntmps137
  go_wp2_with fail
  refine HC.out.mono ?_
  rintro e w2 ⟨rfl, hb2⟩
  have HB2 := Lib.hid (BB.out.trans (hb2.mono BB.out.size))
  clear hb2
  go_wp2
  go_ret
  exact ⟨ret_bool (by simp), HB2.out⟩
def isPieceF (p : Bool × List Int) : Bool := inB p.2.length 1 6 && p.2.all isMarkF
theorem isPiece_any (m : Bool) (v : Value) (l : List Int) (w : World) (h : MarksAt w v l) :
    Calls Tryz.prog 85 #[.agg #[.bool m, v]] w (AnsB (isPieceF (m, l)) w) := by
  obtain ⟨a, cap, rfl, hl, _⟩ := h.placed
  have BB : Hid (Below w.heap.size w (w.alloc (.cells #[.bool m, .slice a l.length cap] 87))) := Lib.hid ((Below.refl _ _).alloc (Nat.le_refl _) _)
  have X := Two.new w (.bool m) (.slice a l.length cap) 87
  have x1 := X.c1
  have HE := Lib.hid (every_int _ _ _ (h.below BB.out))
  have hF : isPieceF (m, l) = (inB l.length 1 6 && l.all isMarkF) := rfl
  have HF := Lib.hid hF
  clear hF h X
  go_enter Tryz.func85, Tryz.ntmps85
  go_wp2_with fail
  refine (cwithin_any l.length 1 6 _).mono ?_
  rintro e w2 ⟨rfl, rfl⟩
  cases hi : inB l.length 1 6
  · have HI := Lib.hid hi
    clear hi
    go_wp2
    go_ret
    exact ⟨ret_bool (by rw [HF.out, HI.out]; simp), BB.out⟩
  · have HI := Lib.hid hi
    clear hi
    go_wp2_with fail
    refine HE.out.mono ?_
    rintro e w3 ⟨rfl, hb3⟩
    have HB3 := Lib.hid (BB.out.trans (hb3.mono BB.out.size))
    clear hb3
    go_wp2
    go_ret
    exact ⟨ret_bool (by rw [HF.out, HI.out]; simp), HB3.out⟩
end Go.Proofs.YtkjclafbpocabaaGreatDoor

/-! ## A1 -/
namespace Go.Proofs.YtkjclafbpocabaaGreatDoor
open Go.RowKit Go.Maps
theorem awithin_any (n l h : Int) (w : World) :
    Calls Tryz.prog 177 #[.int .i64 n, .int .i64 l, .int .i64 h] w fun e w' => e = .returned (.bool (inB n l h)) ∧ w' = w := by
  have hv : inB n l h = (decide (l ≤ n) && decide (n ≤ h)) := rfl
  by_cases h1 : l ≤ n
  · by_cases h2 : n ≤ h
    · have H := Lib.hid hv
      clear hv
      go_enter Tryz.func177, Tryz.ntmps177
      go_wp2
      go_ret
      exact ⟨ret_bool (by rw [H.out]; simp [h1, h2]), rfl⟩
    · have H := Lib.hid hv
      clear hv
      go_enter Tryz.func177, Tryz.ntmps177
      go_wp2
      go_ret
      exact ⟨ret_bool (by rw [H.out]; simp [h2]), rfl⟩
  · have H := Lib.hid hv
    clear hv
    go_enter Tryz.func177, Tryz.ntmps177
    go_wp2
    go_ret
    exact ⟨ret_bool (by rw [H.out]; simp [h1]; try (intros; omega)), rfl⟩
theorem aisNumber_any (d : Int) (v : Value) (l : List (Int × Int)) (w : World) (h : TermsAt w v l) :
    Calls Tryz.prog 179 #[.agg #[.int .i64 d, v]] w (AnsB (validF d l) w) := by
  have BB : Hid (Below w.heap.size w (w.alloc (.cells #[.int .i64 d, v] 34))) := Lib.hid ((Below.refl _ _).alloc (Nat.le_refl _) _)
  have HT := Lib.hid (h.below BB.out)
  clear h
  cases hv : validF d l
  all_goals
    have HV := Lib.hid hv
    clear hv
    go_enter Tryz.func179, Tryz.ntmps179
    go_wp2_with fail
    refine (check_any d v l _ HT.out).mono ?_
    rintro e w2 ⟨rfl, hb⟩
    have HB := Lib.hid (BB.out.trans (hb.mono BB.out.size))
    rw [HV.out]
    clear hb
    go_wp2
    go_ret
    exact ⟨rfl, HB.out⟩
theorem anotNumber (bx : Nat) (d : Int) (v : Value) (l : List (Int × Int)) (w : World) (h : TermsAt w v l) (hb : w.cell? ⟨bx, 0, none⟩ = some (.func (.func 179) #[] #[])) (hbx : bx < w.heap.size) :
    Calls Tryz.prog 218 #[.agg #[.int .i64 d, v], .pointer (some ⟨bx, 0, none⟩)] w (AnsB (!validF d l) w) := by
  have HT := Lib.hid h
  clear h
  have BB : Hid (Below w.heap.size w (w.alloc (.cells #[.int .i64 d, v] 34))) := Lib.hid ((Below.refl _ _).alloc (Nat.le_refl _) _)
  have hc2 := (BB.out.cell (p := ⟨bx, 0, none⟩) hbx).trans hb
  go_enter Tryz.func218, Tryz.ntmps218
  go_wp2_with fail
  refine (aisNumber_any d v l _ (HT.out.below BB.out)).mono ?_
  rintro e w2 ⟨rfl, hb2⟩
  have HB := Lib.hid (BB.out.trans (hb2.mono BB.out.size))
  clear hb2
  go_wp2
  go_ret
  exact ⟨rfl, HB.out⟩
set_option maxHeartbeats 1000000 in
theorem aindex_num (bx : Nat) (v : Value) (l : NumsL) (w : World) (h : NumsAt w v l) (hb : w.cell? ⟨bx, 0, none⟩ = some (.func (.func 179) #[] #[])) (hbx : bx < w.heap.size) :
    Calls Tryz.prog 227 #[v, .func (.func 218) #[] #[.pointer (some ⟨bx, 0, none⟩)]] w fun e w' => ∃ k : Int, e = .returned (.int .i64 k) ∧ Hid (0 ≤ k ↔ l.all isNumF = false) ∧ Below w.heap.size w w' := by
  obtain ⟨b, off, cap, rfl, hcap, hl, hbb, hc⟩ := h
  have HC := Lib.hid hc
  have HBX := Lib.hid hb
  clear hc hb
  go_enter Tryz.func227, Tryz.ntmps227
  go_wp2
  go_loopw [5, 8] (fun _ i wr => ∃ k : Nat, k ≤ l.length ∧ i = .int .i64 k ∧ Hid ((l.take k).all isNumF = true) ∧ Hid (Below w.heap.size w wr)) (fun _ i _ => l.length - (intOf i).toNat)
  case atStart => exact ⟨0, Nat.zero_le _, rfl, Lib.hid (by simp), Lib.hid (Below.refl _ _)⟩
  case round =>
    obtain ⟨k, hk, rfl, HA, HB⟩ := hrel
    by_cases hlt : k < l.length
    · obtain ⟨c1, vt, c2, ht⟩ := HC.out k hlt
      have c1 := (HB.out.cell (p := ⟨b, _, none⟩) hbb).trans c1
      have c2 := (HB.out.cell (p := ⟨b, _, none⟩) hbb).trans c2
      have has := allN_take_succ (0, []) isNumF l k hlt
      have hno := allN_not (0, []) isNumF l k hlt
      obtain ⟨⟨d, t⟩, hel⟩ : ∃ t, l[k]?.getD (0, []) = t := ⟨_, rfl⟩
      rw [hel] at c1 ht has hno
      simp only at c1 ht
      have HT := Lib.hid (ht.below HB.out)
      have HAS := Lib.hid has
      have HNO := Lib.hid hno
      have hbx2 := (HB.out.cell (p := ⟨bx, 0, none⟩) hbx).trans HBX.out
      have HBX2 := Lib.hid hbx2
      have hsz : bx < wr.heap.size := Nat.lt_of_lt_of_le hbx HB.out.size
      clear hel has hno ht hbx2
      go_wp2_with fail
      refine (anotNumber bx d vt t _ HT.out HBX2.out hsz).mono ?_
      rintro e w2 ⟨rfl, hb2⟩
      have HB2 := Lib.hid (HB.out.trans (hb2.mono HB.out.size))
      clear hb2
      cases hp : validF d t
      · have HP := Lib.hid (HNO.out hp)
        clear hp
        go_wp2
        go_ret
        exact ⟨(k : Int), rfl, Lib.hid ⟨fun _ => HP.out, fun _ => by omega⟩, HB2.out⟩
      · have HP := Lib.hid hp
        clear hp
        go_wp2
        go_roundw
        case rel => exact ⟨k + 1, by omega, by go_num, Lib.hid (by rw [HAS.out, HA.out]; exact HP.out), HB2⟩
        case measure => simp [intOf]; omega
    · have hke : k = l.length := by omega
      have HA2 : Hid (l.all isNumF = true) := Lib.hid (by have := HA.out; rwa [hke, List.take_length] at this)
      clear HA hke
      go_wp2
      go_ret
      exact ⟨-1, rfl, Lib.hid ⟨fun h => by omega, fun h => by rw [HA2.out] at h; cases h⟩, HB.out⟩
theorem acontains_num (bx : Nat) (v : Value) (l : NumsL) (w : World) (h : NumsAt w v l) (hb : w.cell? ⟨bx, 0, none⟩ = some (.func (.func 179) #[] #[])) (hbx : bx < w.heap.size) :
    Calls Tryz.prog 195 #[v, .func (.func 218) #[] #[.pointer (some ⟨bx, 0, none⟩)]] w (AnsB (!l.all isNumF) w) := by
  have hi := aindex_num bx v l w h hb hbx
  obtain ⟨b, off, cap, rfl, _⟩ := h
  have HI := Lib.hid hi
  clear hi hb
  go_enter Tryz.func195, Tryz.ntmps195
  go_wp2_with fail
  refine HI.out.mono ?_
  rintro e w2 ⟨k, rfl, hk, hb2⟩
  have HB2 := Lib.hid hb2
  clear hb2
  by_cases hk0 : 0 ≤ k
  · have HA := Lib.hid (hk.out.1 hk0)
    clear hk
    go_wp2
    go_ret
    exact ⟨ret_bool (by rw [HA.out]; simp; try omega), HB2.out⟩
  · have HA : Hid (l.all isNumF = true) := Lib.hid (by cases h : l.all isNumF with | true => rfl | false => exact absurd (hk.out.2 h) hk0)
    clear hk
    go_wp2
    go_ret
    exact ⟨ret_bool (by rw [HA.out]; simp; try omega), HB2.out⟩
theorem aevery_num (v : Value) (l : NumsL) (w : World) (h : NumsAt w v l) :
    Calls Tryz.prog 178 #[.func (.func 179) #[] #[], v] w (AnsB (l.all isNumF) w) := by
  have BB : Hid (Below w.heap.size w (w.alloc (.cells #[.func (.func 179) #[] #[]] 119))) := Lib.hid ((Below.refl _ _).alloc (Nat.le_refl _) _)
  have hnew := (cell_new1 w (.func (.func 179) #[] #[]) 119).1
  have hc := acontains_num w.heap.size v l _ (h.below BB.out) hnew (by simp)
  obtain ⟨b, off, cap, rfl, _⟩ := h
  have HC := Lib.hid hc
  clear hc hnew
  go_enter Tryz.func178, Tryz.ntmps178
  go_wp2_with fail
  refine HC.out.mono ?_
  rintro e w2 ⟨rfl, hb2⟩
  have HB2 := Lib.hid (BB.out.trans (hb2.mono BB.out.size))
  clear hb2
  go_wp2
  go_ret
  exact ⟨ret_bool (by simp), HB2.out⟩
def isYearF (n : Int) : Bool := inB n 0 1000
theorem isYear_any (n : Int) (w : World) :
    Calls Tryz.prog 176 #[.int .i64 n] w fun e w' => e = .returned (.bool (isYearF n)) ∧ w' = w := by
  go_enter Tryz.func176, Tryz.ntmps176
  go_wp2_with fail
  refine (awithin_any n 0 1000 _).mono ?_
  rintro e w2 ⟨rfl, rfl⟩
  go_wp2
  go_ret
  exact ⟨rfl, rfl⟩
theorem anotMark (bx : Nat) (x : Int) (w : World) (hb : w.cell? ⟨bx, 0, none⟩ = some (.func (.func 176) #[] #[])) :
    Calls Tryz.prog 219 #[.int .i64 x, .pointer (some ⟨bx, 0, none⟩)] w fun e w' => e = .returned (.bool (!isYearF x)) ∧ w' = w := by
  go_enter Tryz.func219, Tryz.ntmps219
  go_wp2_with fail
  refine (isYear_any x _).mono ?_
  rintro e w2 ⟨rfl, rfl⟩
  go_wp2
  go_ret
  exact ⟨rfl, rfl⟩
set_option maxHeartbeats 1000000 in
theorem aindex_int (bx : Nat) (v : Value) (l : List Int) (w : World) (h : MarksAt w v l) (hb : w.cell? ⟨bx, 0, none⟩ = some (.func (.func 176) #[] #[])) (hbx : bx < w.heap.size) :
    Calls Tryz.prog 226 #[v, .func (.func 219) #[] #[.pointer (some ⟨bx, 0, none⟩)]] w fun e w' => ∃ k : Int, e = .returned (.int .i64 k) ∧ Hid (0 ≤ k ↔ l.all isYearF = false) ∧ Below w.heap.size w w' := by
  obtain ⟨a, cap, rfl, hl, hp⟩ := h.placed
  have HC := Lib.hid hp
  have HBX := Lib.hid hb
  clear hp hb h
  go_enter Tryz.func226, Tryz.ntmps226
  go_wp2
  go_loopw [5, 8] (fun _ i wr => ∃ k : Nat, k ≤ l.length ∧ i = .int .i64 k ∧ Hid ((l.take k).all isYearF = true) ∧ Hid (Below w.heap.size w wr)) (fun _ i _ => l.length - (intOf i).toNat)
  case atStart => exact ⟨0, Nat.zero_le _, rfl, Lib.hid (by simp), Lib.hid (Below.refl _ _)⟩
  case round =>
    obtain ⟨k, hk, rfl, HA, HB⟩ := hrel
    by_cases hlt : k < l.length
    · obtain ⟨b, off, rfl, hbb, c1⟩ := HC.out k hlt
      have c1 := (HB.out.cell (p := ⟨b, _, none⟩) hbb).trans c1
      have has := allN_take_succ 0 isYearF l k hlt
      have hno := allN_not 0 isYearF l k hlt
      obtain ⟨x, hel⟩ : ∃ t, l[k]?.getD 0 = t := ⟨_, rfl⟩
      rw [hel] at c1 has hno
      have HAS := Lib.hid has
      have HNO := Lib.hid hno
      have hbx2 := (HB.out.cell (p := ⟨bx, 0, none⟩) hbx).trans HBX.out
      have HBX2 := Lib.hid hbx2
      clear hel has hno hbx2
      go_wp2_with fail
      refine (anotMark bx x _ HBX2.out).mono ?_
      rintro e w2 ⟨rfl, rfl⟩
      cases hp : isYearF x
      · have HP := Lib.hid (HNO.out hp)
        clear hp
        go_wp2
        go_ret
        exact ⟨(k : Int), rfl, Lib.hid ⟨fun _ => HP.out, fun _ => by omega⟩, HB.out⟩
      · have HP := Lib.hid hp
        clear hp
        go_wp2
        go_roundw
        case rel => exact ⟨k + 1, by omega, by go_num, Lib.hid (by rw [HAS.out, HA.out]; exact HP.out), HB⟩
        case measure => simp [intOf]; omega
    · have hke : k = l.length := by omega
      have HA2 : Hid (l.all isYearF = true) := Lib.hid (by have := HA.out; rwa [hke, List.take_length] at this)
      clear HA hke
      go_wp2
      go_ret
      exact ⟨-1, rfl, Lib.hid ⟨fun h => by omega, fun h => by rw [HA2.out] at h; cases h⟩, HB.out⟩
theorem acontains_int (bx : Nat) (v : Value) (l : List Int) (w : World) (h : MarksAt w v l) (hb : w.cell? ⟨bx, 0, none⟩ = some (.func (.func 176) #[] #[])) (hbx : bx < w.heap.size) :
    Calls Tryz.prog 193 #[v, .func (.func 219) #[] #[.pointer (some ⟨bx, 0, none⟩)]] w (AnsB (!l.all isYearF) w) := by
  have hi := aindex_int bx v l w h hb hbx
  obtain ⟨a, cap, rfl, _⟩ := h.placed
  have HI := Lib.hid hi
  clear hi hb h
  go_enter Tryz.func193, Tryz.ntmps193
  go_wp2_with fail
  refine HI.out.mono ?_
  rintro e w2 ⟨k, rfl, hk, hb2⟩
  have HB2 := Lib.hid hb2
  clear hb2
  by_cases hk0 : 0 ≤ k
  · have HA := Lib.hid (hk.out.1 hk0)
    clear hk
    go_wp2
    go_ret
    exact ⟨ret_bool (by rw [HA.out]; simp; try omega), HB2.out⟩
  · have HA : Hid (l.all isYearF = true) := Lib.hid (by cases h : l.all isYearF with | true => rfl | false => exact absurd (hk.out.2 h) hk0)
    clear hk
    go_wp2
    go_ret
    exact ⟨ret_bool (by rw [HA.out]; simp; try omega), HB2.out⟩
theorem aevery_int (v : Value) (l : List Int) (w : World) (h : MarksAt w v l) :
    Calls Tryz.prog 181 #[.func (.func 176) #[] #[], v] w (AnsB (l.all isYearF) w) := by
  have BB : Hid (Below w.heap.size w (w.alloc (.cells #[.func (.func 176) #[] #[]] 179))) := Lib.hid ((Below.refl _ _).alloc (Nat.le_refl _) _)
  have hnew := (cell_new1 w (.func (.func 176) #[] #[]) 179).1
  have hc := acontains_int w.heap.size v l _ (h.below BB.out) hnew (by simp)
  obtain ⟨a, cap, rfl, _⟩ := h.placed
  have HC := Lib.hid hc
  clear hc hnew h
  go_enter Tryz.func181, Tryz.ntmps181
  go_wp2_with fail
  refine HC.out.mono ?_
  rintro e w2 ⟨rfl, hb2⟩
  have HB2 := Lib.hid (BB.out.trans (hb2.mono BB.out.size))
  clear hb2
  go_wp2
  go_ret
  exact ⟨ret_bool (by simp), HB2.out⟩
set_option maxRecDepth 100000 in
set_option maxHeartbeats 1000000 in
theorem afraction_any (hsort : Hid SortC) (num den : Int) (w : World) :
    Calls Tryz.prog 221 #[.int .i64 num, .int .i64 den] w fun e w' => ∃ r, makeF den [(num, 1)] r ∧ OneN (r.1, r.2.1) w e w' := by
  have R := Two.new w (.int .i64 0) (.slice none 0 0) 34
  have BB : Below w.heap.size w ((w.alloc (.cells #[.int .i64 0, .slice none 0 0] 34)).alloc (.cells #[.int .i64 num, .int .i64 1] 85)) := ((Below.refl _ w).alloc (Nat.le_refl _) _).alloc (by simp) _
  have R1 := R.alloc (.cells #[.int .i64 num, .int .i64 1] 85)
  have HT := terms_lit' (w := w.alloc (.cells #[.int .i64 0, .slice none 0 0] 34)) (b := w.heap.size + 1) (by simp) num 1 85
  have HM := Lib.hid (make_any hsort den _ _ _ HT)
  have RR := Lib.hid R1
  have HB := Lib.hid BB
  clear R BB R1 HT
  go_enter Tryz.func221, Tryz.ntmps221
  go_wp2_with fail
  refine HM.out.mono ?_
  rintro e w2 ⟨r, hr, v, rfl, hta, hb, hfr⟩
  obtain ⟨a, cap, rfl, _⟩ := hta.placed
  have R2 := RR.out.below hb RR.out.lt
  have B2 := HB.out.trans (hb.mono HB.out.size)
  have R3 := R2.alloc (.cells #[.int .i64 r.1, .slice a r.2.1.length cap] 34)
  have B3 := Lib.hid (B2.alloc B2.size (.cells #[.int .i64 r.1, .slice a r.2.1.length cap] 34))
  have RR2 := Lib.hid R2
  have hsz : w.heap.size < w2.heap.size := R2.lt
  have r0 := R3.c0
  have r1 := R3.c1
  have f0 := R3.fr (i := 0)
  have f1 := R3.fr (i := 1)
  have s0 := R2.c0
  have s1 := R2.c1
  have g0 := R2.fr (i := 0)
  have g1 := R2.fr (i := 1)
  have HR := Lib.hid hr
  have HTA := Lib.hid hta
  have HFR := Lib.hid hfr
  have HB2 := Lib.hid B2
  clear hr hta hfr hb R2 B2 HM R3
  go_wp2
  obtain ⟨_, _, _, hg⟩ := two_after RR2.out (.int .i64 r.1) (.slice a r.2.1.length cap) rfl
  have T4 := ((RR2.out.set0 (.int .i64 r.1)).set1 (.slice a r.2.1.length cap) rfl).alloc (.cells #[.int .i64 r.1, .slice a r.2.1.length cap] 34)
  have d0 := T4.c0
  have d1 := T4.c1
  refine bodyPost_ret (v := .agg #[.int .i64 r.1, .slice a r.2.1.length cap]) ?_ rfl ?_
  · simp [results, Tryz.results221, go_sem, d0, d1]
  · have hk := HTA.out.kept hg (by
      cases hv : (Value.slice a r.2.1.length cap).ownBlock with
      | none => exact .inl rfl
      | some k => right; have := HFR.out k hv; simp at this ⊢; omega)
    have B4 := HB2.out.grown hg HB2.out.size (by intro k hk; cases hk; omega)
    refine ⟨r, HR.out, _, rfl, hk.alloc _, B4.alloc B4.size _, fun k hk => ?_⟩
    have := HFR.out k hk; simp at this; omega
theorem awhole_any (hsort : Hid SortC) (n : Int) (w : World) :
    Calls Tryz.prog 183 #[.int .i64 n] w fun e w' => ∃ r, makeF 1 [(n, 1)] r ∧ OneN (r.1, r.2.1) w e w' := by
  have R := Two.new w (.int .i64 0) (.slice none 0 0) 34
  have BB : Below w.heap.size w (w.alloc (.cells #[.int .i64 0, .slice none 0 0] 34)) := (Below.refl _ w).alloc (Nat.le_refl _) _
  have HM := Lib.hid (afraction_any hsort n 1 (w.alloc (.cells #[.int .i64 0, .slice none 0 0] 34)))
  have RR := Lib.hid R
  have HB := Lib.hid BB
  clear R BB
  go_enter Tryz.func183, Tryz.ntmps183
  go_wp2_with fail
  refine HM.out.mono ?_
  rintro e w2 ⟨r, hr, v, rfl, hta, hb, hfr⟩
  obtain ⟨a, cap, rfl, _⟩ := hta.placed
  have R2 := RR.out.below hb RR.out.lt
  have HB2 := Lib.hid (HB.out.trans (hb.mono HB.out.size))
  have RR2 := Lib.hid R2
  have r0 := R2.c0
  have r1 := R2.c1
  have f0 := R2.fr (i := 0)
  have f1 := R2.fr (i := 1)
  have hsz : w.heap.size < w2.heap.size := R2.lt
  have HR := Lib.hid hr
  have HTA := Lib.hid hta
  have HFR := Lib.hid hfr
  clear hr hta hfr hb R2 HM
  go_wp2
  obtain ⟨d0, d1, d2, hg⟩ := two_after RR2.out (.int .i64 r.1) (.slice a r.2.1.length cap) rfl
  refine bodyPost_ret (v := .agg #[.int .i64 r.1, .slice a r.2.1.length cap]) ?_ rfl ?_
  · simp [results, Tryz.results183, go_sem, d0, d1, d2]
  · refine ⟨r, HR.out, _, rfl, HTA.out.kept hg ?_, HB2.out.grown hg HB2.out.size (by intro k hk; cases hk; omega), fun k hk => ?_⟩
    · cases hv : (Value.slice a r.2.1.length cap).ownBlock with
      | none => exact .inl rfl
      | some k => right; have := HFR.out k hv; simp at this ⊢; omega
    · have := HFR.out k hk; simp at this; omega
end Go.Proofs.YtkjclafbpocabaaGreatDoor

/-! ## A2 -/
namespace Go.Proofs.YtkjclafbpocabaaGreatDoor
open Go.RowKit Go.Maps
set_option maxRecDepth 100000 in
set_option maxHeartbeats 1000000 in
theorem gatimes1_any (hsort : Hid SortC) (dx dy : Int) (vx vy : Value) (lx ly : List (Int × Int)) (bx : Nat) (w : World) (hx : TermsAt w vx lx) (hB : Two w bx (.int .i64 dy) vy 34) (hy : TermsAt w vy ly) :
    Calls Tryz.prog 220 #[.agg #[.int .i64 dx, vx], .pointer (some ⟨bx, 0, none⟩)] w (NumP (mulF dx lx dy ly) w) := by
  have X := (Two.new w (.int .i64 dx) vx 34).alloc (.cells #[.int .i64 0, .slice none 0 0] 34)
  have R : Two ((w.alloc (.cells #[.int .i64 dx, vx] 34)).alloc (.cells #[.int .i64 0, .slice none 0 0] 34)) (w.heap.size + 1) (.int .i64 0) (.slice none 0 0) 34 := by
    have := Two.new (w.alloc (.cells #[.int .i64 dx, vx] 34)) (.int .i64 0) (.slice none 0 0) 34
    simpa using this
  have BB : Below w.heap.size w ((w.alloc (.cells #[.int .i64 dx, vx] 34)).alloc (.cells #[.int .i64 0, .slice none 0 0] 34)) := ((Below.refl _ w).alloc (Nat.le_refl _) _).alloc (by simp) _
  have Y := hB.below BB hB.lt
  have HC := Lib.hid (mul_any hsort dx dy vx vy lx ly _ (hx.below BB) (hy.below BB))
  have x0 := X.c0
  have x1 := X.c1
  have y0 := Y.c0
  have y1 := Y.c1
  have yo0 := hB.c0
  have yo1 := hB.c1
  have RR := Lib.hid R
  have HB := Lib.hid BB
  clear X Y R BB hx hy hB
  go_enter Tryz.func220, Tryz.ntmps220
  go_wp2_with fail
  refine HC.out.mono ?_
  rintro e w2 ⟨r, hr, v, rfl, hta, hb, hfr⟩
  obtain ⟨a, cap, rfl, _⟩ := hta.placed
  have R2 := RR.out.below hb RR.out.lt
  have HB2 := Lib.hid (HB.out.trans (hb.mono HB.out.size))
  have RR2 := Lib.hid R2
  have r0 := R2.c0
  have r1 := R2.c1
  have f0 := R2.fr (i := 0)
  have f1 := R2.fr (i := 1)
  have hsz : w.heap.size + 1 < w2.heap.size := R2.lt
  have HR := Lib.hid hr
  have HTA := Lib.hid hta
  have HFR := Lib.hid hfr
  clear hr hta hfr hb R2 HC x0 x1 y0 y1 yo0 yo1
  go_wp2
  obtain ⟨d0, d1, d2, hg⟩ := two_after RR2.out (.int .i64 r.1) (.slice a r.2.1.length cap) rfl
  refine bodyPost_ret (v := .tuple #[.agg #[.int .i64 r.1, .slice a r.2.1.length cap], .int .i64 r.2.2]) ?_ rfl ?_
  · simp [results, Tryz.results220, go_sem, d0, d1, d2]
  · refine ⟨r, HR.out, _, rfl, HTA.out.kept hg ?_, HB2.out.grown hg HB2.out.size (by intro k hk; cases hk; omega), fun k hk => ?_⟩
    · cases hv : (Value.slice a r.2.1.length cap).ownBlock with
      | none => exact .inl rfl
      | some k => right; have := HFR.out k hv; simp at this ⊢; omega
    · have := HFR.out k hk; simp at this; omega
set_option maxRecDepth 100000 in
set_option maxHeartbeats 1000000 in
theorem gaplus1_any (hsort : Hid SortC) (dx dy : Int) (vx vy : Value) (lx ly : List (Int × Int)) (bx : Nat) (w : World) (hx : TermsAt w vx lx) (hB : Two w bx (.int .i64 dy) vy 34) (hy : TermsAt w vy ly) :
    Calls Tryz.prog 222 #[.agg #[.int .i64 dx, vx], .pointer (some ⟨bx, 0, none⟩)] w (NumP (addF 1 dx lx dy ly) w) := by
  have X := (Two.new w (.int .i64 dx) vx 34).alloc (.cells #[.int .i64 0, .slice none 0 0] 34)
  have R : Two ((w.alloc (.cells #[.int .i64 dx, vx] 34)).alloc (.cells #[.int .i64 0, .slice none 0 0] 34)) (w.heap.size + 1) (.int .i64 0) (.slice none 0 0) 34 := by
    have := Two.new (w.alloc (.cells #[.int .i64 dx, vx] 34)) (.int .i64 0) (.slice none 0 0) 34
    simpa using this
  have BB : Below w.heap.size w ((w.alloc (.cells #[.int .i64 dx, vx] 34)).alloc (.cells #[.int .i64 0, .slice none 0 0] 34)) := ((Below.refl _ w).alloc (Nat.le_refl _) _).alloc (by simp) _
  have Y := hB.below BB hB.lt
  have HC := Lib.hid (add_any hsort dx dy vx vy lx ly _ (hx.below BB) (hy.below BB))
  have x0 := X.c0
  have x1 := X.c1
  have y0 := Y.c0
  have y1 := Y.c1
  have yo0 := hB.c0
  have yo1 := hB.c1
  have RR := Lib.hid R
  have HB := Lib.hid BB
  clear X Y R BB hx hy hB
  go_enter Tryz.func222, Tryz.ntmps222
  go_wp2_with fail
  refine HC.out.mono ?_
  rintro e w2 ⟨r, hr, v, rfl, hta, hb, hfr⟩
  obtain ⟨a, cap, rfl, _⟩ := hta.placed
  have R2 := RR.out.below hb RR.out.lt
  have HB2 := Lib.hid (HB.out.trans (hb.mono HB.out.size))
  have RR2 := Lib.hid R2
  have r0 := R2.c0
  have r1 := R2.c1
  have f0 := R2.fr (i := 0)
  have f1 := R2.fr (i := 1)
  have hsz : w.heap.size + 1 < w2.heap.size := R2.lt
  have HR := Lib.hid hr
  have HTA := Lib.hid hta
  have HFR := Lib.hid hfr
  clear hr hta hfr hb R2 HC x0 x1 y0 y1 yo0 yo1
  go_wp2
  obtain ⟨d0, d1, d2, hg⟩ := two_after RR2.out (.int .i64 r.1) (.slice a r.2.1.length cap) rfl
  refine bodyPost_ret (v := .tuple #[.agg #[.int .i64 r.1, .slice a r.2.1.length cap], .int .i64 r.2.2]) ?_ rfl ?_
  · simp [results, Tryz.results222, go_sem, d0, d1, d2]
  · refine ⟨r, HR.out, _, rfl, HTA.out.kept hg ?_, HB2.out.grown hg HB2.out.size (by intro k hk; cases hk; omega), fun k hk => ?_⟩
    · cases hv : (Value.slice a r.2.1.length cap).ownBlock with
      | none => exact .inl rfl
      | some k => right; have := HFR.out k hv; simp at this ⊢; omega
    · have := HFR.out k hk; simp at this; omega
set_option maxRecDepth 100000 in
set_option maxHeartbeats 1000000 in
theorem gaover1_any (hsort : Hid SortC) (dx dy : Int) (vx vy : Value) (lx ly : List (Int × Int)) (bx : Nat) (w : World) (hx : TermsAt w vx lx) (hB : Two w bx (.int .i64 dy) vy 34) (hy : TermsAt w vy ly) :
    Calls Tryz.prog 185 #[.agg #[.int .i64 dx, vx], .pointer (some ⟨bx, 0, none⟩)] w (NumP (quoF dx lx dy ly) w) := by
  have X := (Two.new w (.int .i64 dx) vx 34).alloc (.cells #[.int .i64 0, .slice none 0 0] 34)
  have R : Two ((w.alloc (.cells #[.int .i64 dx, vx] 34)).alloc (.cells #[.int .i64 0, .slice none 0 0] 34)) (w.heap.size + 1) (.int .i64 0) (.slice none 0 0) 34 := by
    have := Two.new (w.alloc (.cells #[.int .i64 dx, vx] 34)) (.int .i64 0) (.slice none 0 0) 34
    simpa using this
  have BB : Below w.heap.size w ((w.alloc (.cells #[.int .i64 dx, vx] 34)).alloc (.cells #[.int .i64 0, .slice none 0 0] 34)) := ((Below.refl _ w).alloc (Nat.le_refl _) _).alloc (by simp) _
  have Y := hB.below BB hB.lt
  have HC := Lib.hid (quo_any hsort dx dy vx vy lx ly _ (hx.below BB) (hy.below BB))
  have x0 := X.c0
  have x1 := X.c1
  have y0 := Y.c0
  have y1 := Y.c1
  have yo0 := hB.c0
  have yo1 := hB.c1
  have RR := Lib.hid R
  have HB := Lib.hid BB
  clear X Y R BB hx hy hB
  go_enter Tryz.func185, Tryz.ntmps185
  go_wp2_with fail
  refine HC.out.mono ?_
  rintro e w2 ⟨r, hr, v, rfl, hta, hb, hfr⟩
  obtain ⟨a, cap, rfl, _⟩ := hta.placed
  have R2 := RR.out.below hb RR.out.lt
  have HB2 := Lib.hid (HB.out.trans (hb.mono HB.out.size))
  have RR2 := Lib.hid R2
  have r0 := R2.c0
  have r1 := R2.c1
  have f0 := R2.fr (i := 0)
  have f1 := R2.fr (i := 1)
  have hsz : w.heap.size + 1 < w2.heap.size := R2.lt
  have HR := Lib.hid hr
  have HTA := Lib.hid hta
  have HFR := Lib.hid hfr
  clear hr hta hfr hb R2 HC x0 x1 y0 y1 yo0 yo1
  go_wp2
  obtain ⟨d0, d1, d2, hg⟩ := two_after RR2.out (.int .i64 r.1) (.slice a r.2.1.length cap) rfl
  refine bodyPost_ret (v := .tuple #[.agg #[.int .i64 r.1, .slice a r.2.1.length cap], .int .i64 r.2.2]) ?_ rfl ?_
  · simp [results, Tryz.results185, go_sem, d0, d1, d2]
  · refine ⟨r, HR.out, _, rfl, HTA.out.kept hg ?_, HB2.out.grown hg HB2.out.size (by intro k hk; cases hk; omega), fun k hk => ?_⟩
    · cases hv : (Value.slice a r.2.1.length cap).ownBlock with
      | none => exact .inl rfl
      | some k => right; have := HFR.out k hv; simp at this ⊢; omega
    · have := HFR.out k hk; simp at this; omega
theorem gatimes_any (d : Int) (v : Value) (w : World) :
    Calls Tryz.prog 182 #[.agg #[.int .i64 d, v]] w fun e w' => e = .returned (.func (.func 220) #[] #[.pointer (some ⟨w.heap.size, 0, none⟩)]) ∧ w' = w.alloc (.cells #[.int .i64 d, v] 34) := by
  go_enter Tryz.func182, Tryz.ntmps182
  go_wp2
  go_ret
  exact ⟨rfl, rfl⟩
theorem gaplus_any (d : Int) (v : Value) (w : World) :
    Calls Tryz.prog 184 #[.agg #[.int .i64 d, v]] w fun e w' => e = .returned (.func (.func 222) #[] #[.pointer (some ⟨w.heap.size, 0, none⟩)]) ∧ w' = w.alloc (.cells #[.int .i64 d, v] 34) := by
  go_enter Tryz.func184, Tryz.ntmps184
  go_wp2
  go_ret
  exact ⟨rfl, rfl⟩
theorem gaover_any (d : Int) (v : Value) (w : World) :
    Calls Tryz.prog 127 #[.agg #[.int .i64 d, v]] w fun e w' => e = .returned (.func (.func 185) #[] #[.pointer (some ⟨w.heap.size, 0, none⟩)]) ∧ w' = w.alloc (.cells #[.int .i64 d, v] 34) := by
  go_enter Tryz.func127, Tryz.ntmps127
  go_wp2
  go_ret
  exact ⟨rfl, rfl⟩
end Go.Proofs.YtkjclafbpocabaaGreatDoor
