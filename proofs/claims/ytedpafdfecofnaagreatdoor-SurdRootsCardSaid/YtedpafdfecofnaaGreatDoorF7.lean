/-
  Contracts of the program's own functions (and their plain mathematics), on the way to the law: each for all arguments that its hypotheses let.
-/
import Derived.Test.YtedpafdfecofnaaGreatDoorF6
import Derived.WalkKit
import Derived.WalkSpells
import Derived.WalkLawsBesides
import Derived.Deep.QuietTactic
import Derived.BigQuiet
import Derived.Lib.Hide
import Derived.WalkSmall
import Derived.Maps.OwnSet
import Derived.Maps.RangeWalk
import Derived.Deep.RegionWith
import Derived.Deep.RegionHeld3
import Derived.OneCell
import Derived.RangeFuncBox
import Derived.Test.YtedpafdfecofnaaGreatDoorPlain
set_option linter.unusedSimpArgs false
set_option linter.unusedVariables false

/-! ## S20 -/
namespace Go.Proofs.YtedpafdfecofnaaGreatDoor
open Go.RowKit Go.Maps Go.Shelf Go.Sort
theorem trimPrefix_suffix (l p : List UInt8) : Lib.trimPrefix l p <:+ l := by
  unfold Lib.trimPrefix; split
  · exact List.drop_suffix _ _
  · exact List.suffix_refl _
theorem rt_suffix (T : List UInt8) : (readTermF T).2 <:+ T := by
  have hB : rtB T <:+ T := (trimPrefix_suffix _ _).trans (trimPrefix_suffix _ _)
  have hC : rtC T <:+ T := (List.drop_suffix _ _).trans hB
  unfold readTermF
  dsimp only
  split
  · exact ((List.drop_suffix _ _).trans (trimPrefix_suffix _ _)).trans hC
  · exact hC
theorem rt_len (T : List UInt8) (h : ¬ (readTermF T).2 = T) : (readTermF T).2.length < T.length := by
  have h1 := rt_suffix T
  have h2 := h1.length_le
  rcases Nat.lt_or_ge (readTermF T).2.length T.length with h3 | h3
  · exact h3
  · exact absurd (h1.eq_of_length (by omega)) h

def readGo : Nat → List UInt8 → List (Int × Int) → List (Int × Int)
  | 0, _, acc => acc
  | k + 1, T, acc => if T = [] then acc else if (readTermF T).2 = T then acc else readGo k (readTermF T).2 (if (readTermF T).1.1 = 0 then acc else acc ++ [(readTermF T).1])
def readDen (L : List UInt8) : Int := if (Lib.cut L [47]).2.2 = true then numF (digsV (Lib.cut L [47]).2.1) else 1
def readT (L : List UInt8) : List UInt8 := if (Lib.cut L [47]).2.2 = true then Lib.trimSuffix (Lib.trimPrefix (Lib.cut L [47]).1 [40]) [41] else (Lib.cut L [47]).1
def readL (L : List UInt8) : List (Int × Int) := readGo (readT L).length (readT L) []
theorem cut_len (L : List UInt8) : (Lib.cut L [47]).1.length ≤ L.length ∧ (Lib.cut L [47]).2.1.length ≤ L.length := by
  unfold Lib.cut; split
  · simp; omega
  · simp
theorem readT_len (L : List UInt8) : (readT L).length ≤ L.length := by
  have := (cut_len L).1
  unfold readT; split
  · exact Nat.le_trans (trimSuffix_len _ _) (Nat.le_trans (trimPrefix_len _ _) this)
  · exact this
theorem rt_coef_bd (T : List UInt8) : -100001 ≤ (readTermF T).1.1 ∧ (readTermF T).1.1 ≤ 100001 := by
  have h : 0 ≤ rtCoef T ∧ rtCoef T ≤ 100001 := by
    unfold rtCoef; split
    · omega
    · exact numF_bd _
  unfold readTermF
  dsimp only
  split <;> omega

def strLenV : Value → Nat
  | .string s => s.size
  | _ => 0
def ReadTo (L : List UInt8) (w : World) (e : Ending) (w' : World) : Prop :=
  ∃ v, e = .returned (.agg #[.int .i64 (readDen L), v]) ∧ TermsAt w' v (readL L) ∧ Below w.heap.size w w' ∧ (∀ k, v.ownBlock = some k → w.heap.size ≤ k) ∧ (readL L).length ≤ 64

def ReadI (w wr : World) (d : Int) (acc : List (Int × Int)) (v : Value) : Prop :=
  OwnT wr (w.heap.size + 2) v acc ∧ Two wr (w.heap.size + 1) (.int .i64 d) v 24 ∧ Two wr w.heap.size (.int .i64 0) (.slice none 0 0) 24 ∧ Below w.heap.size w wr ∧ w.heap.size + 2 ≤ wr.heap.size

set_option maxRecDepth 100000 in
set_option maxHeartbeats 4000000 in
theorem read_any (L : List UInt8) (hL : L.length ≤ 64) (w : World) (hw : WOk w) : Calls Tryz.prog 78 #[.string ⟨L.toArray⟩] w (ReadTo L w) := by
  have HW := Lib.hid hw
  obtain ⟨_, ⟨m, hm⟩, h6⟩ := hw
  obtain ⟨i0, hi, hz0, hz1, hz2⟩ := info_parts info34
  obtain ⟨A, hA⟩ : ∃ A, (Lib.cut L [47]).1 = A := ⟨_, rfl⟩
  obtain ⟨B, hB⟩ : ∃ B, (Lib.cut L [47]).2.1 = B := ⟨_, rfl⟩
  obtain ⟨q, hq⟩ : ∃ q, (Lib.cut L [47]).2.2 = q := ⟨_, rfl⟩
  have hAl : A.length ≤ 64 := by rw [← hA]; have := (cut_len L).1; omega
  have hBl : B.length ≤ 64 := by rw [← hB]; have := (cut_len L).2; omega
  have hcut : ∀ w0 : World, w0.cell? ⟨2, 0, none⟩ = some (.int .i64 m) → Calls Tryz.prog 109 #[.string ⟨L.toArray⟩, .string { data := #[47] }] w0 fun e w' => e = .returned (.tuple #[str A, str B, .bool q]) ∧ ∃ n, w' = w0.drewN n := by
    intro w0 h0
    refine (Tryz.strings_Cut ⟨L.toArray⟩ ⟨#[47]⟩ m w0 (by show L.toArray.size < _; simp; omega) h0).mono ?_
    rintro e w' ⟨rfl, h⟩
    exact ⟨by rw [← hA, ← hB, ← hq], h⟩
  have HCUT := Lib.hid hcut
  have hDen : readDen L = if q = true then numF (digsV B) else 1 := by unfold readDen; rw [hq, hB]
  have hT : readT L = if q = true then Lib.trimSuffix (Lib.trimPrefix A [40]) [41] else A := by unfold readT; rw [hq, hA]
  obtain ⟨T0, hT0⟩ : ∃ T0, readT L = T0 := ⟨_, rfl⟩
  obtain ⟨d, hd⟩ : ∃ d, readDen L = d := ⟨_, rfl⟩
  have hTl : T0.length ≤ 64 := by rw [← hT0]; exact Nat.le_trans (readT_len L) hL
  have HT0 := Lib.hid hT0
  have HD := Lib.hid hd
  rw [hT0] at hT
  rw [hd] at hDen
  have hm2 : ∀ o, (w.alloc o).cell? ⟨2, 0, none⟩ = some (.int .i64 m) := fun o => (((Below.refl _ w).alloc (Nat.le_refl _) o).cell (p := ⟨2, 0, none⟩) (by show 2 < w.heap.size; omega)).trans hm
  have HM2 := Lib.hid hm2
  clear hcut hA hB hq hm hm2 hT0 hd
  -- the loop, from whatever world
  have hloop : True := trivial
  cases q
  · have hT' : T0 = A := by simpa using hT
    have hd' : d = 1 := by simpa using hDen
    subst hT'
    have HD1 := Lib.hid hd'
    clear hT hDen hd'
    go_enter Tryz.func78, Tryz.ntmps78
    go_wp2_with fail
    refine (HCUT.out _ (HM2.out _)).mono ?_
    rintro e w1 ⟨rfl, n1, rfl⟩
    go_wp2_with fail
    have HI0 : Hid (ReadI w (((w.alloc (.cells #[.int .i64 0, .slice none 0 0] 24)).drewN n1).alloc (.cells #[.int .i64 1, .slice none 0 0] 24)) d [] (.slice none 0 0)) := by
      have hb0 : Below w.heap.size w ((w.alloc (.cells #[.int .i64 0, .slice none 0 0] 24)).drewN n1) := below_drewN ((Below.refl _ _).alloc (Nat.le_refl _) _) _
      refine Lib.hid ⟨World.ownsRow_nil _ _ _ _, ?_, (Two.new w (.int .i64 0) (.slice none 0 0) 24).below ((below_drewN (Below.refl _ _) n1).alloc (Nat.le_refl _) _) (by simp), hb0.alloc (by simp) _, by simp⟩
      have := Two.new ((w.alloc (.cells #[.int .i64 0, .slice none 0 0] 24)).drewN n1) (.int .i64 1) (.slice none 0 0) 24
      rw [HD1.out]; simpa using this
    go_loopw [3, 7, 8] (fun s _ _ wr => ∃ (T : List UInt8) (acc : List (Int × Int)) (v : Value) (k : Nat), s = .string ⟨T.toArray⟩ ∧ T.length ≤ k ∧ acc.length + T.length ≤ 64 ∧ Hid (readGo k T acc = readGo T0.length T0 []) ∧ Hid (ReadI w wr d acc v)) (fun s _ _ _ => strLenV s)
    case atStart => exact ⟨T0, [], .slice none 0 0, T0.length, rfl, Nat.le_refl _, by simpa using hTl, Lib.hid rfl, HI0⟩
    case round =>
      clear HI0
      obtain ⟨T, acc, v, k, rfl, hTk, hTa, HGO, HI⟩ := hrel
      have hrt := readTerm_any T (by omega)
      have hlen := rt_len T
      have hcb := rt_coef_bd T
      obtain ⟨ho, htw, hres, hbw, hsz⟩ := HI.out
      cases hTT : T with
      | nil =>
        subst hTT
        have HF : Hid (acc = readL L) := Lib.hid (by
          have h := HGO.out
          have e : readGo k [] acc = acc := by cases k <;> simp [readGo]
          rw [e] at h
          rw [h, readL, HT0.out])
        have c0 := htw.c0
        have c1 := htw.c1
        have r0 := hres.c0
        have r1 := hres.c1
        have f0 := hres.fr (i := 0)
        have f1 := hres.fr (i := 1)
        obtain ⟨a, cap, rfl, hpl⟩ := ho.shape
        have HO := Lib.hid ho
        have HRES := Lib.hid hres
        have HBW := Lib.hid hbw
        clear hrt hlen hcb ho htw hres hbw hpl
        go_wp2
        obtain ⟨d0, d1, d2, hg⟩ := two_after HRES.out (.int .i64 d) (.slice a acc.length cap) rfl
        refine bodyPost_ret (v := .agg #[.int .i64 d, .slice a acc.length cap]) ?_ rfl ?_
        · simp [results, Tryz.results78, go_sem, d0, d1, d2]
        · refine ⟨.slice a acc.length cap, by rw [HD.out], ?_, HBW.out.grown hg HBW.out.size (by intro q hq; cases hq; omega), fun q hq => by have := (HO.out.lt q hq).1; omega, by rw [← HF.out]; omega⟩
          rw [← HF.out]
          exact (HO.out.at (by omega)).kept hg (by
            cases hv : (Value.slice a acc.length cap).ownBlock with
            | none => exact .inl rfl
            | some q => right; have := (HO.out.lt q hv).1; simp; omega)
      | cons b R =>
        subst hTT
        obtain ⟨⟨⟨c, r⟩, S⟩, hR⟩ : ∃ x, readTermF (b :: R) = x := ⟨_, rfl⟩
        obtain ⟨k', rfl⟩ : ∃ k', k = k' + 1 := ⟨k - 1, by simp at hTk; omega⟩
        have hgo : readGo (k' + 1) (b :: R) acc = if S = b :: R then acc else readGo k' S (if c = 0 then acc else acc ++ [(c, r)]) := by
          rw [readGo, if_neg (by simp), hR]
        rw [hR] at hrt hlen hcb
        dsimp only at hlen hcb
        have HGG := Lib.hid hgo
        have HRT := Lib.hid hrt
        have HLEN := Lib.hid hlen
        have hO1 := Lib.hid ho
        have hT1 := Lib.hid htw
        have hR1 := Lib.hid hres
        have hB1 := Lib.hid hbw
        obtain ⟨hcb1, hcb2⟩ := hcb
        clear hR hgo hrt hlen ho htw hres hbw
        go_wp2_with fail
        refine (HRT.out _).mono ?_
        rintro e w2 ⟨rfl, hb2⟩
        have hO2 := Lib.hid (hO1.out.below hb2)
        have hT2 := Lib.hid (hT1.out.below hb2 hT1.out.lt)
        have hR2 := Lib.hid (hR1.out.below hb2 hR1.out.lt)
        have hB2 := Lib.hid (hB1.out.trans (hb2.mono hB1.out.size))
        have hsz2 : w.heap.size + 2 ≤ w2.heap.size := by have := hb2.size; omega
        have hsz3 : w.heap.size < w2.heap.size := by omega
        have hsz4 : w.heap.size + 1 < w2.heap.size := by omega
        clear hb2 hO1 hT1 hR1 hB1
        have c0 := hT2.out.c0
        have c1 := hT2.out.c1
        have r0 := hR2.out.c0
        have r1 := hR2.out.c1
        have f0 := hR2.out.fr (i := 0)
        have f1 := hR2.out.fr (i := 1)
        have g1 := hT2.out.fr (i := 1)
        obtain ⟨a, cap, rfl, hpl⟩ := hO2.out.shape
        clear hpl
        cases hst : S == b :: R
        · have hne : ¬ S = b :: R := by intro e; rw [e] at hst; simp at hst
          have hll : S.length < (b :: R).length := HLEN.out hne
          by_cases hc : c = 0
          · have hc7 : (c != 0) = false := by simpa using hc
            have HG2 : Hid (readGo k' S acc = readGo T0.length T0 []) := Lib.hid (by rw [← HGO.out, HGG.out, if_neg hne, if_pos hc])
            have HI2 : Hid (ReadI w (w2.alloc (.cells #[.int .i64 c, .int .i64 r] 34)) d acc (.slice a acc.length cap)) := Lib.hid ⟨World.ownsRow.alloc hO2.out _, hT2.out.alloc _, hR2.out.alloc _, hB2.out.alloc hB2.out.size _, by simp; omega⟩
            clear hc hne HGO HGG HI
            go_wp2
            go_roundw
            case rel => exact ⟨S, acc, _, k', rfl, by simp at hll hTk; omega, by simp at hll hTa; omega, HG2, HI2⟩
            case measure => simp [strLenV, ByteArray.size] at hll ⊢; omega
          · have hc7 : (c != 0) = true := by simpa using hc
            have HG2 : Hid (readGo k' S (acc ++ [(c, r)]) = readGo T0.length T0 []) := Lib.hid (by rw [← HGO.out, HGG.out, if_neg hne, if_neg hc])
            have hvb : some (w.heap.size + 1) ≠ (Value.slice a acc.length cap).ownBlock := by
              intro e; have := (hO2.out.lt _ e.symm).1; omega
            have hvr : some w.heap.size ≠ (Value.slice a acc.length cap).ownBlock := by
              intro e; have := (hO2.out.lt _ e.symm).1; omega
            have HVB := Lib.hid hvb
            have HVR := Lib.hid hvr
            have HLR : Hid (∀ q, (Value.slice a acc.length cap).ownBlock = some q → w.heap.size ≤ q) := Lib.hid (fun q hq => by have := (hO2.out.lt q hq).1; omega)
            have hrow : OwnT w2 (w.heap.size + 2) (.slice a acc.length cap) acc := hO2.out
            have haL : acc.length < 64 := by simp at hTa; omega
            clear hc hne HGO HGG hvb hvr HI
            go_wp2_with (first
              | (at_builtin; refine wpList_append_own _ rfl _ _ 22 rfl (w.heap.size + 2) 34 i0 (.agg #[.int .i64 0, .int .i64 0]) 2 16 und22 hi hz0 hz1 hz2 rfl (by decide) (.slice a acc.length cap) acc.length (flatT acc) rfl (World.ownsRow.alloc (World.ownsRow.alloc hrow _) _) ⟨w2.heap.size + 1, 0, none⟩ 1 1 [.int .i64 c, .int .i64 r] rfl rfl (news2 _ _ _ _ _) (by simp [Value.oneCell']) (by unfold maxLen; omega) (by omega) (by simp; omega) ?_; intro v' w3 hown3 hgrow3 _; have t3 := ((hT2.out.alloc (.cells #[.int .i64 c, .int .i64 r] 34)).alloc (.cells #[.int .i64 c, .int .i64 r] 34)).kept hgrow3 HVB.out; have d1 := t3.c1; have f2 := t3.fr (i := 1); have HT3 := Lib.hid t3; obtain ⟨g', cap', rfl⟩ := ownsRow_succ hown3; have HGW3 := Lib.hid hgrow3; have HOW3 := Lib.hid hown3; clear t3 hgrow3 hown3 hrow))
            go_roundw
            case rel =>
              refine ⟨S, acc ++ [(c, r)], _, k', rfl, by simp at hll hTk; omega, by simp at hll hTa ⊢; omega, HG2, Lib.hid ⟨?_, HT3.out.set1 _ rfl, ?_, ?_, ?_⟩⟩
              · have h1 : OwnT w3 (w.heap.size + 2) (.slice (some ⟨g', 0, none⟩) (acc.length + 1) cap') (acc ++ [(c, r)]) := by unfold OwnT; rw [flatT_snoc, List.length_append]; exact HOW3.out
                exact ownsRow_setCell_other h1 (by have := (HOW3.out.lt g' rfl).1; simp [Value.ownBlock]; omega) _
              · exact ((((hR2.out.alloc _).alloc _).kept HGW3.out HVR.out).kept (grownBy_setCell _ _ _) (by simp))
              · exact (((hB2.out.alloc hB2.out.size _).alloc (by have := hB2.out.size; simp; omega) _).grown HGW3.out (by have := hB2.out.size; simp; omega) (fun q hq => HLR.out q hq)).setCell (by simp) _
              · have := HGW3.out.size; simp at this ⊢; omega
            case measure => simp [strLenV, ByteArray.size] at hll ⊢; omega
        · have he : S = b :: R := eq_of_beq hst
          have HF : Hid (acc = readL L) := Lib.hid (by
            have h := HGO.out
            rw [HGG.out, if_pos he] at h
            rw [h, readL, HT0.out])
          have HO := Lib.hid (World.ownsRow.alloc hO2.out (.cells #[.int .i64 c, .int .i64 r] 34) : OwnT (w2.alloc (.cells #[.int .i64 c, .int .i64 r] 34)) (w.heap.size + 2) (.slice a acc.length cap) acc)
          have haL : acc.length < 64 := by simp at hTa; omega
          clear he
          go_wp2
          obtain ⟨d1, d2, hg⟩ := two_after_alloc hR2.out (.int .i64 d) (.slice a acc.length cap) rfl (.cells #[.int .i64 c, .int .i64 r] 34)
          refine bodyPost_ret (v := .agg #[.int .i64 d, .slice a acc.length cap]) ?_ rfl ?_
          · simp [results, Tryz.results78, go_sem, d1, d2]
          · refine ⟨.slice a acc.length cap, by rw [HD.out], ?_, hB2.out.grown hg hB2.out.size (by intro q hq; cases hq; omega), fun q hq => by have := (hO2.out.lt q hq).1; omega, by rw [← HF.out]; omega⟩
            rw [← HF.out]
            exact (hO2.out.at (by omega)).kept hg (by
              cases hv : (Value.slice a acc.length cap).ownBlock with
              | none => exact .inl rfl
              | some q => right; have := (hO2.out.lt q hv).1; simp; omega)
  · have hT' : T0 = Lib.trimSuffix (Lib.trimPrefix A [40]) [41] := by simpa using hT
    have hd' : d = numF (digsV B) := by simpa using hDen
    obtain ⟨M1, hM1⟩ : ∃ M, Lib.trimPrefix A [40] = M := ⟨_, rfl⟩
    rw [hM1] at hT'
    have hMl : M1.length ≤ 64 := by rw [← hM1]; exact Nat.le_trans (trimPrefix_suffix A [40]).length_le hAl
    have HM1 := Lib.hid hM1
    have HT1 := Lib.hid hT'.symm
    have HDd := Lib.hid hd'.symm
    have HCd := Lib.hid (rfl : B.drop (digsV B).length = B.drop (digsV B).length)
    have HrD : ∀ w, _ := fun w => readDigits_L B _ d HDd HCd (by omega) w
    obtain ⟨C, hC⟩ : ∃ C, B.drop (digsV B).length = C := ⟨_, rfl⟩
    rw [hC] at HrD
    have HRD := Lib.hid HrD
    clear hT hDen hT' hd' hM1 HrD HCd hC
    go_enter Tryz.func78, Tryz.ntmps78
    go_wp2_with fail
    refine (HCUT.out _ (HM2.out _)).mono ?_
    rintro e w1 ⟨rfl, n1, rfl⟩
    go_wp2_with fail
    refine (HRD.out _).mono ?_
    rintro e wd ⟨rfl, hbd⟩
    have hb0 : Below w.heap.size w ((w.alloc (.cells #[.int .i64 0, .slice none 0 0] 24)).drewN n1) := below_drewN ((Below.refl _ _).alloc (Nat.le_refl _) _) _
    have hx0 := Two.new ((w.alloc (.cells #[.int .i64 0, .slice none 0 0] 24)).drewN n1) (.int .i64 1) (.slice none 0 0) 24
    have hr0 := (Two.new w (.int .i64 0) (.slice none 0 0) 24).below ((below_drewN (Below.refl _ _) n1).alloc (Nat.le_refl _) (.cells #[.int .i64 1, .slice none 0 0] 24)) (by simp)
    have e1 : ((w.alloc (.cells #[.int .i64 0, .slice none 0 0] 24)).drewN n1).heap.size = w.heap.size + 1 := by simp
    rw [e1] at hx0
    have hx1 := hx0.below hbd (by simp)
    have hr1 := hr0.below hbd (by simp; omega)
    have hsz : w.heap.size + 2 ≤ wd.heap.size := by have := hbd.size; simp at this; omega
    have hbw0 : Below w.heap.size w wd := (hb0.alloc (by simp) _).trans (hbd.mono (by simp; omega))
    have HI0 : Hid (ReadI w (wd.setCell ⟨w.heap.size + 1, 0, none⟩ (.int .i64 d)) d [] (.slice none 0 0)) :=
      Lib.hid ⟨World.ownsRow_nil _ _ _ _, hx1.set0 _, hr1.kept (grownBy_setCell _ _ _) (by simp), hbw0.setCell (by simp) _, by simpa using hsz⟩
    have xc0 := hx1.c0
    have xf0 := hx1.fr (i := 0)
    have hsz3 : w.heap.size < wd.heap.size := by omega
    have hsz4 : w.heap.size + 1 < wd.heap.size := by omega
    clear hbd hb0 hx0 hr0 e1 hx1 hr1 hbw0 HRD HDd
    go_wp2_with fail
    refine (trimPrefix_any A [40] M1 HM1 _).mono ?_
    rintro e w' ⟨rfl, rfl⟩
    go_wp2_with fail
    refine (trim_any M1 [41] T0 HT1 (by omega) _).mono ?_
    rintro e w' ⟨rfl, rfl⟩
    go_wp2_with fail
    go_loopw [3, 7, 8] (fun s _ _ wr => ∃ (T : List UInt8) (acc : List (Int × Int)) (v : Value) (k : Nat), s = .string ⟨T.toArray⟩ ∧ T.length ≤ k ∧ acc.length + T.length ≤ 64 ∧ Hid (readGo k T acc = readGo T0.length T0 []) ∧ Hid (ReadI w wr d acc v)) (fun s _ _ _ => strLenV s)
    case atStart => exact ⟨T0, [], .slice none 0 0, T0.length, rfl, Nat.le_refl _, by simpa using hTl, Lib.hid rfl, HI0⟩
    case round =>
      clear HI0
      obtain ⟨T, acc, v, k, rfl, hTk, hTa, HGO, HI⟩ := hrel
      have hrt := readTerm_any T (by omega)
      have hlen := rt_len T
      have hcb := rt_coef_bd T
      obtain ⟨ho, htw, hres, hbw, hsz⟩ := HI.out
      cases hTT : T with
      | nil =>
        subst hTT
        have HF : Hid (acc = readL L) := Lib.hid (by
          have h := HGO.out
          have e : readGo k [] acc = acc := by cases k <;> simp [readGo]
          rw [e] at h
          rw [h, readL, HT0.out])
        have c0 := htw.c0
        have c1 := htw.c1
        have r0 := hres.c0
        have r1 := hres.c1
        have f0 := hres.fr (i := 0)
        have f1 := hres.fr (i := 1)
        obtain ⟨a, cap, rfl, hpl⟩ := ho.shape
        have HO := Lib.hid ho
        have HRES := Lib.hid hres
        have HBW := Lib.hid hbw
        clear hrt hlen hcb ho htw hres hbw hpl
        go_wp2
        obtain ⟨d0, d1, d2, hg⟩ := two_after HRES.out (.int .i64 d) (.slice a acc.length cap) rfl
        refine bodyPost_ret (v := .agg #[.int .i64 d, .slice a acc.length cap]) ?_ rfl ?_
        · simp [results, Tryz.results78, go_sem, d0, d1, d2]
        · refine ⟨.slice a acc.length cap, by rw [HD.out], ?_, HBW.out.grown hg HBW.out.size (by intro q hq; cases hq; omega), fun q hq => by have := (HO.out.lt q hq).1; omega, by rw [← HF.out]; omega⟩
          rw [← HF.out]
          exact (HO.out.at (by omega)).kept hg (by
            cases hv : (Value.slice a acc.length cap).ownBlock with
            | none => exact .inl rfl
            | some q => right; have := (HO.out.lt q hv).1; simp; omega)
      | cons b R =>
        subst hTT
        obtain ⟨⟨⟨c, r⟩, S⟩, hR⟩ : ∃ x, readTermF (b :: R) = x := ⟨_, rfl⟩
        obtain ⟨k', rfl⟩ : ∃ k', k = k' + 1 := ⟨k - 1, by simp at hTk; omega⟩
        have hgo : readGo (k' + 1) (b :: R) acc = if S = b :: R then acc else readGo k' S (if c = 0 then acc else acc ++ [(c, r)]) := by
          rw [readGo, if_neg (by simp), hR]
        rw [hR] at hrt hlen hcb
        dsimp only at hlen hcb
        have HGG := Lib.hid hgo
        have HRT := Lib.hid hrt
        have HLEN := Lib.hid hlen
        have hO1 := Lib.hid ho
        have hT1 := Lib.hid htw
        have hR1 := Lib.hid hres
        have hB1 := Lib.hid hbw
        obtain ⟨hcb1, hcb2⟩ := hcb
        clear hR hgo hrt hlen ho htw hres hbw
        go_wp2_with fail
        refine (HRT.out _).mono ?_
        rintro e w2 ⟨rfl, hb2⟩
        have hO2 := Lib.hid (hO1.out.below hb2)
        have hT2 := Lib.hid (hT1.out.below hb2 hT1.out.lt)
        have hR2 := Lib.hid (hR1.out.below hb2 hR1.out.lt)
        have hB2 := Lib.hid (hB1.out.trans (hb2.mono hB1.out.size))
        have hsz2 : w.heap.size + 2 ≤ w2.heap.size := by have := hb2.size; omega
        have hsz3 : w.heap.size < w2.heap.size := by omega
        have hsz4 : w.heap.size + 1 < w2.heap.size := by omega
        clear hb2 hO1 hT1 hR1 hB1
        have c0 := hT2.out.c0
        have c1 := hT2.out.c1
        have r0 := hR2.out.c0
        have r1 := hR2.out.c1
        have f0 := hR2.out.fr (i := 0)
        have f1 := hR2.out.fr (i := 1)
        have g1 := hT2.out.fr (i := 1)
        obtain ⟨a, cap, rfl, hpl⟩ := hO2.out.shape
        clear hpl
        cases hst : S == b :: R
        · have hne : ¬ S = b :: R := by intro e; rw [e] at hst; simp at hst
          have hll : S.length < (b :: R).length := HLEN.out hne
          by_cases hc : c = 0
          · have hc7 : (c != 0) = false := by simpa using hc
            have HG2 : Hid (readGo k' S acc = readGo T0.length T0 []) := Lib.hid (by rw [← HGO.out, HGG.out, if_neg hne, if_pos hc])
            have HI2 : Hid (ReadI w (w2.alloc (.cells #[.int .i64 c, .int .i64 r] 34)) d acc (.slice a acc.length cap)) := Lib.hid ⟨World.ownsRow.alloc hO2.out _, hT2.out.alloc _, hR2.out.alloc _, hB2.out.alloc hB2.out.size _, by simp; omega⟩
            clear hc hne HGO HGG HI
            go_wp2
            go_roundw
            case rel => exact ⟨S, acc, _, k', rfl, by simp at hll hTk; omega, by simp at hll hTa; omega, HG2, HI2⟩
            case measure => simp [strLenV, ByteArray.size] at hll ⊢; omega
          · have hc7 : (c != 0) = true := by simpa using hc
            have HG2 : Hid (readGo k' S (acc ++ [(c, r)]) = readGo T0.length T0 []) := Lib.hid (by rw [← HGO.out, HGG.out, if_neg hne, if_neg hc])
            have hvb : some (w.heap.size + 1) ≠ (Value.slice a acc.length cap).ownBlock := by
              intro e; have := (hO2.out.lt _ e.symm).1; omega
            have hvr : some w.heap.size ≠ (Value.slice a acc.length cap).ownBlock := by
              intro e; have := (hO2.out.lt _ e.symm).1; omega
            have HVB := Lib.hid hvb
            have HVR := Lib.hid hvr
            have HLR : Hid (∀ q, (Value.slice a acc.length cap).ownBlock = some q → w.heap.size ≤ q) := Lib.hid (fun q hq => by have := (hO2.out.lt q hq).1; omega)
            have hrow : OwnT w2 (w.heap.size + 2) (.slice a acc.length cap) acc := hO2.out
            have haL : acc.length < 64 := by simp at hTa; omega
            clear hc hne HGO HGG hvb hvr HI
            go_wp2_with (first
              | (at_builtin; refine wpList_append_own _ rfl _ _ 22 rfl (w.heap.size + 2) 34 i0 (.agg #[.int .i64 0, .int .i64 0]) 2 16 und22 hi hz0 hz1 hz2 rfl (by decide) (.slice a acc.length cap) acc.length (flatT acc) rfl (World.ownsRow.alloc (World.ownsRow.alloc hrow _) _) ⟨w2.heap.size + 1, 0, none⟩ 1 1 [.int .i64 c, .int .i64 r] rfl rfl (news2 _ _ _ _ _) (by simp [Value.oneCell']) (by unfold maxLen; omega) (by omega) (by simp; omega) ?_; intro v' w3 hown3 hgrow3 _; have t3 := ((hT2.out.alloc (.cells #[.int .i64 c, .int .i64 r] 34)).alloc (.cells #[.int .i64 c, .int .i64 r] 34)).kept hgrow3 HVB.out; have d1 := t3.c1; have f2 := t3.fr (i := 1); have HT3 := Lib.hid t3; obtain ⟨g', cap', rfl⟩ := ownsRow_succ hown3; have HGW3 := Lib.hid hgrow3; have HOW3 := Lib.hid hown3; clear t3 hgrow3 hown3 hrow))
            go_roundw
            case rel =>
              refine ⟨S, acc ++ [(c, r)], _, k', rfl, by simp at hll hTk; omega, by simp at hll hTa ⊢; omega, HG2, Lib.hid ⟨?_, HT3.out.set1 _ rfl, ?_, ?_, ?_⟩⟩
              · have h1 : OwnT w3 (w.heap.size + 2) (.slice (some ⟨g', 0, none⟩) (acc.length + 1) cap') (acc ++ [(c, r)]) := by unfold OwnT; rw [flatT_snoc, List.length_append]; exact HOW3.out
                exact ownsRow_setCell_other h1 (by have := (HOW3.out.lt g' rfl).1; simp [Value.ownBlock]; omega) _
              · exact ((((hR2.out.alloc _).alloc _).kept HGW3.out HVR.out).kept (grownBy_setCell _ _ _) (by simp))
              · exact (((hB2.out.alloc hB2.out.size _).alloc (by have := hB2.out.size; simp; omega) _).grown HGW3.out (by have := hB2.out.size; simp; omega) (fun q hq => HLR.out q hq)).setCell (by simp) _
              · have := HGW3.out.size; simp at this ⊢; omega
            case measure => simp [strLenV, ByteArray.size] at hll ⊢; omega
        · have he : S = b :: R := eq_of_beq hst
          have HF : Hid (acc = readL L) := Lib.hid (by
            have h := HGO.out
            rw [HGG.out, if_pos he] at h
            rw [h, readL, HT0.out])
          have HO := Lib.hid (World.ownsRow.alloc hO2.out (.cells #[.int .i64 c, .int .i64 r] 34) : OwnT (w2.alloc (.cells #[.int .i64 c, .int .i64 r] 34)) (w.heap.size + 2) (.slice a acc.length cap) acc)
          have haL : acc.length < 64 := by simp at hTa; omega
          clear he
          go_wp2
          obtain ⟨d1, d2, hg⟩ := two_after_alloc hR2.out (.int .i64 d) (.slice a acc.length cap) rfl (.cells #[.int .i64 c, .int .i64 r] 34)
          refine bodyPost_ret (v := .agg #[.int .i64 d, .slice a acc.length cap]) ?_ rfl ?_
          · simp [results, Tryz.results78, go_sem, d1, d2]
          · refine ⟨.slice a acc.length cap, by rw [HD.out], ?_, hB2.out.grown hg hB2.out.size (by intro q hq; cases hq; omega), fun q hq => by have := (hO2.out.lt q hq).1; omega, by rw [← HF.out]; omega⟩
            rw [← HF.out]
            exact (hO2.out.at (by omega)).kept hg (by
              cases hv : (Value.slice a acc.length cap).ownBlock with
              | none => exact .inl rfl
              | some q => right; have := (hO2.out.lt q hv).1; simp; omega)
end Go.Proofs.YtedpafdfecofnaaGreatDoor

/-! ## S21 -/
namespace Go.Proofs.YtedpafdfecofnaaGreatDoor
open Go.RowKit Go.Maps Go.Shelf Go.Sort
/-- What 'Parse' gives: the denominator, the terms, the error. -/
def parseF (L : List UInt8) : Int × List (Int × Int) × Int :=
  if 64 < L.length then (0, [], 5) else if validF (readDen L) (readL L) = true ∧ textB (readDen L) (readL L) = L then (readDen L, readL L, 0) else (0, [], 4)

set_option maxRecDepth 100000 in
set_option maxHeartbeats 2000000 in
theorem parse_any (L : List UInt8) (hL : L.length ≤ 4294967200) (w : World) (hw : WOk w) : Calls Tryz.prog 42 #[.string ⟨L.toArray⟩] w (NumTo (parseF L) w) := by
  have HW := Lib.hid hw
  obtain ⟨_, _, h6⟩ := hw
  by_cases hlong : 64 < L.length
  · have HP : Hid (parseF L = (0, [], 5)) := Lib.hid (by unfold parseF; rw [if_pos hlong])
    have hsz : (⟨L.toArray⟩ : ByteArray).size = L.length := by simp [ByteArray.size]
    go_enter Tryz.func42, Tryz.ntmps42
    go_wp2
    refine bodyPost_ret (v := .tuple #[.agg #[.int .i64 0, .slice none 0 0], .int .i64 5]) ?_ rfl ?_
    · simp [results, Tryz.results42, go_sem]
    · exact ⟨.slice none 0 0, by rw [HP.out], by rw [HP.out]; exact termsAt_nil _, (Below.refl _ _).alloc (Nat.le_refl _) _, by intro k hk; cases hk⟩
  · have hL' : L.length ≤ 64 := by omega
    have hWa := Lib.hid (HW.out.below ((Below.refl _ w).alloc (Nat.le_refl _) (.cells #[.int .i64 0, .slice none 0 0] 24)))
    have hr0 := Lib.hid (Two.new w (.int .i64 0) (.slice none 0 0) 24)
    have hb0 := Lib.hid ((Below.refl _ w).alloc (Nat.le_refl _) (.cells #[.int .i64 0, .slice none 0 0] 24))
    go_enter Tryz.func42, Tryz.ntmps42
    go_wp2_with fail
    refine (read_any L hL' _ hWa.out).mono ?_
    rintro e w1 ⟨v, rfl, ht1, hb1, hown, hl64⟩
    obtain ⟨d, hd⟩ : ∃ d, readDen L = d := ⟨_, rfl⟩
    obtain ⟨l, hl⟩ : ∃ l, readL L = l := ⟨_, rfl⟩
    rw [hd]
    rw [hl] at ht1 hl64
    have hP : parseF L = if validF d l = true ∧ textB d l = L then (d, l, 0) else (0, [], 4) := by unfold parseF; rw [if_neg hlong, hd, hl]
    clear hd hl
    obtain ⟨a, cap, rfl, px⟩ := ht1.placed
    have hr1 := Lib.hid (hr0.out.below hb1 (by simp))
    have hB1 := Lib.hid (hb0.out.trans (hb1.mono (by simp)))
    have hsz1 : w.heap.size < w1.heap.size := by have := hb1.size; simp at this; omega
    have HT1 := Lib.hid ht1
    have HOWN : Hid (∀ k, (Value.slice a l.length cap).ownBlock = some k → w.heap.size < k) := Lib.hid (fun k hk => by have := hown k hk; simp at this; omega)
    have PX := Lib.hid px
    clear hb1 hown ht1 hWa hr0 hb0 px
    have HP := Lib.hid hP
    clear hP
    go_wp2_with fail
    refine (valid_any d _ l _ (HT1.out.alloc _)).mono ?_
    rintro e w2 ⟨rfl, hb2⟩
    have ht2 := (Two.new w1 (.int .i64 d) (.slice a l.length cap) 24).below hb2 (by simp)
    have hr2 := Lib.hid ((hr1.out.alloc (.cells #[.int .i64 d, .slice a l.length cap] 24)).below hb2 (by simp; omega))
    have hB2 := Lib.hid ((hB1.out.alloc hB1.out.size (.cells #[.int .i64 d, .slice a l.length cap] 24)).trans (hb2.mono (by simp; omega)))
    have HT2 := Lib.hid ((HT1.out.alloc (.cells #[.int .i64 d, .slice a l.length cap] 24)).below hb2)
    have hsz2 : w.heap.size < w2.heap.size := by have := hb2.size; simp at this; omega
    have hsz3 : w1.heap.size < w2.heap.size := by have := hb2.size; simp at this; omega
    clear hb2
    have c0 := ht2.c0
    have c1 := ht2.c1
    have HT22 := Lib.hid ht2
    clear ht2
    cases hv : validF d l
    · have HP2 : Hid (parseF L = (0, [], 4)) := Lib.hid (by rw [HP.out, if_neg (by rw [hv]; simp)])
      have r0 := hr2.out.c0
      have r1 := hr2.out.c1
      have f0 := hr2.out.fr (i := 0)
      have f1 := hr2.out.fr (i := 1)
      clear hv
      go_wp2
      obtain ⟨d0, d1, d2, hg⟩ := two_after hr2.out (.int .i64 0) (.slice none 0 0) rfl
      refine bodyPost_ret (v := .tuple #[.agg #[.int .i64 0, .slice none 0 0], .int .i64 4]) ?_ rfl ?_
      · simp [results, Tryz.results42, go_sem, d0, d1, d2]
      · exact ⟨.slice none 0 0, by rw [HP2.out], by rw [HP2.out]; exact termsAt_nil _, hB2.out.grown hg hB2.out.size (by intro q hq; cases hq; omega), by intro k hk; cases hk⟩
    · have V := vld_of hv
      have hbb : Hid (∀ t ∈ l, (-1000000 < t.1 ∧ t.1 < 1000000) ∧ (-1000000 < t.2 ∧ t.2 < 1000000)) := Lib.hid (fun t ht => by have := vld_pt V t ht; omega)
      have hl := V.len
      have hd1 := V.d1
      have hd2 := V.d2
      have HV := Lib.hid hv
      clear hv V
      go_wp2_with fail
      refine (text_any d _ l _ HT2.out (HW.out.below hB2.out) hl (by omega) (by omega) hbb).mono ?_
      rintro e w3 ⟨rfl, hb3⟩
      have hr3 := Lib.hid (hr2.out.below hb3 hsz2)
      have hB3 := Lib.hid (hB2.out.trans (hb3.mono hB2.out.size))
      have HT3 := Lib.hid (HT2.out.below hb3)
      have ht3 := HT22.out.below hb3 hsz3
      have c03 := ht3.c0
      have c13 := ht3.c1
      have hsz4 : w.heap.size < w3.heap.size := by have := hb3.size; omega
      have r0 := hr3.out.c0
      have r1 := hr3.out.c1
      have f0 := hr3.out.fr (i := 0)
      have f1 := hr3.out.fr (i := 1)
      clear hb3 ht3 c0 c1
      obtain ⟨S, hS⟩ : ∃ S, textB d l = S := ⟨_, rfl⟩
      have HS := Lib.hid hS
      rw [hS]
      clear hS
      cases hst : S == L
      · have hne : ¬ S = L := by intro e; rw [e] at hst; simp at hst
        have HP2 : Hid (parseF L = (0, [], 4)) := Lib.hid (by rw [HP.out, HS.out, if_neg (fun h => hne h.2)])
        clear hne
        go_wp2
        obtain ⟨d0, d1, d2, hg⟩ := two_after hr3.out (.int .i64 0) (.slice none 0 0) rfl
        refine bodyPost_ret (v := .tuple #[.agg #[.int .i64 0, .slice none 0 0], .int .i64 4]) ?_ rfl ?_
        · simp [results, Tryz.results42, go_sem, d0, d1, d2]
        · exact ⟨.slice none 0 0, by rw [HP2.out], by rw [HP2.out]; exact termsAt_nil _, hB3.out.grown hg hB3.out.size (by intro q hq; cases hq; omega), by intro k hk; cases hk⟩
      · have he : S = L := eq_of_beq hst
        have HP2 : Hid (parseF L = (d, l, 0)) := Lib.hid (by rw [HP.out, HS.out, if_pos ⟨HV.out, he⟩])
        clear he
        go_wp2
        obtain ⟨d0, d1, d2, hg⟩ := two_after hr3.out (.int .i64 d) (.slice a l.length cap) rfl
        refine bodyPost_ret (v := .tuple #[.agg #[.int .i64 d, .slice a l.length cap], .int .i64 0]) ?_ rfl ?_
        · simp [results, Tryz.results42, go_sem, d0, d1, d2]
        · refine ⟨.slice a l.length cap, by rw [HP2.out], ?_, hB3.out.grown hg hB3.out.size (by intro q hq; cases hq; omega), fun k hk => Nat.le_of_lt (HOWN.out k hk)⟩
          rw [HP2.out]
          exact HT3.out.kept hg (by
            cases hv : (Value.slice a l.length cap).ownBlock with
            | none => exact .inl rfl
            | some q => right; have := HOWN.out q hv; simp; omega)
end Go.Proofs.YtedpafdfecofnaaGreatDoor
