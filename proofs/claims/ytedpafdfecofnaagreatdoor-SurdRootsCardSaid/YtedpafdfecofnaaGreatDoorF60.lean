/-
  Contracts of the program's own functions (and their plain mathematics), on the way to the law: each for all arguments that its hypotheses let.
-/
import Derived.Test.YtedpafdfecofnaaGreatDoorF58
import Derived.Test.YtedpafdfecofnaaGreatDoorF29
import Derived.WalkKit
import Derived.WalkSpells
import Derived.WalkLawsBesides
import Derived.Deep.QuietTactic
import Derived.BigQuiet
import Derived.Lib.Hide
import Derived.WalkSmall
import Derived.Maps.OwnSet
import Derived.Maps.RangeWalk
import Derived.Deep.RegionWith
import Derived.Deep.RegionHeld3
import Derived.Deep.DrawnRows
import Derived.Deep.DeepCutAuto
import Derived.OneCell
import Derived.KernelRfl
import Derived.Laws.StructEq
import Derived.StillTailTactics
import Derived.Laws.Externs
import Derived.RangeFuncBox
import Derived.Test.YtedpafdfecofnaaGreatDoorPlain
set_option linter.unusedSimpArgs false
set_option linter.unusedVariables false

/-! ## D10 -/
namespace Go.Proofs.YtedpafdfecofnaaGreatDoor
open Go.RowKit Go.Maps Go.Shelf Go.Sort
/-- The step 'append(list, list...)' of a region, on rows of whole numbers. -/
theorem step_copy {ops : Array Oper} {o : Oper} {a : Act} {w : World} {K : Act → World → Prop} {Q : Exit → Act → World → Prop} {E : Prop} (hgd : o.guard = none) (s x : Operand)
    (ho : o.op = .call { callee := .builtin .append, args := #[s, x], argTypes := #[88, 88] }) (base : Nat) (v : Value) (n : Nat) (xs : List Value) (hs : a.eval s = v) (hown : w.ownsRow base 3 1 v n xs)
    (ad : Addr) (m c : Nat) (news : List Value) (hx : a.eval x = .slice (some ad) m c) (hl : news.length = m) (hnews : ∀ j u, news[j]? = some u → w.cell? (ad.add j) = some u) (h1 : ∀ u ∈ news, u.oneCell' = true)
    (h63 : n + m ≤ maxLen) (hbytes : (n + m) * 8 ≤ 140737488355328) (hbase : base ≤ w.heap.size)
    (h : ∀ v' w', w'.ownsRow base 3 1 v' (n + m) (xs ++ news) → w.grownBy w' v.ownBlock → (v' = .slice none 0 0 ↔ v = .slice none 0 0 ∧ m = 0) → K (a.put o.dst v') w') :
    if Region.wanted o (yielded ops a.tmps) = true then Oper.wp Tryz.prog o a w K Q else E := by
  obtain ⟨i0, hi, hz0, hz1, hz2⟩ := info_parts info3
  have hw : Region.wanted o (yielded ops a.tmps) = true := by simp [Region.wanted, hgd]
  rw [if_pos hw]
  exact wp_append_own w s x 88 ho base 3 i0 (.int .i64 0) 1 8 und88 hi hz0 hz1 hz2 rfl (by decide) v n xs hs hown ad m c news hx (by omega) hnews h1 h63 hbytes hbase h
theorem app_copy' {W X w3 : World} {l : List Nat} {v' : Value} (hX : Below W.heap.size W X) (hown : w3.ownsRow W.heap.size 3 1 v' (0 + l.length) (iv [] ++ iv l)) (hg : X.grownBy w3 (some W.heap.size)) (hiff : v' = .slice none 0 0 ↔ Value.slice (some ⟨W.heap.size, 0, none⟩) 0 0 = .slice none 0 0 ∧ l.length = 0) :
    (∃ g cap, v' = .slice (some ⟨g, 0, none⟩) l.length cap) ∧ OwnD w3 W.heap.size v' l ∧ Below W.heap.size W w3 := by
  have hne : v' ≠ .slice none 0 0 := fun e => by have := (hiff.1 e).1; cases this
  have ho : OwnD w3 W.heap.size v' l := by unfold OwnD; have := hown; rw [Nat.zero_add] at this; exact this
  exact ⟨ownD_shape ho hne, ho, hX.grown hg hX.size (fun q hq => by have := Option.some.inj hq; omega)⟩
theorem app_copy2 {W X w3 : World} {b : Nat} {l : List Nat} {v' : Value} (hX : Below W.heap.size W X) (hown : w3.ownsRow W.heap.size 3 1 v' (0 + l.length) (iv [] ++ iv l)) (hg : X.grownBy w3 (some b)) (hb : W.heap.size ≤ b) (hiff : v' = .slice none 0 0 ↔ Value.slice (some ⟨b, 0, none⟩) 0 0 = .slice none 0 0 ∧ l.length = 0) :
    (∃ g cap, v' = .slice (some ⟨g, 0, none⟩) l.length cap) ∧ OwnD w3 W.heap.size v' l ∧ Below W.heap.size W w3 := by
  have hne : v' ≠ .slice none 0 0 := fun e => by have := (hiff.1 e).1; cases this
  have ho : OwnD w3 W.heap.size v' l := by unfold OwnD; have := hown; rw [Nat.zero_add] at this; exact this
  exact ⟨ownD_shape ho hne, ho, hX.grown hg hX.size (fun q hq => by have := Option.some.inj hq; omega)⟩
theorem news_kept {X w3 : World} {b c : Nat} (h : X.cell? ⟨c, 0, none⟩ = some (.int .i64 0)) (hg : X.grownBy w3 (some b)) (hne : c ≠ b) : ∀ j u, (iv [0])[j]? = some u → w3.cell? ((⟨c, 0, none⟩ : Addr).add j) = some u := by
  intro j u hj
  rcases j with _ | j
  · rw [add_addr]
    have : some (Value.int .i64 ((0 : Nat) : Int)) = some u := hj
    rw [← this]
    exact hg.cell h (by intro e; exact hne (Option.some.inj e))
  · simp [iv] at hj
set_option maxRecDepth 100000 in
set_option maxHeartbeats 8000000 in
/-- squared: a number times the square of another one, in an even number of digits. -/
theorem squared_dig (c : Int) (n : Nat) (hc : c.natAbs ≤ 1000000000000000000) (hn : n ≤ 1000000000000000000) (w : World) : Calls Tryz.prog 70 #[.int .i64 c, .int .i64 n] w (ReadsD (fun r => Dg r ∧ dval r = n * c.natAbs * c.natAbs ∧ r.length % 2 = 0 ∧ r.length ≤ 200) w) := by
  obtain ⟨i0, hi, hz0, hz1, hz2⟩ := info_parts info3
  obtain ⟨m, hm⟩ : ∃ m, c.natAbs = m := ⟨_, rfl⟩
  have HAB := Lib.hid (fun w0 => abs_any c w0 (by omega) (by omega))
  rw [hm] at HAB hc ⊢
  have HDN := Lib.hid (fun w0 => digits_any n hn w0)
  have HDM := Lib.hid (fun w0 => digits_any m hc w0)
  clear hm
  go_enter Tryz.func70, Tryz.ntmps70
  go_wp2_with fail
  refine (HDN.out _).mono ?_
  rintro e w1 ⟨O, v5, ⟨hO1, hO2, _, hO4⟩, rfl, hne, hoo, hb1⟩
  obtain ⟨g5, c5, rfl⟩ := ownD_shape hoo hne
  have HN1 := Lib.hid (hoo.atN hne (by omega))
  have HB1 := Lib.hid hb1
  have HO1 := Lib.hid (And.intro hO1 hO2)
  clear hoo hb1 hO1 hO2 hne
  go_wp2_with fail
  go_loopw [5, 6, 7, 8, 9] (fun s5 s6 _ _ _ wr => ∃ (k : Nat) (A : List Nat) (b o cp : Nat), s5 = .slice (some ⟨b, o, none⟩) A.length cp ∧ s6 = .int .i64 (k : Nat) ∧ k ≤ 2 ∧ A.length ≤ 20 + 41 * k ∧ Hid (Dg A ∧ dval A = n * m ^ k) ∧ Hid (DigsN wr (.slice (some ⟨b, o, none⟩) A.length cp) A) ∧ Hid (Below w.heap.size w wr)) (fun _ s6 _ _ _ _ => 2 - (intOf s6).toNat)
  case atStart => exact ⟨0, O, g5, 0, c5, rfl, rfl, by omega, by omega, Lib.hid ⟨HO1.out.1, by rw [HO1.out.2]; simp⟩, HN1, HB1⟩
  case round =>
    clear HN1 HB1 HO1
    obtain ⟨k, A, b5, o5, c5, rfl, rfl, hk, hAl, HV, HA, HB⟩ := hrel
    by_cases hk2 : k < 2
    · have hq1 : decide ((k : Int) < 2) = true := decide_eq_true (by omega)
      have hzz := HB.out.size
      go_wp2_with fail
      refine (HAB.out _).mono ?_
      rintro e wq ⟨rfl, rfl⟩
      go_wp2_with fail
      refine (HDM.out _).mono ?_
      rintro e w2 ⟨L, v8, ⟨hL1, hL2, _, hL4⟩, rfl, hne, hol, hb2⟩
      obtain ⟨g8, c8, rfl⟩ := ownD_shape hol hne
      have HL := Lib.hid (hol.atN hne (by omega))
      have HLV := Lib.hid (And.intro hL1 hL2)
      have B0 : Below wr.heap.size wr (wr.alloc (.cells #[] 3)) := (Below.refl _ _).alloc (Nat.le_refl _) _
      have hb2' : Below wr.heap.size wr w2 := B0.trans (hb2.mono B0.size)
      have HE : Hid (DigsN w2 (.slice (some ⟨wr.heap.size, 0, none⟩) 0 0) []) := Lib.hid (emptyN wr (hb2.mono (by simp)))
      have HA2 := Lib.hid (HA.out.below hb2')
      have HB2 := Lib.hid (HB.out.trans (hb2'.mono HB.out.size))
      have HLC : Hid (∀ i, i < L.length → w2.cell? ⟨g8, 0 + i, none⟩ = some (.int .i64 (L.getD i 0 : Nat)) ∧ g8 < w2.heap.size) := Lib.hid (fun i hi => by
        obtain ⟨_, b, o, c, e, _, hbb, hcc⟩ := HL.out
        obtain ⟨rfl, rfl⟩ : g8 = b ∧ 0 = o := by cases e; exact ⟨rfl, rfl⟩
        exact ⟨hcc i hi, hbb⟩)
      clear hol hb2 hb2' B0 hL1 hL2 hne
      go_wp2_with fail
      go_loopw [7, 9] (fun s7 s9 wr => ∃ (i : Nat) (S : List Nat) (b o cp : Nat), s7 = .slice (some ⟨b, o, none⟩) S.length cp ∧ s9 = .int .i64 (i : Nat) ∧ i ≤ L.length ∧ S.length ≤ A.length + 2 * i + 1 ∧ Hid (Dg S ∧ dval S = dval A * dval (L.take i)) ∧ Hid (DigsN wr (.slice (some ⟨b, o, none⟩) S.length cp) S) ∧ Hid (Below w2.heap.size w2 wr)) (fun _ s9 _ => L.length - (intOf s9).toNat)
      case atStart => exact ⟨0, [], wr.heap.size, 0, 0, rfl, rfl, Nat.zero_le _, by simp, Lib.hid ⟨Dg.nil, by simp [dval]⟩, HE, Lib.hid (Below.refl _ _)⟩
      case round =>
        clear HE
        obtain ⟨i, S, b7, o7, c7, rfl, rfl, hil, hSl, HSV, HS, HBL⟩ := hrel
        by_cases hlt : i < L.length
        · obtain ⟨x, hx⟩ : ∃ x, L.getD i 0 = x := ⟨_, rfl⟩
          have hx9 : x < 10 := by rw [← hx]; exact HLV.out.1.getD i
          have HCX : Hid (∀ w', Below w2.heap.size w2 w' → w'.cell? ⟨g8, i, none⟩ = some (.int .i64 (x : Nat))) := Lib.hid (fun w' h => by
            have := HLC.out i hlt
            rw [Nat.zero_add, hx] at this
            exact (h.cell (p := ⟨g8, _, none⟩) this.2).trans this.1)
          have HA3 := Lib.hid (HA2.out.below HBL.out)
          have i1 : (0 : Int) ≤ (i : Int) := by omega
          have i2 : (i : Int) < (L.length : Int) := by omega
          have HXV := Lib.hid hx
          have cx := HCX.out _ HBL.out
          clear hx
          have HNC : Hid (∀ W', Below wr.heap.size wr W' → ∀ j u, (iv S)[j]? = some u → W'.cell? ((⟨b7, o7, none⟩ : Addr).add j) = some u) := Lib.hid (fun W' h => by
            obtain ⟨_, b, o, c, e, _, hbb, hcc⟩ := HS.out
            obtain ⟨rfl, rfl⟩ : b7 = b ∧ o7 = o := by cases e; exact ⟨rfl, rfl⟩
            exact newsD hbb hcc h)
          have HLB : Hid (∀ W', Below wr.heap.size wr W' → W'.cell? ⟨g8, i, none⟩ = some (.int .i64 (x : Nat))) := Lib.hid (fun W' h => HCX.out W' (HBL.out.trans (h.mono HBL.out.size)))
          have hS63 : S.length ≤ 200 := by omega
          have hg8 : g8 < wr.heap.size := Nat.lt_of_lt_of_le (HLC.out i hlt).2 HBL.out.size
          have BE : Hid (Below wr.heap.size wr (wr.alloc (.cells #[] 3))) := Lib.hid ((Below.refl _ wr).alloc (Nat.le_refl _) _)
          have OE : Hid (World.ownsRow (wr.alloc (.cells #[] 3)) wr.heap.size 3 1 (.slice (some ⟨wr.heap.size, 0, none⟩) 0 0) 0 (iv [])) := Lib.hid (emptyD wr)
          have NE := Lib.hid (HNC.out (wr.alloc (.cells #[] 3)) BE.out)
          have SE : Hid (wr.heap.size ≤ (wr.alloc (.cells #[] 3)).heap.size) := Lib.hid (by simp; try omega)
          have BEZ : Hid (Below wr.heap.size wr ((wr.alloc (.cells #[] 3)).alloc (.cells #[.int .i64 0] 3))) := Lib.hid (((Below.refl _ wr).alloc (Nat.le_refl _) _).alloc (by simp) _)
          have OEZ : Hid (World.ownsRow ((wr.alloc (.cells #[] 3)).alloc (.cells #[.int .i64 0] 3)) wr.heap.size 3 1 (.slice (some ⟨wr.heap.size, 0, none⟩) 0 0) 0 (iv [])) := Lib.hid (World.ownsRow.alloc (emptyD wr) _)
          have NEZ := Lib.hid (HNC.out ((wr.alloc (.cells #[] 3)).alloc (.cells #[.int .i64 0] 3)) BEZ.out)
          have SEZ : Hid (wr.heap.size ≤ ((wr.alloc (.cells #[] 3)).alloc (.cells #[.int .i64 0] 3)).heap.size) := Lib.hid (by simp; try omega)
          have BZE : Hid (Below wr.heap.size wr ((wr.alloc (.cells #[.int .i64 0] 3)).alloc (.cells #[] 3))) := Lib.hid (((Below.refl _ wr).alloc (Nat.le_refl _) _).alloc (by simp) _)
          have OZE : Hid (World.ownsRow ((wr.alloc (.cells #[.int .i64 0] 3)).alloc (.cells #[] 3)) wr.heap.size 3 1 (.slice (some ⟨(wr.heap.size + 1), 0, none⟩) 0 0) 0 (iv [])) := Lib.hid (by
            have h := (emptyD (wr.alloc (.cells #[.int .i64 0] 3))).low (base' := wr.heap.size) (by simp)
            have e : (wr.alloc (.cells #[.int .i64 0] 3)).heap.size = wr.heap.size + 1 := by simp
            rw [e] at h
            exact h)
          have NZE := Lib.hid (HNC.out ((wr.alloc (.cells #[.int .i64 0] 3)).alloc (.cells #[] 3)) BZE.out)
          have SZE : Hid (wr.heap.size ≤ ((wr.alloc (.cells #[.int .i64 0] 3)).alloc (.cells #[] 3)).heap.size) := Lib.hid (by simp; try omega)
          have ZEZ : Hid (((wr.alloc (.cells #[] 3)).alloc (.cells #[.int .i64 0] 3)).cell? ⟨wr.heap.size + 1, 0, none⟩ = some (.int .i64 0)) := Lib.hid (by
            have h := (oneD (wr.alloc (.cells #[] 3)) 0).cellAt 0 (by simp)
            have e : (wr.alloc (.cells #[] 3)).heap.size = wr.heap.size + 1 := by simp
            rw [e] at h
            exact h)
          have ZZE : Hid (((wr.alloc (.cells #[.int .i64 0] 3)).alloc (.cells #[] 3)).cell? ⟨wr.heap.size, 0, none⟩ = some (.int .i64 0)) := Lib.hid (by
            have h := (oneD wr 0).cellAt 0 (by simp)
            exact ((Below.refl (wr.heap.size + 1) (wr.alloc (.cells #[.int .i64 0] 3))).alloc (by simp) _).cell (p := ⟨wr.heap.size, 0, none⟩) (by simp) |>.trans h)
          go_upto_region 9 with fail
          go_region_law (first
              | (refine step_copy (by rfl) _ _ (by rfl) wr.heap.size (.slice (some ⟨wr.heap.size, 0, none⟩) 0 0) 0 (iv []) (by rfl) OE.out ⟨b7, o7, none⟩ S.length c7 (iv S) (by rfl) (iv_len S) NE.out (iv_one _) (by unfold maxLen; omega) (by omega) SE.out ?_; intro v1 w31 hown3 hgrow3 hiff3; obtain ⟨⟨g1, c1, rfl⟩, hod1, hbd1⟩ := app_copy2 (W := wr) (by first | exact BE.out | exact BE.out.drew) hown3 hgrow3 (by simp; try omega) hiff3; have HOD1 := Lib.hid hod1; have HBD1 := Lib.hid hbd1; have cx31 := HLB.out w31 hbd1; have cx31z := HLB.out (w31.alloc (.cells #[.int .i64 0] 3)) (hbd1.alloc hbd1.size _); have hsz1 := hbd1.size; have HNO : Hid (∀ j u, (iv [0])[j]? = some u → (w31.alloc (.cells #[.int .i64 0] 3)).cell? ((⟨w31.heap.size, 0, none⟩ : Addr).add j) = some u) := Lib.hid (newsOne w31 0); clear hown3 hgrow3 hiff3 hod1 hbd1)
              | (refine step_copy (by rfl) _ _ (by rfl) wr.heap.size (.slice (some ⟨wr.heap.size, 0, none⟩) 0 0) 0 (iv []) (by rfl) OEZ.out ⟨b7, o7, none⟩ S.length c7 (iv S) (by rfl) (iv_len S) NEZ.out (iv_one _) (by unfold maxLen; omega) (by omega) SEZ.out ?_; intro v1 w31 hown3 hgrow3 hiff3; obtain ⟨⟨g1, c1, rfl⟩, hod1, hbd1⟩ := app_copy2 (W := wr) (by first | exact BEZ.out | exact BEZ.out.drew) hown3 hgrow3 (by simp; try omega) hiff3; have HOD1 := Lib.hid hod1; have HBD1 := Lib.hid hbd1; have cx31 := HLB.out w31 hbd1; have cx31z := HLB.out (w31.alloc (.cells #[.int .i64 0] 3)) (hbd1.alloc hbd1.size _); have hsz1 := hbd1.size; have HNOEZ : Hid (∀ j u, (iv [0])[j]? = some u → w31.cell? ((⟨(wr.heap.size + 1), 0, none⟩ : Addr).add j) = some u) := Lib.hid (news_kept (by first | exact ZEZ.out) hgrow3 (by simp)); clear hown3 hgrow3 hiff3 hod1 hbd1)
              | (refine step_copy (by rfl) _ _ (by rfl) wr.heap.size (.slice (some ⟨(wr.heap.size + 1), 0, none⟩) 0 0) 0 (iv []) (by rfl) OZE.out ⟨b7, o7, none⟩ S.length c7 (iv S) (by rfl) (iv_len S) NZE.out (iv_one _) (by unfold maxLen; omega) (by omega) SZE.out ?_; intro v1 w31 hown3 hgrow3 hiff3; obtain ⟨⟨g1, c1, rfl⟩, hod1, hbd1⟩ := app_copy2 (W := wr) (by first | exact BZE.out | exact BZE.out.drew) hown3 hgrow3 (by simp; try omega) hiff3; have HOD1 := Lib.hid hod1; have HBD1 := Lib.hid hbd1; have cx31 := HLB.out w31 hbd1; have cx31z := HLB.out (w31.alloc (.cells #[.int .i64 0] 3)) (hbd1.alloc hbd1.size _); have hsz1 := hbd1.size; have HNOZE : Hid (∀ j u, (iv [0])[j]? = some u → w31.cell? ((⟨wr.heap.size, 0, none⟩ : Addr).add j) = some u) := Lib.hid (news_kept (by first | exact ZZE.out) hgrow3 (by simp)); clear hown3 hgrow3 hiff3 hod1 hbd1)
              | (refine step_copy (by rfl) _ _ (by rfl) wr.heap.size (.slice (some ⟨g1, 0, none⟩) S.length c1) S.length (iv S) (by rfl) (World.ownsRow.alloc HOD1.out _) ⟨w31.heap.size, 0, none⟩ 1 1 (iv [0]) (by rfl) (by rfl) HNO.out (iv_one _) (by unfold maxLen; omega) (by omega) (by simp; omega) ?_; intro v2 w4 hown4 hgrow4 hiff4; obtain ⟨⟨g2, c2, rfl⟩, hod2, hbd2, hne2⟩ := app_two (m := [0]) (k := 1) rfl (by omega) (HBD1.out.alloc HBD1.out.size _) (World.ownsRow.alloc HOD1.out _) hown4 hgrow4; have HOD2 := Lib.hid hod2; have HBD2 := Lib.hid hbd2; have HNE2 := Lib.hid hne2; have cx4 := HLB.out w4 hbd2; clear hown4 hgrow4 hiff4 hod2 hbd2 hne2)
              | (refine step_copy (by rfl) _ _ (by rfl) wr.heap.size (.slice (some ⟨g1, 0, none⟩) S.length c1) S.length (iv S) (by rfl) HOD1.out ⟨(wr.heap.size + 1), 0, none⟩ 1 1 (iv [0]) (by rfl) (by rfl) HNOEZ.out (iv_one _) (by unfold maxLen; omega) (by omega) hsz1 ?_; intro v2 w4 hown4 hgrow4 hiff4; obtain ⟨⟨g2, c2, rfl⟩, hod2, hbd2, hne2⟩ := app_two (m := [0]) (k := 1) rfl (by omega) HBD1.out HOD1.out hown4 hgrow4; have HOD2 := Lib.hid hod2; have HBD2 := Lib.hid hbd2; have HNE2 := Lib.hid hne2; have cx4 := HLB.out w4 hbd2; clear hown4 hgrow4 hiff4 hod2 hbd2 hne2)
              | (refine step_copy (by rfl) _ _ (by rfl) wr.heap.size (.slice (some ⟨g1, 0, none⟩) S.length c1) S.length (iv S) (by rfl) HOD1.out ⟨wr.heap.size, 0, none⟩ 1 1 (iv [0]) (by rfl) (by rfl) HNOZE.out (iv_one _) (by unfold maxLen; omega) (by omega) hsz1 ?_; intro v2 w4 hown4 hgrow4 hiff4; obtain ⟨⟨g2, c2, rfl⟩, hod2, hbd2, hne2⟩ := app_two (m := [0]) (k := 1) rfl (by omega) HBD1.out HOD1.out hown4 hgrow4; have HOD2 := Lib.hid hod2; have HBD2 := Lib.hid hbd2; have HNE2 := Lib.hid hne2; have cx4 := HLB.out w4 hbd2; clear hown4 hgrow4 hiff4 hod2 hbd2 hne2)
              | (go_simp; go_at_call 96; refine (times_dig _ A x (by omega) (by omega) _ HV.out.1 (HA3.out.at.below HBD2.out)).mono ?_; rintro e w5 ⟨C, v3, ⟨hC1, hC2, hC3⟩, rfl, hne3, hoc, hb5⟩; obtain ⟨g3, c3, rfl⟩ := ownD_shape hoc hne3; have HC3 := Lib.hid (hoc.at (by omega)); have HB3 := Lib.hid (HBD2.out.trans (hb5.mono HBD2.out.size)); have HCV := Lib.hid (And.intro hC1 hC2); have HSN := Lib.hid ((HOD2.out.at (by simp; omega)).below hb5); have HSD : Hid (Dg (S ++ [0]) ∧ dval (S ++ [0]) = 10 * dval S) := Lib.hid ⟨Dg.append HSV.out.1 (Dg.one (by omega)), dval_snoc S 0⟩; have hSl2 : (S ++ [0]).length = S.length + 1 := (by simp); clear hoc hb5 hC1 hC2 hne3)
              | (go_simp; go_at_call 71; refine (add_dig _ _ (S ++ [0]) C (by omega) (by omega) _ HSD.out.1 HCV.out.1 HSN.out HC3.out).mono ?_; rintro e w6 ⟨S6, v6, ⟨hS61, hS62, hS63⟩, rfl, hne6, hos6, hb6⟩; obtain ⟨g6, c6, rfl⟩ := ownD_shape hos6 hne6; have HS6 := Lib.hid (hos6.atN hne6 (by omega)); have HB6 := Lib.hid (HB3.out.trans (hb6.mono HB3.out.size)); have HSV6 : Hid (Dg S6 ∧ dval S6 = dval A * dval (L.take (i + 1))) := Lib.hid ⟨hS61, by rw [hS62, HSD.out.2, HCV.out.2, take_snoc hlt, dval_snoc, HSV.out.2, HXV.out, Nat.mul_add, Nat.mul_left_comm]⟩; have hS6l : S6.length ≤ A.length + 2 * (i + 1) + 1 := (by omega); clear hos6 hb6 hS61 hS62)
              )
          all_goals
            have HBL6 := Lib.hid (HBL.out.trans (HB6.out.mono HBL.out.size))
            go_wp2
            go_roundw
            case rel => exact ⟨i + 1, S6, g6, 0, c6, rfl, by go_num, by omega, hS6l, HSV6, HS6, HBL6⟩
            case measure => simp [intOf]; omega
        · have HF : Hid (Dg S ∧ dval S = n * m ^ (k + 1)) := Lib.hid ⟨HSV.out.1, by rw [HSV.out.2, List.take_of_length_le (by omega), HLV.out.2, HV.out.2, Nat.pow_succ, Nat.mul_assoc]⟩
          have hq2 : decide ((i : Int) < (L.length : Int)) = false := decide_eq_false (by omega)
          have HB4 := Lib.hid (HB2.out.trans (HBL.out.mono HB2.out.size))
          have hSl4 : S.length ≤ 20 + 41 * (k + 1) := by omega
          clear HSV
          go_wp2
          go_roundw
          case rel => exact ⟨k + 1, S, b7, o7, c7, rfl, by go_num, by omega, hSl4, HF, HS, HB4⟩
          case measure => simp [intOf]; omega
    · have hk3 : k = 2 := by omega
      have HF : Hid (Dg A ∧ dval A = n * m * m) := Lib.hid ⟨HV.out.1, by rw [HV.out.2, hk3, Nat.pow_succ, Nat.pow_succ, Nat.pow_zero, Nat.one_mul, Nat.mul_assoc]⟩
      have hA2 : A.length ≤ 102 := by omega
      have hq1 : decide ((k : Int) < 2) = false := decide_eq_false (by omega)
      clear HV hk3 hAl
      go_wp2_with fail
      refine (trim_dig _ A (by omega) _ HA.out).mono ?_
      rintro e w2 ⟨R, v2, hR, rfl, hn2, hb2⟩
      have HRV : Hid (Dg R ∧ dval R = n * m * m) := Lib.hid (by rw [hR]; exact ⟨HF.out.1.trim, by rw [dval_trim]; exact HF.out.2⟩)
      have hRl : R.length ≤ 102 := by rw [hR]; have := trim_len A; omega
      have HB2 := Lib.hid (HB.out.trans (hb2.mono HB.out.size))
      have HR := Lib.hid hn2
      obtain ⟨b2, o2', c2, rfl⟩ : ∃ b o c, v2 = .slice (some ⟨b, o, none⟩) R.length c := by obtain ⟨_, b, o, c, e, _⟩ := hn2; exact ⟨b, o, c, e⟩
      clear hR hn2 hb2
      by_cases hev : R.length % 2 = 0
      · have o1 : (R.length : Int).tmod 2 = 0 := by have : (R.length : Int).tmod 2 = ((R.length % 2 : Nat) : Int) := rfl; rw [this, hev]; rfl
        have o2 : (R.length : Int) % 2 = 0 := by omega
        have HEV := Lib.hid hev
        clear hev
        go_wp2
        go_ret
        exact ⟨R, _, ⟨HRV.out.1, HRV.out.2, HEV.out, by omega⟩, rfl, HR.out, HB2.out⟩
      · have o1 : (R.length : Int).tmod 2 = 1 := by have : (R.length : Int).tmod 2 = ((R.length % 2 : Nat) : Int) := rfl; rw [this, show R.length % 2 = 1 by omega]; rfl
        have o2 : (R.length : Int) % 2 = 1 := by omega
        have HEV : Hid (([0] ++ R).length % 2 = 0 ∧ ([0] ++ R).length ≤ 200) := Lib.hid (by simp; omega)
        have HOZ : Hid (OwnD (w2.alloc (.cells #[.int .i64 0] 3)) w2.heap.size (.slice (some ⟨w2.heap.size, 0, none⟩) 1 1) [0]) := Lib.hid (oneD w2 0)
        have HNC : Hid (∀ j u, (iv R)[j]? = some u → (w2.alloc (.cells #[.int .i64 0] 3)).cell? ((⟨b2, o2', none⟩ : Addr).add j) = some u) := Lib.hid (by
          obtain ⟨_, b, o, c, e, _, hbb, hcc⟩ := HR.out
          obtain ⟨rfl, rfl⟩ : b2 = b ∧ o2' = o := by cases e; exact ⟨rfl, rfl⟩
          exact newsD hbb hcc ((Below.refl _ w2).alloc (Nat.le_refl _) _))
        clear hev
        go_wp2_with (first
          | (at_builtin; refine wpList_append_own _ rfl _ _ 88 rfl w2.heap.size 3 i0 (.int .i64 0) 1 8 und88 hi hz0 hz1 hz2 rfl (by decide) (.slice (some ⟨w2.heap.size, 0, none⟩) 1 1) 1 (iv [0]) rfl HOZ.out ⟨b2, o2', none⟩ R.length c2 (iv R) rfl (by rw [iv_len]; omega) HNC.out (iv_one R) (by unfold maxLen; omega) (by omega) (by simp) ?_; intro v' w3 hown3 hgrow3 _; obtain ⟨hod, hbd⟩ := app_own (w := w2) rfl (Below.refl _ w2) hown3 hgrow3; obtain ⟨g', cap', rfl⟩ := ownD_some hod; have HOD := Lib.hid hod; have HBD := Lib.hid hbd; clear hown3 hgrow3 hod hbd))
        go_wp2
        go_ret
        exact ⟨[0] ++ R, _, ⟨Dg.append (Dg.one (by omega)) HRV.out.1, by rw [← HRV.out.2]; exact dval_pad 1 R, HEV.out.1, HEV.out.2⟩, rfl, HOD.out.atN (fun e => by cases e) (by have := HEV.out.2; omega), HB2.out.trans (HBD.out.mono HB2.out.size)⟩
end Go.Proofs.YtedpafdfecofnaaGreatDoor
