/-
  Contracts of the program's own functions (and their plain mathematics), on the way to the law: each for all arguments that its hypotheses let.
-/
import Derived.Test.YtedpafdfecofnaaGreatDoorF23
import Derived.WalkKit
import Derived.WalkSpells
import Derived.WalkLawsBesides
import Derived.Deep.QuietTactic
import Derived.BigQuiet
import Derived.Lib.Hide
import Derived.WalkSmall
import Derived.Maps.OwnSet
import Derived.Maps.RangeWalk
import Derived.Deep.RegionWith
import Derived.Deep.RegionHeld3
import Derived.OneCell
import Derived.KernelRfl
import Derived.Laws.StructEq
import Derived.StillTailTactics
import Derived.Laws.Externs
import Derived.RangeFuncBox
import Derived.Test.YtedpafdfecofnaaGreatDoorPlain
set_option linter.unusedSimpArgs false
set_option linter.unusedVariables false

/-! ## S53 -/
namespace Go.Proofs.YtedpafdfecofnaaGreatDoor
open Go.RowKit Go.Maps Go.Shelf Go.Sort

theorem fl_to (den D : Nat) (hd : 1 ≤ den) (ts : List (Int × Int)) (hne : ts ≠ []) (hc : ∀ t ∈ ts, t.1 ≠ 0) (h : flBL den D ts = true) (k : Nat) : flBL den (D + k) ts = true := by
  induction k with
  | zero => exact h
  | succ k ih => exact (fl_up den (D + k) hd ts hne hc ih).1
theorem flrL_perm (den : Nat) {ts us : List (Int × Int)} (h : ts.Perm us) : flrL den ts = flrL den us := by
  unfold flrL flNL; rw [encP_perm _ h, encN_perm _ h, encP_perm _ h, encN_perm _ h]
theorem flBL_perm (den D : Nat) {ts us : List (Int × Int)} (h : ts.Perm us) : flBL den D ts = flBL den D us := by
  unfold flBL; rw [encP_perm _ h, encN_perm _ h, encP_perm _ h, encN_perm _ h]
set_option maxRecDepth 100000 in
set_option maxHeartbeats 4000000 in
theorem irrationalFloor_any (dn : Nat) (v : Value) (l : List (Int × Int)) (m : Int) (w : World) (ht : TermsAt w v l) (hv : Vld dn l) (hm1 : 1 ≤ m) (hm2 : m ≤ 1000000000) (hne : l ≠ []) (hdiv : Hid (DivC dn)) (hdec : Hid (flBL dn 6656 (mulS m l) = true)) :
    Calls Tryz.prog 76 #[.agg #[.int .i64 dn, v], .int .i64 m] w (IntTo (flrL dn (mulS m l)) w) := by
  have hmm := @run_makeMap Tryz.prog
  have HT := Lib.hid ht
  have HV := Lib.hid hv
  have hcoll := coll_mulS (vld_nodup hv) (fun t ht => (hv.cf t ht).2.2) (m := m) (by omega)
  have HCO := Lib.hid hcoll
  have hmt : ∀ t ∈ l, -100000000000000 ≤ m * t.1 ∧ m * t.1 ≤ 100000000000000 := fun t ht => by
    have h1 := hv.cf t ht
    have := mul_abs_le m t.1 1000000000 100000 (by omega) (by omega) h1.1 h1.2.1
    omega
  have K1 : Hid (∀ t ∈ l, -1000000000000 ≤ t.2 ∧ t.2 ≤ 1000000000000 ∧ -9000000000000000000 ≤ m * t.1 ∧ m * t.1 ≤ 9000000000000000000) := Lib.hid (fun t ht => by have := hmt t ht; have := HV.out.rt t ht; omega)
  have hB := plus_bd zeroC m l 0 1000000000 100000 (fun r => by simp [zeroC]) (by omega) (by omega) (by omega) (fun t ht => ⟨(HV.out.cf t ht).1, (HV.out.cf t ht).2.1⟩) (by omega) 4 HV.out.len
  have C1 : Hid (∀ k, k ≤ l.length → ∀ r, -9000000000000000000 ≤ plusC zeroC m (l.take k) r ∧ plusC zeroC m (l.take k) r ≤ 9000000000000000000) := Lib.hid (fun k hk r => by have := hB k hk r; omega)
  have C2 : Hid (∀ r, -1000000000000000 ≤ plusC zeroC m l r ∧ plusC zeroC m l r ≤ 1000000000000000) := Lib.hid (fun r => by have := hB l.length (Nat.le_refl _) r; rw [List.take_length] at this; omega)
  have R2 : Hid (∀ r, plusC zeroC m l r ≠ 0 → 1 ≤ r ∧ r ≤ 1000) := Lib.hid (fun r hr => by
    have : coefOf l r ≠ 0 := fun e => hr (by simp [plusC, zeroC, e])
    obtain ⟨t, ht, rfl⟩ := coefOf_ne this
    exact HV.out.rt t ht)
  have HNE : Hid (∃ r, plusC zeroC m l r ≠ 0) := Lib.hid (by
    match l, hne, hcoll with
    | t :: ts, _, hcoll =>
      have h1 := hcoll.2.1 (m * t.1, t.2) (by simp [mulS])
      exact ⟨t.2, by rw [h1.1]; exact h1.2⟩)
  have L8 : Hid (∀ ts, IsColl (plusC zeroC m l) ts → ts.length ≤ 8) := Lib.hid (fun ts hts => by
    have := (coll_perm hts HCO.out).length_eq
    have h2 := HV.out.len
    simp [mulS] at this
    omega)
  have DD : Hid (∀ ts, IsColl (plusC zeroC m l) ts → flBL dn 6656 ts = true) := Lib.hid (fun ts hts => by rw [flBL_perm _ _ (coll_perm hts HCO.out)]; exact hdec.out)
  have hd1 : 1 ≤ dn := by have := hv.d1; omega
  have hd2 : dn ≤ 100000 := by have := hv.d2; omega
  have hlen4 := HV.out.len
  clear ht hv hcoll hmt hB hne
  go_enter Tryz.func76, Tryz.ntmps76
  go_wp2_with fail
  refine (add_at (w.heap.size + 1) 0 zeroC m v l _ ((HT.out.alloc _).alloc _) (HT.out.blk (by omega)) (by omega) (by omega) (ownSum_made (by simp)) K1 C1).mono ?_
  rintro e w1 ⟨rfl, ho1, hg1⟩
  have HB1 : Hid (Below w.heap.size w w1) := Lib.hid ((((Below.refl _ _).alloc (Nat.le_refl _) _).alloc (by simp) _).grown hg1 (by simp; omega) (by intro k hk; cases hk; omega))
  have HX1 := Lib.hid (((Two.new w (.int .i64 dn) v 24).alloc (.map #[] 0)).kept hg1 (by intro e; have := Option.some.inj e; omega))
  have HO1 := Lib.hid ho1
  clear hg1 ho1
  go_wp2_with fail
  refine (refine_floor (w.heap.size + 1) (0 + l.length) w.heap.size dn _ _ HO1.out (by omega) R2 C2 HNE L8 DD (Lib.hid HX1.out.c0) HX1.out.lt hd1 hd2 hdiv).mono ?_
  rintro e w2 ⟨ts, hcoll, hlen, rfl, hb2⟩
  have HE : Hid (flrL dn ts = flrL dn (mulS m l)) := Lib.hid (flrL_perm dn (coll_perm hcoll HCO.out))
  have HB2 := Lib.hid (HB1.out.trans (hb2.mono HB1.out.size))
  clear hcoll hlen hb2
  rw [HE.out]
  go_wp2
  go_ret
  exact ⟨rfl, HB2.out⟩
/-- What Bounds gives. -/
def BoundsF (d m : Int) (l : List (Int × Int)) : Int × Int × Int :=
  if validF d l = true then
    if inB m 1 1000000000 = true then
      if (binF l).2.2 = true ∧ (binF l).2.1.1 = 0 then ((binF l).1 * m / d, -((-(binF l).1) * m / d), 0)
      else (flrL d.toNat (mulS m l), flrL d.toNat (mulS m l) + 1, 0)
    else (0, 0, 3)
  else (0, 0, 2)
def Int3To (r : Int × Int × Int) (w : World) (e : Ending) (w' : World) : Prop := e = .returned (.tuple #[.int .i64 r.1, .int .i64 r.2.1, .int .i64 r.2.2]) ∧ Below w.heap.size w w'
theorem flr_bd (dn : Nat) (m : Int) (l : List (Int × Int)) (hv : Vld dn l) (hm1 : 1 ≤ m) (hm2 : m ≤ 1000000000) : -4611686018427387905 ≤ flrL dn (mulS m l) ∧ flrL dn (mulS m l) ≤ 4611686018427387905 := by
  have hd1 : 1 ≤ dn := by have := hv.d1; omega
  have hlen : (mulS m l).length ≤ 8 := by have := hv.len; simp [mulS]; omega
  unfold flrL flNL
  obtain ⟨D, hD⟩ : ∃ D, D = 6656 := ⟨_, rfl⟩
  rw [← hD]
  have hfl : ∀ t ∈ mulS m l, (t.1.toNat ≤ 1000000000000000 ∧ (-t.1).toNat ≤ 1000000000000000) ∧ fQ D t.2 ≤ 2 ^ (D + 6) ∧ fQ1 D t.2 ≤ 2 ^ (D + 6) := fun t ht => by
    obtain ⟨u, hu, rfl⟩ := List.mem_map.1 ht
    have h1 := hv.cf u hu
    have h2 := hv.rt u hu
    have h3 := mul_abs_le m u.1 1000000000 100000 (by omega) (by omega) h1.1 h1.2.1
    have h4 := fQ_le D u.2 (by omega)
    exact ⟨⟨by show (m * u.1).toNat ≤ _; omega, by show (-(m * u.1)).toNat ≤ _; omega⟩, Nat.le_trans (show fQ D u.2 ≤ fQ1 D u.2 from Nat.le_succ _) h4, h4⟩
  have qA := enc_div dn D _ (mulS m l).length 1000000000000000 hd1 (encP_le (fQ1 D) _ _ _ (fun t ht => ⟨(hfl t ht).1.1, (hfl t ht).2.2⟩)) hlen (Nat.le_refl _)
  have qB := enc_div dn D _ (mulS m l).length 1000000000000000 hd1 (encN_le (fQ1 D) _ _ _ (fun t ht => ⟨(hfl t ht).1.2, (hfl t ht).2.2⟩)) hlen (Nat.le_refl _)
  have lA : encP (fQ D) (mulS m l) ≤ encP (fQ1 D) (mulS m l) := encP_lt (fQ D) _
  have lB : encN (fQ D) (mulS m l) ≤ encN (fQ1 D) (mulS m l) := encN_lt (fQ D) _
  generalize encP (fQ D) (mulS m l) = A0 at *
  generalize encP (fQ1 D) (mulS m l) = A1 at *
  generalize encN (fQ D) (mulS m l) = B0 at *
  generalize encN (fQ1 D) (mulS m l) = B1 at *
  have mm : ∀ a b : Nat, a ≤ b → a / dn / 2 ^ D ≤ b / dn / 2 ^ D := fun a b h => Nat.div_le_div_right (Nat.div_le_div_right h)
  have q1 := mm (A0 - B1) A1 (by omega)
  have q2 := mm (B0 - A1) B1 (by omega)
  unfold flN
  generalize (A0 - B1) / dn / 2 ^ D = Q1 at *
  generalize (B0 - A1) / dn / 2 ^ D = Q2 at *
  split
  · omega
  · split <;> omega
set_option maxRecDepth 100000 in
set_option maxHeartbeats 4000000 in
theorem bounds_irr (d m : Int) (v : Value) (l : List (Int × Int)) (w : World) (ht : TermsAt w v l) (hirr : Hid (¬ ((binF l).2.2 = true ∧ (binF l).2.1.1 = 0))) (hdiv : Hid (DivC d.toNat)) (hdec : Hid (validF d l = true → 1 ≤ m → m ≤ 1000000000 → ¬ ((binF l).2.2 = true ∧ (binF l).2.1.1 = 0) → flBL d.toNat 6656 (mulS m l) = true)) :
    Calls Tryz.prog 39 #[.agg #[.int .i64 d, v], .int .i64 m] w (Int3To (BoundsF d m l) w) := by
  have HT := Lib.hid ht
  obtain ⟨av, cv, rfl, _⟩ := ht.placed
  have XX := Lib.hid (Two.new w (.int .i64 d) (.slice av l.length cv) 24)
  have BB : Hid (Below w.heap.size w (w.alloc (.cells #[.int .i64 d, .slice av l.length cv] 24))) := Lib.hid ((Below.refl _ _).alloc (Nat.le_refl _) _)
  obtain ⟨rr, hrr⟩ : ∃ rr, BoundsF d m l = rr := ⟨_, rfl⟩
  rw [hrr]
  have HRR := Lib.hid hrr
  clear ht hrr
  generalize l.length = n at *
  go_enter Tryz.func39, Tryz.ntmps39
  go_wp2_with fail
  refine (valid_any d _ l _ (HT.out.below BB.out)).mono ?_
  rintro e w1 ⟨rfl, hb⟩
  have XX1 := Lib.hid (XX.out.below hb XX.out.lt)
  have BB1 := Lib.hid (BB.out.trans (hb.mono BB.out.size))
  clear hb XX BB
  cases hv : validF d l
  · have HP : Hid (rr = (0, 0, 2)) := Lib.hid (by rw [← HRR.out]; unfold BoundsF; rw [hv]; rfl)
    clear hv
    go_wp2
    go_ret3
    exact ⟨by rw [HP.out]; rfl, BB1.out⟩
  · have HV := Lib.hid hv
    have VL := Lib.hid (vld_of hv)
    have hw := within_any m 1 1000000000
    cases hin : inB m 1 1000000000
    · have HP : Hid (rr = (0, 0, 3)) := Lib.hid (by rw [← HRR.out]; unfold BoundsF; rw [if_pos HV.out, if_neg (by rw [hin]; simp)])
      rw [hin] at hw
      have HW := Lib.hid hw
      clear hv hw hin
      go_wp2_with fail
      refine (HW.out _).mono ?_
      rintro e w2 ⟨rfl, rfl⟩
      go_wp2
      go_ret3
      exact ⟨by rw [HP.out]; rfl, BB1.out⟩
    · have hm : 1 ≤ m ∧ m ≤ 1000000000 := by simpa [inB] using hin
      obtain ⟨hm1, hm2⟩ := hm
      rw [hin] at hw
      have HW := Lib.hid hw
      have HIN := Lib.hid hin
      have x0 := XX1.out.c0
      have x1 := XX1.out.c1
      clear hv hw hin
      go_wp2_with fail
      refine (HW.out _).mono ?_
      rintro e w2 ⟨rfl, rfl⟩
      go_wp2_with fail
      refine (bin_any _ l _ (HT.out.below BB1.out)).mono ?_
      rintro e w3 ⟨rfl, hb⟩
      have XX3 := Lib.hid (XX1.out.below hb XX1.out.lt)
      have BB3 := Lib.hid (BB1.out.trans (hb.mono BB1.out.size))
      have hbd := bin_bd VL.out
      obtain ⟨a, ha⟩ : ∃ a, (binF l).1 = a := ⟨_, rfl⟩
      obtain ⟨c, hc⟩ : ∃ c, (binF l).2.1.1 = c := ⟨_, rfl⟩
      obtain ⟨ρ, hρ⟩ : ∃ ρ, (binF l).2.1.2 = ρ := ⟨_, rfl⟩
      obtain ⟨ok, hok⟩ : ∃ ok, (binF l).2.2 = ok := ⟨_, rfl⟩
      rw [ha, hc, hρ] at hbd
      rw [ha, hc, hρ, hok]
      have HA := Lib.hid ha
      have HC := Lib.hid hc
      have HO := Lib.hid hok
      obtain ⟨⟨a1, a2⟩, _, _⟩ := hbd
      clear hb ha hc hρ hok x0 x1 XX1
      have x0 := XX3.out.c0
      have x1 := XX3.out.c1
      have hz3 : w.heap.size < w3.heap.size := XX3.out.lt
      have hvd := VL.out.d1
      have hvd2 := VL.out.d2
      have BA3 := Lib.hid (BB3.out.alloc BB3.out.size (.cells #[.int .i64 c, .int .i64 ρ] 34))
      by_cases hrat : ok = true ∧ c = 0
      · exact absurd (by rw [HO.out, HC.out]; exact hrat) hirr.out
      · have HP : Hid (rr = (flrL d.toNat (mulS m l), flrL d.toNat (mulS m l) + 1, 0)) := Lib.hid (by rw [← HRR.out]; unfold BoundsF; rw [if_pos HV.out, if_pos HIN.out, if_neg (by rw [HO.out, HC.out]; exact hrat)])
        have hde := hdec.out HV.out hm1 hm2 (by rw [HO.out, HC.out]; exact hrat)
        have hdn : ((d.toNat : Nat) : Int) = d := by omega
        have hlne : l ≠ [] := by
          intro e
          have h1 := HO.out
          have h2 := HC.out
          subst e
          exact hrat ⟨by rw [← h1]; rfl, by rw [← h2]; rfl⟩
        have hvl : Vld (d.toNat : Nat) l := by rw [hdn]; exact VL.out
        have hfb := flr_bd d.toNat m l hvl hm1 hm2
        have HIF : Hid (∀ w0, TermsAt w0 (.slice av n cv) l → Calls Tryz.prog 76 #[.agg #[.int .i64 d, .slice av n cv], .int .i64 m] w0 (IntTo (flrL d.toNat (mulS m l)) w0)) := Lib.hid (fun w0 h0 => by
          have := irrationalFloor_any d.toNat (.slice av n cv) l m w0 h0 hvl hm1 hm2 hlne hdiv (Lib.hid hde)
          rwa [hdn] at this)
        obtain ⟨F, hF⟩ : ∃ F, flrL d.toNat (mulS m l) = F := ⟨_, rfl⟩
        rw [hF] at HIF HP hfb
        obtain ⟨hf1, hf2⟩ := hfb
        have HRAT := Lib.hid hrat
        have HTA := Lib.hid (HT.out.below BA3.out)
        clear hF hvl hlne hdn hde hvd hvd2
        cases ok
        · clear hrat
          go_wp2_with fail
          refine (HIF.out _ HTA.out).mono ?_
          rintro e w4 ⟨rfl, hb4⟩
          have HB4 := Lib.hid (BA3.out.trans (hb4.mono BA3.out.size))
          clear hb4
          go_wp2
          go_ret3
          exact ⟨by rw [HP.out]; rfl, HB4.out⟩
        · have hc0 : (c == 0) = false := by simp; intro e; exact hrat ⟨rfl, e⟩
          clear hrat
          go_wp2_with fail
          refine (HIF.out _ HTA.out).mono ?_
          rintro e w4 ⟨rfl, hb4⟩
          have HB4 := Lib.hid (BA3.out.trans (hb4.mono BA3.out.size))
          clear hb4
          go_wp2
          go_ret3
          exact ⟨by rw [HP.out]; rfl, HB4.out⟩
end Go.Proofs.YtedpafdfecofnaaGreatDoor
