/-
  Contracts of the program's own functions (and their plain mathematics), on the way to the law: each for all arguments that its hypotheses let.
-/
import Derived.Test.YtkjclafbpocabaaGreatDoorG5
import Derived.WalkKit
import Derived.WalkSpells
import Derived.WalkLawsBesides
import Derived.Deep.QuietTactic
import Derived.BigQuiet
import Derived.Lib.Hide
import Derived.WalkSmall
import Derived.Maps.OwnSet
import Derived.Maps.RangeWalk
import Derived.Deep.RegionWith
import Derived.Deep.RegionHeld3
import Derived.Deep.DrawnRows
import Derived.Deep.DeepCutAuto
import Derived.OneCell
import Derived.KernelRfl
import Derived.Laws.StructEq
import Derived.StillTailTactics
import Derived.Laws.Externs
import Derived.RangeFuncBox
import Derived.Test.YtkjclafbpocabaaGreatDoorG21
import Derived.Test.YtkjclafbpocabaaGreatDoorPlain
set_option linter.unusedSimpArgs false
set_option linter.unusedVariables false

/-! ## Q0 -/
namespace Go.Proofs.YtkjclafbpocabaaGreatDoor
open Go.RowKit Go.Maps
/-- The numerator of a number that is a fraction. -/
def nmrF (l : List (Int × Int)) : Int × Bool := match l with
  | [] => (0, true)
  | [t] => if t.2 = 1 then (t.1, true) else (0, false)
  | _ => (0, false)
def spreadF (a : Int × Int) : Bool := decide (a.1 ≤ a.2) && (inB a.1 (-100000000000000) 100000000000000 && inB a.2 (-100000000000000) 100000000000000)
def leastF (a : Int × Int) : Int := max (max a.1 (-a.2)) 0
def mostF (a : Int × Int) : Int := max (-a.1) a.2
def nearerF (a b : Int × Int) : Int × Int :=
  if spreadF a = true ∧ spreadF b = true then (if mostF a < leastF b then -1 else if mostF b < leastF a then 1 else 0, 0) else (0, 2)
end Go.Proofs.YtkjclafbpocabaaGreatDoor

/-! ## S53 -/
namespace Go.Proofs.YtkjclafbpocabaaGreatDoor
open Go.RowKit Go.Maps Go.Shelf Go.Sort

theorem fl_to (den D : Nat) (hd : 1 ≤ den) (ts : List (Int × Int)) (hne : ts ≠ []) (hc : ∀ t ∈ ts, t.1 ≠ 0) (h : flBL den D ts = true) (k : Nat) : flBL den (D + k) ts = true := by
  induction k with
  | zero => exact h
  | succ k ih => exact (fl_up den (D + k) hd ts hne hc ih).1
theorem flrL_perm (den : Nat) {ts us : List (Int × Int)} (h : ts.Perm us) : flrL den ts = flrL den us := by
  unfold flrL flNL; rw [encP_perm _ h, encN_perm _ h, encP_perm _ h, encN_perm _ h]
theorem flBL_perm (den D : Nat) {ts us : List (Int × Int)} (h : ts.Perm us) : flBL den D ts = flBL den D us := by
  unfold flBL; rw [encP_perm _ h, encN_perm _ h, encP_perm _ h, encN_perm _ h]
set_option maxRecDepth 100000 in
set_option maxHeartbeats 4000000 in
theorem irrationalFloor_any (dn : Nat) (v : Value) (l : List (Int × Int)) (m : Int) (w : World) (ht : TermsAt w v l) (hv : Vld dn l) (hm1 : 1 ≤ m) (hm2 : m ≤ 1000000000) (hne : l ≠ []) (hdiv : Hid (DivC dn)) (hdec : Hid (flBL dn 6656 (mulS m l) = true)) :
    Calls Tryz.prog 146 #[.agg #[.int .i64 dn, v], .int .i64 m] w (IntTo (flrL dn (mulS m l)) w) := by
  have hmm := @run_makeMap Tryz.prog
  have HT := Lib.hid ht
  have HV := Lib.hid hv
  have hcoll := coll_mulS (vld_nodup hv) (fun t ht => (hv.cf t ht).2.2) (m := m) (by omega)
  have HCO := Lib.hid hcoll
  have hmt : ∀ t ∈ l, -100000000000000 ≤ m * t.1 ∧ m * t.1 ≤ 100000000000000 := fun t ht => by
    have h1 := hv.cf t ht
    have := mul_abs_le m t.1 1000000000 100000 (by omega) (by omega) h1.1 h1.2.1
    omega
  have K1 : Hid (∀ t ∈ l, -1000000000000 ≤ t.2 ∧ t.2 ≤ 1000000000000 ∧ -9000000000000000000 ≤ m * t.1 ∧ m * t.1 ≤ 9000000000000000000) := Lib.hid (fun t ht => by have := hmt t ht; have := HV.out.rt t ht; omega)
  have hB := plus_bd zeroC m l 0 1000000000 100000 (fun r => by simp [zeroC]) (by omega) (by omega) (by omega) (fun t ht => ⟨(HV.out.cf t ht).1, (HV.out.cf t ht).2.1⟩) (by omega) 4 HV.out.len
  have C1 : Hid (∀ k, k ≤ l.length → ∀ r, -9000000000000000000 ≤ plusC zeroC m (l.take k) r ∧ plusC zeroC m (l.take k) r ≤ 9000000000000000000) := Lib.hid (fun k hk r => by have := hB k hk r; omega)
  have C2 : Hid (∀ r, -1000000000000000 ≤ plusC zeroC m l r ∧ plusC zeroC m l r ≤ 1000000000000000) := Lib.hid (fun r => by have := hB l.length (Nat.le_refl _) r; rw [List.take_length] at this; omega)
  have R2 : Hid (∀ r, plusC zeroC m l r ≠ 0 → 1 ≤ r ∧ r ≤ 1000) := Lib.hid (fun r hr => by
    have : coefOf l r ≠ 0 := fun e => hr (by simp [plusC, zeroC, e])
    obtain ⟨t, ht, rfl⟩ := coefOf_ne this
    exact HV.out.rt t ht)
  have HNE : Hid (∃ r, plusC zeroC m l r ≠ 0) := Lib.hid (by
    match l, hne, hcoll with
    | t :: ts, _, hcoll =>
      have h1 := hcoll.2.1 (m * t.1, t.2) (by simp [mulS])
      exact ⟨t.2, by rw [h1.1]; exact h1.2⟩)
  have L8 : Hid (∀ ts, IsColl (plusC zeroC m l) ts → ts.length ≤ 8) := Lib.hid (fun ts hts => by
    have := (coll_perm hts HCO.out).length_eq
    have h2 := HV.out.len
    simp [mulS] at this
    omega)
  have DD : Hid (∀ ts, IsColl (plusC zeroC m l) ts → flBL dn 6656 ts = true) := Lib.hid (fun ts hts => by rw [flBL_perm _ _ (coll_perm hts HCO.out)]; exact hdec.out)
  have hd1 : 1 ≤ dn := by have := hv.d1; omega
  have hd2 : dn ≤ 100000 := by have := hv.d2; omega
  have hlen4 := HV.out.len
  clear ht hv hcoll hmt hB hne
  go_enter Tryz.func146, Tryz.ntmps146
  go_wp2_with fail
  refine (add_at (w.heap.size + 1) 0 zeroC m v l _ ((HT.out.alloc _).alloc _) (HT.out.blk (by omega)) (by omega) (by omega) (ownSum_made (by simp)) K1 C1).mono ?_
  rintro e w1 ⟨rfl, ho1, hg1⟩
  have HB1 : Hid (Below w.heap.size w w1) := Lib.hid ((((Below.refl _ _).alloc (Nat.le_refl _) _).alloc (by simp) _).grown hg1 (by simp; omega) (by intro k hk; cases hk; omega))
  have HX1 := Lib.hid (((Two.new w (.int .i64 dn) v 34).alloc (.map #[] 0)).kept hg1 (by intro e; have := Option.some.inj e; omega))
  have HO1 := Lib.hid ho1
  clear hg1 ho1
  go_wp2_with fail
  refine (refine_floor (w.heap.size + 1) (0 + l.length) w.heap.size dn _ _ HO1.out (by omega) R2 C2 HNE L8 DD (Lib.hid HX1.out.c0) HX1.out.lt hd1 hd2 hdiv).mono ?_
  rintro e w2 ⟨ts, hcoll, hlen, rfl, hb2⟩
  have HE : Hid (flrL dn ts = flrL dn (mulS m l)) := Lib.hid (flrL_perm dn (coll_perm hcoll HCO.out))
  have HB2 := Lib.hid (HB1.out.trans (hb2.mono HB1.out.size))
  clear hcoll hlen hb2
  rw [HE.out]
  go_wp2
  go_ret
  exact ⟨rfl, HB2.out⟩
/-- What Bounds gives. -/
def BoundsF (d m : Int) (l : List (Int × Int)) : Int × Int × Int :=
  if validF d l = true then
    if inB m 1 1000000000 = true then
      if (binF l).2.2 = true ∧ (binF l).2.1.1 = 0 then ((binF l).1 * m / d, -((-(binF l).1) * m / d), 0)
      else (flrL d.toNat (mulS m l), flrL d.toNat (mulS m l) + 1, 0)
    else (0, 0, 3)
  else (0, 0, 2)
def Int3To (r : Int × Int × Int) (w : World) (e : Ending) (w' : World) : Prop := e = .returned (.tuple #[.int .i64 r.1, .int .i64 r.2.1, .int .i64 r.2.2]) ∧ Below w.heap.size w w'
theorem flr_bd (dn : Nat) (m : Int) (l : List (Int × Int)) (hv : Vld dn l) (hm1 : 1 ≤ m) (hm2 : m ≤ 1000000000) : -4611686018427387905 ≤ flrL dn (mulS m l) ∧ flrL dn (mulS m l) ≤ 4611686018427387905 := by
  have hd1 : 1 ≤ dn := by have := hv.d1; omega
  have hlen : (mulS m l).length ≤ 8 := by have := hv.len; simp [mulS]; omega
  unfold flrL flNL
  obtain ⟨D, hD⟩ : ∃ D, D = 6656 := ⟨_, rfl⟩
  rw [← hD]
  have hfl : ∀ t ∈ mulS m l, (t.1.toNat ≤ 1000000000000000 ∧ (-t.1).toNat ≤ 1000000000000000) ∧ fQ D t.2 ≤ 2 ^ (D + 6) ∧ fQ1 D t.2 ≤ 2 ^ (D + 6) := fun t ht => by
    obtain ⟨u, hu, rfl⟩ := List.mem_map.1 ht
    have h1 := hv.cf u hu
    have h2 := hv.rt u hu
    have h3 := mul_abs_le m u.1 1000000000 100000 (by omega) (by omega) h1.1 h1.2.1
    have h4 := fQ_le D u.2 (by omega)
    exact ⟨⟨by show (m * u.1).toNat ≤ _; omega, by show (-(m * u.1)).toNat ≤ _; omega⟩, Nat.le_trans (show fQ D u.2 ≤ fQ1 D u.2 from Nat.le_succ _) h4, h4⟩
  have qA := enc_div dn D _ (mulS m l).length 1000000000000000 hd1 (encP_le (fQ1 D) _ _ _ (fun t ht => ⟨(hfl t ht).1.1, (hfl t ht).2.2⟩)) hlen (Nat.le_refl _)
  have qB := enc_div dn D _ (mulS m l).length 1000000000000000 hd1 (encN_le (fQ1 D) _ _ _ (fun t ht => ⟨(hfl t ht).1.2, (hfl t ht).2.2⟩)) hlen (Nat.le_refl _)
  have lA : encP (fQ D) (mulS m l) ≤ encP (fQ1 D) (mulS m l) := encP_lt (fQ D) _
  have lB : encN (fQ D) (mulS m l) ≤ encN (fQ1 D) (mulS m l) := encN_lt (fQ D) _
  generalize encP (fQ D) (mulS m l) = A0 at *
  generalize encP (fQ1 D) (mulS m l) = A1 at *
  generalize encN (fQ D) (mulS m l) = B0 at *
  generalize encN (fQ1 D) (mulS m l) = B1 at *
  have mm : ∀ a b : Nat, a ≤ b → a / dn / 2 ^ D ≤ b / dn / 2 ^ D := fun a b h => Nat.div_le_div_right (Nat.div_le_div_right h)
  have q1 := mm (A0 - B1) A1 (by omega)
  have q2 := mm (B0 - A1) B1 (by omega)
  unfold flN
  generalize (A0 - B1) / dn / 2 ^ D = Q1 at *
  generalize (B0 - A1) / dn / 2 ^ D = Q2 at *
  split
  · omega
  · split <;> omega
set_option maxRecDepth 100000 in
set_option maxHeartbeats 4000000 in
theorem bounds_irr (d m : Int) (v : Value) (l : List (Int × Int)) (w : World) (ht : TermsAt w v l) (hirr : Hid (¬ ((binF l).2.2 = true ∧ (binF l).2.1.1 = 0))) (hdiv : Hid (DivC d.toNat)) (hdec : Hid (validF d l = true → 1 ≤ m → m ≤ 1000000000 → ¬ ((binF l).2.2 = true ∧ (binF l).2.1.1 = 0) → flBL d.toNat 6656 (mulS m l) = true)) :
    Calls Tryz.prog 93 #[.agg #[.int .i64 d, v], .int .i64 m] w (Int3To (BoundsF d m l) w) := by
  have HT := Lib.hid ht
  obtain ⟨av, cv, rfl, _⟩ := ht.placed
  have XX := Lib.hid (Two.new w (.int .i64 d) (.slice av l.length cv) 34)
  have BB : Hid (Below w.heap.size w (w.alloc (.cells #[.int .i64 d, .slice av l.length cv] 34))) := Lib.hid ((Below.refl _ _).alloc (Nat.le_refl _) _)
  obtain ⟨rr, hrr⟩ : ∃ rr, BoundsF d m l = rr := ⟨_, rfl⟩
  rw [hrr]
  have HRR := Lib.hid hrr
  clear ht hrr
  generalize l.length = n at *
  go_enter Tryz.func93, Tryz.ntmps93
  go_wp2_with fail
  refine (valid_any d _ l _ (HT.out.below BB.out)).mono ?_
  rintro e w1 ⟨rfl, hb⟩
  have XX1 := Lib.hid (XX.out.below hb XX.out.lt)
  have BB1 := Lib.hid (BB.out.trans (hb.mono BB.out.size))
  clear hb XX BB
  cases hv : validF d l
  · have HP : Hid (rr = (0, 0, 2)) := Lib.hid (by rw [← HRR.out]; unfold BoundsF; rw [hv]; rfl)
    clear hv
    go_wp2
    go_ret3
    exact ⟨by rw [HP.out]; rfl, BB1.out⟩
  · have HV := Lib.hid hv
    have VL := Lib.hid (vld_of hv)
    have hw := within_any m 1 1000000000
    cases hin : inB m 1 1000000000
    · have HP : Hid (rr = (0, 0, 3)) := Lib.hid (by rw [← HRR.out]; unfold BoundsF; rw [if_pos HV.out, if_neg (by rw [hin]; simp)])
      rw [hin] at hw
      have HW := Lib.hid hw
      clear hv hw hin
      go_wp2_with fail
      refine (HW.out _).mono ?_
      rintro e w2 ⟨rfl, rfl⟩
      go_wp2
      go_ret3
      exact ⟨by rw [HP.out]; rfl, BB1.out⟩
    · have hm : 1 ≤ m ∧ m ≤ 1000000000 := by simpa [inB] using hin
      obtain ⟨hm1, hm2⟩ := hm
      rw [hin] at hw
      have HW := Lib.hid hw
      have HIN := Lib.hid hin
      have x0 := XX1.out.c0
      have x1 := XX1.out.c1
      clear hv hw hin
      go_wp2_with fail
      refine (HW.out _).mono ?_
      rintro e w2 ⟨rfl, rfl⟩
      go_wp2_with fail
      refine (bin_any _ l _ (HT.out.below BB1.out)).mono ?_
      rintro e w3 ⟨rfl, hb⟩
      have XX3 := Lib.hid (XX1.out.below hb XX1.out.lt)
      have BB3 := Lib.hid (BB1.out.trans (hb.mono BB1.out.size))
      have hbd := bin_bd VL.out
      obtain ⟨a, ha⟩ : ∃ a, (binF l).1 = a := ⟨_, rfl⟩
      obtain ⟨c, hc⟩ : ∃ c, (binF l).2.1.1 = c := ⟨_, rfl⟩
      obtain ⟨ρ, hρ⟩ : ∃ ρ, (binF l).2.1.2 = ρ := ⟨_, rfl⟩
      obtain ⟨ok, hok⟩ : ∃ ok, (binF l).2.2 = ok := ⟨_, rfl⟩
      rw [ha, hc, hρ] at hbd
      rw [ha, hc, hρ, hok]
      have HA := Lib.hid ha
      have HC := Lib.hid hc
      have HO := Lib.hid hok
      obtain ⟨⟨a1, a2⟩, _, _⟩ := hbd
      clear hb ha hc hρ hok x0 x1 XX1
      have x0 := XX3.out.c0
      have x1 := XX3.out.c1
      have hz3 : w.heap.size < w3.heap.size := XX3.out.lt
      have hvd := VL.out.d1
      have hvd2 := VL.out.d2
      have BA3 := Lib.hid (BB3.out.alloc BB3.out.size (.cells #[.int .i64 c, .int .i64 ρ] 85))
      by_cases hrat : ok = true ∧ c = 0
      · exact absurd (by rw [HO.out, HC.out]; exact hrat) hirr.out
      · have HP : Hid (rr = (flrL d.toNat (mulS m l), flrL d.toNat (mulS m l) + 1, 0)) := Lib.hid (by rw [← HRR.out]; unfold BoundsF; rw [if_pos HV.out, if_pos HIN.out, if_neg (by rw [HO.out, HC.out]; exact hrat)])
        have hde := hdec.out HV.out hm1 hm2 (by rw [HO.out, HC.out]; exact hrat)
        have hdn : ((d.toNat : Nat) : Int) = d := by omega
        have hlne : l ≠ [] := by
          intro e
          have h1 := HO.out
          have h2 := HC.out
          subst e
          exact hrat ⟨by rw [← h1]; rfl, by rw [← h2]; rfl⟩
        have hvl : Vld (d.toNat : Nat) l := by rw [hdn]; exact VL.out
        have hfb := flr_bd d.toNat m l hvl hm1 hm2
        have HIF : Hid (∀ w0, TermsAt w0 (.slice av n cv) l → Calls Tryz.prog 146 #[.agg #[.int .i64 d, .slice av n cv], .int .i64 m] w0 (IntTo (flrL d.toNat (mulS m l)) w0)) := Lib.hid (fun w0 h0 => by
          have := irrationalFloor_any d.toNat (.slice av n cv) l m w0 h0 hvl hm1 hm2 hlne hdiv (Lib.hid hde)
          rwa [hdn] at this)
        obtain ⟨F, hF⟩ : ∃ F, flrL d.toNat (mulS m l) = F := ⟨_, rfl⟩
        rw [hF] at HIF HP hfb
        obtain ⟨hf1, hf2⟩ := hfb
        have HRAT := Lib.hid hrat
        have HTA := Lib.hid (HT.out.below BA3.out)
        clear hF hvl hlne hdn hde hvd hvd2
        cases ok
        · clear hrat
          go_wp2_with fail
          refine (HIF.out _ HTA.out).mono ?_
          rintro e w4 ⟨rfl, hb4⟩
          have HB4 := Lib.hid (BA3.out.trans (hb4.mono BA3.out.size))
          clear hb4
          go_wp2
          go_ret3
          exact ⟨by rw [HP.out]; rfl, HB4.out⟩
        · have hc0 : (c == 0) = false := by simp; intro e; exact hrat ⟨rfl, e⟩
          clear hrat
          go_wp2_with fail
          refine (HIF.out _ HTA.out).mono ?_
          rintro e w4 ⟨rfl, hb4⟩
          have HB4 := Lib.hid (BA3.out.trans (hb4.mono BA3.out.size))
          clear hb4
          go_wp2
          go_ret3
          exact ⟨by rw [HP.out]; rfl, HB4.out⟩
end Go.Proofs.YtkjclafbpocabaaGreatDoor

/-! ## S54 -/
namespace Go.Proofs.YtkjclafbpocabaaGreatDoor
open Go.RowKit Go.Maps Go.Shelf Go.Sort

theorem terms_coll {c : Int → Int} {l : List (Int × Int)} (h : IsTerms c l) : IsColl c l := by
  refine ⟨?_, fun t ht => (h.2 t.1 t.2).1 ht, fun r hr => (h.2 (c r) r).2 ⟨rfl, hr⟩⟩
  rw [List.Nodup, List.pairwise_map]
  exact h.1.imp (fun hab => by omega)
theorem terms_uniq {c : Int → Int} {l l' : List (Int × Int)} (h : IsTerms c l) (g : IsTerms c l') : l = l' :=
  List.Perm.eq_of_pairwise (le := fun a b : Int × Int => a.2 < b.2) (fun a b _ _ h1 h2 => by omega) h.1 g.1 (coll_perm (terms_coll h) (terms_coll g))
/-- Terms by their roots, as a check. -/
theorem terms_of {c : Int → Int} {l : List (Int × Int)} (h1 : l.Pairwise (fun a b => a.2 < b.2)) (h2 : ∀ t ∈ l, c t.2 = t.1 ∧ t.1 ≠ 0) (h3 : ∀ r, c r ≠ 0 → ∃ t ∈ l, t.2 = r) : IsTerms c l := by
  refine ⟨h1, fun x r => ⟨fun h => h2 (x, r) h, ?_⟩⟩
  rintro ⟨rfl, h0⟩
  obtain ⟨t, ht, rfl⟩ := h3 r h0
  rw [(h2 t ht).1]; exact ht
theorem coefOf_nil (r : Int) : coefOf [] r = 0 := rfl
theorem dd (k : Nat) (h : k < 10) : Lib.decDigits k = [UInt8.ofNat (48 + k)] := by
  rw [Lib.decDigits]
  have : k = 0 ∨ k = 1 ∨ k = 2 ∨ k = 3 ∨ k = 4 ∨ k = 5 ∨ k = 6 ∨ k = 7 ∨ k = 8 ∨ k = 9 := by omega
  rcases this with rfl | rfl | rfl | rfl | rfl | rfl | rfl | rfl | rfl | rfl <;> rfl
theorem d577 : Lib.decDigits 577 = [53, 55, 55] := by
  rw [Lib.decDigits]; simp only [show ¬ 577 < 10 by decide, if_false, dite_false]
  rw [show 577 / 10 = 57 from rfl, Lib.decDigits]; simp only [show ¬ 57 < 10 by decide, if_false, dite_false]
  rw [show 57 / 10 = 5 from rfl, dd 5 (by decide)]; rfl
theorem d408 : Lib.decDigits 408 = [52, 48, 56] := by
  rw [Lib.decDigits]; simp only [show ¬ 408 < 10 by decide, if_false, dite_false]
  rw [show 408 / 10 = 40 from rfl, Lib.decDigits]; simp only [show ¬ 40 < 10 by decide, if_false, dite_false]
  rw [show 40 / 10 = 4 from rfl, dd 4 (by decide)]; rfl
theorem text_a : textB 3 [(2, 1), (2, 2)] = [40, 50, 43, 50, 114, 50, 41, 47, 51] := by
  simp [textB, bodyB, partB, termB, Lib.itoa, dd]
theorem text_b : textB 1 [(3, 1), (2, 2)] = [51, 43, 50, 114, 50] := by
  simp [textB, bodyB, partB, termB, Lib.itoa, dd]
theorem text_c : textB 1 [(1, 1), (1, 2)] = [49, 43, 114, 50] := by
  simp [textB, bodyB, partB, termB, Lib.itoa, dd, Lib.trimSuffix, Lib.hasSuffix]
theorem text_d : textB 408 [(577, 1), (-408, 2)] = [40, 53, 55, 55, 45, 52, 48, 56, 114, 50, 41, 47, 52, 48, 56] := by
  simp [textB, bodyB, partB, termB, Lib.itoa, dd, d577, d408]
theorem text_e : textB 1 [(-1, 1), (1, 2)] = [45, 49, 43, 114, 50] := by
  simp [textB, bodyB, partB, termB, Lib.itoa, dd, Lib.trimSuffix, Lib.hasSuffix]
theorem val_a : validF 3 [(2, 1), (2, 2)] = true := by kernel_rfl
theorem val_b : validF 1 [(3, 1), (2, 2)] = true := by kernel_rfl
theorem val_c : validF 1 [(1, 1), (1, 2)] = true := by kernel_rfl
theorem val_d : validF 408 [(577, 1), (-408, 2)] = true := by kernel_rfl
theorem val_e : validF 1 [(-1, 1), (1, 2)] = true := by kernel_rfl
theorem val_f : validF 1 [(1, 1)] = true := by kernel_rfl
theorem val_g : validF 1 [(1, 2)] = true := by kernel_rfl
theorem make_a (r : Int × List (Int × Int) × Int) (h : makeF 6 [(3, 1), (2, 8), (1, 1)] r) : r = (3, [(2, 1), (2, 2)], 0) := by
  have e : ([(3, 1), (2, 8), (1, 1)] : List (Int × Int)).map mkT = [(3, 1), (4, 2), (1, 1)] := by kernel_rfl
  unfold makeF at h
  rw [if_neg (by decide), if_pos (by decide), e] at h
  obtain ⟨t, ht, rfl⟩ := h
  have hc : ∀ r, plusC zeroC 1 [(3, 1), (4, 2), (1, 1)] r = (if (1 : Int) = r then 4 else 0) + (if (2 : Int) = r then 4 else 0) := fun r => by
    simp only [plusC, zeroC, coefOf_cons, coefOf_nil]
    split <;> split <;> omega
  have g : IsTerms (plusC zeroC 1 [(3, 1), (4, 2), (1, 1)]) [(4, 1), (4, 2)] := terms_of (by decide) (fun t ht => by
    rw [hc]
    rcases List.mem_cons.1 ht with rfl | ht
    · decide
    · rcases List.mem_cons.1 ht with rfl | ht
      · decide
      · cases ht) (fun r hr => by
    rw [hc] at hr
    by_cases h1 : (1 : Int) = r
    · exact ⟨(4, 1), by simp, h1⟩
    · by_cases h2 : (2 : Int) = r
      · exact ⟨(4, 2), by simp, h2⟩
      · rw [if_neg h1, if_neg h2] at hr; exact absurd rfl hr)
  have hu := terms_uniq ht g
  subst hu
  exact (by kernel_rfl : finF 6 [(4, 1), (4, 2)] = (3, [(2, 1), (2, 2)], 0))
theorem quo_a (r : Int × List (Int × Int) × Int) (h : quoF 1 [(1, 1)] 1 [(1, 1), (1, 2)] r) : r = (1, [(-1, 1), (1, 2)], 0) := by
  have e : prodL [(1, 1)] (conjL [(1, 1), (1, 2)]) = [(1, 1), (-1, 2)] := by kernel_rfl
  unfold quoF at h
  rw [if_pos ⟨val_f, val_c⟩, if_neg (by decide), if_neg (by decide), e] at h
  obtain ⟨t, ht, rfl⟩ := h
  have hc : ∀ r, plusC zeroC 1 [(1, 1), (-1, 2)] r = (if (1 : Int) = r then 1 else 0) + (if (2 : Int) = r then -1 else 0) := fun r => by
    simp only [plusC, zeroC, coefOf_cons, coefOf_nil]
    split <;> split <;> omega
  have g : IsTerms (plusC zeroC 1 [(1, 1), (-1, 2)]) [(1, 1), (-1, 2)] := terms_of (by decide) (fun t ht => by
    rw [hc]
    rcases List.mem_cons.1 ht with rfl | ht
    · decide
    · rcases List.mem_cons.1 ht with rfl | ht
      · decide
      · cases ht) (fun r hr => by
    rw [hc] at hr
    by_cases h1 : (1 : Int) = r
    · exact ⟨(1, 1), by simp, h1⟩
    · by_cases h2 : (2 : Int) = r
      · exact ⟨(-1, 2), by simp, h2⟩
      · rw [if_neg h1, if_neg h2] at hr; exact absurd rfl hr)
  have hu := terms_uniq ht g
  subst hu
  exact (by kernel_rfl : finF (1 * normL [(1, 1), (1, 2)]) [(1, 1), (-1, 2)] = (1, [(-1, 1), (1, 2)], 0))
theorem isq_one : isq 1 = 1 := (isq_uniq (by decide) (by decide)).symm
theorem split_two {s q : Int} (h : SplitR 2 s q) : s = 1 ∧ q = 2 := by
  rcases h with ⟨h, _⟩ | ⟨_, h2, h3, h4, _⟩
  · omega
  · have h5 : s < 2 := by
      apply Classical.byContradiction
      intro hc
      have h6 := Int.mul_le_mul (show 2 ≤ s by omega) (show 2 ≤ s by omega) (by omega) (by omega)
      have h7 := Int.mul_le_mul h6 h3 (by omega) (by omega)
      omega
    obtain rfl : s = 1 := by omega
    omega
theorem split_one' {s q : Int} (h : SplitR 1 s q) : s = 1 ∧ q = 1 := by
  rcases h with ⟨h, _⟩ | ⟨_, h2, h3, h4, _⟩
  · omega
  · have h5 : s < 2 := by
      apply Classical.byContradiction
      intro hc
      have h6 := Int.mul_le_mul (show 2 ≤ s by omega) (show 2 ≤ s by omega) (by omega) (by omega)
      have h7 := Int.mul_le_mul h6 h3 (by omega) (by omega)
      omega
    obtain rfl : s = 1 := by omega
    omega
theorem sgn_b : sgnZ [(3, 1), (2, 2)] = 1 := by
  unfold sgnZ
  rw [if_neg (by simp)]
  apply sgn_pos (D := 0) (by omega)
  have e : encN (fQ1 0) [(3, 1), (2, 2)] = 0 := by simp [encN]
  rw [e]; exact Nat.zero_le _
theorem root_b (r : Int × List (Int × Int) × Int) (h : RootP 1 [(3, 1), (2, 2)] r) : r = (1, [(1, 1), (1, 2)], 0) := by
  have em : rootM [(3, 1), (2, 2)] = 1 := by decide
  unfold RootP at h
  rw [if_pos val_b, sgn_b, if_neg (by decide), if_neg (by decide), em] at h
  have e1 : (1 : Int).toNat = 1 := rfl
  rw [e1, isq_one, if_neg (by decide)] at h
  obtain ⟨f1, d1, f2, d2, ⟨s1, q1, s2, q2, h1, h2, rfl, rfl⟩, ⟨s3, q3, s4, q4, h3, h4, rfl, rfl⟩, t, ht, rfl⟩ := h
  have a1 : (binF [(3, 1), (2, 2)]).1 = 3 := by decide
  have a2 : (binF [(3, 1), (2, 2)]).2.1.1 = 2 := by decide
  rw [a1] at h1 h2 h3 h4
  rw [a2] at ht
  have g1 : ((3 : Int) + ((1 : Nat) : Int)) = 4 := by decide
  have g2 : ((3 : Int) - ((1 : Nat) : Int)) = 2 := by decide
  rw [g1] at h1 h2
  rw [g2] at h3 h4
  have k1 : (4 : Int) / (Int.gcd 4 (2 * 1) : Int) = 2 := by decide
  have k2 : (2 * 1 : Int) / (Int.gcd 4 (2 * 1) : Int) = 1 := by decide
  have k3 : (2 : Int) / (Int.gcd 2 (2 * 1) : Int) = 1 := by decide
  have k4 : (2 * 1 : Int) / (Int.gcd 2 (2 * 1) : Int) = 1 := by decide
  rw [k1] at h1
  rw [k2] at h2
  rw [k3] at h3
  rw [k4] at h4
  obtain ⟨rfl, rfl⟩ := split_two h1
  obtain ⟨rfl, rfl⟩ := split_one' h2
  obtain ⟨rfl, rfl⟩ := split_one' h3
  obtain ⟨rfl, rfl⟩ := split_one' h4
  rw [if_neg (by decide)] at ht
  have hc : ∀ r, plusC (plusC zeroC (1 * 1) [(1, 2 * 1)]) (1 * 1) [(1, 1 * 1)] r = (if (1 : Int) = r then 1 else 0) + (if (2 : Int) = r then 1 else 0) := fun r => by
    simp only [plusC, zeroC, coefOf_cons, coefOf_nil]
    by_cases b1 : (1 : Int) = r
    · subst b1; decide
    · by_cases b2 : (2 : Int) = r
      · subst b2; decide
      · rw [if_neg b1, if_neg b2]; simp [b1, b2]
  have g : IsTerms (plusC (plusC zeroC (1 * 1) [(1, 2 * 1)]) (1 * 1) [(1, 1 * 1)]) [(1, 1), (1, 2)] := terms_of (by decide) (fun t ht => by
    rw [hc]
    rcases List.mem_cons.1 ht with rfl | ht
    · decide
    · rcases List.mem_cons.1 ht with rfl | ht
      · decide
      · cases ht) (fun r hr => by
    rw [hc] at hr
    by_cases h1 : (1 : Int) = r
    · exact ⟨(1, 1), by simp, h1⟩
    · by_cases h2 : (2 : Int) = r
      · exact ⟨(1, 2), by simp, h2⟩
      · rw [if_neg h1, if_neg h2] at hr; exact absurd rfl hr)
  have hu := terms_uniq ht g
  subst hu
  exact (by kernel_rfl : finF (1 * 1 * (1 * 1)) [(1, 1), (1, 2)] = (1, [(1, 1), (1, 2)], 0))
theorem q26 : fQ 26 2 = 94906265 ∧ fQ1 26 2 = 94906266 ∧ fQ 26 1 = 67108864 ∧ fQ1 26 1 = 67108865 := by
  have e1 : isq 9007199254740992 = 94906265 := (isq_uniq (by decide) (by decide)).symm
  have e2 : isq 4503599627370496 = 67108864 := (isq_uniq (by decide) (by decide)).symm
  have f1 : (2 : Int).toNat * 4 ^ 26 = 9007199254740992 := by decide
  have f2 : (1 : Int).toNat * 4 ^ 26 = 4503599627370496 := by decide
  unfold fQ fQ1
  rw [f1, f2, e1, e2]
  decide
theorem sgn_d : sgnZ [(577, 1), (-408, 2)] = 1 := by
  unfold sgnZ
  rw [if_neg (by simp)]
  apply sgn_pos (D := 26) (by omega)
  obtain ⟨q1, q2, q3, q4⟩ := q26
  have e1 : ∀ f, encN f [(577, 1), (-408, 2)] = 0 * f 1 + (408 * f 2 + 0) := fun f => rfl
  have e2 : ∀ f, encP f [(577, 1), (-408, 2)] = 577 * f 1 + (0 * f 2 + 0) := fun f => rfl
  rw [e1, e2, q2, q3]
  omega
theorem fl_g : flBL 1 26 [(408, 2)] = true ∧ flNL 1 26 [(408, 2)] = 576 := by
  obtain ⟨q1, q2, q3, q4⟩ := q26
  have e1 : ∀ f, encP f [(408, 2)] = 408 * f 2 + 0 := fun f => rfl
  have e2 : ∀ f, encN f [(408, 2)] = 0 * f 2 + 0 := fun f => rfl
  unfold flBL flNL
  rw [e1, e2, e1, e2, q1, q2]
  unfold flB flN
  decide
theorem bounds_g : BoundsF 1 408 [(1, 2)] = (576, 577, 0) ∧ flBL 1 6656 (mulS 408 [(1, 2)]) = true := by
  obtain ⟨h1, h2⟩ := fl_g
  have em : mulS 408 [(1, 2)] = [(408, 2)] := rfl
  have hne : ([(408, 2)] : List (Int × Int)) ≠ [] := by simp
  have hc : ∀ t ∈ ([(408, 2)] : List (Int × Int)), t.1 ≠ 0 := sing (by decide)
  have h3 := fl_fin 1 26 (by decide) _ hne hc h1 (by omega)
  have h4 := fl_to 1 26 (by decide) _ hne hc h1 6630
  rw [em]
  refine ⟨?_, h4⟩
  unfold BoundsF
  rw [if_pos val_g, if_pos (by decide), if_neg (by decide), em]
  have e1 : (1 : Int).toNat = 1 := rfl
  rw [e1, h3, h2]; rfl
end Go.Proofs.YtkjclafbpocabaaGreatDoor

/-! ## T3 -/
namespace Go.Proofs.YtkjclafbpocabaaGreatDoor
open Go.RowKit Go.Maps Go.Shelf Go.Sort

/-! Numbers as fractions of lists of terms: in lowest terms they are determined by their coefficients. -/
theorem asc_pairwise (l : List (Int × Int)) (h : ascUp l l.length) : l.Pairwise (fun a b => a.2 < b.2) := by
  have key : ∀ j i, i < j → j < l.length → (l[i]?.getD (0, 0)).2 < (l[j]?.getD (0, 0)).2 := by
    intro j
    induction j with
    | zero => intro i hi; omega
    | succ j ih =>
      intro i hi hj
      have h1 := h (j + 1) (by omega) hj
      simp only [Nat.add_sub_cancel] at h1
      by_cases e : i = j
      · subst e; exact h1
      · have := ih i (by omega) (by omega); omega
  rw [List.pairwise_iff_getElem]
  intro i j hi hj hij
  have := key j i hij hj
  simpa [hi, hj] using this
theorem pairwise_asc (l : List (Int × Int)) (h : l.Pairwise (fun a b => a.2 < b.2)) : ascUp l l.length := by
  intro i h1 h2
  rw [List.pairwise_iff_getElem] at h
  have := h (i - 1) i (by omega) h2 (by omega)
  simpa [h2, show i - 1 < l.length by omega] using this
theorem pairwise_nodup {l : List (Int × Int)} (h : l.Pairwise (fun a b => a.2 < b.2)) : (l.map (·.2)).Nodup := by
  rw [List.Nodup, List.pairwise_map]
  exact h.imp (fun hab => by omega)
theorem terms_self {l : List (Int × Int)} (h : l.Pairwise (fun a b => a.2 < b.2)) (h0 : ∀ t ∈ l, t.1 ≠ 0) : IsTerms (coefOf l) l :=
  terms_of h (fun t ht => ⟨coefOf_in (pairwise_nodup h) ht, h0 t ht⟩) (fun r hr => coefOf_ne hr)
theorem Vld.terms {d : Int} {l : List (Int × Int)} (h : Vld d l) : IsTerms (coefOf l) l :=
  terms_self (asc_pairwise l h.asc) (fun t ht => (h.cf t ht).2.2)
theorem terms_coef {c : Int → Int} {l : List (Int × Int)} (h : IsTerms c l) (r : Int) : coefOf l r = c r := by
  by_cases h0 : c r = 0
  · rw [h0]
    apply Classical.byContradiction
    intro hn
    obtain ⟨t, ht, rfl⟩ := coefOf_ne hn
    have := (h.2 t.1 t.2).1 ht
    omega
  · have hm : (c r, r) ∈ l := (h.2 (c r) r).2 ⟨rfl, h0⟩
    exact coefOf_in (pairwise_nodup h.1) hm
theorem gcd_dvd_mul {k g t m : Int} (h1 : k ∣ g * m) (h2 : k ∣ t * m) : k ∣ (Int.gcd g t : Int) * m := by
  have h3 : k ∣ (Int.gcd (g * m) (t * m) : Int) := Int.dvd_coe_gcd h1 h2
  rw [Int.gcd_mul_right] at h3
  have h4 : k ∣ (Int.gcd g t : Int) * (m.natAbs : Int) := by rw [← Int.natCast_mul]; exact h3
  rcases Int.natAbs_eq m with e | e
  · rw [e]; exact h4
  · rw [e, Int.mul_neg]; exact (Int.dvd_neg).2 h4
theorem dv_great (k m : Int) : ∀ (l : List (Int × Int)) (d : Int), k ∣ d * m → (∀ t ∈ l, k ∣ t.1 * m) → k ∣ (dvF d l : Int) * m := by
  have key : ∀ (l : List (Int × Int)) (g : Nat), k ∣ (g : Int) * m → (∀ t ∈ l, k ∣ t.1 * m) → k ∣ ((l.foldl (fun g t => Int.gcd g t.1) g : Nat) : Int) * m := by
    intro l
    induction l with
    | nil => intro g h _; simpa using h
    | cons t l ih =>
      intro g h1 h2
      rw [List.foldl_cons]
      exact ih _ (gcd_dvd_mul h1 (h2 t List.mem_cons_self)) (fun u hu => h2 u (List.mem_cons_of_mem _ hu))
  intro l d h1 h2
  unfold dvF
  refine key l _ ?_ h2
  have : k ∣ (Int.gcd d 0 : Int) * m := gcd_dvd_mul h1 (by simp)
  exact this
/-- A number in lowest terms is determined by its coefficients. -/
theorem num_dvd {d1 d2 : Int} {l1 l2 : List (Int × Int)} (h1 : Vld d1 l1) (h : ∀ r, coefOf l1 r * d2 = coefOf l2 r * d1) : d1 ∣ d2 := by
  have := dv_great d1 d2 l1 d1 (Int.dvd_mul_right _ _) (fun t ht => by
    have e := coefOf_in (pairwise_nodup (asc_pairwise l1 h1.asc)) ht
    rw [← e, h]; exact Int.dvd_mul_left _ _)
  rw [h1.dv] at this
  simpa using this
theorem num_uniq {d1 d2 : Int} {l1 l2 : List (Int × Int)} (h1 : Vld d1 l1) (h2 : Vld d2 l2) (h : ∀ r, coefOf l1 r * d2 = coefOf l2 r * d1) : d1 = d2 ∧ l1 = l2 := by
  have a := h1.d1
  have b := h2.d1
  have e : d1 = d2 := Int.dvd_antisymm (by omega) (by omega) (num_dvd h1 h) (num_dvd h2 (fun r => (h r).symm))
  refine ⟨e, ?_⟩
  subst e
  have hc : coefOf l1 = coefOf l2 := funext fun r => Int.eq_of_mul_eq_mul_right (by omega) (h r)
  have t1 := h1.terms
  rw [hc] at t1
  exact terms_uniq t1 h2.terms

/-! What is in lowest terms behind a reduction. -/
theorem divS_coef {s : Int} {l : List (Int × Int)} (hs : ∀ t ∈ l, s ∣ t.1) (r : Int) : coefOf (divS s l) r * s = coefOf l r := by
  induction l with
  | nil => simp [divS, coefOf]
  | cons t l ih =>
    have e : divS s (t :: l) = (t.1.tdiv s, t.2) :: divS s l := rfl
    rw [e, coefOf_cons, coefOf_cons, Int.add_mul, ih (fun u hu => hs u (List.mem_cons_of_mem _ hu))]
    by_cases h : t.2 = r
    · simp only [h, if_true]
      rw [Int.tdiv_mul_cancel (hs t List.mem_cons_self)]
    · simp [h]
theorem divS_dv {den s : Int} {l : List (Int × Int)} (hd : den ≠ 0) (hs : s = (dvF den l : Int) ∨ s = -(dvF den l : Int)) : dvF (den.tdiv s) (divS s l) = 1 := by
  obtain ⟨g1, g2⟩ := dv_dvd den l
  have gp := dv_pos den l hd
  have s1 : s ∣ den := by rcases hs with e | e <;> rw [e]; exact g1; exact (Int.neg_dvd).2 g1
  have s2 : ∀ t ∈ l, s ∣ t.1 := by intro t ht; rcases hs with e | e <;> rw [e]; exact g2 t ht; exact (Int.neg_dvd).2 (g2 t ht)
  obtain ⟨k1, k2⟩ := dv_dvd (den.tdiv s) (divS s l)
  generalize hk : (dvF (den.tdiv s) (divS s l)) = k at *
  have a : (k : Int) * s ∣ den := by
    have := Int.mul_dvd_mul_right s k1
    rwa [Int.tdiv_mul_cancel s1] at this
  have b : ∀ t ∈ l, (k : Int) * s ∣ t.1 := by
    intro t ht
    have h1 : (k : Int) ∣ t.1.tdiv s := k2 (t.1.tdiv s, t.2) (List.mem_map.2 ⟨t, ht, rfl⟩)
    have := Int.mul_dvd_mul_right s h1
    rwa [Int.tdiv_mul_cancel (s2 t ht)] at this
  have c := dv_great ((k : Int) * s) 1 l den (by simpa using a) (fun t ht => by simpa using b t ht)
  rw [Int.mul_one] at c
  have hab : ((k : Int) * s).natAbs ∣ dvF den l := by have := Int.natAbs_dvd_natAbs.2 c; simpa using this
  have hsn : s.natAbs = dvF den l := by rcases hs with e | e <;> rw [e] <;> simp
  rw [Int.natAbs_mul, hsn] at hab
  simp only [Int.natAbs_natCast] at hab
  have hpos : 0 < dvF den l := by omega
  have : k ∣ 1 := Nat.dvd_of_mul_dvd_mul_right hpos (by simpa using hab)
  simpa using this
end Go.Proofs.YtkjclafbpocabaaGreatDoor
