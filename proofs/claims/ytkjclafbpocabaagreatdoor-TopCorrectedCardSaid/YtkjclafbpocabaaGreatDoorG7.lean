/-
  Contracts of the program's own functions (and their plain mathematics), on the way to the law: each for all arguments that its hypotheses let.
-/
import Derived.Test.YtkjclafbpocabaaGreatDoorG6
import Derived.WalkKit
import Derived.WalkSpells
import Derived.WalkLawsBesides
import Derived.Deep.QuietTactic
import Derived.BigQuiet
import Derived.Lib.Hide
import Derived.WalkSmall
import Derived.Maps.OwnSet
import Derived.Maps.RangeWalk
import Derived.Deep.RegionWith
import Derived.Deep.RegionHeld3
import Derived.OneCell
import Derived.RangeFuncBox
set_option linter.unusedSimpArgs false
set_option linter.unusedVariables false

/-! ## S14 -/
namespace Go.Proofs.YtkjclafbpocabaaGreatDoor
open Go.RowKit Go.Maps
/-- Two squares times numbers without squares: these are one. -/
theorem sqf_uniqN (a b u v : Nat) (ha : 1 ≤ a) (hb : 1 ≤ b) (h : a * a * u = b * b * v) (hu : ∀ e, 2 ≤ e → ¬ e * e ∣ u) (hv : ∀ e, 2 ≤ e → ¬ e * e ∣ v) : u = v ∧ a = b := by
  obtain ⟨g, a', b', hg, hcop, rfl, rfl⟩ : ∃ g a' b', 1 ≤ g ∧ Nat.Coprime a' b' ∧ a = g * a' ∧ b = g * b' := by
    have hg : 0 < Nat.gcd a b := Nat.gcd_pos_of_pos_left _ ha
    refine ⟨Nat.gcd a b, a / Nat.gcd a b, b / Nat.gcd a b, hg, Nat.coprime_div_gcd_div_gcd hg, ?_, ?_⟩
    · exact (Nat.mul_div_cancel' (Nat.gcd_dvd_left a b)).symm
    · exact (Nat.mul_div_cancel' (Nat.gcd_dvd_right a b)).symm
  have h2 : a' * a' * u = b' * b' * v := by
    have e : (g * g) * (a' * a' * u) = (g * g) * (b' * b' * v) := by
      have e1 : g * a' * (g * a') * u = (g * g) * (a' * a' * u) := by simp only [Nat.mul_assoc, Nat.mul_left_comm, Nat.mul_comm]
      have e2 : g * b' * (g * b') * v = (g * g) * (b' * b' * v) := by simp only [Nat.mul_assoc, Nat.mul_left_comm, Nat.mul_comm]
      rw [← e1, ← e2, h]
    exact Nat.eq_of_mul_eq_mul_left (Nat.mul_pos hg hg) e
  have ha' : a' ≠ 0 := by intro e; subst e; simp at ha
  have hb' : b' ≠ 0 := by intro e; subst e; simp at hb
  have hc1 : Nat.Coprime (b' * b') (a' * a') := (Nat.Coprime.mul_left hcop.symm hcop.symm).mul_right (Nat.Coprime.mul_left hcop.symm hcop.symm)
  have d1 : b' * b' ∣ u := hc1.dvd_of_dvd_mul_left ⟨v, h2⟩
  have d2 : a' * a' ∣ v := hc1.symm.dvd_of_dvd_mul_left ⟨u, h2.symm⟩
  have hb1 : b' = 1 := by
    rcases Nat.lt_or_ge b' 2 with h3 | h3
    · omega
    · exact absurd d1 (hu b' h3)
  have ha1 : a' = 1 := by
    rcases Nat.lt_or_ge a' 2 with h3 | h3
    · omega
    · exact absurd d2 (hv a' h3)
  subst hb1 ha1
  simp at h2
  exact ⟨h2, rfl⟩
theorem sqfN {r : Int} (h : SqF r) (hr : 1 ≤ r) : ∀ e : Nat, 2 ≤ e → ¬ e * e ∣ r.toNat := by
  intro e he hd
  have h2 : ((e : Int) * (e : Int)) ∣ r := by
    have := Int.natCast_dvd_natCast.2 hd
    rw [Int.toNat_of_nonneg (by omega)] at this
    simpa using this
  exact h e (by omega) h2
theorem normL_bd (l : List (Int × Int)) (hl : l.length ≤ 2) (h : ∀ t ∈ l, (-100000 ≤ t.1 ∧ t.1 ≤ 100000) ∧ (1 ≤ t.2 ∧ t.2 ≤ 1000)) : -20000000000000 ≤ normL l ∧ normL l ≤ 20000000000000 := by
  match l, hl with
  | [], _ => simp [normL]
  | [t], _ => have := sq_bd2 t (h t (by simp)); simp [normL, sqAt]; omega
  | [t, u], _ => have := sq_bd2 t (h t (by simp)); have := sq_bd2 u (h u (by simp)); simp [normL, sqAt]; omega
theorem normL_ne (d : Int) (l : List (Int × Int)) (hl : l.length ≤ 2) (h0 : l ≠ []) (h : Vld d l) : normL l ≠ 0 := by
  have key : ∀ t ∈ l, 1 ≤ t.1.natAbs ∧ t.1 * t.1 * t.2 = ((t.1.natAbs * t.1.natAbs * t.2.toNat : Nat) : Int) := by
    intro t ht
    have h1 := h.cf t ht
    have h2 := h.rt t ht
    refine ⟨by omega, ?_⟩
    rw [Int.natCast_mul, Int.natCast_mul, Int.natAbs_mul_self', Int.toNat_of_nonneg (by omega)]
  match l, hl with
  | [], _ => exact absurd rfl h0
  | [t], _ =>
    have k := key t (by simp)
    have h2 := h.rt t (by simp)
    simp only [normL, sqAt, List.mapIdx_cons, List.mapIdx_nil, List.sum_cons, List.sum_nil]
    simp only [if_true, Int.add_zero]
    rw [k.2]
    have : 0 < t.1.natAbs * t.1.natAbs * t.2.toNat := Nat.mul_pos (Nat.mul_pos k.1 k.1) (by omega)
    omega
  | [t, u], _ =>
    have k := key t (by simp)
    have k2 := key u (by simp)
    have h2 := h.rt t (by simp)
    have h3 := h.rt u (by simp)
    have ha := h.asc 1 (by omega) (by simp)
    simp at ha
    intro he
    simp [normL, sqAt] at he
    rw [k.2, k2.2] at he
    have he2 : t.1.natAbs * t.1.natAbs * t.2.toNat = u.1.natAbs * u.1.natAbs * u.2.toNat := by omega
    have := (sqf_uniqN _ _ _ _ k.1 k2.1 he2 (sqfN (h.sq t (by simp)) h2.1) (sqfN (h.sq u (by simp)) h3.1)).1
    omega

theorem conjL_pt (l : List (Int × Int)) (h : ∀ t ∈ l, (-100000 ≤ t.1 ∧ t.1 ≤ 100000) ∧ (1 ≤ t.2 ∧ t.2 ≤ 1000)) : ∀ t ∈ conjL l, (-100000 ≤ t.1 ∧ t.1 ≤ 100000) ∧ (1 ≤ t.2 ∧ t.2 ≤ 1000) := by
  intro t ht
  unfold conjL at ht
  obtain ⟨i, hi, rfl⟩ := List.mem_mapIdx.1 ht
  have := h l[i] (List.getElem_mem hi)
  unfold conjAt
  split
  · exact this
  · dsimp only; omega
def quoF (dx : Int) (lx : List (Int × Int)) (dy : Int) (ly : List (Int × Int)) (r : Int × List (Int × Int) × Int) : Prop :=
  if validF dx lx = true ∧ validF dy ly = true then if ly.length = 0 then r = (0, [], 7) else if 2 < ly.length then r = (0, [], 11) else ∃ l, IsTerms (plusC zeroC dy (prodL lx (conjL ly))) l ∧ r = finF (dx * normL ly) l else r = (0, [], 2)

set_option maxRecDepth 100000 in
set_option maxHeartbeats 2000000 in
theorem quo_any (hsort : Hid SortC) (dx dy : Int) (vx vy : Value) (lx ly : List (Int × Int)) (w : World) (hx : TermsAt w vx lx) (hy : TermsAt w vy ly) :
    Calls Tryz.prog 60 #[.agg #[.int .i64 dx, vx], .agg #[.int .i64 dy, vy]] w (NumP (quoF dx lx dy ly) w) := by
  have HX := Lib.hid hx
  have HY := Lib.hid hy
  clear hx hy
  go_enter Tryz.func60, Tryz.ntmps60
  go_wp2_with fail
  refine (valid_any dx vx lx _ (((HX.out.alloc _).alloc _).alloc _)).mono ?_
  rintro e w1 ⟨rfl, hb⟩
  have X1 : Two w1 w.heap.size (.int .i64 dx) vx 34 := (((Two.new w (.int .i64 dx) vx 34).alloc _).alloc _).below hb (by simp; omega)
  have Y1 : Two w1 (w.heap.size + 1) (.int .i64 dy) vy 34 := by
    have := ((Two.new (w.alloc (.cells #[.int .i64 dx, vx] 34)) (.int .i64 dy) vy 34).alloc (.cells #[.int .i64 0, .slice none 0 0] 34)).below hb (by simp)
    simpa using this
  have R1 : Two w1 (w.heap.size + 1 + 1) (.int .i64 0) (.slice none 0 0) 34 := by
    have := (Two.new ((w.alloc (.cells #[.int .i64 dx, vx] 34)).alloc (.cells #[.int .i64 dy, vy] 34)) (.int .i64 0) (.slice none 0 0) 34).below hb (by simp)
    simpa [Nat.add_assoc] using this
  have B1 : Below w.heap.size w w1 := ((((Below.refl _ _).alloc (Nat.le_refl _) _).alloc (by simp) _).alloc (by simp; omega) _).trans (hb.mono (by simp; omega))
  have XX := Lib.hid X1
  have YY := Lib.hid Y1
  have RR := Lib.hid R1
  have BB := Lib.hid B1
  have x0 := X1.c0
  have x1 := X1.c1
  have y0 := Y1.c0
  have y1 := Y1.c1
  have r0 := R1.c0
  have r1 := R1.c1
  have f0 := R1.fr (i := 0)
  have f1 := R1.fr (i := 1)
  clear hb X1 Y1 R1 B1
  cases hvx : validF dx lx
  · have HP : Hid (quoF dx lx dy ly (0, [], 2)) := Lib.hid (by simp [quoF, hvx])
    clear hvx
    go_wp2
    obtain ⟨d0, d1, d2, hg⟩ := two_after RR.out (.int .i64 0) (.slice none 0 0) rfl
    refine bodyPost_ret (v := .tuple #[.agg #[.int .i64 0, .slice none 0 0], .int .i64 2]) ?_ rfl ?_
    · simp [results, Tryz.results60, go_sem, d0, d1, d2]
    · exact ⟨_, HP.out, _, rfl, termsAt_nil _, BB.out.grown hg BB.out.size (by intro k hk; cases hk; omega), fun k hk => by cases hk⟩
  · have HVX := Lib.hid hvx
    clear hvx
    go_wp2_with fail
    refine (valid_any dy vy ly _ (HY.out.below BB.out)).mono ?_
    rintro e w2 ⟨rfl, hb⟩
    have X2 := XX.out.below hb XX.out.lt
    have Y2 := YY.out.below hb YY.out.lt
    have R2 := RR.out.below hb RR.out.lt
    have B2 := BB.out.trans (hb.mono BB.out.size)
    have XX2 := Lib.hid X2
    have YY2 := Lib.hid Y2
    have RR2 := Lib.hid R2
    have BB2 := Lib.hid B2
    clear x0 x1 y0 y1 r0 r1 f0 f1 XX YY RR
    have x0 := X2.c0
    have x1 := X2.c1
    have y0 := Y2.c0
    have y1 := Y2.c1
    have r0 := R2.c0
    have r1 := R2.c1
    have f0 := R2.fr (i := 0)
    have f1 := R2.fr (i := 1)
    clear hb X2 Y2 R2 B2
    cases hvy : validF dy ly
    · have HP : Hid (quoF dx lx dy ly (0, [], 2)) := Lib.hid (by simp [quoF, hvy])
      clear hvy
      go_wp2
      obtain ⟨d0, d1, d2, hg⟩ := two_after RR2.out (.int .i64 0) (.slice none 0 0) rfl
      refine bodyPost_ret (v := .tuple #[.agg #[.int .i64 0, .slice none 0 0], .int .i64 2]) ?_ rfl ?_
      · simp [results, Tryz.results60, go_sem, d0, d1, d2]
      · exact ⟨_, HP.out, _, rfl, termsAt_nil _, BB2.out.grown hg BB2.out.size (by intro k hk; cases hk; omega), fun k hk => by cases hk⟩
    · have VX := vld_of HVX.out
      have VY := vld_of hvy
      obtain ⟨ay, cy, rfl, _⟩ := HY.out.placed
      have HVX2 := Lib.hid VX
      have HVY2 := Lib.hid VY
      have HVY := Lib.hid hvy
      have hsz2 : w.heap.size + 1 + 1 < w2.heap.size := RR2.out.lt
      clear hvy
      by_cases hl0 : ly.length = 0
      · have HP : Hid (quoF dx lx dy ly (0, [], 7)) := Lib.hid (by simp only [quoF]; rw [if_pos ⟨HVX.out, HVY.out⟩, if_pos hl0]; trivial)
        have h7 : ((ly.length : Int) == 0) = true := by simp; exact List.length_eq_zero_iff.1 hl0
        clear VX VY
        have HL0 := Lib.hid hl0
        clear hl0
        go_wp2
        obtain ⟨d0, d1, d2, hg⟩ := two_after RR2.out (.int .i64 0) (.slice none 0 0) rfl
        refine bodyPost_ret (v := .tuple #[.agg #[.int .i64 0, .slice none 0 0], .int .i64 7]) ?_ rfl ?_
        · simp [results, Tryz.results60, go_sem, d0, d1, d2]
        · exact ⟨_, HP.out, _, rfl, termsAt_nil _, BB2.out.grown hg BB2.out.size (by intro k hk; cases hk; omega), fun k hk => by cases hk⟩
      · by_cases hl2 : 2 < ly.length
        · have HP : Hid (quoF dx lx dy ly (0, [], 11)) := Lib.hid (by simp only [quoF]; rw [if_pos ⟨HVX.out, HVY.out⟩, if_neg hl0, if_pos hl2]; trivial)
          have h7 : ((ly.length : Int) == 0) = false := by rw [beq_eq_false_iff_ne]; omega
          clear VX VY hl0
          go_wp2
          obtain ⟨d0, d1, d2, hg⟩ := two_after RR2.out (.int .i64 0) (.slice none 0 0) rfl
          refine bodyPost_ret (v := .tuple #[.agg #[.int .i64 0, .slice none 0 0], .int .i64 11]) ?_ rfl ?_
          · simp [results, Tryz.results60, go_sem, d0, d1, d2]
          · exact ⟨_, HP.out, _, rfl, termsAt_nil _, BB2.out.grown hg BB2.out.size (by intro k hk; cases hk; omega), fun k hk => by cases hk⟩
        · have HP : Hid (∀ l, IsTerms (plusC zeroC dy (prodL lx (conjL ly))) l → quoF dx lx dy ly (finF (dx * normL ly) l)) := Lib.hid (fun l hl => by simp only [quoF]; rw [if_pos ⟨HVX.out, HVY.out⟩, if_neg hl0, if_neg hl2]; exact ⟨l, hl, rfl⟩)
          have h7 : ((ly.length : Int) == 0) = false := by rw [beq_eq_false_iff_ne]; omega
          have hnl := normL_bd ly (by omega) (fun t ht => vld_pt VY t ht)
          have hn0 := normL_ne dy ly (by omega) (fun h => hl0 (by rw [h]; rfl)) VY
          have hcc := conjL_pt ly (fun t ht => vld_pt VY t ht)
          have hmd := mul_abs_le dx (normL ly) 100000 20000000000000 (by have := VX.d1; omega) VX.d2 hnl.1 hnl.2
          have hne : dx * normL ly ≠ 0 := Int.mul_ne_zero (by have := VX.d1; omega) hn0
          have hd3 := VY.d1
          have hd4 := VY.d2
          have hlen : (conjL ly).length = ly.length := conjL_len ly
          have HML : Hid ((100000 : Int) * (10000000000000 * ((lx.length * (conjL ly).length : Nat) : Int)) ≤ 9000000000000000000) := Lib.hid (by rw [hlen]; have : lx.length * ly.length ≤ 4 * 2 := Nat.mul_le_mul VX.len (by omega); omega)
          have hcb := prodC_bd (m := dy) (M := 100000) (lx := lx) (ly := conjL ly) (by omega) (by omega) (by omega) (by omega) HML.out (fun t ht => vld_pt VX t ht) hcc
          have HCX := Lib.hid (fun t ht => vld_pt VX t ht)
          have HCY := Lib.hid hcc
          have HCYY : Hid (∀ t ∈ ly, (-100000 ≤ t.1 ∧ t.1 ≤ 100000) ∧ (1 ≤ t.2 ∧ t.2 ≤ 1000)) := Lib.hid (fun t ht => vld_pt VY t ht)
          have HCB1 := Lib.hid hcb.1
          have HCB2 := Lib.hid hcb.2
          have HNE := Lib.hid hne
          have HLN := Lib.hid hlen
          generalize hnn : normL ly = nn at hnl hmd HNE HP
          have HNN := Lib.hid hnn
          obtain ⟨hmd1, hmd2⟩ := hmd
          obtain ⟨hnl1, hnl2⟩ := hnl
          have dm : DomM dx nn := by unfold DomM; omega
          have hp := domM_wrap
          clear hcb VX VY hl0 hcc hne hn0 hlen hnn
          go_wp2_with fail
          refine (conjugate_any _ ly _ (HY.out.below BB2.out) (by omega) HCYY).mono ?_
          rintro e w3 ⟨v3, rfl, ho3, hb3⟩
          rw [HNN.out]
          have HT3 : Hid (TermsAt w3 v3 (conjL ly)) := Lib.hid (ho3.at (by rw [HLN.out]; omega))
          have X3 := XX2.out.below hb3 XX2.out.lt
          have Y3 := YY2.out.below hb3 YY2.out.lt
          have R3 := RR2.out.below hb3 RR2.out.lt
          have B3 := BB2.out.trans (hb3.mono BB2.out.size)
          have XX3 := Lib.hid X3
          have YY3 := Lib.hid Y3
          have RR3 := Lib.hid R3
          have BB3 := Lib.hid B3
          clear x0 x1 y0 y1 r0 r1 f0 f1 XX2 YY2 RR2 ho3 hb3
          have x0 := X3.c0
          have x1 := X3.c1
          have y0 := Y3.c0
          have y1 := Y3.c1
          have r0 := R3.c0
          have r1 := R3.c1
          have f0 := R3.fr (i := 0)
          have f1 := R3.fr (i := 1)
          have hsz3 : w.heap.size + 1 + 1 < w3.heap.size := R3.lt
          clear X3 Y3 R3 B3
          go_wp2_with fail
          go_region_held3 (fun w' => w'.cell? ⟨w.heap.size, 0, none⟩ = some (.int .i64 dx) ∧ w'.cell? ⟨w.heap.size, 1, none⟩ = some vx ∧ w'.cell? ⟨w.heap.size + 1, 0, none⟩ = some (.int .i64 dy) ∧ w'.cell? ⟨w.heap.size + 1, 1, none⟩ = some (.slice ay ly.length cy))
            (first | exact ⟨(X5.kept (two_after R5 _ _ rfl).2.2.2 (fun e => by have := Option.some.inj e; omega)).c0, (X5.kept (two_after R5 _ _ rfl).2.2.2 (fun e => by have := Option.some.inj e; omega)).c1, (Y5.kept (two_after R5 _ _ rfl).2.2.2 (fun e => by have := Option.some.inj e; omega)).c0, (Y5.kept (two_after R5 _ _ rfl).2.2.2 (fun e => by have := Option.some.inj e; omega)).c1⟩ | exact ⟨X5.c0, X5.c1, Y5.c0, Y5.c1⟩ | exact ⟨X4.c0, X4.c1, Y4.c0, Y4.c1⟩ | (go_keep; done))
            (first
              | (go_at_call 116; refine (product_any dy 100000 vx v3 lx (conjL ly) _ (HX.out.below BB3.out).drew HT3.out.drew HVX2.out.len (by rw [HLN.out]; omega) (by omega) (by omega) (by omega) (by omega) HML.out HCX HCY).mono ?_; rintro e w4 ⟨B, rfl, ho4, hb4⟩; have X4 := Two.below (w := w3.drew) XX3.out hb4 XX3.out.lt; have Y4 := Two.below (w := w3.drew) YY3.out hb4 YY3.out.lt; have R4 := Two.below (w := w3.drew) RR3.out hb4 RR3.out.lt; have B4 := BB3.out.drew.trans (hb4.mono BB3.out.size))
              | (go_at_call 114; refine (finish_any hsort (dx * nn) B 1000 _ _ ho4 (Nat.le_refl _) (by omega) (by omega) HNE.out HCB1 HCB2).mono ?_; rintro e w5 ⟨l, hit, hlen, v, rfl, hta, hb5, hfr⟩; obtain ⟨a4, cap4, rfl, _⟩ := hta.placed; have X5 := X4.below hb5 X4.lt; have Y5 := Y4.below hb5 Y4.lt; have R5 := R4.below hb5 R4.lt; have B5 := B4.trans (hb5.mono B4.size); have r0 := R5.c0; have r1 := R5.c1; have f0 := R5.fr (i := 0); have f1 := R5.fr (i := 1)))
          go_wp2
          obtain ⟨d0, d1, d2, hg⟩ := two_after R5 (.int .i64 (finF (dx * nn) l).1) (.slice a4 (finF (dx * nn) l).2.1.length cap4) rfl
          refine bodyPost_ret (v := .tuple #[.agg #[.int .i64 (finF (dx * nn) l).1, .slice a4 (finF (dx * nn) l).2.1.length cap4], .int .i64 (finF (dx * nn) l).2.2]) ?_ rfl ?_
          · simp [results, Tryz.results60, go_sem, d0, d1, d2]
          · refine ⟨_, HP.out l hit, _, rfl, hta.kept hg ?_, B5.grown hg B5.size (by intro k hk; cases hk; omega), fun k hk => ?_⟩
            · cases hv : (Value.slice a4 (finF (dx * nn) l).2.1.length cap4).ownBlock with
              | none => exact .inl rfl
              | some k => right; have := hfr k hv; have := R4.lt; simp; omega
            · have := hfr k hk; have := R4.lt; omega

end Go.Proofs.YtkjclafbpocabaaGreatDoor

/-! ## S15 -/
namespace Go.Proofs.YtkjclafbpocabaaGreatDoor
open Go.RowKit Go.Maps
def bestSq (n : Int) (k : Nat) : Nat := (List.range k).foldl (fun (b d : Nat) => if 1 ≤ d ∧ n % ((d : Int) * (d : Int)) = 0 then d else b) 1
def splitF (n : Int) : Int × Int := if n = 0 then (0, 1) else ((bestSq n 32 : Int), n / ((bestSq n 32 : Int) * (bestSq n 32 : Int)))
theorem bestSq_spec (n : Int) (k : Nat) : 1 ≤ bestSq n k ∧ ((bestSq n k : Int) * (bestSq n k : Int)) ∣ n ∧ ∀ d : Nat, 1 ≤ d → d < k → ((d : Int) * (d : Int)) ∣ n → d ≤ bestSq n k := by
  induction k with
  | zero => exact ⟨by simp [bestSq], by simp [bestSq], fun d _ h => by omega⟩
  | succ k ih =>
    obtain ⟨h1, h2, h3⟩ := ih
    have e : bestSq n (k + 1) = if 1 ≤ k ∧ n % ((k : Int) * (k : Int)) = 0 then k else bestSq n k := by
      unfold bestSq
      rw [List.range_succ, List.foldl_append]; rfl
    rw [e]
    by_cases hk : 1 ≤ k ∧ n % ((k : Int) * (k : Int)) = 0
    · rw [if_pos hk]
      exact ⟨hk.1, Int.dvd_of_emod_eq_zero hk.2, fun d _ hd _ => by omega⟩
    · rw [if_neg hk]
      refine ⟨h1, h2, fun d hd1 hd2 hdd => ?_⟩
      by_cases hdk : d = k
      · subst hdk; exact absurd ⟨hd1, Int.emod_eq_zero_of_dvd hdd⟩ hk
      · exact h3 d hd1 (by omega) hdd
theorem splitF_spec (n : Int) (h1 : 1 ≤ n) (h2 : n ≤ 1000) : 1 ≤ (splitF n).1 ∧ (splitF n).1 ≤ 31 ∧ 1 ≤ (splitF n).2 ∧ (splitF n).2 ≤ 1000 ∧ (splitF n).1 * (splitF n).1 * (splitF n).2 = n ∧ SqF (splitF n).2 := by
  obtain ⟨h3, ⟨q, hq⟩, h5⟩ := bestSq_spec n 32
  unfold splitF
  rw [if_neg (by omega)]
  dsimp only
  generalize bestSq n 32 = b at h3 hq h5
  have hbb : 1 ≤ (b : Int) * b := by have := Int.mul_le_mul (show (1 : Int) ≤ b by omega) (show (1 : Int) ≤ b by omega) (by omega) (by omega); omega
  have hdiv : n / ((b : Int) * b) = q := by rw [hq]; exact Int.mul_ediv_cancel_left _ (by omega)
  have hq1 : 1 ≤ q := by
    rcases Int.lt_or_le 0 q with h | h
    · omega
    · have : (b : Int) * b * q ≤ (b : Int) * b * 0 := Int.mul_le_mul_of_nonneg_left h (by omega)
      omega
  have hqn : q ≤ n := by have : 1 * q ≤ (b : Int) * b * q := Int.mul_le_mul_of_nonneg_right hbb (by omega); omega
  have hb31 : ∀ e : Int, 1 ≤ e → e * e ∣ n → e ≤ 31 := by
    intro e he hd
    have hle := Int.le_of_dvd (by omega) hd
    rcases Int.lt_or_le 31 e with hh | hh
    · have : 32 * 32 ≤ e * e := Int.mul_le_mul (by omega) (by omega) (by omega) (by omega)
      omega
    · exact hh
  rw [hdiv]
  refine ⟨by omega, hb31 b (by omega) ⟨q, hq⟩, hq1, by omega, hq.symm, fun e he ⟨z, hz⟩ => ?_⟩
  have hd : ((b : Int) * e) * ((b : Int) * e) ∣ n := ⟨z, by rw [hq, hz]; simp only [Int.mul_assoc, Int.mul_left_comm, Int.mul_comm]⟩
  have h2b : (b : Int) * 2 ≤ b * e := Int.mul_le_mul_of_nonneg_left he (by omega)
  have := hb31 (b * e) (by omega) hd
  have hh := h5 (b * e).toNat (by omega) (by omega) (by rw [Int.toNat_of_nonneg (by omega)]; exact hd)
  omega
theorem split_fn (n : Int) (w : World) (h1 : 0 ≤ n) (h2 : n ≤ 1000) :
    Calls Tryz.prog 122 #[.int .i64 n] w fun e w' => e = .returned (.tuple #[.int .i64 (splitF n).1, .int .i64 (splitF n).2]) ∧ ∃ m, w' = w.drewN m := by
  by_cases h0 : n = 0
  · subst h0
    exact (split_zero w).mono fun e w' ⟨he, hw⟩ => ⟨he, 0, hw⟩
  · refine (split_any n w (by omega) (by omega)).mono fun e w' ⟨⟨s, r, he, hs, hr, hsr, hq⟩, hw⟩ => ⟨?_, hw⟩
    obtain ⟨g1, g2, g3, g4, g5, g6⟩ := splitF_spec n (by omega) h2
    have key := sqf_uniqN s.toNat (splitF n).1.toNat r.toNat (splitF n).2.toNat (by omega) (by omega) (by
      apply Int.natCast_inj.1
      rw [Int.natCast_mul, Int.natCast_mul, Int.natCast_mul, Int.natCast_mul, Int.toNat_of_nonneg (by omega), Int.toNat_of_nonneg (by omega), Int.toNat_of_nonneg (by omega), Int.toNat_of_nonneg (by omega), hsr, g5]) (sqfN hq hr) (sqfN g6 g3)
    rw [he]
    have e1 : s = (splitF n).1 := by omega
    have e2 : r = (splitF n).2 := by omega
    rw [e1, e2]

def mkT (t : Int × Int) : Int × Int := ((splitF t.2).1 * t.1, (splitF t.2).2)
theorem plusC_mul (c : Int → Int) (m x r : Int) : plusC c m [(x, r)] = plusC c 1 [(m * x, r)] := by
  funext s
  simp only [plusC, coefOf, List.foldl_cons, List.foldl_nil]
  by_cases h : r = s
  · rw [if_pos h, if_pos h]; simp
  · rw [if_neg h, if_neg h]; simp
def makeF (den : Int) (l : List (Int × Int)) (r : Int × List (Int × Int) × Int) : Prop :=
  if 16 < l.length then r = (0, [], 5) else if inB den 1 100000 = true ∧ l.all isPartF = true then ∃ t, IsTerms (plusC zeroC 1 (l.map mkT)) t ∧ r = finF den t else r = (0, [], 2)

theorem mkT_bd (t : Int × Int) (h : isPartF t = true) : (-100000 ≤ t.1 ∧ t.1 ≤ 100000) ∧ (0 ≤ t.2 ∧ t.2 ≤ 1000) ∧ (0 ≤ (splitF t.2).1 ∧ (splitF t.2).1 ≤ 31) ∧ (1 ≤ (splitF t.2).2 ∧ (splitF t.2).2 ≤ 1000) ∧ -3100000 ≤ (splitF t.2).1 * t.1 ∧ (splitF t.2).1 * t.1 ≤ 3100000 := by
  simp [isPartF, inB] at h
  by_cases h0 : t.2 = 0
  · have e : splitF t.2 = (0, 1) := by rw [h0]; rfl
    rw [e]; simp; omega
  · have hs := splitF_spec t.2 (by omega) (by omega)
    have := mul_abs_le (splitF t.2).1 t.1 31 100000 (by omega) (by omega) (by omega) (by omega)
    omega

def MakeI (w wr : World) (B : Nat) (l : List (Int × Int)) (k : Nat) : Prop :=
  OwnSum wr B k (plusC zeroC 1 ((l.take k).map mkT)) ∧ Below w.heap.size w wr ∧ Two wr w.heap.size (.int .i64 0) (.slice none 0 0) 34 ∧ w.heap.size < B

theorem make_bd (l : List (Int × Int)) (hl : l.length ≤ 16) (h : ∀ t ∈ l, isPartF t = true) (s : Int) : -9000000000000000000 ≤ plusC zeroC 1 (l.map mkT) s ∧ plusC zeroC 1 (l.map mkT) s ≤ 9000000000000000000 := by
  refine zero_plus_bd 1 1 _ 16 (by omega) (by omega) (by omega) (by simpa using hl) (by omega) (fun t ht => ?_) s
  obtain ⟨u, hu, rfl⟩ := List.mem_map.1 ht
  have := mkT_bd u (h u hu)
  unfold mkT
  dsimp only
  omega
theorem make_rt (l : List (Int × Int)) (h : ∀ t ∈ l, isPartF t = true) : ∀ r, plusC zeroC 1 (l.map mkT) r ≠ 0 → 0 ≤ r ∧ r ≤ 1000000000000 := by
  intro r hr
  have : coefOf (l.map mkT) r ≠ 0 := by intro h; unfold plusC at hr; rw [h] at hr; simp [zeroC] at hr
  obtain ⟨t, ht, rfl⟩ := coefOf_ne this
  obtain ⟨u, hu, rfl⟩ := List.mem_map.1 ht
  have := mkT_bd u (h u hu)
  unfold mkT
  dsimp only
  omega

theorem makeI_start (w2 : World) (l : List (Int × Int)) : OwnSum (w2.alloc (.map #[] 0)) w2.heap.size 0 (plusC zeroC 1 ((l.take 0).map mkT)) := by
  have e : plusC zeroC 1 ((l.take 0).map mkT) = (fun _ => 0) := by
    funext r
    simp [plusC, coefOf, zeroC]
  rw [e]
  exact ownSum_made rfl
theorem make_call {w W : World} {B : Nat} {l : List (Int × Int)} {k : Nat} (hk : k < l.length) (hl : l.length ≤ 16) (hp : ∀ t ∈ l, isPartF t = true) (HI : Hid (MakeI w W B l k)) (c r s r' : Int) (he : Hid (l[k]?.getD (0, 0) = (c, r))) (hs : Hid (splitF r = (s, r'))) :
    Calls Tryz.prog 113 #[.map (some B), .int .i64 s, .slice (some ⟨W.heap.size, 0, none⟩) 1 1] (W.alloc (.cells #[.int .i64 c, .int .i64 r'] 85))
      (AddTo B (k + 1) (plusC zeroC 1 ((l.take (k + 1)).map mkT)) (W.alloc (.cells #[.int .i64 c, .int .i64 r'] 85))) := by
  obtain ⟨hO, hB, hT, hBB⟩ := HI.out
  have hm := mkT_bd (c, r) (hp _ (by have := he.out; rw [← this]; simp [hk]))
  rw [show splitF (c, r).2 = (s, r') from hs.out] at hm
  dsimp only at hm
  have hsucc : (l.take (k + 1)).map mkT = (l.take k).map mkT ++ [(s * c, r')] := by
    rw [List.take_succ_eq_append_getElem hk, List.map_append]
    have e : l[k] = (c, r) := by have := he.out; simpa [hk] using this
    rw [e]; simp [mkT, hs.out]
  have h1 := make_bd (l.take k) (by simp; omega) (fun t ht => hp t (List.mem_of_mem_take ht))
  have h2 := make_bd (l.take (k + 1)) (by simp; omega) (fun t ht => hp t (List.mem_of_mem_take ht))
  have hpl : plusC (plusC zeroC 1 ((l.take k).map mkT)) s [(c, r')] = plusC zeroC 1 ((l.take (k + 1)).map mkT) := by rw [plusC_mul, plusC_snoc, hsucc]
  have := add_at B k (plusC zeroC 1 ((l.take k).map mkT)) s (.slice (some ⟨W.heap.size, 0, none⟩) 1 1) [(c, r')] (W.alloc (.cells #[.int .i64 c, .int .i64 r'] 85))
    (termsAt_one _ _ _ _ (by simp) (by omega) (cell_two_new _ _ _ _ 0 _ rfl) (cell_two_new _ _ _ _ 1 _ rfl))
    (by intro b off len cap hv _; simp at hv; have := hO.lt; omega) (by simp) (by omega) (hO.below ((Below.refl _ _).alloc (Nat.le_refl _) _))
    (Lib.hid (fun t ht => by simp at ht; subst ht; dsimp only; omega))
    (Lib.hid (fun q hq s' => by
      simp at hq
      have : q = 0 ∨ q = 1 := by omega
      rcases this with rfl | rfl
      · have := h1 s'; simpa [plusC, coefOf] using this
      · have := h2 s'; rw [← hpl] at this; exact this))
  rw [hpl] at this
  simpa using this

set_option maxRecDepth 100000 in
set_option maxHeartbeats 2000000 in
theorem make_any (hsort : Hid SortC) (den : Int) (v : Value) (l : List (Int × Int)) (w : World) (ht : TermsAt w v l) :
    Calls Tryz.prog 62 #[.int .i64 den, v] w (NumP (makeF den l) w) := by
  have hmm := @run_makeMap Tryz.prog
  have HT := Lib.hid ht
  obtain ⟨a, cap, rfl, px⟩ := ht.placed
  have PX := Lib.hid px
  clear ht px
  have RR := Lib.hid (Two.new w (.int .i64 0) (.slice none 0 0) 34)
  have BB : Hid (Below w.heap.size w (w.alloc (.cells #[.int .i64 0, .slice none 0 0] 34))) := Lib.hid ((Below.refl _ _).alloc (Nat.le_refl _) _)
  by_cases h16 : 16 < l.length
  · have HP : Hid (makeF den l (0, [], 5)) := Lib.hid (by simp only [makeF]; rw [if_pos h16]; trivial)
    go_enter Tryz.func62, Tryz.ntmps62
    go_wp2
    refine bodyPost_ret (v := .tuple #[.agg #[.int .i64 0, .slice none 0 0], .int .i64 5]) ?_ rfl ?_
    · simp [results, Tryz.results62, go_sem]
    · exact ⟨_, HP.out, _, rfl, termsAt_nil _, BB.out, fun k hk => by cases hk⟩
  · have hlen : l.length ≤ 16 := by omega
    have hw := within_any den 1 100000
    cases hd : inB den 1 100000
    · rw [hd] at hw
      have HW := Lib.hid hw
      have HP : Hid (makeF den l (0, [], 2)) := Lib.hid (by simp only [makeF]; rw [if_neg h16, if_neg (by rw [hd]; simp)]; trivial)
      clear hw hd
      go_enter Tryz.func62, Tryz.ntmps62
      go_wp2_with fail
      refine (HW.out _).mono ?_
      rintro e w1 ⟨rfl, rfl⟩
      go_wp2
      refine bodyPost_ret (v := .tuple #[.agg #[.int .i64 0, .slice none 0 0], .int .i64 2]) ?_ rfl ?_
      · simp [results, Tryz.results62, go_sem]
      · exact ⟨_, HP.out, _, rfl, termsAt_nil _, BB.out, fun k hk => by cases hk⟩
    · have hdb : 1 ≤ den ∧ den ≤ 100000 := by simp [inB] at hd; exact hd
      obtain ⟨hd1, hd2⟩ := hdb
      rw [hd] at hw
      have HW := Lib.hid hw
      have HD := Lib.hid hd
      clear hw hd
      go_enter Tryz.func62, Tryz.ntmps62
      go_wp2_with fail
      refine (HW.out _).mono ?_
      rintro e w1 ⟨rfl, rfl⟩
      go_wp2_with fail
      refine (everyPart_at (.slice a l.length cap) l _ (HT.out.alloc _)).mono ?_
      rintro e w2 ⟨rfl, hb⟩
      have HR2 := Lib.hid (RR.out.below hb RR.out.lt)
      have HB2 := Lib.hid (BB.out.trans (hb.mono BB.out.size))
      clear hb
      cases ha : l.all isPartF
      · have HP : Hid (makeF den l (0, [], 2)) := Lib.hid (by simp only [makeF]; rw [if_neg h16, if_neg (by rw [ha]; simp)]; trivial)
        clear ha
        have r0 := HR2.out.c0
        have r1 := HR2.out.c1
        have f0 := HR2.out.fr (i := 0)
        have f1 := HR2.out.fr (i := 1)
        go_wp2
        obtain ⟨d0, d1, d2, hg⟩ := two_after HR2.out (.int .i64 0) (.slice none 0 0) rfl
        refine bodyPost_ret (v := .tuple #[.agg #[.int .i64 0, .slice none 0 0], .int .i64 2]) ?_ rfl ?_
        · simp [results, Tryz.results62, go_sem, d0, d1, d2]
        · exact ⟨_, HP.out, _, rfl, termsAt_nil _, HB2.out.grown hg HB2.out.size (by intro k hk; cases hk; omega), fun k hk => by cases hk⟩
      · have HAL : Hid (∀ t ∈ l, isPartF t = true) := Lib.hid (List.all_eq_true.1 ha)
        have HP : Hid (∀ t, IsTerms (plusC zeroC 1 (l.map mkT)) t → makeF den l (finF den t)) := Lib.hid (fun t ht => by simp only [makeF]; rw [if_neg h16, if_pos ⟨HD.out, ha⟩]; exact ⟨t, ht, rfl⟩)
        clear ha
        have hsz2 : w.heap.size < w2.heap.size := HR2.out.lt
        go_wp2_with fail
        have HI0 : Hid (MakeI w (w2.alloc (.map #[] 0)) w2.heap.size l 0) := Lib.hid ⟨makeI_start w2 l, HB2.out.alloc HB2.out.size _, HR2.out.alloc _, hsz2⟩
        generalize w2.heap.size = B at hsz2 HI0 ⊢
        go_loopw [8, 9, 10, 29] (fun _ _ _ i wr => ∃ k : Nat, k ≤ l.length ∧ i = .int .i64 k ∧ Hid (MakeI w wr B l k)) (fun _ _ _ i _ => l.length - (intOf i).toNat)
        case atStart => exact ⟨0, Nat.zero_le _, rfl, HI0⟩
        case round =>
          clear HI0
          obtain ⟨k, hk, rfl, HI⟩ := hrel
          by_cases hlt : k < l.length
          · obtain ⟨b, off, rfl, hbl, hc1, hc2⟩ := PX.out k hlt
            replace hc1 := (HI.out.2.1.cell (p := ⟨b, _, none⟩) hbl).trans hc1
            replace hc2 := (HI.out.2.1.cell (p := ⟨b, _, none⟩) hbl).trans hc2
            have hpt := mkT_bd _ (HAL.out (l[k]?.getD (0, 0)) (by simp [hlt]))
            obtain ⟨c, r, hel⟩ : ∃ c r, l[k]?.getD (0, 0) = (c, r) := ⟨_, _, rfl⟩
            rw [hel] at hc1 hc2 hpt
            dsimp only at hc1 hc2 hpt
            have HEL := Lib.hid hel
            have hwl := HI.out.2.2.1.lt
            have hsp := split_fn r
            obtain ⟨s, r', hsr⟩ : ∃ s r', splitF r = (s, r') := ⟨_, _, rfl⟩
            rw [hsr] at hpt hsp
            dsimp only at hpt hsp
            have HSR := Lib.hid hsr
            have HSP := Lib.hid hsp
            obtain ⟨⟨p1, p2⟩, ⟨p3, p4⟩, ⟨p5, p6⟩, ⟨p7, p8⟩, p9, p10⟩ := hpt
            clear hel hsr hsp
            go_wp2_with fail
            refine (HSP.out _ p3 p4).mono ?_
            rintro e w4 ⟨rfl, n4, rfl⟩
            have k2 : ((wr.alloc (.cells #[.int .i64 c, .int .i64 r] 85)).drewN n4).cell? ⟨wr.heap.size, 0, none⟩ = some (.int .i64 c) := cell_two_new _ _ _ _ 0 _ rfl
            have HI4 : Hid (MakeI w ((wr.alloc (.cells #[.int .i64 c, .int .i64 r] 85)).drewN n4) B l k) := by
              have hb4 : Below wr.heap.size wr ((wr.alloc (.cells #[.int .i64 c, .int .i64 r] 85)).drewN n4) := below_drewN ((Below.refl _ _).alloc (Nat.le_refl _) _) _
              exact Lib.hid ⟨HI.out.1.below hb4, HI.out.2.1.trans (hb4.mono HI.out.2.1.size), HI.out.2.2.1.below hb4 hwl, HI.out.2.2.2⟩
            generalize hW : ((wr.alloc (.cells #[.int .i64 c, .int .i64 r] 85)).drewN n4) = W at k2 HI4 ⊢
            have HCALL := Lib.hid (make_call hlt hlen HAL.out HI4 c r s r' HEL HSR)
            clear hW
            go_wp2_with fail
            refine HCALL.out.mono ?_
            rintro e w5 ⟨rfl, ho5, hg5⟩
            have HI5 : Hid (MakeI w w5 B l (k + 1)) := Lib.hid ⟨ho5, (HI4.out.2.1.alloc HI4.out.2.1.size _).grown hg5 (by have := HI4.out.2.1.size; simp; omega) (by intro q hq; cases hq; omega), (HI4.out.2.2.1.alloc _).kept hg5 (by intro e; have := Option.some.inj e; omega), HI4.out.2.2.2⟩
            clear ho5 hg5 k2
            go_wp2
            go_roundw
            case rel => exact ⟨k + 1, by omega, by go_num, HI5⟩
            case measure => simp [intOf]; omega
          · have hk : k = l.length := by omega
            have HE : Hid (MakeI w wr B l l.length) := Lib.hid (by rw [← hk]; exact HI.out)
            clear hk
            go_wp2_with fail
            refine (finish_any hsort den B 16 (plusC zeroC 1 (l.map mkT)) _ (by have := HE.out.1; rw [List.take_length] at this; exact this.mono hlen) (by omega) (by omega) (by omega) (by omega) (Lib.hid (make_rt l HAL.out)) (Lib.hid (make_bd l hlen HAL.out))).mono ?_
            rintro e w4 ⟨t, hit, hlt4, v, rfl, hta, hb4, hfr⟩
            obtain ⟨a4, cap4, rfl, _⟩ := hta.placed
            have R4 := HE.out.2.2.1.below hb4 HE.out.2.2.1.lt
            have B4 := HE.out.2.1.trans (hb4.mono HE.out.2.1.size)
            have hwl := HE.out.2.2.1.lt
            have r0 := R4.c0
            have r1 := R4.c1
            have f0 := R4.fr (i := 0)
            have f1 := R4.fr (i := 1)
            have HTA := Lib.hid hta
            have HFR := Lib.hid hfr
            have HIT := Lib.hid hit
            have HR4 := Lib.hid R4
            have HB4 := Lib.hid B4
            clear hta hfr hit hb4 R4 B4
            go_wp2
            obtain ⟨d0, d1, d2, hg⟩ := two_after HR4.out (.int .i64 (finF den t).1) (.slice a4 (finF den t).2.1.length cap4) rfl
            refine bodyPost_ret (v := .tuple #[.agg #[.int .i64 (finF den t).1, .slice a4 (finF den t).2.1.length cap4], .int .i64 (finF den t).2.2]) ?_ rfl ?_
            · simp [results, Tryz.results62, go_sem, d0, d1, d2]
            · refine ⟨_, HP.out t HIT.out, _, rfl, HTA.out.kept hg ?_, HB4.out.grown hg HB4.out.size (by intro k hk; cases hk; omega), fun k hk => ?_⟩
              · cases hv : (Value.slice a4 (finF den t).2.1.length cap4).ownBlock with
                | none => exact .inl rfl
                | some k => right; have := HFR.out k hv; simp; omega
              · have := HFR.out k hk; omega
end Go.Proofs.YtkjclafbpocabaaGreatDoor
