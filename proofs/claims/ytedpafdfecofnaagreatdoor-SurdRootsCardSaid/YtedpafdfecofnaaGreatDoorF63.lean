/-
  Contracts of the program's own functions (and their plain mathematics), on the way to the law: each for all arguments that its hypotheses let.
-/
import Derived.Test.YtedpafdfecofnaaGreatDoorF62
import Derived.WalkKit
import Derived.WalkSpells
import Derived.WalkLawsBesides
import Derived.Deep.QuietTactic
import Derived.BigQuiet
import Derived.Lib.Hide
import Derived.WalkSmall
import Derived.Maps.OwnSet
import Derived.Maps.RangeWalk
import Derived.Deep.RegionWith
import Derived.Deep.RegionHeld3
import Derived.Deep.DrawnRows
import Derived.Deep.DeepCutAuto
import Derived.OneCell
import Derived.KernelRfl
import Derived.Laws.StructEq
import Derived.StillTailTactics
import Derived.Laws.Externs
import Derived.RangeFuncBox
import Derived.Test.YtedpafdfecofnaaGreatDoorPlain
set_option linter.unusedSimpArgs false
set_option linter.unusedVariables false

/-! ## D14 -/
namespace Go.Proofs.YtedpafdfecofnaaGreatDoor
open Go.RowKit Go.Maps Go.Shelf Go.Sort
theorem mul_bd2 {a b A B : Int} (h1 : -A ≤ a) (h2 : a ≤ A) (h3 : 0 ≤ b) (h4 : b ≤ B) (hA : 0 ≤ A) : -(A * B) ≤ a * b ∧ a * b ≤ A * B := by
  have k1 : a * b ≤ A * b := Int.mul_le_mul_of_nonneg_right h2 h3
  have k2 : A * b ≤ A * B := Int.mul_le_mul_of_nonneg_left h4 hA
  have k3 : -A * b ≤ a * b := Int.mul_le_mul_of_nonneg_right h1 h3
  rw [Int.neg_mul] at k3
  omega
theorem sqf_one : SqF 1 := by
  intro e he hd
  have h1 := Int.le_of_dvd (by decide) hd
  have h2 : 2 * 2 ≤ e * e := Int.mul_le_mul he he (by decide) (by omega)
  omega
theorem vld_rt {d : Int} {l : List (Int × Int)} (V : Vld d l) : ∀ t ∈ l, Rt t.2 ∧ t.2 ≤ 1000 := fun t ht => ⟨⟨(V.rt t ht).1, V.sq t ht⟩, (V.rt t ht).2⟩
theorem sgTo_ratio {l m : List (Int × Int)} {w w' : World} {e : Ending} (h : SgTo l w e w') (hc : ∀ r, coefOf l r = coefOf m r) : SgTo m w e w' := by
  obtain ⟨n, h1, h2, h3⟩ := h
  exact ⟨n, h1, h2.ratio (A := 1) (B := 1) (by decide) (by decide) (fun r => by rw [hc r]), h3⟩
set_option maxRecDepth 100000 in
set_option maxHeartbeats 4000000 in
/-- Compare: the sign of the difference. -/
theorem rcmp_any (dx dy : Int) (vx vy : Value) (lx ly : List (Int × Int)) (w : World) (hx : TermsAt w vx lx) (hy : TermsAt w vy ly) (Vx : Vld dx lx) (Vy : Vld dy ly) :
    Calls Tryz.prog 38 #[.agg #[.int .i64 dx, vx], .agg #[.int .i64 dy, vy]] w (SgTo (difL dx lx dy ly) w) := by
  have px : ∀ t ∈ lx, -10000000000 ≤ t.1 * dy ∧ t.1 * dy ≤ 10000000000 := fun t ht => by
    have h1 := Vx.cf t ht
    exact mul_bd2 (A := 100000) (B := 100000) h1.1 h1.2.1 (by have := Vy.d1; omega) Vy.d2 (by decide)
  have py : ∀ t ∈ ly, -10000000000 ≤ t.1 * dx ∧ t.1 * dx ≤ 10000000000 := fun t ht => by
    have h1 := Vy.cf t ht
    exact mul_bd2 (A := 100000) (B := 100000) h1.1 h1.2.1 (by have := Vx.d1; omega) Vx.d2 (by decide)
  obtain ⟨s1, s2, s3, s4, s5⟩ := less_spec (x := lx) (y := ly) (b := dy) (m := dx) (B := 10000000000) (C := 10000000000) (P := fun r => Rt r ∧ r ≤ 1000) (by decide) (by decide) (vld_fine Vx).nd (fun t ht => ⟨px t ht, vld_rt Vx t ht⟩) (fun t ht => ⟨py t ht, vld_rt Vy t ht⟩)
  have hbx : Hid (∀ t ∈ lx, -100000000000000000 ≤ t.1 * dy ∧ t.1 * dy ≤ 100000000000000000) := Lib.hid (fun t ht => by have := px t ht; omega)
  have hby : Hid (∀ u ∈ ly, (-1000000000000000000 ≤ u.1 ∧ u.1 ≤ 1000000000000000000) ∧ -100000000000000000 ≤ u.1 * dx ∧ u.1 * dx ≤ 100000000000000000) := Lib.hid (fun t ht => by have := py t ht; have := Vy.cf t ht; omega)
  have hlx := Vx.len
  have hly := Vy.len
  obtain ⟨L, hL⟩ : ∃ L, lessF lx dy ly dx = L := ⟨_, rfl⟩
  rw [hL] at s1 s2 s3 s4 s5
  have HL := Lib.hid hL
  have hb4 : BdL 50000000000 L := fun t ht => by
    have := s3 t ht
    have h1 : (10000000000 : Int) * (ly.length : Int) ≤ 10000000000 * 4 := Int.mul_le_mul_of_nonneg_left (by omega) (by decide)
    omega
  have habs : absS L ≤ ((1099511627776 : Nat) : Int) := by
    have h1 := absS_bd L hb4 (by decide)
    have h2 : (50000000000 : Int) * (L.length : Int) ≤ 50000000000 * 8 := Int.mul_le_mul_of_nonneg_left (by omega) (by decide)
    omega
  have hfar : Hid ((∀ t ∈ L, t.1 = 0) ∨ absS L < (SQ 6656 L).natAbs) := Lib.hid (far_of 7 1099511627776 50 (by decide) (by omega) s1 s4 habs (by decide) (by decide))
  have hbd : Hid (∀ t ∈ L, (-1000000000000000000 ≤ t.1 ∧ t.1 ≤ 1000000000000000000) ∧ 1 ≤ t.2 ∧ t.2 ≤ 1000) := Lib.hid (fun t ht => by
    have h1 := hb4 t ht
    have h2 := s4 t ht
    exact ⟨by omega, h2.1.1, h2.2⟩)
  have hc : Hid (∀ r, coefOf L r = coefOf (difL dx lx dy ly) r) := Lib.hid (fun r => by rw [s2, difL_coef])
  obtain ⟨ax, cx, rfl, _⟩ := hx.placed
  obtain ⟨ay, cy, rfl, _⟩ := hy.placed
  have hB : Below w.heap.size w ((w.alloc (.cells #[.int .i64 dx, .slice ax lx.length cx] 24)).alloc (.cells #[.int .i64 dy, .slice ay ly.length cy] 24)) := ((Below.refl _ w).alloc (Nat.le_refl _) _).alloc (by simp) _
  obtain ⟨W, hW⟩ : ∃ W, (w.alloc (.cells #[.int .i64 dx, .slice ax lx.length cx] 24)).alloc (.cells #[.int .i64 dy, .slice ay ly.length cy] 24) = W := ⟨_, rfl⟩
  have hX : Two W w.heap.size (.int .i64 dx) (.slice ax lx.length cx) 24 := by rw [← hW]; exact (Two.new _ _ _ _).alloc _
  have hY : Two W (w.heap.size + 1) (.int .i64 dy) (.slice ay ly.length cy) 24 := by rw [← hW]; exact two_at0 _ _ _ _ _ (by simp)
  rw [hW] at hB
  have HX := Lib.hid (hx.below hB)
  have HY := Lib.hid (hy.below hB)
  have HB := Lib.hid hB
  have x0 := hX.c0
  have x1 := hX.c1
  have y0 := hY.c0
  have y1 := hY.c1
  have zs := hX.lt
  have zs1 := hY.lt
  have HW := Lib.hid hW
  have hl8 : L.length ≤ 8 := by omega
  clear hx hy hB hX hY px py s1 s2 s3 s4 s5 hb4 habs hL Vx Vy hW
  clear x0 x1 y0 y1 zs zs1
  go_enter Tryz.func38, Tryz.ntmps38
  go_wp2_with fail
  rw [HW.out]
  refine (less_terms _ _ lx ly dy dx _ HX.out HY.out hlx hly hbx hby).mono ?_
  rintro e w1 ⟨v1, rfl, ho, hb1⟩
  rw [HL.out] at ho
  have HT := Lib.hid (ho.at (by omega))
  have HB1 := Lib.hid (HB.out.trans (hb1.mono HB.out.size))
  clear ho hb1
  go_wp2_with fail
  refine (rsign_any L _ _ HT.out hl8 hbd hfar).mono ?_
  rintro e w2 hs
  obtain ⟨n, rfl, hs2, hb2⟩ := sgTo_ratio hs hc.out
  have HS := Lib.hid hs2
  have HB2 := Lib.hid (HB1.out.trans (hb2.mono HB1.out.size))
  clear hs hs2 hb2
  go_wp2
  go_ret
  exact ⟨n, rfl, HS.out, HB2.out⟩
set_option maxRecDepth 100000 in
set_option maxHeartbeats 4000000 in
/-- Beside: the sign of a number times den, less a whole number. -/
theorem beside_any (d den n : Int) (v : Value) (l : List (Int × Int)) (w : World) (ht : TermsAt w v l) (V : Vld d l) (hd1 : 1 ≤ den) (hd2 : den ≤ 1000000000) (hn1 : -1000000000000000000 ≤ n) (hn2 : n ≤ 1000000000000000000) (hn3 : -100000000000000000 ≤ n * d) (hn4 : n * d ≤ 100000000000000000) :
    Calls Tryz.prog 40 #[.agg #[.int .i64 d, v], .int .i64 den, .int .i64 n] w (SgTo (extL den l (n * d)) w) := by
  have px : ∀ t ∈ l, -100000000000000 ≤ t.1 * den ∧ t.1 * den ≤ 100000000000000 := fun t ht => by
    have h1 := V.cf t ht
    exact mul_bd2 (A := 100000) (B := 1000000000) h1.1 h1.2.1 (by omega) hd2 (by decide)
  obtain ⟨s1, s2, s3, s4, s5⟩ := less_spec (x := l) (y := [(n, 1)]) (b := den) (m := d) (B := 100000000000000) (C := 100000000000000000) (P := fun r => Rt r ∧ r ≤ 1000) (by decide) (by decide) (vld_fine V).nd (fun t ht => ⟨px t ht, vld_rt V t ht⟩) (fun t ht => by
    rw [List.mem_singleton] at ht; subst ht; exact ⟨⟨hn3, hn4⟩, ⟨by show (1 : Int) ≤ 1; decide, sqf_one⟩, by show (1 : Int) ≤ 1000; decide⟩)
  have hbx : Hid (∀ t ∈ l, -100000000000000000 ≤ t.1 * den ∧ t.1 * den ≤ 100000000000000000) := Lib.hid (fun t ht => by have := px t ht; omega)
  have hby : Hid (∀ u ∈ [((n : Int), (1 : Int))], (-1000000000000000000 ≤ u.1 ∧ u.1 ≤ 1000000000000000000) ∧ -100000000000000000 ≤ u.1 * d ∧ u.1 * d ≤ 100000000000000000) := Lib.hid (fun t ht => by
    rw [List.mem_singleton] at ht; subst ht; exact ⟨⟨hn1, hn2⟩, hn3, hn4⟩)
  have hlx := V.len
  obtain ⟨L, hL⟩ : ∃ L, lessF l den [(n, 1)] d = L := ⟨_, rfl⟩
  rw [hL] at s1 s2 s3 s4 s5
  have HL := Lib.hid hL
  have hb4 : BdL 100100000000000000 L := fun t ht => by
    have := s3 t ht
    simp at this
    omega
  have s5' : L.length ≤ 5 := by simp at s5; omega
  have habs : absS L ≤ ((4611686018427387904 : Nat) : Int) := by
    have h1 := absS_bd L hb4 (by decide)
    have h2 : (100100000000000000 : Int) * (L.length : Int) ≤ 100100000000000000 * 5 := Int.mul_le_mul_of_nonneg_left (by omega) (by decide)
    omega
  have hfar : Hid ((∀ t ∈ L, t.1 = 0) ∨ absS L < (SQ 6656 L).natAbs) := Lib.hid (far_of 4 4611686018427387904 72 (by decide) (by omega) s1 s4 habs (by decide) (by decide))
  have hbd : Hid (∀ t ∈ L, (-1000000000000000000 ≤ t.1 ∧ t.1 ≤ 1000000000000000000) ∧ 1 ≤ t.2 ∧ t.2 ≤ 1000) := Lib.hid (fun t ht => by
    have h1 := hb4 t ht
    have h2 := s4 t ht
    exact ⟨by omega, h2.1.1, h2.2⟩)
  have hc : Hid (∀ r, coefOf L r = coefOf (extL den l (n * d)) r) := Lib.hid (fun r => by
    rw [s2, ext_coef, coef_cons1]
    have e : coefOf [] r = 0 := rfl
    rw [e]
    dsimp only
    by_cases h : r = 1
    · rw [if_pos h.symm, if_pos h, Int.add_zero, Int.mul_comm d n]
    · rw [if_neg (fun e => h e.symm), if_neg h]; simp)
  obtain ⟨ax, cx, rfl, _⟩ := ht.placed
  have hB : Below w.heap.size w ((w.alloc (.cells #[.int .i64 d, .slice ax l.length cx] 24)).alloc (.cells #[.int .i64 n, .int .i64 1] 34)) := ((Below.refl _ w).alloc (Nat.le_refl _) _).alloc (by simp) _
  obtain ⟨W, hW⟩ : ∃ W, (w.alloc (.cells #[.int .i64 d, .slice ax l.length cx] 24)).alloc (.cells #[.int .i64 n, .int .i64 1] 34) = W := ⟨_, rfl⟩
  have hY : Two W (w.heap.size + 1) (.int .i64 n) (.int .i64 1) 34 := by rw [← hW]; exact two_at0 _ _ _ _ _ (by simp)
  rw [hW] at hB
  have HX := Lib.hid (ht.below hB)
  have HY : Hid (TermsAt W (.slice (some ⟨w.heap.size + 1, 0, none⟩) 1 1) [(n, 1)]) := Lib.hid (termsAt_one W (w.heap.size + 1) 1 (n, 1) hY.lt (Nat.le_refl _) hY.c0 hY.c1)
  have HB := Lib.hid hB
  have HW := Lib.hid hW
  have hl8 : L.length ≤ 8 := by omega
  clear ht hB hY px s1 s2 s3 s4 s5 hb4 habs hL V hW
  go_enter Tryz.func40, Tryz.ntmps40
  go_wp2_with fail
  rw [HW.out]
  refine (less_terms _ _ l [(n, 1)] den d _ HX.out HY.out hlx (by simp) hbx hby).mono ?_
  rintro e w1 ⟨v1, rfl, ho, hb1⟩
  rw [HL.out] at ho
  have HT := Lib.hid (ho.at (by omega))
  have HB1 := Lib.hid (HB.out.trans (hb1.mono HB.out.size))
  clear ho hb1
  go_wp2_with fail
  refine (rsign_any L _ _ HT.out hl8 hbd hfar).mono ?_
  rintro e w2 hs
  obtain ⟨n', rfl, hs2, hb2⟩ := sgTo_ratio hs hc.out
  have HS := Lib.hid hs2
  have HB2 := Lib.hid (HB1.out.trans (hb2.mono HB1.out.size))
  clear hs hs2 hb2
  go_wp2
  go_ret
  exact ⟨n', rfl, HS.out, HB2.out⟩
end Go.Proofs.YtedpafdfecofnaaGreatDoor

/-! ## D15 -/
namespace Go.Proofs.YtedpafdfecofnaaGreatDoor
open Go.RowKit Go.Maps Go.Shelf Go.Sort
theorem qZ_unit (D : Nat) : qZ D 1 = 2 ^ D := by
  have h : isq (1 * 4 ^ D) = 2 ^ D := by
    rw [Nat.one_mul, four_two]
    exact (isq_uniq (Nat.le_refl _) (by
      have := sq_lt (show 2 ^ D < 2 ^ D + 1 by omega)
      exact this)).symm
  show ((isq ((1 : Int).toNat * 4 ^ D) : Nat) : Int) = 2 ^ D
  rw [show (1 : Int).toNat = 1 from rfl, h]
  exact Int.natCast_pow 2 D
theorem qZ_le (D : Nat) {r : Int} (h1 : 1 ≤ r) (h2 : r ≤ 1000) : 0 ≤ qZ D r ∧ qZ D r ≤ 32 * 2 ^ D := by
  refine ⟨Int.natCast_nonneg _, ?_⟩
  have h : isq (r.toNat * 4 ^ D) ≤ 32 * 2 ^ D := isq_le (by
    rw [four_two]
    have : r.toNat * (2 ^ D * 2 ^ D) ≤ 1024 * (2 ^ D * 2 ^ D) := Nat.mul_le_mul_right _ (by omega)
    have e : 32 * 2 ^ D * (32 * 2 ^ D) = 1024 * (2 ^ D * 2 ^ D) := by rw [Nat.mul_mul_mul_comm]
    omega)
  show ((isq (r.toNat * 4 ^ D) : Nat) : Int) ≤ _
  have e : ((32 * 2 ^ D : Nat) : Int) = 32 * 2 ^ D := by rw [Int.natCast_mul, Int.natCast_pow]; rfl
  rw [← e]
  exact Int.ofNat_le.2 h
/-- How far the search goes. -/
def farF (d den : Int) (l : List (Int × Int)) : Int := 2 + (l.map fun t => (((t.1.natAbs : Int) * 32) / d + 1) * den).sum
theorem farF_take (d den : Int) (l : List (Int × Int)) (k : Nat) (h : k < l.length) : farF d den (l.take (k + 1)) = farF d den (l.take k) + ((((l[k]?.getD (0, 0)).1.natAbs : Int) * 32) / d + 1) * den := by
  unfold farF
  rw [List.take_succ_eq_append_getElem h, List.map_append, List.sum_append]
  simp [h]
  omega
theorem farF_cons (d den : Int) (t : Int × Int) (l : List (Int × Int)) : farF d den (t :: l) = (((t.1.natAbs : Int) * 32) / d + 1) * den + farF d den l := by
  unfold farF; simp; omega
theorem far_term {a d den : Int} (ha : 0 ≤ a) (ha2 : a ≤ 100000) (hd : 1 ≤ d) (hden : 1 ≤ den) (hden2 : den ≤ 1000000000) : 0 ≤ (a * 32) / d ∧ (a * 32) / d ≤ 3200000 ∧ (a * 32 * den ≤ ((a * 32) / d + 1) * den * d ∧ (d ≤ 100000 → ((a * 32) / d + 1) * den * d ≤ 3300000000000000)) ∧ 1 ≤ ((a * 32) / d + 1) * den ∧ ((a * 32) / d + 1) * den ≤ 3200001000000000 := by
  have h0 : 0 ≤ (a * 32) / d := Int.ediv_nonneg (by omega) (by omega)
  have h1 : (a * 32) / d ≤ a * 32 := Int.ediv_le_self _ (by omega)
  have h2 : a * 32 < ((a * 32) / d + 1) * d := by
    have := Int.lt_ediv_add_one_mul_self (a * 32) (show 0 < d by omega)
    exact this
  have h3 : a * 32 * den ≤ ((a * 32) / d + 1) * d * den := Int.mul_le_mul_of_nonneg_right (by omega) (by omega)
  have h4 : ((a * 32) / d + 1) * den ≤ 3200001 * 1000000000 := by
    have k1 : ((a * 32) / d + 1) * den ≤ 3200001 * den := Int.mul_le_mul_of_nonneg_right (by omega) (by omega)
    omega
  have h5 : 1 * 1 ≤ ((a * 32) / d + 1) * den := Int.mul_le_mul (by omega) hden (by omega) (by omega)
  have e : ((a * 32) / d + 1) * den * d = ((a * 32) / d + 1) * d * den := by rw [Int.mul_assoc _ den d, Int.mul_comm den d, ← Int.mul_assoc]
  refine ⟨h0, by omega, ⟨by rw [e]; exact h3, fun hd2 => ?_⟩, by omega, by omega⟩
  rw [e]
  have h6 : (a * 32) / d * d ≤ a * 32 := Int.ediv_mul_le _ (by omega)
  have h7 : ((a * 32) / d + 1) * d ≤ 3300000 := by rw [Int.add_mul]; omega
  have h8 : ((a * 32) / d + 1) * d * den ≤ 3300000 * den := Int.mul_le_mul_of_nonneg_right h7 (by omega)
  omega
theorem far_bd {d den : Int} (hd : 1 ≤ d) (hden : 1 ≤ den) (hden2 : den ≤ 1000000000) (l : List (Int × Int)) (hl : ∀ t ∈ l, -100000 ≤ t.1 ∧ t.1 ≤ 100000) : 2 ≤ farF d den l ∧ farF d den l ≤ 2 + 3200001000000000 * l.length ∧ 32 * den * absS l + 2 * d ≤ farF d den l * d ∧ (d ≤ 100000 → farF d den l * d ≤ 200000 + 3300000000000000 * l.length) := by
  induction l with
  | nil =>
    refine ⟨by simp [farF], by simp [farF], ?_, fun h => ?_⟩
    · show 32 * den * 0 + 2 * d ≤ (2 + 0) * d; simp
    · show (2 + 0) * d ≤ 200000 + 3300000000000000 * 0; omega
  | cons t l ih =>
    obtain ⟨i1, i2, i3, i4⟩ := ih (fun s hs => hl s (List.mem_cons_of_mem _ hs))
    have ht := hl t (List.mem_cons_self ..)
    obtain ⟨a1, a2, ⟨a3, a6⟩, a4, a5⟩ := far_term (a := (t.1.natAbs : Int)) (d := d) (den := den) (by omega) (by omega) hd hden hden2
    rw [farF_cons, absS_one, List.length_cons, Int.natCast_succ]
    refine ⟨by omega, by omega, ?_, fun h => by have := a6 h; have := i4 h; rw [Int.add_mul, Int.mul_add]; omega⟩
    rw [Int.add_mul, Int.mul_add]
    have e : 32 * den * (t.1.natAbs : Int) = (t.1.natAbs : Int) * 32 * den := by rw [Int.mul_comm (32 * den), ← Int.mul_assoc]
    omega
theorem SQ_bd (D : Nat) (l : List (Int × Int)) (hl : ∀ t ∈ l, 1 ≤ t.2 ∧ t.2 ≤ 1000) : -(absS l * (32 * 2 ^ D)) ≤ SQ D l ∧ SQ D l ≤ absS l * (32 * 2 ^ D) := by
  induction l with
  | nil => exact ⟨by show -(0 * _) ≤ (0 : Int); simp, by show (0 : Int) ≤ 0 * _; simp⟩
  | cons t l ih =>
    obtain ⟨i1, i2⟩ := ih (fun s hs => hl s (List.mem_cons_of_mem _ hs))
    have ht := hl t (List.mem_cons_self ..)
    obtain ⟨q0, q1⟩ := qZ_le D ht.1 ht.2
    have h := mul_bd2 (a := t.1) (b := qZ D t.2) (A := (t.1.natAbs : Int)) (B := 32 * 2 ^ D) (by omega) (by omega) q0 q1 (by omega)
    rw [SQ_cons, absS_one, Int.add_mul]
    omega
theorem far_sign {d den : Int} {l : List (Int × Int)} (V : Vld d l) (hden : 1 ≤ den) (hden2 : den ≤ 1000000000) : Sg (extL den l (-farF d den l * d)) 1 ∧ Sg (extL den l (farF d den l * d)) (-1) := by
  have hd := V.d1
  obtain ⟨f1, f2, f3, _⟩ := far_bd hd hden hden2 l (fun t ht => ⟨(V.cf t ht).1, (V.cf t ht).2.1⟩)
  generalize farF d den l = F at *
  have hS := fun D => SQ_bd D l V.rt
  have key : ∀ (D : Nat), (2 : Int) ^ D ≤ den * SQ D l + F * d * 2 ^ D ∧ (2 : Int) ^ D ≤ -(den * SQ D l) + F * d * 2 ^ D := fun D => by
    have hB : (1 : Int) ≤ 2 ^ D := Tw.pow_pos' (by decide) D
    obtain ⟨s1, s2⟩ := hS D
    have m1 : den * SQ D l ≤ den * (absS l * (32 * 2 ^ D)) := Int.mul_le_mul_of_nonneg_left s2 (by omega)
    have m2 : den * -(absS l * (32 * 2 ^ D)) ≤ den * SQ D l := Int.mul_le_mul_of_nonneg_left s1 (by omega)
    have m3 : (32 * den * absS l + 2 * d) * 2 ^ D ≤ F * d * 2 ^ D := Int.mul_le_mul_of_nonneg_right f3 (by omega)
    have e1 : den * (absS l * (32 * 2 ^ D)) = 32 * den * absS l * 2 ^ D := by grind
    have e2 : den * -(absS l * (32 * 2 ^ D)) = -(32 * den * absS l * 2 ^ D) := by grind
    have m4 : (1 : Int) * 2 ^ D ≤ 2 * d * 2 ^ D := Int.mul_le_mul_of_nonneg_right (by omega) (by omega)
    rw [Int.add_mul] at m3
    constructor <;> omega
  have hext : ∀ (K : Int) (D : Nat), SQ D (extL den l K) = den * SQ D l - K * 2 ^ D := fun K D => by
    unfold extL
    rw [SQ_append, SQ_mulS, SQ_cons]
    dsimp only
    rw [qZ_unit]
    have e : SQ D [] = 0 := rfl
    rw [e, Int.neg_mul]
    omega
  constructor
  · left
    refine ⟨rfl, ?_⟩
    obtain ⟨D, hD⟩ := two_big (absS (extL den l (-F * d)))
    refine ⟨D, ?_⟩
    rw [hext]
    have := (key D).1
    have e : -F * d * 2 ^ D = -(F * d * 2 ^ D) := by rw [Int.neg_mul, Int.neg_mul]
    omega
  · right; left
    refine ⟨rfl, ?_⟩
    obtain ⟨D, hD⟩ := two_big (absS (mulS (-1) (extL den l (F * d))))
    refine ⟨D, ?_⟩
    rw [SQ_mulS, hext]
    have := (key D).2
    omega
theorem abs_q (n : Int) (w : World) (h1 : -9000000000000000000 ≤ n) (h2 : n ≤ 9000000000000000000) : Calls Tryz.prog 73 #[.int .i64 n] w fun e w' => e = .returned (.int .i64 (n.natAbs : Int)) ∧ w' = w := (abs_any n w h1 h2).mono fun _ _ ⟨a, b⟩ => ⟨a, b.symm⟩
/-- What Below gives: the sign of what is left is not below 0, and with one more it is. -/
def BelowTo (d den : Int) (l : List (Int × Int)) (w : World) (e : Ending) (w' : World) : Prop :=
  ∃ n s, e = .returned (.int .i64 n) ∧ Sg (extL den l (n * d)) s ∧ 0 ≤ s ∧ Sg (extL den l ((n + 1) * d)) (-1) ∧ Below w.heap.size w w' ∧ -20000000000000000 ≤ n ∧ n ≤ 20000000000000000 ∧ -90000000000000000 ≤ n * d ∧ n * d ≤ 90000000000000000
set_option maxRecDepth 100000 in
set_option maxHeartbeats 8000000 in
theorem below_any (d den : Int) (v : Value) (l : List (Int × Int)) (w : World) (ht : TermsAt w v l) (V : Vld d l) (hden : 1 ≤ den) (hden2 : den ≤ 1000000000) : Calls Tryz.prog 37 #[.agg #[.int .i64 d, v], .int .i64 den] w (BelowTo d den l w) := by
  obtain ⟨ax, cx, rfl, px⟩ := ht.placed
  have hB : Below w.heap.size w (w.alloc (.cells #[.int .i64 d, .slice ax l.length cx] 24)) := (Below.refl _ w).alloc (Nat.le_refl _) _
  obtain ⟨W, hW⟩ : ∃ W, w.alloc (.cells #[.int .i64 d, .slice ax l.length cx] 24) = W := ⟨_, rfl⟩
  have hX : Two W w.heap.size (.int .i64 d) (.slice ax l.length cx) 24 := by rw [← hW]; exact Two.new _ _ _ _
  rw [hW] at hB
  have HX := Lib.hid hX
  have HB := Lib.hid hB
  have HT := Lib.hid (ht.below hB)
  have PX := Lib.hid px
  have HV := Lib.hid V
  have HW := Lib.hid hW
  have hd1 := V.d1
  have hd2 := V.d2
  have hl4 := V.len
  have HFB := Lib.hid (far_bd hd1 hden hden2 l (fun t ht => ⟨(V.cf t ht).1, (V.cf t ht).2.1⟩))
  have HFS := Lib.hid (far_sign V hden hden2)
  have hws : w.heap.size < W.heap.size := hX.lt
  clear ht px hB hX V hW
  go_enter Tryz.func37, Tryz.ntmps37
  go_wp2_with fail
  rw [HW.out]
  go_loopw [5, 6] (fun s5 s6 wr => ∃ k : Nat, s6 = .int .i64 (k : Nat) ∧ k ≤ l.length ∧ (∃ f : Int, s5 = .int .i64 f ∧ Hid (f = farF d den (l.take k)) ∧ 0 ≤ f ∧ f ≤ 2 + 3200001000000000 * k) ∧ Hid (Below W.heap.size W wr)) (fun _ s6 _ => l.length - (intOf s6).toNat)
  case atStart => exact ⟨0, rfl, Nat.zero_le _, ⟨2, rfl, Lib.hid rfl, by omega, by omega⟩, Lib.hid (Below.refl _ _)⟩
  case round =>
    obtain ⟨k, rfl, hk, ⟨f, rfl, HF, hf0, hf1⟩, HBW⟩ := hrel
    have x0 := (HX.out.below HBW.out HX.out.lt).c0
    have x1 := (HX.out.below HBW.out HX.out.lt).c1
    have hs := (HX.out.below HBW.out HX.out.lt).lt
    by_cases hlt : k < l.length
    · obtain ⟨bb, off, rfl, hbl, hp1, _⟩ := PX.out k hlt
      have hmem : l[k]?.getD (0, 0) ∈ l := by simp [hlt]
      have hcf := HV.out.cf _ hmem
      have hft := farF_take d den l k hlt
      obtain ⟨c, r, hel⟩ : ∃ c r, l[k]?.getD (0, 0) = (c, r) := ⟨_, _, rfl⟩
      rw [hel] at hp1 hcf hft
      dsimp only at hp1 hcf hft
      have c1 := ((HB.out.trans (HBW.out.mono HB.out.size)).cell (p := ⟨bb, _, none⟩) hbl).trans hp1
      obtain ⟨a, ha⟩ : ∃ a, (c.natAbs : Int) = a := ⟨_, rfl⟩
      have hab := fun w0 => abs_q c w0 (by omega) (by omega)
      rw [ha] at hab hft
      have HAB := Lib.hid hab
      obtain ⟨a1, a2, a3, a4, a5⟩ := far_term (a := a) (d := d) (den := den) (by omega) (by omega) hd1 hden hden2
      obtain ⟨p, hp⟩ : ∃ p, a * 32 = p := ⟨_, rfl⟩
      rw [hp] at a1 a2 a3 a4 a5 hft
      obtain ⟨q, hq⟩ : ∃ q, p / d = q := ⟨_, rfl⟩
      rw [hq] at a1 a2 a3 a4 a5 hft
      obtain ⟨q1, hq1⟩ : ∃ q1, q + 1 = q1 := ⟨_, rfl⟩
      rw [hq1] at a3 a4 a5 hft
      obtain ⟨z, hz⟩ : ∃ z, q1 * den = z := ⟨_, rfl⟩
      rw [hz] at a4 a5 hft
      obtain ⟨f2, hf2⟩ : ∃ f2, f + z = f2 := ⟨_, rfl⟩
      have hp0 : 0 ≤ p ∧ p ≤ 3200000 := by omega
      have w1 : IntKind.i64.wrap p = p := IntWalk.i64_in _ (by omega)
      have w2 : IntKind.i64.wrap (p.tdiv d) = q := by rw [← hq]; exact IntWalk.i64_quo p d ⟨hp0.1, by omega, hd1⟩
      have w2' : IntKind.i64.wrap q = q := IntWalk.i64_in _ (by omega)
      have w3 : IntKind.i64.wrap q1 = q1 := IntWalk.i64_in _ (by omega)
      have w4 : IntKind.i64.wrap z = z := IntWalk.i64_in _ (by omega)
      have w5 : IntKind.i64.wrap f2 = f2 := IntWalk.i64_in _ (by omega)
      have hdz : (d == 0) = false := by simp; omega
      have HF2 : Hid (f2 = farF d den (l.take (k + 1))) := Lib.hid (by rw [hft, ← HF.out, hf2])
      have hb0 : 0 ≤ f2 := by omega
      have hb1 : f2 ≤ 2 + 3200001000000000 * ((k + 1 : Nat) : Int) := by omega
      have i1 : (0 : Int) ≤ (k : Int) := by omega
      have i2 : (k : Int) < (l.length : Int) := by omega
      have HB1 := Lib.hid hb1
      clear hel hft hmem ha a3 hp1 hb1 hf1
      go_wp2
      go_quiet (first | (go_at_call 73; exact Calls.quiet_of_same (HAB.out _)))
      go_wp2
      go_roundw
      case rel => exact ⟨k + 1, by go_num, by omega, ⟨f2, rfl, HF2, hb0, HB1.out⟩, Lib.hid (below_drewN HBW.out _)⟩
      case measure => simp [intOf]; omega
    · have HFF : Hid (f = farF d den l) := Lib.hid (by have := HF.out; rwa [List.take_of_length_le (by omega)] at this)
      have hfb := HFB.out
      rw [← HFF.out] at hfb
      have h4 : (3200001000000000 : Int) * (l.length : Int) ≤ 3200001000000000 * 4 := Int.mul_le_mul_of_nonneg_left (by omega) (by decide)
      have hF1 : 2 ≤ f := hfb.1
      have hF2 : f ≤ 12800004000000002 := by have := hfb.2.1; omega
      have hF3 : f * d ≤ 90000000000000000 := by
        have := hfb.2.2.2 hd2
        have h5 : (3300000000000000 : Int) * (l.length : Int) ≤ 3300000000000000 * 4 := Int.mul_le_mul_of_nonneg_left (by omega) (by decide)
        omega
      have HFS2 : Hid (Sg (extL den l (-f * d)) 1 ∧ Sg (extL den l (f * d)) (-1)) := Lib.hid (by rw [HFF.out]; exact HFS.out)
      clear HF hfb h4 hf0 hf1
      go_wp2_with fail
      go_loopw [7, 8, 9] (fun s7 s8 _ wr => ∃ lo hi : Int, s7 = .int .i64 lo ∧ s8 = .int .i64 hi ∧ -f ≤ lo ∧ lo < hi ∧ hi ≤ f ∧ Hid (∃ s, Sg (extL den l (lo * d)) s ∧ 0 ≤ s) ∧ Hid (Sg (extL den l (hi * d)) (-1)) ∧ Hid (Below W.heap.size W wr)) (fun s7 s8 _ _ => (intOf s8 - intOf s7).toNat)
      case atStart => exact ⟨-f, f, rfl, rfl, by omega, by omega, by omega, Lib.hid ⟨1, HFS2.out.1, by decide⟩, Lib.hid HFS2.out.2, HBW⟩
      case round =>
        clear HBW x0 x1 hs
        obtain ⟨lo, hi, rfl, rfl, h1, h2, h3, HLO, HHI, HBW⟩ := hrel
        have x0 := (HX.out.below HBW.out HX.out.lt).c0
        have x1 := (HX.out.below HBW.out HX.out.lt).c1
        have hs := (HX.out.below HBW.out HX.out.lt).lt
        obtain ⟨g, hg⟩ : ∃ g, hi - lo = g := ⟨_, rfl⟩
        have w1 : IntKind.i64.wrap g = g := IntWalk.i64_in _ (by omega)
        by_cases hgo : 1 < g
        · obtain ⟨h, hh⟩ : ∃ h, g / 2 = h := ⟨_, rfl⟩
          obtain ⟨mid, hmid⟩ : ∃ mid, lo + h = mid := ⟨_, rfl⟩
          have w2 : g.tdiv 2 = h := by rw [Int.tdiv_eq_ediv_of_nonneg (by omega)]; exact hh
          have w3 : IntKind.i64.wrap h = h := IntWalk.i64_in _ (by omega)
          have w4 : IntKind.i64.wrap mid = mid := IntWalk.i64_in _ (by omega)
          have hm1 : lo < mid := by omega
          have hm2 : mid < hi := by omega
          have hmd1 : mid * d ≤ f * d := Int.mul_le_mul_of_nonneg_right (by omega) (by omega)
          have hmd2 : -f * d ≤ mid * d := Int.mul_le_mul_of_nonneg_right (by omega) (by omega)
          rw [Int.neg_mul] at hmd2
          have HBS := Lib.hid (fun w0 h0 => beside_any d den mid (.slice ax l.length cx) l w0 h0 HV.out hden hden2 (by omega) (by omega) (by omega) (by omega))
          have HTr := Lib.hid (HT.out.below HBW.out)
          clear hmd1 hmd2
          go_wp2_with fail
          refine (HBS.out _ HTr.out).mono ?_
          rintro e w2 ⟨n, rfl, hsg, hb2⟩
          have HB2 := Lib.hid (HBW.out.trans (hb2.mono HBW.out.size))
          have HSG := Lib.hid hsg
          have hrg := hsg.range
          clear hsg hb2 x0 x1 hs
          by_cases hn : 0 ≤ n
          · have HLO2 : Hid (∃ s, Sg (extL den l (mid * d)) s ∧ 0 ≤ s) := Lib.hid ⟨n, HSG.out, hn⟩
            have hq : decide (0 ≤ n) = true := decide_eq_true hn
            go_wp2
            go_roundw
            case rel => exact ⟨mid, hi, rfl, rfl, by omega, hm2, h3, HLO2, HHI, HB2⟩
            case measure => simp [intOf]; omega
          · obtain rfl : n = -1 := by omega
            have HHI2 : Hid (Sg (extL den l (mid * d)) (-1)) := Lib.hid HSG.out
            clear hrg hn
            go_wp2
            go_roundw
            case rel => exact ⟨lo, mid, rfl, rfl, h1, hm1, by omega, HLO, HHI2, HB2⟩
            case measure => simp [intOf]; omega
        · have hge : hi = lo + 1 := by omega
          subst hge
          clear hg
          go_wp2
          go_ret
          have hmd1 : lo * d ≤ f * d := Int.mul_le_mul_of_nonneg_right (by omega) (by omega)
          have hmd2 : -f * d ≤ lo * d := Int.mul_le_mul_of_nonneg_right (by omega) (by omega)
          rw [Int.neg_mul] at hmd2
          obtain ⟨s, hs1, hs2⟩ := HLO.out
          exact ⟨lo, s, rfl, hs1, hs2, HHI.out, HB.out.trans (HBW.out.mono HB.out.size), by omega, by omega, by omega, by omega⟩
end Go.Proofs.YtedpafdfecofnaaGreatDoor
