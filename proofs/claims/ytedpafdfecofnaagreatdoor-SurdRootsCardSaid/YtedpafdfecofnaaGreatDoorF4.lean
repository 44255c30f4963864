/-
  Contracts of the program's own functions (and their plain mathematics), on the way to the law: each for all arguments that its hypotheses let.
-/
import Derived.Test.YtedpafdfecofnaaGreatDoorF3
import Derived.WalkKit
import Derived.WalkSpells
import Derived.WalkLawsBesides
import Derived.Deep.QuietTactic
import Derived.BigQuiet
import Derived.Lib.Hide
import Derived.WalkSmall
import Derived.Maps.OwnSet
import Derived.Maps.RangeWalk
import Derived.Deep.RegionWith
import Derived.Deep.RegionHeld3
import Derived.OneCell
import Derived.RangeFuncBox
set_option linter.unusedSimpArgs false
set_option linter.unusedVariables false

/-! ## S13 -/
namespace Go.Proofs.YtedpafdfecofnaaGreatDoor
open Go.RowKit Go.Maps
def conjAt (i : Nat) (t : Int × Int) : Int × Int := if i = 0 then t else (-t.1, t.2)
def sqAt (i : Nat) (t : Int × Int) : Int := if i = 0 then t.1 * t.1 * t.2 else -(t.1 * t.1 * t.2)
def conjL (l : List (Int × Int)) : List (Int × Int) := l.mapIdx conjAt
def normL (l : List (Int × Int)) : Int := (l.mapIdx sqAt).sum
theorem conjL_len (l : List (Int × Int)) : (conjL l).length = l.length := by simp [conjL]
theorem conjL_succ (l : List (Int × Int)) (k : Nat) (h : k < l.length) : conjL (l.take (k + 1)) = conjL (l.take k) ++ [conjAt k (l[k]?.getD (0, 0))] := by
  unfold conjL
  rw [List.take_succ_eq_append_getElem h, List.mapIdx_concat]
  simp [Nat.min_eq_left (Nat.le_of_lt h), h]
theorem normL_succ (l : List (Int × Int)) (k : Nat) (h : k < l.length) : normL (l.take (k + 1)) = normL (l.take k) + sqAt k (l[k]?.getD (0, 0)) := by
  unfold normL
  rw [List.take_succ_eq_append_getElem h, List.mapIdx_concat, List.sum_append]
  simp [Nat.min_eq_left (Nat.le_of_lt h), h]
theorem sq_bd2 (t : Int × Int) (h : (-100000 ≤ t.1 ∧ t.1 ≤ 100000) ∧ (1 ≤ t.2 ∧ t.2 ≤ 1000)) : 0 ≤ t.1 * t.1 ∧ t.1 * t.1 ≤ 10000000000 ∧ 0 ≤ t.1 * t.1 * t.2 ∧ t.1 * t.1 * t.2 ≤ 10000000000000 := by
  have a := mul_abs_le t.1 t.1 100000 100000 h.1.1 h.1.2 h.1.1 h.1.2
  have b : 0 ≤ t.1 * t.1 := by rcases Int.le_total 0 t.1 with h1 | h1
                               · exact Int.mul_nonneg h1 h1
                               · exact Int.mul_nonneg_of_nonpos_of_nonpos h1 h1
  have c := mul_abs_le (t.1 * t.1) t.2 10000000000 1000 (by omega) (by omega) (by omega) (by omega)
  have d := Int.mul_nonneg b (show 0 ≤ t.2 by omega)
  omega

theorem news2 (W : World) (o : Obj) (x y : Value) (T : TypeId) : ∀ j u, [x, y][j]? = some u → ((W.alloc o).alloc (.cells #[x, y] T)).cell? ((⟨W.heap.size + 1, 0, none⟩ : Addr).add j) = some u := by
  have := cell_two_new (W.alloc o) x y T
  simpa using this
def ConjTo (l : List (Int × Int)) (w : World) (e : Ending) (w' : World) : Prop :=
  ∃ v, e = .returned (.tuple #[v, .int .i64 (normL l)]) ∧ OwnT w' w.heap.size v (conjL l) ∧ Below w.heap.size w w'

set_option maxRecDepth 100000 in
set_option maxHeartbeats 2000000 in
theorem conjugate_any (v0 : Value) (l : List (Int × Int)) (w : World) (ht : TermsAt w v0 l) (hl : l.length ≤ 2) (hb : Hid (∀ t ∈ l, (-100000 ≤ t.1 ∧ t.1 ≤ 100000) ∧ (1 ≤ t.2 ∧ t.2 ≤ 1000))) :
    Calls Tryz.prog 61 #[v0] w (ConjTo l w) := by
  obtain ⟨ax, cx, rfl, px⟩ := ht.placed
  have PX := Lib.hid px
  clear ht px
  obtain ⟨i0, hi, hz0, hz1, hz2⟩ := info_parts info34
  go_enter Tryz.func61, Tryz.ntmps61
  go_wp2
  go_loopw [2, 3, 9] (fun v n i wr => ∃ k : Nat, k ≤ l.length ∧ i = .int .i64 k ∧ (∃ x, n = .int .i64 x ∧ -10000000000000 * (k : Int) ≤ x ∧ x ≤ 10000000000000 * (k : Int) ∧ Hid (x = normL (l.take k))) ∧ Hid (OwnT wr w.heap.size v (conjL (l.take k))) ∧ Hid (Below w.heap.size w wr)) (fun _ _ i _ => l.length - (intOf i).toNat)
  case atStart => exact ⟨0, Nat.zero_le _, rfl, ⟨0, rfl, by omega, by omega, Lib.hid rfl⟩, Lib.hid (World.ownsRow_nil _ _ _ _), Lib.hid (Below.refl _ _)⟩
  case round =>
    obtain ⟨k, hk, rfl, ⟨x, rfl, hx1, hx2, HX⟩, HO, HB⟩ := hrel
    by_cases hlt : k < l.length
    · obtain ⟨b, off, rfl, hbl, hc1, hc2⟩ := PX.out k hlt
      replace hc1 := (HB.out.cell (p := ⟨b, _, none⟩) hbl).trans hc1
      replace hc2 := (HB.out.cell (p := ⟨b, _, none⟩) hbl).trans hc2
      have hbd := hb.out (l[k]?.getD (0, 0)) (by simp [hlt])
      have hcs := conjL_succ l k hlt
      have hns := normL_succ l k hlt
      obtain ⟨c, r, hel⟩ : ∃ c r, l[k]?.getD (0, 0) = (c, r) := ⟨_, _, rfl⟩
      rw [hel] at hc1 hc2 hbd hcs hns
      have hsq := sq_bd2 (c, r) hbd
      dsimp only at hc1 hc2 hbd hsq
      obtain ⟨⟨hb1, hb2⟩, hb3, hb4⟩ := hbd
      obtain ⟨hs1, hs2, hs3, hs4⟩ := hsq
      have HCS := Lib.hid hcs
      have HNS := Lib.hid hns
      have hwsz := HB.out.size
      clear hel hcs hns
      have hcl : (conjL (l.take k)).length = k := by rw [conjL_len, List.length_take]; omega
      have hlenr : ∀ q, u2.ownBlock = some q → w.heap.size ≤ q := fun q hq => (HO.out.lt q hq).1
      have HLR := Lib.hid hlenr
      clear hlenr
      by_cases hk0 : k = 0
      · have hnk : (k : Int) ≤ 0 := by omega
        have HF : Hid (conjL (l.take (k + 1)) = conjL (l.take k) ++ [(c, r)] ∧ normL (l.take (k + 1)) = x + c * c * r) := Lib.hid (by rw [HCS.out, HNS.out, HX.out]; simp [conjAt, sqAt, hk0])
        have HOWN : Hid (∀ o1 o2, ((wr.alloc o1).alloc o2).ownsRow w.heap.size 34 2 u2 (conjL (l.take k)).length (flatT (conjL (l.take k)))) := Lib.hid (fun o1 o2 => World.ownsRow.alloc (World.ownsRow.alloc HO.out _) _)
        have hk9 := Lib.hid hk0
        clear hk0
        go_wp2_with (first | (at_builtin; refine wpList_append_own _ rfl _ _ 22 rfl w.heap.size 34 i0 (.agg #[.int .i64 0, .int .i64 0]) 2 16 und22 hi hz0 hz1 hz2 rfl (by decide) u2 (conjL (l.take k)).length (flatT (conjL (l.take k))) rfl (HOWN.out _ _) ⟨wr.heap.size + 1, 0, none⟩ 1 1 [.int .i64 c, .int .i64 r] rfl rfl (news2 _ _ _ _ _) (by simp [Value.oneCell']) (by unfold maxLen; omega) (by omega) (by simp; omega) ?_; intro v' w2 hown2 hgrow2 _; obtain ⟨g', cap', rfl⟩ := ownsRow_succ hown2; have HOW2 := Lib.hid hown2; have HGW2 := Lib.hid hgrow2; clear hown2 hgrow2))
        go_roundw
        case rel =>
          refine ⟨k + 1, by omega, by go_num, ⟨_, rfl, by omega, by omega, Lib.hid HF.out.2.symm⟩, Lib.hid ?_, Lib.hid ?_⟩
          · rw [HF.out.1]
            unfold OwnT
            have h2 := HOW2.out
            rw [flatT_snoc, List.length_append]
            rw [hcl] at h2 ⊢
            exact h2
          · exact ((HB.out.alloc HB.out.size _).alloc (by have := HB.out.size; simp; omega) _).grown HGW2.out (by have := HB.out.size; simp; omega) (fun q hq => HLR.out q hq)
        case measure => simp [intOf]; omega
      · have hnk : 0 < (k : Int) := by omega
        have hdk : decide (0 < (k : Int)) = true := by simpa using hnk
        have hk9 : Hid (k = 1) := Lib.hid (by omega)
        have HF : Hid (conjL (l.take (k + 1)) = conjL (l.take k) ++ [(-c, r)] ∧ normL (l.take (k + 1)) = x + -(c * c * r)) := Lib.hid (by rw [HCS.out, HNS.out, HX.out]; simp [conjAt, sqAt, hk0])
        have HOWN : Hid (∀ o1 o2, ((wr.alloc o1).alloc o2).ownsRow w.heap.size 34 2 u2 (conjL (l.take k)).length (flatT (conjL (l.take k)))) := Lib.hid (fun o1 o2 => World.ownsRow.alloc (World.ownsRow.alloc HO.out _) _)
        clear hk0
        go_wp2_with (first | (at_builtin; refine wpList_append_own _ rfl _ _ 22 rfl w.heap.size 34 i0 (.agg #[.int .i64 0, .int .i64 0]) 2 16 und22 hi hz0 hz1 hz2 rfl (by decide) u2 (conjL (l.take k)).length (flatT (conjL (l.take k))) rfl (HOWN.out _ _) ⟨wr.heap.size + 1, 0, none⟩ 1 1 [.int .i64 (-c), .int .i64 r] rfl rfl (news2 _ _ _ _ _) (by simp [Value.oneCell']) (by unfold maxLen; omega) (by omega) (by simp; omega) ?_; intro v' w2 hown2 hgrow2 _; obtain ⟨g', cap', rfl⟩ := ownsRow_succ hown2; have HOW2 := Lib.hid hown2; have HGW2 := Lib.hid hgrow2; clear hown2 hgrow2))
        go_roundw
        case rel =>
          refine ⟨k + 1, by omega, by go_num, ⟨_, rfl, by omega, by omega, Lib.hid HF.out.2.symm⟩, Lib.hid ?_, Lib.hid ?_⟩
          · rw [HF.out.1]
            unfold OwnT
            have h2 := HOW2.out
            rw [flatT_snoc, List.length_append]
            rw [hcl] at h2 ⊢
            exact h2
          · exact ((HB.out.alloc HB.out.size _).alloc (by have := HB.out.size; simp; omega) _).grown HGW2.out (by have := HB.out.size; simp; omega) (fun q hq => HLR.out q hq)
        case measure => simp [intOf]; omega
    · have hk : k = l.length := by omega
      have HE : Hid (OwnT wr w.heap.size u2 (conjL l) ∧ x = normL l) := Lib.hid (by
        have h1 := HO.out
        have h2 := HX.out
        rw [hk, List.take_length] at h1 h2
        exact ⟨h1, h2⟩)
      clear hk
      go_wp2
      go_ret2
      exact ⟨u2, congrArg (fun z => Ending.returned (.tuple #[u2, .int .i64 z])) HE.out.2, HE.out.1, HB.out⟩
end Go.Proofs.YtedpafdfecofnaaGreatDoor

/-! ## S14 -/
namespace Go.Proofs.YtedpafdfecofnaaGreatDoor
open Go.RowKit Go.Maps
/-- Two squares times numbers without squares: these are one. -/
theorem sqf_uniqN (a b u v : Nat) (ha : 1 ≤ a) (hb : 1 ≤ b) (h : a * a * u = b * b * v) (hu : ∀ e, 2 ≤ e → ¬ e * e ∣ u) (hv : ∀ e, 2 ≤ e → ¬ e * e ∣ v) : u = v ∧ a = b := by
  obtain ⟨g, a', b', hg, hcop, rfl, rfl⟩ : ∃ g a' b', 1 ≤ g ∧ Nat.Coprime a' b' ∧ a = g * a' ∧ b = g * b' := by
    have hg : 0 < Nat.gcd a b := Nat.gcd_pos_of_pos_left _ ha
    refine ⟨Nat.gcd a b, a / Nat.gcd a b, b / Nat.gcd a b, hg, Nat.coprime_div_gcd_div_gcd hg, ?_, ?_⟩
    · exact (Nat.mul_div_cancel' (Nat.gcd_dvd_left a b)).symm
    · exact (Nat.mul_div_cancel' (Nat.gcd_dvd_right a b)).symm
  have h2 : a' * a' * u = b' * b' * v := by
    have e : (g * g) * (a' * a' * u) = (g * g) * (b' * b' * v) := by
      have e1 : g * a' * (g * a') * u = (g * g) * (a' * a' * u) := by simp only [Nat.mul_assoc, Nat.mul_left_comm, Nat.mul_comm]
      have e2 : g * b' * (g * b') * v = (g * g) * (b' * b' * v) := by simp only [Nat.mul_assoc, Nat.mul_left_comm, Nat.mul_comm]
      rw [← e1, ← e2, h]
    exact Nat.eq_of_mul_eq_mul_left (Nat.mul_pos hg hg) e
  have ha' : a' ≠ 0 := by intro e; subst e; simp at ha
  have hb' : b' ≠ 0 := by intro e; subst e; simp at hb
  have hc1 : Nat.Coprime (b' * b') (a' * a') := (Nat.Coprime.mul_left hcop.symm hcop.symm).mul_right (Nat.Coprime.mul_left hcop.symm hcop.symm)
  have d1 : b' * b' ∣ u := hc1.dvd_of_dvd_mul_left ⟨v, h2⟩
  have d2 : a' * a' ∣ v := hc1.symm.dvd_of_dvd_mul_left ⟨u, h2.symm⟩
  have hb1 : b' = 1 := by
    rcases Nat.lt_or_ge b' 2 with h3 | h3
    · omega
    · exact absurd d1 (hu b' h3)
  have ha1 : a' = 1 := by
    rcases Nat.lt_or_ge a' 2 with h3 | h3
    · omega
    · exact absurd d2 (hv a' h3)
  subst hb1 ha1
  simp at h2
  exact ⟨h2, rfl⟩
theorem sqfN {r : Int} (h : SqF r) (hr : 1 ≤ r) : ∀ e : Nat, 2 ≤ e → ¬ e * e ∣ r.toNat := by
  intro e he hd
  have h2 : ((e : Int) * (e : Int)) ∣ r := by
    have := Int.natCast_dvd_natCast.2 hd
    rw [Int.toNat_of_nonneg (by omega)] at this
    simpa using this
  exact h e (by omega) h2
theorem normL_bd (l : List (Int × Int)) (hl : l.length ≤ 2) (h : ∀ t ∈ l, (-100000 ≤ t.1 ∧ t.1 ≤ 100000) ∧ (1 ≤ t.2 ∧ t.2 ≤ 1000)) : -20000000000000 ≤ normL l ∧ normL l ≤ 20000000000000 := by
  match l, hl with
  | [], _ => simp [normL]
  | [t], _ => have := sq_bd2 t (h t (by simp)); simp [normL, sqAt]; omega
  | [t, u], _ => have := sq_bd2 t (h t (by simp)); have := sq_bd2 u (h u (by simp)); simp [normL, sqAt]; omega
theorem normL_ne (d : Int) (l : List (Int × Int)) (hl : l.length ≤ 2) (h0 : l ≠ []) (h : Vld d l) : normL l ≠ 0 := by
  have key : ∀ t ∈ l, 1 ≤ t.1.natAbs ∧ t.1 * t.1 * t.2 = ((t.1.natAbs * t.1.natAbs * t.2.toNat : Nat) : Int) := by
    intro t ht
    have h1 := h.cf t ht
    have h2 := h.rt t ht
    refine ⟨by omega, ?_⟩
    rw [Int.natCast_mul, Int.natCast_mul, Int.natAbs_mul_self', Int.toNat_of_nonneg (by omega)]
  match l, hl with
  | [], _ => exact absurd rfl h0
  | [t], _ =>
    have k := key t (by simp)
    have h2 := h.rt t (by simp)
    simp only [normL, sqAt, List.mapIdx_cons, List.mapIdx_nil, List.sum_cons, List.sum_nil]
    simp only [if_true, Int.add_zero]
    rw [k.2]
    have : 0 < t.1.natAbs * t.1.natAbs * t.2.toNat := Nat.mul_pos (Nat.mul_pos k.1 k.1) (by omega)
    omega
  | [t, u], _ =>
    have k := key t (by simp)
    have k2 := key u (by simp)
    have h2 := h.rt t (by simp)
    have h3 := h.rt u (by simp)
    have ha := h.asc 1 (by omega) (by simp)
    simp at ha
    intro he
    simp [normL, sqAt] at he
    rw [k.2, k2.2] at he
    have he2 : t.1.natAbs * t.1.natAbs * t.2.toNat = u.1.natAbs * u.1.natAbs * u.2.toNat := by omega
    have := (sqf_uniqN _ _ _ _ k.1 k2.1 he2 (sqfN (h.sq t (by simp)) h2.1) (sqfN (h.sq u (by simp)) h3.1)).1
    omega

theorem conjL_pt (l : List (Int × Int)) (h : ∀ t ∈ l, (-100000 ≤ t.1 ∧ t.1 ≤ 100000) ∧ (1 ≤ t.2 ∧ t.2 ≤ 1000)) : ∀ t ∈ conjL l, (-100000 ≤ t.1 ∧ t.1 ≤ 100000) ∧ (1 ≤ t.2 ∧ t.2 ≤ 1000) := by
  intro t ht
  unfold conjL at ht
  obtain ⟨i, hi, rfl⟩ := List.mem_mapIdx.1 ht
  have := h l[i] (List.getElem_mem hi)
  unfold conjAt
  split
  · exact this
  · dsimp only; omega
def quoF (dx : Int) (lx : List (Int × Int)) (dy : Int) (ly : List (Int × Int)) (r : Int × List (Int × Int) × Int) : Prop :=
  if validF dx lx = true ∧ validF dy ly = true then if ly.length = 0 then r = (0, [], 7) else if 2 < ly.length then r = (0, [], 11) else ∃ l, IsTerms (plusC zeroC dy (prodL lx (conjL ly))) l ∧ r = finF (dx * normL ly) l else r = (0, [], 2)

set_option maxRecDepth 100000 in
set_option maxHeartbeats 2000000 in
theorem quo_any (hsort : Hid SortC) (dx dy : Int) (vx vy : Value) (lx ly : List (Int × Int)) (w : World) (hx : TermsAt w vx lx) (hy : TermsAt w vy ly) :
    Calls Tryz.prog 28 #[.agg #[.int .i64 dx, vx], .agg #[.int .i64 dy, vy]] w (NumP (quoF dx lx dy ly) w) := by
  have HX := Lib.hid hx
  have HY := Lib.hid hy
  clear hx hy
  go_enter Tryz.func28, Tryz.ntmps28
  go_wp2_with fail
  refine (valid_any dx vx lx _ (((HX.out.alloc _).alloc _).alloc _)).mono ?_
  rintro e w1 ⟨rfl, hb⟩
  have X1 : Two w1 w.heap.size (.int .i64 dx) vx 24 := (((Two.new w (.int .i64 dx) vx 24).alloc _).alloc _).below hb (by simp; omega)
  have Y1 : Two w1 (w.heap.size + 1) (.int .i64 dy) vy 24 := by
    have := ((Two.new (w.alloc (.cells #[.int .i64 dx, vx] 24)) (.int .i64 dy) vy 24).alloc (.cells #[.int .i64 0, .slice none 0 0] 24)).below hb (by simp)
    simpa using this
  have R1 : Two w1 (w.heap.size + 1 + 1) (.int .i64 0) (.slice none 0 0) 24 := by
    have := (Two.new ((w.alloc (.cells #[.int .i64 dx, vx] 24)).alloc (.cells #[.int .i64 dy, vy] 24)) (.int .i64 0) (.slice none 0 0) 24).below hb (by simp)
    simpa [Nat.add_assoc] using this
  have B1 : Below w.heap.size w w1 := ((((Below.refl _ _).alloc (Nat.le_refl _) _).alloc (by simp) _).alloc (by simp; omega) _).trans (hb.mono (by simp; omega))
  have XX := Lib.hid X1
  have YY := Lib.hid Y1
  have RR := Lib.hid R1
  have BB := Lib.hid B1
  have x0 := X1.c0
  have x1 := X1.c1
  have y0 := Y1.c0
  have y1 := Y1.c1
  have r0 := R1.c0
  have r1 := R1.c1
  have f0 := R1.fr (i := 0)
  have f1 := R1.fr (i := 1)
  clear hb X1 Y1 R1 B1
  cases hvx : validF dx lx
  · have HP : Hid (quoF dx lx dy ly (0, [], 2)) := Lib.hid (by simp [quoF, hvx])
    clear hvx
    go_wp2
    obtain ⟨d0, d1, d2, hg⟩ := two_after RR.out (.int .i64 0) (.slice none 0 0) rfl
    refine bodyPost_ret (v := .tuple #[.agg #[.int .i64 0, .slice none 0 0], .int .i64 2]) ?_ rfl ?_
    · simp [results, Tryz.results28, go_sem, d0, d1, d2]
    · exact ⟨_, HP.out, _, rfl, termsAt_nil _, BB.out.grown hg BB.out.size (by intro k hk; cases hk; omega), fun k hk => by cases hk⟩
  · have HVX := Lib.hid hvx
    clear hvx
    go_wp2_with fail
    refine (valid_any dy vy ly _ (HY.out.below BB.out)).mono ?_
    rintro e w2 ⟨rfl, hb⟩
    have X2 := XX.out.below hb XX.out.lt
    have Y2 := YY.out.below hb YY.out.lt
    have R2 := RR.out.below hb RR.out.lt
    have B2 := BB.out.trans (hb.mono BB.out.size)
    have XX2 := Lib.hid X2
    have YY2 := Lib.hid Y2
    have RR2 := Lib.hid R2
    have BB2 := Lib.hid B2
    clear x0 x1 y0 y1 r0 r1 f0 f1 XX YY RR
    have x0 := X2.c0
    have x1 := X2.c1
    have y0 := Y2.c0
    have y1 := Y2.c1
    have r0 := R2.c0
    have r1 := R2.c1
    have f0 := R2.fr (i := 0)
    have f1 := R2.fr (i := 1)
    clear hb X2 Y2 R2 B2
    cases hvy : validF dy ly
    · have HP : Hid (quoF dx lx dy ly (0, [], 2)) := Lib.hid (by simp [quoF, hvy])
      clear hvy
      go_wp2
      obtain ⟨d0, d1, d2, hg⟩ := two_after RR2.out (.int .i64 0) (.slice none 0 0) rfl
      refine bodyPost_ret (v := .tuple #[.agg #[.int .i64 0, .slice none 0 0], .int .i64 2]) ?_ rfl ?_
      · simp [results, Tryz.results28, go_sem, d0, d1, d2]
      · exact ⟨_, HP.out, _, rfl, termsAt_nil _, BB2.out.grown hg BB2.out.size (by intro k hk; cases hk; omega), fun k hk => by cases hk⟩
    · have VX := vld_of HVX.out
      have VY := vld_of hvy
      obtain ⟨ay, cy, rfl, _⟩ := HY.out.placed
      have HVX2 := Lib.hid VX
      have HVY2 := Lib.hid VY
      have HVY := Lib.hid hvy
      have hsz2 : w.heap.size + 1 + 1 < w2.heap.size := RR2.out.lt
      clear hvy
      by_cases hl0 : ly.length = 0
      · have HP : Hid (quoF dx lx dy ly (0, [], 7)) := Lib.hid (by simp only [quoF]; rw [if_pos ⟨HVX.out, HVY.out⟩, if_pos hl0]; trivial)
        have h7 : ((ly.length : Int) == 0) = true := by simp; exact List.length_eq_zero_iff.1 hl0
        clear VX VY
        have HL0 := Lib.hid hl0
        clear hl0
        go_wp2
        obtain ⟨d0, d1, d2, hg⟩ := two_after RR2.out (.int .i64 0) (.slice none 0 0) rfl
        refine bodyPost_ret (v := .tuple #[.agg #[.int .i64 0, .slice none 0 0], .int .i64 7]) ?_ rfl ?_
        · simp [results, Tryz.results28, go_sem, d0, d1, d2]
        · exact ⟨_, HP.out, _, rfl, termsAt_nil _, BB2.out.grown hg BB2.out.size (by intro k hk; cases hk; omega), fun k hk => by cases hk⟩
      · by_cases hl2 : 2 < ly.length
        · have HP : Hid (quoF dx lx dy ly (0, [], 11)) := Lib.hid (by simp only [quoF]; rw [if_pos ⟨HVX.out, HVY.out⟩, if_neg hl0, if_pos hl2]; trivial)
          have h7 : ((ly.length : Int) == 0) = false := by rw [beq_eq_false_iff_ne]; omega
          clear VX VY hl0
          go_wp2
          obtain ⟨d0, d1, d2, hg⟩ := two_after RR2.out (.int .i64 0) (.slice none 0 0) rfl
          refine bodyPost_ret (v := .tuple #[.agg #[.int .i64 0, .slice none 0 0], .int .i64 11]) ?_ rfl ?_
          · simp [results, Tryz.results28, go_sem, d0, d1, d2]
          · exact ⟨_, HP.out, _, rfl, termsAt_nil _, BB2.out.grown hg BB2.out.size (by intro k hk; cases hk; omega), fun k hk => by cases hk⟩
        · have HP : Hid (∀ l, IsTerms (plusC zeroC dy (prodL lx (conjL ly))) l → quoF dx lx dy ly (finF (dx * normL ly) l)) := Lib.hid (fun l hl => by simp only [quoF]; rw [if_pos ⟨HVX.out, HVY.out⟩, if_neg hl0, if_neg hl2]; exact ⟨l, hl, rfl⟩)
          have h7 : ((ly.length : Int) == 0) = false := by rw [beq_eq_false_iff_ne]; omega
          have hnl := normL_bd ly (by omega) (fun t ht => vld_pt VY t ht)
          have hn0 := normL_ne dy ly (by omega) (fun h => hl0 (by rw [h]; rfl)) VY
          have hcc := conjL_pt ly (fun t ht => vld_pt VY t ht)
          have hmd := mul_abs_le dx (normL ly) 100000 20000000000000 (by have := VX.d1; omega) VX.d2 hnl.1 hnl.2
          have hne : dx * normL ly ≠ 0 := Int.mul_ne_zero (by have := VX.d1; omega) hn0
          have hd3 := VY.d1
          have hd4 := VY.d2
          have hlen : (conjL ly).length = ly.length := conjL_len ly
          have HML : Hid ((100000 : Int) * (10000000000000 * ((lx.length * (conjL ly).length : Nat) : Int)) ≤ 9000000000000000000) := Lib.hid (by rw [hlen]; have : lx.length * ly.length ≤ 4 * 2 := Nat.mul_le_mul VX.len (by omega); omega)
          have hcb := prodC_bd (m := dy) (M := 100000) (lx := lx) (ly := conjL ly) (by omega) (by omega) (by omega) (by omega) HML.out (fun t ht => vld_pt VX t ht) hcc
          have HCX := Lib.hid (fun t ht => vld_pt VX t ht)
          have HCY := Lib.hid hcc
          have HCYY : Hid (∀ t ∈ ly, (-100000 ≤ t.1 ∧ t.1 ≤ 100000) ∧ (1 ≤ t.2 ∧ t.2 ≤ 1000)) := Lib.hid (fun t ht => vld_pt VY t ht)
          have HCB1 := Lib.hid hcb.1
          have HCB2 := Lib.hid hcb.2
          have HNE := Lib.hid hne
          have HLN := Lib.hid hlen
          generalize hnn : normL ly = nn at hnl hmd HNE HP
          have HNN := Lib.hid hnn
          obtain ⟨hmd1, hmd2⟩ := hmd
          obtain ⟨hnl1, hnl2⟩ := hnl
          have dm : DomM dx nn := by unfold DomM; omega
          have hp := domM_wrap
          clear hcb VX VY hl0 hcc hne hn0 hlen hnn
          go_wp2_with fail
          refine (conjugate_any _ ly _ (HY.out.below BB2.out) (by omega) HCYY).mono ?_
          rintro e w3 ⟨v3, rfl, ho3, hb3⟩
          rw [HNN.out]
          have HT3 : Hid (TermsAt w3 v3 (conjL ly)) := Lib.hid (ho3.at (by rw [HLN.out]; omega))
          have X3 := XX2.out.below hb3 XX2.out.lt
          have Y3 := YY2.out.below hb3 YY2.out.lt
          have R3 := RR2.out.below hb3 RR2.out.lt
          have B3 := BB2.out.trans (hb3.mono BB2.out.size)
          have XX3 := Lib.hid X3
          have YY3 := Lib.hid Y3
          have RR3 := Lib.hid R3
          have BB3 := Lib.hid B3
          clear x0 x1 y0 y1 r0 r1 f0 f1 XX2 YY2 RR2 ho3 hb3
          have x0 := X3.c0
          have x1 := X3.c1
          have y0 := Y3.c0
          have y1 := Y3.c1
          have r0 := R3.c0
          have r1 := R3.c1
          have f0 := R3.fr (i := 0)
          have f1 := R3.fr (i := 1)
          have hsz3 : w.heap.size + 1 + 1 < w3.heap.size := R3.lt
          clear X3 Y3 R3 B3
          go_wp2_with fail
          go_region_held3 (fun w' => w'.cell? ⟨w.heap.size, 0, none⟩ = some (.int .i64 dx) ∧ w'.cell? ⟨w.heap.size, 1, none⟩ = some vx ∧ w'.cell? ⟨w.heap.size + 1, 0, none⟩ = some (.int .i64 dy) ∧ w'.cell? ⟨w.heap.size + 1, 1, none⟩ = some (.slice ay ly.length cy))
            (first | exact ⟨(X5.kept (two_after R5 _ _ rfl).2.2.2 (fun e => by have := Option.some.inj e; omega)).c0, (X5.kept (two_after R5 _ _ rfl).2.2.2 (fun e => by have := Option.some.inj e; omega)).c1, (Y5.kept (two_after R5 _ _ rfl).2.2.2 (fun e => by have := Option.some.inj e; omega)).c0, (Y5.kept (two_after R5 _ _ rfl).2.2.2 (fun e => by have := Option.some.inj e; omega)).c1⟩ | exact ⟨X5.c0, X5.c1, Y5.c0, Y5.c1⟩ | exact ⟨X4.c0, X4.c1, Y4.c0, Y4.c1⟩ | (go_keep; done))
            (first
              | (go_at_call 60; refine (product_any dy 100000 vx v3 lx (conjL ly) _ (HX.out.below BB3.out).drew HT3.out.drew HVX2.out.len (by rw [HLN.out]; omega) (by omega) (by omega) (by omega) (by omega) HML.out HCX HCY).mono ?_; rintro e w4 ⟨B, rfl, ho4, hb4⟩; have X4 := Two.below (w := w3.drew) XX3.out hb4 XX3.out.lt; have Y4 := Two.below (w := w3.drew) YY3.out hb4 YY3.out.lt; have R4 := Two.below (w := w3.drew) RR3.out hb4 RR3.out.lt; have B4 := BB3.out.drew.trans (hb4.mono BB3.out.size))
              | (go_at_call 54; refine (finish_any hsort (dx * nn) B 1000 _ _ ho4 (Nat.le_refl _) (by omega) (by omega) HNE.out HCB1 HCB2).mono ?_; rintro e w5 ⟨l, hit, hlen, v, rfl, hta, hb5, hfr⟩; obtain ⟨a4, cap4, rfl, _⟩ := hta.placed; have X5 := X4.below hb5 X4.lt; have Y5 := Y4.below hb5 Y4.lt; have R5 := R4.below hb5 R4.lt; have B5 := B4.trans (hb5.mono B4.size); have r0 := R5.c0; have r1 := R5.c1; have f0 := R5.fr (i := 0); have f1 := R5.fr (i := 1)))
          go_wp2
          obtain ⟨d0, d1, d2, hg⟩ := two_after R5 (.int .i64 (finF (dx * nn) l).1) (.slice a4 (finF (dx * nn) l).2.1.length cap4) rfl
          refine bodyPost_ret (v := .tuple #[.agg #[.int .i64 (finF (dx * nn) l).1, .slice a4 (finF (dx * nn) l).2.1.length cap4], .int .i64 (finF (dx * nn) l).2.2]) ?_ rfl ?_
          · simp [results, Tryz.results28, go_sem, d0, d1, d2]
          · refine ⟨_, HP.out l hit, _, rfl, hta.kept hg ?_, B5.grown hg B5.size (by intro k hk; cases hk; omega), fun k hk => ?_⟩
            · cases hv : (Value.slice a4 (finF (dx * nn) l).2.1.length cap4).ownBlock with
              | none => exact .inl rfl
              | some k => right; have := hfr k hv; have := R4.lt; simp; omega
            · have := hfr k hk; have := R4.lt; omega

end Go.Proofs.YtedpafdfecofnaaGreatDoor
