/-
  Contracts of the program's own functions (and their plain mathematics), on the way to the law: each for all arguments that its hypotheses let.
-/
import Derived.Test.YtkjclafbpocabaaGreatDoorG25
import Derived.WalkKit
set_option linter.unusedSimpArgs false
set_option linter.unusedVariables false

/-! ## T8 -/
namespace Go.Proofs.YtkjclafbpocabaaGreatDoor
open Go.RowKit Go.Maps Go.Shelf Go.Sort

/-! What is divided is multiplied again. -/
theorem prod_rts' {lx ly : List (Int × Int)} (hx : ∀ t ∈ lx, Rt t.2) (hy : ∀ t ∈ ly, Rt t.2) : ∀ t ∈ prodL lx ly, Rt t.2 := by
  intro u hu
  unfold prodL at hu
  obtain ⟨a, ha, hu⟩ := List.mem_flatMap.1 hu
  obtain ⟨b, hb, rfl⟩ := List.mem_map.1 hu
  rw [mulT_eq]
  exact (hx a ha).r (hy b hb)
theorem conj_rts {l : List (Int × Int)} (h : ∀ t ∈ l, Rt t.2) : ∀ t ∈ conjL l, Rt t.2 := by
  intro t ht
  unfold conjL at ht
  obtain ⟨i, hi, rfl⟩ := List.mem_mapIdx.1 ht
  have := h l[i] (List.getElem_mem hi)
  unfold conjAt
  split <;> exact this
theorem gS_self {a : Int} (h : 1 ≤ a) : gS a a = a := by unfold gS; rw [Int.gcd_self]; omega
theorem rS_self {a : Int} (h : 1 ≤ a) : rS a a = 1 := by
  unfold rS
  rw [gS_self h, Int.ediv_self (by omega)]
  rfl
theorem gS_one (a : Int) : gS 1 a = 1 := by unfold gS; simp
theorem rS_one (a : Int) : rS 1 a = a := by unfold rS; rw [gS_one]; simp
/-- The conjugate times the number is the norm. -/
theorem conj_mul (l : List (Int × Int)) (hl : l.length ≤ 2) (h : ∀ t ∈ l, 1 ≤ t.2) (r : Int) : coefOf (prodL (conjL l) l) r = coefOf [(normL l, 1)] r := by
  match l, hl with
  | [], _ => simp [prodL, conjL, normL, coefOf]
  | [t], _ =>
    have ht := h t (by simp)
    have e : prodL (conjL [t]) [t] = [mulT t t] := by simp [prodL, conjL, conjAt]
    rw [e, mulT_eq, gS_self ht, rS_self ht]
    simp [normL, sqAt]
  | [t, u], _ =>
    have ht := h t (by simp)
    have hu := h u (by simp)
    have e : prodL (conjL [t, u]) [t, u] = [mulT t t, mulT t u, mulT (-u.1, u.2) t, mulT (-u.1, u.2) u] := by simp [prodL, conjL, conjAt]
    rw [e, mulT_eq, mulT_eq, mulT_eq, mulT_eq]
    dsimp only
    rw [gS_self ht, rS_self ht, gS_self hu, rS_self hu, gS_comm u.2 t.2, rS_comm u.2 t.2]
    simp only [coefOf_cons, coefOf_nil, normL, sqAt, List.mapIdx_cons, List.mapIdx_nil, List.sum_cons, List.sum_nil]
    by_cases h1 : (1 : Int) = r
    · by_cases h2 : rS t.2 u.2 = r
      · simp [h1, h2]; grind
      · simp [h1, h2]; grind
    · by_cases h2 : rS t.2 u.2 = r
      · simp [h1, h2]; grind
      · simp [h1, h2]
theorem one_mul_coef (N : Int) (l : List (Int × Int)) (r : Int) : coefOf (prodL [(N, 1)] l) r = N * coefOf l r := by
  have e : prodL [(N, 1)] l = mulS N l := by
    simp only [prodL, List.flatMap_cons, List.flatMap_nil, List.append_nil, mulS]
    refine List.map_congr_left fun t _ => ?_
    rw [mulT_eq]
    dsimp only
    rw [gS_one, rS_one, Int.mul_one]
  rw [e, coef_mulS]
theorem quo_err {dx dy : Int} {lx ly : List (Int × Int)} (hx : Vld dx lx) (hy : Vld dy ly) {q : Int × List (Int × Int) × Int} (h : quoF dx lx dy ly q) : (q.2.2 = 7 → ly.length = 0) ∧ (q.2.2 = 0 → ly.length ≠ 0) := by
  unfold quoF at h
  rw [if_pos ⟨hx.bool, hy.bool⟩] at h
  split at h
  · subst h; simp_all
  · rename_i h0
    split at h
    · subst h; simp
    · obtain ⟨m, hm, rfl⟩ := h
      refine ⟨fun e => ?_, fun _ => h0⟩
      unfold finF at e
      dsimp only at e
      split at e
      · simp at e
      · split at e <;> simp at e
/-- What is divided is multiplied again. -/
theorem quo_back {dx dy dr : Int} {lx ly lr : List (Int × Int)} (hx : Vld dx lx) (hy : Vld dy ly) (h : quoF dx lx dy ly (dr, lr, 0)) {q : Int × List (Int × Int) × Int} (h2 : mulF dr lr dy ly q) : q = (dx, lx, 0) ∧ Vld dr lr := by
  unfold quoF at h
  rw [if_pos ⟨hx.bool, hy.bool⟩] at h
  split at h
  · simp at h
  · rename_i h0
    split at h
    · simp at h
    · rename_i h3
      obtain ⟨m, hm, he⟩ := h
      have hl2 : ly.length ≤ 2 := by omega
      have hN := normL_ne dy ly hl2 (by intro e; rw [e] at h0; simp at h0) hy
      have nx : dx ≠ 0 := by have := hx.d1; omega
      have hden : dx * normL ly ≠ 0 := Int.mul_ne_zero nx hN
      have rC := conj_rts hy.rts
      have hm' : ∀ s, plusC zeroC dy (prodL lx (conjL ly)) s = dy * coefOf (prodL lx (conjL ly)) s := fun s => by simp [plusC, zeroC]
      obtain ⟨vr, er⟩ := fin_ok hden hm (fun t ht => by
        have a := (hm.2 t.1 t.2).1 ht
        rw [hm'] at a
        have hne : coefOf (prodL lx (conjL ly)) t.2 ≠ 0 := by
          intro e; rw [e] at a; simp at a; omega
        obtain ⟨u, hu, e⟩ := coefOf_ne hne
        rw [← e]; exact prod_rts' hx.rts rC u hu) he.symm
      refine ⟨mulF_of vr hy h2 hx fun s => ?_, vr⟩
      have a := prod_ratio (l := lr) (l' := mulS dy (prodL lx (conjL ly))) (A := dx * normL ly) (B := dr) (fun s => by rw [coef_mulS, er, hm']) ly s
      rw [prodL_mulS, prod_assoc hx.rts rC hy.rts] at a
      have b := prod_ratio (l := prodL (conjL ly) ly) (l' := [(normL ly, 1)]) (A := 1) (B := 1) (fun s => by rw [conj_mul ly hl2 (fun t ht => (hy.rt t ht).1)]) lx s
      rw [Int.mul_one, Int.mul_one, one_mul_coef] at b
      rw [b] at a
      apply Int.eq_of_mul_eq_mul_right hN
      generalize normL ly = N at *
      generalize coefOf (prodL lr ly) s = P at *
      generalize coefOf lx s = X at *
      clear h2 hm he hm' er b
      calc X * (dr * dy) * N = dy * (N * X) * dr := by grind
        _ = P * (dx * N) := by rw [a]
        _ = P * dx * N := by grind
end Go.Proofs.YtkjclafbpocabaaGreatDoor

/-! ## U1 -/
namespace Go.Proofs.YtkjclafbpocabaaGreatDoor
open Go.RowKit Go.Maps Go.Shelf Go.Sort

/-! The order of sums of roots, by their approximations. -/
def qZ (D : Nat) (r : Int) : Int := qD D r.toNat
def SQ (D : Nat) (l : List (Int × Int)) : Int := lin (qZ D) l
theorem qZ_up (D : Nat) (r : Int) : 2 * qZ D r ≤ qZ (D + 1) r ∧ qZ (D + 1) r ≤ 2 * qZ D r + 1 := by
  have h := fQ_up D r
  unfold fQ1 at h
  unfold qZ qD
  unfold fQ at h
  omega
theorem SQ_cons (D : Nat) (t : Int × Int) (l : List (Int × Int)) : SQ D (t :: l) = t.1 * qZ D t.2 + SQ D l := lin_cons _ _ _
theorem SQ_append (D : Nat) (l m : List (Int × Int)) : SQ D (l ++ m) = SQ D l + SQ D m := lin_append _ _ _
theorem SQ_mulS (D : Nat) (a : Int) (l : List (Int × Int)) : SQ D (mulS a l) = a * SQ D l := lin_mulS _ _ _
theorem absS_nonneg (l : List (Int × Int)) : 0 ≤ absS l := Tw.sumA_nonneg _
theorem sq_step (D : Nat) (l : List (Int × Int)) : 2 * SQ D l - absS l ≤ SQ (D + 1) l ∧ SQ (D + 1) l ≤ 2 * SQ D l + absS l := by
  induction l with
  | nil => exact ⟨by show 2 * (0 : Int) - 0 ≤ 0; omega, by show (0 : Int) ≤ 2 * 0 + 0; omega⟩
  | cons t l ih =>
    rw [SQ_cons, SQ_cons, absS_cons]
    have h := qZ_up D t.2
    obtain ⟨δ, hδ, e⟩ : ∃ δ : Int, (δ = 0 ∨ δ = 1) ∧ qZ (D + 1) t.2 = 2 * qZ D t.2 + δ := ⟨qZ (D + 1) t.2 - 2 * qZ D t.2, by omega, by omega⟩
    rw [e]
    have e2 : t.1 * (2 * qZ D t.2 + δ) = 2 * (t.1 * qZ D t.2) + t.1 * δ := by grind
    rw [e2]
    rcases hδ with rfl | rfl
    · simp only [Int.mul_zero]; omega
    · simp only [Int.mul_one]; omega
theorem sq_grow (D k : Nat) (l : List (Int × Int)) (h : absS l < SQ D l) : absS l + 2 ^ k ≤ SQ (D + k) l := by
  induction k with
  | zero => simp; omega
  | succ k ih =>
    have := (sq_step (D + k) l).1
    rw [← Nat.add_assoc, Int.pow_succ]
    omega
/-- Above 0: some approximation shows it. -/
def Pos (l : List (Int × Int)) : Prop := ∃ D, absS l < SQ D l
theorem Pos.big {l : List (Int × Int)} (h : Pos l) : ∃ D0, ∀ k, (2 : Int) ^ k ≤ SQ (D0 + k) l := by
  obtain ⟨D, h⟩ := h
  exact ⟨D, fun k => by have := sq_grow D k l h; have := absS_nonneg l; omega⟩
theorem two_big (M : Int) : ∃ k : Nat, M < (2 : Int) ^ k := by
  refine ⟨M.toNat, ?_⟩
  have h : M.toNat < 2 ^ M.toNat := Nat.lt_two_pow_self
  have h2 : ((M.toNat : Nat) : Int) < ((2 ^ M.toNat : Nat) : Int) := Int.ofNat_lt.2 h
  rw [Int.natCast_pow] at h2
  have : ((2 : Nat) : Int) = 2 := rfl
  rw [this] at h2
  omega
theorem pow2_pos (k : Nat) : (1 : Int) ≤ 2 ^ k := Tw.pow_pos' (by decide) k
theorem SQ_ratio {l m : List (Int × Int)} {A B : Int} (h : ∀ r, coefOf l r * A = coefOf m r * B) (D : Nat) : SQ D l * A = SQ D m * B := lin_ratio _ h
theorem Pos.ratio {l m : List (Int × Int)} (h : Pos l) {A B : Int} (hA : 0 < A) (hB : 0 < B) (e : ∀ r, coefOf l r * A = coefOf m r * B) : Pos m := by
  obtain ⟨D0, h0⟩ := h.big
  obtain ⟨k, hk⟩ := two_big (absS m * B)
  refine ⟨D0 + k, ?_⟩
  have h1 := h0 k
  have h2 := SQ_ratio e (D0 + k)
  have h3 : SQ (D0 + k) l ≤ SQ (D0 + k) l * A := by
    have := Int.mul_le_mul_of_nonneg_left (show 1 ≤ A by omega) (show 0 ≤ SQ (D0 + k) l by have := pow2_pos k; omega)
    omega
  have h4 : absS m * B < SQ (D0 + k) m * B := by omega
  exact Int.lt_of_mul_lt_mul_right h4 (by omega)
theorem Pos.add {l m : List (Int × Int)} (h : Pos l) (g : Pos m) : Pos (l ++ m) := by
  obtain ⟨D1, h1⟩ := h.big
  obtain ⟨D2, h2⟩ := g.big
  obtain ⟨k, hk⟩ := two_big (absS (l ++ m))
  refine ⟨D1 + (D2 + k), ?_⟩
  rw [SQ_append]
  have a1 := h1 (D2 + k)
  have a2 := h2 (D1 + k)
  have e : D2 + (D1 + k) = D1 + (D2 + k) := by omega
  rw [e] at a2
  have b1 : (2 : Int) ^ k ≤ 2 ^ (D2 + k) := by
    rw [Int.pow_add]
    have := Int.mul_le_mul_of_nonneg_right (pow2_pos D2) (show (0 : Int) ≤ 2 ^ k by have := pow2_pos k; omega)
    omega
  have b2 := pow2_pos (D1 + k)
  omega
theorem Pos.not_neg {l : List (Int × Int)} (h : Pos l) : ¬ Pos (mulS (-1) l) := by
  intro g
  obtain ⟨D1, h1⟩ := h.big
  obtain ⟨D2, h2⟩ := g.big
  have a1 := h1 D2
  have a2 := h2 D1
  rw [SQ_mulS, Nat.add_comm] at a2
  have := pow2_pos D1
  have := pow2_pos D2
  omega
theorem Pos.not_zero {l : List (Int × Int)} (h : Pos l) : ¬ ∀ r, coefOf l r = 0 := by
  intro g
  obtain ⟨D, h⟩ := h
  have : SQ D l = 0 := lin_zero _ _ l (Nat.le_refl _) g
  have := absS_nonneg l
  omega

/-! Products. -/
theorem wD_le (n : Nat) : wD n ≤ n + 1 := by
  unfold wD
  have := (isq_spec n).1
  have : isq n ≤ n := by
    apply Classical.byContradiction
    intro hc
    have h2 := Nat.mul_le_mul (show n + 1 ≤ isq n by omega) (show 1 ≤ isq n by omega)
    omega
  omega
theorem le_isq {a n : Nat} (h : a * a ≤ n) : a ≤ isq n := by
  have h2 := (isq_spec n).2
  apply Classical.byContradiction
  intro hc
  have := Nat.mul_le_mul (show isq n + 1 ≤ a by omega) (show isq n + 1 ≤ a by omega)
  omega
/-- The root of g * g * r is g times that of r, but for less than g. -/
theorem qD_sq (D g r : Nat) : (g : Int) * qD D r ≤ qD D (g * g * r) ∧ qD D (g * g * r) ≤ g * qD D r + g := by
  unfold qD
  have h1 := isq_spec (r * 4 ^ D)
  have e : g * g * r * 4 ^ D = g * g * (r * 4 ^ D) := Nat.mul_assoc _ _ _
  rw [e]
  generalize r * 4 ^ D = N at *
  obtain ⟨h1, h2⟩ := h1
  have a1 : g * isq N ≤ isq (g * g * N) := le_isq (by
    have h4 := Nat.mul_le_mul_left (g * g) h1
    have e2 : g * isq N * (g * isq N) = g * g * (isq N * isq N) := by grind
    omega)
  have a2 : isq (g * g * N) ≤ g * isq N + g := isq_le (by
    have h4 := Nat.mul_le_mul_left (g * g) (Nat.le_of_lt h2)
    have e2 : (g * isq N + g) * (g * isq N + g) = g * g * ((isq N + 1) * (isq N + 1)) := by grind
    omega)
  rw [← Int.natCast_mul, ← Int.natCast_add]
  exact ⟨Int.ofNat_le.2 a1, Int.ofNat_le.2 a2⟩
/-- The approximation of a product of two terms. -/
theorem term_mul (t u : Int × Int) (ht : 1 ≤ t.2) (hu : 1 ≤ u.2) : ∃ C : Int, ∀ D : Nat, Tw.Bd (t.1 * qZ D t.2 * (u.1 * qZ D u.2) - 2 ^ D * ((mulT t u).1 * qZ D (mulT t u).2)) (C * 2 ^ D) := by
  obtain ⟨c, a⟩ := t
  obtain ⟨d, b⟩ := u
  obtain ⟨a, rfl⟩ : ∃ n : Nat, a = n := ⟨a.toNat, by dsimp only at ht; omega⟩
  obtain ⟨b, rfl⟩ : ∃ n : Nat, b = n := ⟨b.toNat, by dsimp only at hu; omega⟩
  rw [mulT_eq]
  dsimp only
  have eg := gr_nat b a
  rw [gS_comm, rS_comm, gS_nat, rS_nat]
  generalize hg : Nat.gcd b a = g at *
  generalize hr : b / g * (a / g) = r at *
  obtain ⟨W, hW⟩ : ∃ W : Int, W = (a : Int) + b + 1 := ⟨_, rfl⟩
  refine ⟨((c * d).natAbs : Int) * ((2 * W + 1) + g), fun D => ?_⟩
  have h1 := Tw.appr_mul (appr_D D) (appr_up D) a b W (by omega) (by have := wD_le a; omega) (by have := wD_le b; omega)
  rw [← eg] at h1
  have h2 := qD_sq D g r
  have hX := pow2_pos D
  have h3 : Tw.Bd (qD D a * qD D b - 2 ^ D * (g * qD D r)) (((2 * W + 1) + g) * 2 ^ D) := by
    have i1 := Int.mul_le_mul_of_nonneg_left h2.1 (show (0 : Int) ≤ 2 ^ D by omega)
    have i2 := Int.mul_le_mul_of_nonneg_left h2.2 (show (0 : Int) ≤ 2 ^ D by omega)
    have e1 : (2 : Int) ^ D * ((g : Int) * qD D r + g) = 2 ^ D * (g * qD D r) + g * 2 ^ D := by grind
    have e2 : ((2 * W + 1) + (g : Int)) * 2 ^ D = (2 * W + 1) * 2 ^ D + g * 2 ^ D := by grind
    have i3 : (0 : Int) ≤ g * 2 ^ D := Int.mul_nonneg (by omega) (by omega)
    rw [e1] at i2
    unfold Tw.Bd at *
    rw [e2]
    generalize (2 : Int) ^ D * ((g : Int) * qD D r) = p at *
    generalize (2 : Int) ^ D * qD D (g * g * r) = p2 at *
    generalize qD D a * qD D b = q at *
    generalize (g : Int) * 2 ^ D = y at *
    generalize (2 * W + 1) * 2 ^ D = z at *
    omega
  have h4 := (Tw.Bd.self (c * d)).mul h3
  have e3 : c * qZ D (a : Int) * (d * qZ D (b : Int)) - 2 ^ D * (c * d * (g : Int) * qZ D (r : Int)) = c * d * (qD D a * qD D b - 2 ^ D * (g * qD D r)) := by
    show c * qD D (a : Int).toNat * (d * qD D (b : Int).toNat) - 2 ^ D * (c * d * (g : Int) * qD D (r : Int).toNat) = _
    rw [Int.toNat_natCast, Int.toNat_natCast, Int.toNat_natCast]
    grind
  rw [e3, Int.mul_assoc ((c * d).natAbs : Int)]
  exact h4
theorem prod_near (l m : List (Int × Int)) (hl : ∀ t ∈ l, 1 ≤ t.2) (hm : ∀ t ∈ m, 1 ≤ t.2) : ∃ C : Int, ∀ D : Nat, Tw.Bd (SQ D l * SQ D m - 2 ^ D * SQ D (prodL l m)) (C * 2 ^ D) := by
  induction l with
  | nil => exact ⟨0, fun D => by
      have e : SQ D [] = 0 := rfl
      have e2 : SQ D (prodL [] m) = 0 := rfl
      rw [e, e2]; simp [Tw.Bd]⟩
  | cons t l ih =>
    obtain ⟨C1, h1⟩ := ih (fun u hu => hl u (by simp [hu]))
    have key : ∃ C : Int, ∀ D : Nat, Tw.Bd (t.1 * qZ D t.2 * SQ D m - 2 ^ D * SQ D (m.map (mulT t))) (C * 2 ^ D) := by
      clear ih h1
      induction m with
      | nil => exact ⟨0, fun D => by
          have e : SQ D [] = 0 := rfl
          rw [List.map_nil, e]; simp [Tw.Bd]⟩
      | cons u m ih =>
        obtain ⟨C2, h2⟩ := ih (fun v hv => hm v (by simp [hv]))
        obtain ⟨C3, h3⟩ := term_mul t u (hl t (by simp)) (hm u (by simp))
        refine ⟨C3 + C2, fun D => ?_⟩
        have := (h3 D).add (h2 D)
        rw [List.map_cons, SQ_cons, SQ_cons]
        have e : t.1 * qZ D t.2 * (u.1 * qZ D u.2 + SQ D m) - 2 ^ D * ((mulT t u).1 * qZ D (mulT t u).2 + SQ D (m.map (mulT t))) = t.1 * qZ D t.2 * (u.1 * qZ D u.2) - 2 ^ D * ((mulT t u).1 * qZ D (mulT t u).2) + (t.1 * qZ D t.2 * SQ D m - 2 ^ D * SQ D (m.map (mulT t))) := by grind
        rw [e, Int.add_mul]
        exact this
    obtain ⟨C2, h2⟩ := key
    refine ⟨C2 + C1, fun D => ?_⟩
    have := (h2 D).add (h1 D)
    have ep : prodL (t :: l) m = m.map (mulT t) ++ prodL l m := by simp [prodL]
    rw [ep, SQ_cons, SQ_append]
    have e : (t.1 * qZ D t.2 + SQ D l) * SQ D m - 2 ^ D * (SQ D (m.map (mulT t)) + SQ D (prodL l m)) = t.1 * qZ D t.2 * SQ D m - 2 ^ D * SQ D (m.map (mulT t)) + (SQ D l * SQ D m - 2 ^ D * SQ D (prodL l m)) := by grind
    rw [e, Int.add_mul]
    exact this
theorem Pos.mul {l m : List (Int × Int)} (h : Pos l) (g : Pos m) (hl : ∀ t ∈ l, 1 ≤ t.2) (hm : ∀ t ∈ m, 1 ≤ t.2) : Pos (prodL l m) := by
  obtain ⟨D1, h1⟩ := h.big
  obtain ⟨D2, h2⟩ := g.big
  obtain ⟨C, hC⟩ := prod_near l m hl hm
  obtain ⟨k, hk⟩ := two_big ((absS (prodL l m) + C) * 2 ^ (D1 + D2))
  refine ⟨D1 + D2 + k, ?_⟩
  have a1 := h1 (D2 + k)
  have a2 := h2 (D1 + k)
  rw [show D1 + (D2 + k) = D1 + D2 + k by omega] at a1
  rw [show D2 + (D1 + k) = D1 + D2 + k by omega] at a2
  have a3 := (hC (D1 + D2 + k)).2
  have pk := pow2_pos k
  have p1 := pow2_pos D1
  have p2 := pow2_pos D2
  have b1 : (2 : Int) ^ k ≤ SQ (D1 + D2 + k) l := by
    rw [Int.pow_add] at a1
    have := Int.mul_le_mul_of_nonneg_right p2 (show (0 : Int) ≤ 2 ^ k by omega)
    omega
  have b2 : (2 : Int) ^ k ≤ SQ (D1 + D2 + k) m := by
    rw [Int.pow_add] at a2
    have := Int.mul_le_mul_of_nonneg_right p1 (show (0 : Int) ≤ 2 ^ k by omega)
    omega
  have b3 := Int.mul_le_mul b1 b2 (by omega) (by omega)
  rw [Int.pow_add 2 (D1 + D2) k] at a3
  have pE := pow2_pos (D1 + D2)
  generalize SQ (D1 + D2 + k) l * SQ (D1 + D2 + k) m = S at *
  generalize SQ (D1 + D2 + k) (prodL l m) = P at *
  generalize absS (prodL l m) = A at *
  generalize (2 : Int) ^ (D1 + D2) = E at *
  generalize (2 : Int) ^ k = K at *
  -- K * K <= S, S - E * K * P <= C * (E * K), (A + C) * E < K
  have c1 : K * K ≤ (C * E + E * P) * K := by
    have : (C * E + E * P) * K = C * (E * K) + E * K * P := by grind
    omega
  have c2 : K ≤ C * E + E * P := Int.le_of_mul_le_mul_right c1 (by omega)
  have c3 : A * E < P * E := by
    have e1 : (A + C) * E = A * E + C * E := by grind
    have e2 : P * E = E * P := Int.mul_comm _ _
    omega
  exact Int.lt_of_mul_lt_mul_right c3 (by omega)

/-- The sign of a sum of roots. -/
def Sg (l : List (Int × Int)) (n : Int) : Prop := (n = 1 ∧ Pos l) ∨ (n = -1 ∧ Pos (mulS (-1) l)) ∨ (n = 0 ∧ ∀ r, coefOf l r = 0)
theorem Sg.uniq {l : List (Int × Int)} {n k : Int} (h : Sg l n) (g : Sg l k) : n = k := by
  have hz : Pos (mulS (-1) l) → ¬ ∀ r, coefOf l r = 0 := fun p q => p.not_zero fun r => by rw [coef_mulS, q]; rfl
  rcases h with ⟨rfl, h⟩ | ⟨rfl, h⟩ | ⟨rfl, h⟩ <;> rcases g with ⟨rfl, g⟩ | ⟨rfl, g⟩ | ⟨rfl, g⟩
  · rfl
  · exact absurd g h.not_neg
  · exact absurd g h.not_zero
  · exact absurd h g.not_neg
  · rfl
  · exact absurd g (hz h)
  · exact absurd h g.not_zero
  · exact absurd h (hz g)
  · rfl
theorem Sg.ratio {l m : List (Int × Int)} {n : Int} (h : Sg l n) {A B : Int} (hA : 0 < A) (hB : 0 < B) (e : ∀ r, coefOf l r * A = coefOf m r * B) : Sg m n := by
  rcases h with ⟨rfl, h⟩ | ⟨rfl, h⟩ | ⟨rfl, h⟩
  · exact .inl ⟨rfl, h.ratio hA hB e⟩
  · exact .inr (.inl ⟨rfl, h.ratio hA hB (fun r => by rw [coef_mulS, coef_mulS, Int.mul_assoc, e, Int.mul_assoc])⟩)
  · refine .inr (.inr ⟨rfl, fun r => ?_⟩)
    have := e r
    rw [h r, Int.zero_mul] at this
    rcases Int.mul_eq_zero.1 this.symm with h | h
    · exact h
    · omega
theorem Sg.neg {l : List (Int × Int)} {n : Int} (h : Sg l n) : Sg (mulS (-1) l) (-n) := by
  rcases h with ⟨rfl, h⟩ | ⟨rfl, h⟩ | ⟨rfl, h⟩
  · exact .inr (.inl ⟨rfl, h.ratio (A := 1) (B := 1) (by decide) (by decide) fun r => by rw [coef_mulS, coef_mulS]; grind⟩)
  · exact .inl ⟨by decide, h⟩
  · exact .inr (.inr ⟨by decide, fun r => by rw [coef_mulS, h]; rfl⟩)
theorem Sg.add {l m : List (Int × Int)} {n : Int} (h : Sg l n) (g : Sg m n) : Sg (l ++ m) n := by
  rcases h with ⟨rfl, h⟩ | ⟨rfl, h⟩ | ⟨rfl, h⟩
  · rcases g with ⟨_, g⟩ | ⟨e, _⟩ | ⟨e, _⟩
    · exact .inl ⟨rfl, h.add g⟩
    · cases e
    · cases e
  · rcases g with ⟨e, _⟩ | ⟨_, g⟩ | ⟨e, _⟩
    · cases e
    · exact .inr (.inl ⟨rfl, (h.add g).ratio (A := 1) (B := 1) (by decide) (by decide) fun r => by rw [coef_append, coef_mulS, coef_mulS, coef_mulS, coef_append]; grind⟩)
    · cases e
  · rcases g with ⟨e, _⟩ | ⟨e, _⟩ | ⟨_, g⟩
    · cases e
    · cases e
    · exact .inr (.inr ⟨rfl, fun r => by rw [coef_append, h, g]; rfl⟩)
theorem mulS_pt {a : Int} {l : List (Int × Int)} (h : ∀ t ∈ l, 1 ≤ t.2) : ∀ t ∈ mulS a l, 1 ≤ t.2 := by
  intro t ht
  obtain ⟨u, hu, rfl⟩ := List.mem_map.1 ht
  exact h u hu
theorem prodL_mulS_r (a : Int) (l m : List (Int × Int)) (r : Int) : coefOf (prodL l (mulS a m)) r = a * coefOf (prodL l m) r := by
  rw [prod_comm, prodL_mulS, prod_comm]
theorem Sg.mul {l m : List (Int × Int)} {n k : Int} (h : Sg l n) (g : Sg m k) (hl : ∀ t ∈ l, Rt t.2) (hm : ∀ t ∈ m, Rt t.2) : Sg (prodL l m) (n * k) := by
  have l1 : ∀ t ∈ l, 1 ≤ t.2 := fun t ht => (hl t ht).1
  have m1 : ∀ t ∈ m, 1 ≤ t.2 := fun t ht => (hm t ht).1
  have e1 : ∀ r, coefOf (prodL (mulS (-1) l) m) r * 1 = coefOf (mulS (-1) (prodL l m)) r * 1 := fun r => by rw [prodL_mulS, coef_mulS]
  have e2 : ∀ r, coefOf (prodL l (mulS (-1) m)) r * 1 = coefOf (mulS (-1) (prodL l m)) r * 1 := fun r => by rw [prodL_mulS_r, coef_mulS]
  have e3 : ∀ r, coefOf (prodL (mulS (-1) l) (mulS (-1) m)) r * 1 = coefOf (prodL l m) r * 1 := fun r => by
    rw [prodL_mulS, prodL_mulS_r]; grind
  rcases h with ⟨rfl, h⟩ | ⟨rfl, h⟩ | ⟨rfl, h⟩
  · rcases g with ⟨rfl, g⟩ | ⟨rfl, g⟩ | ⟨rfl, g⟩
    · exact .inl ⟨rfl, h.mul g l1 m1⟩
    · exact .inr (.inl ⟨rfl, (h.mul g l1 (mulS_pt m1)).ratio (by decide) (by decide) e2⟩)
    · refine .inr (.inr ⟨rfl, fun r => ?_⟩)
      have := prod_ratio (l := m) (l' := []) (A := 1) (B := 1) (fun r => by rw [g r]; rfl) l r
      rw [Int.mul_one, Int.mul_one] at this
      rw [prod_comm, this]; rfl
  · rcases g with ⟨rfl, g⟩ | ⟨rfl, g⟩ | ⟨rfl, g⟩
    · exact .inr (.inl ⟨rfl, (h.mul g (mulS_pt l1) m1).ratio (by decide) (by decide) e1⟩)
    · exact .inl ⟨rfl, (h.mul g (mulS_pt l1) (mulS_pt m1)).ratio (by decide) (by decide) e3⟩
    · refine .inr (.inr ⟨rfl, fun r => ?_⟩)
      have := prod_ratio (l := m) (l' := []) (A := 1) (B := 1) (fun r => by rw [g r]; rfl) l r
      rw [Int.mul_one, Int.mul_one] at this
      rw [prod_comm, this]; rfl
  · refine .inr (.inr ⟨by simp, fun r => ?_⟩)
    have := prod_ratio (l := l) (l' := []) (A := 1) (B := 1) (fun r => by rw [h r]; rfl) m r
    rw [Int.mul_one, Int.mul_one] at this
    rw [this]; rfl
end Go.Proofs.YtkjclafbpocabaaGreatDoor

/-! ## U2 -/
namespace Go.Proofs.YtkjclafbpocabaaGreatDoor
open Go.RowKit Go.Maps Go.Shelf Go.Sort

/-! The order of numbers. -/
theorem coll_coef {c : Int → Int} {ts : List (Int × Int)} (h : IsColl c ts) (r : Int) : coefOf ts r = c r := by
  by_cases hr : c r = 0
  · rw [hr]
    apply Classical.byContradiction
    intro hn
    obtain ⟨t, ht, e⟩ := coefOf_ne hn
    have := h.2.1 t ht
    rw [e, hr] at this
    exact this.2 this.1.symm
  · exact coefOf_in h.1 (h.2.2 r hr)
theorem SQ_enc (D : Nat) (ts : List (Int × Int)) : SQ D ts = (encP (fQ D) ts : Int) - (encN (fQ D) ts : Int) := by
  rw [← sumQ_enc]
  induction ts with
  | nil => rfl
  | cons t ts ih =>
    rw [SQ_cons, ih]; rfl
theorem fine_sg {ts : List (Int × Int)} (h : Fine ts) : Sg ts (sgnZ ts) := by
  unfold sgnZ
  by_cases hne : ts = []
  · subst hne
    exact .inr (.inr ⟨rfl, fun r => rfl⟩)
  · rw [if_neg hne]
    have h1 := fine_far h hne
    rw [sumQ_enc, ← SQ_enc] at h1
    have h2 := enc_one 6656 ts
    have h3 : encP (fQ 6656) ts ≤ encP (fQ1 6656) ts := encP_lt (fQ 6656) ts
    have h4 : encN (fQ 6656) ts ≤ encN (fQ1 6656) ts := encN_lt (fQ 6656) ts
    have h5 := SQ_enc 6656 ts
    have h6 := absS_nonneg ts
    have h7 : absS (mulS (-1) ts) = absS ts := by
      clear h1 h2 h3 h4 h5 h6 h hne
      induction ts with
      | nil => rfl
      | cons t ts ih =>
        have e : mulS (-1) (t :: ts) = (-1 * t.1, t.2) :: mulS (-1) ts := rfl
        rw [e, absS_cons, absS_cons, ih]
        dsimp only
        omega
    unfold sgnL
    split
    · exact .inl ⟨rfl, 6656, by omega⟩
    · exact .inr (.inl ⟨rfl, 6656, by rw [SQ_mulS, h7]; omega⟩)
/-- The difference of two numbers, multiplied with both denominators. -/
def difL (dx : Int) (lx : List (Int × Int)) (dy : Int) (ly : List (Int × Int)) : List (Int × Int) := mulS dy lx ++ mulS (-dx) ly
theorem difL_coef (dx dy : Int) (lx ly : List (Int × Int)) (r : Int) : coefOf (difL dx lx dy ly) r = dy * coefOf lx r - dx * coefOf ly r := by
  unfold difL
  rw [coef_append, coef_mulS, coef_mulS]
  grind
theorem difL_rts {dx dy : Int} {lx ly : List (Int × Int)} (hx : ∀ t ∈ lx, Rt t.2) (hy : ∀ t ∈ ly, Rt t.2) : ∀ t ∈ difL dx lx dy ly, Rt t.2 := by
  intro t ht
  rcases List.mem_append.1 ht with h | h
  · obtain ⟨u, hu, rfl⟩ := List.mem_map.1 h; exact hx u hu
  · obtain ⟨u, hu, rfl⟩ := List.mem_map.1 h; exact hy u hu
/-- What Compare answers. -/
def CmpN (dx : Int) (lx : List (Int × Int)) (dy : Int) (ly : List (Int × Int)) (n : Int) : Prop := ∃ ts, IsColl (combC dx lx dy ly (-1)) ts ∧ n = sgnZ ts
theorem cmp_sg {dx dy n : Int} {lx ly : List (Int × Int)} (vx : Vld dx lx) (vy : Vld dy ly) (h : CmpN dx lx dy ly n) : Sg (difL dx lx dy ly) n := by
  obtain ⟨ts, hc, rfl⟩ := h
  refine (fine_sg (comb_fine vx vy (.inr rfl) hc)).ratio (A := 1) (B := 1) (by decide) (by decide) fun r => ?_
  rw [coll_coef hc, difL_coef, combC_at]
  grind
theorem sign_sg {d : Int} {l : List (Int × Int)} (v : Vld d l) : Sg l (sgnZ l) := fine_sg (vld_fine v)
theorem Sg.range {l : List (Int × Int)} {n : Int} (h : Sg l n) : n = -1 ∨ n = 0 ∨ n = 1 := by
  rcases h with ⟨h, _⟩ | ⟨h, _⟩ | ⟨h, _⟩
  · exact .inr (.inr h)
  · exact .inl h
  · exact .inr (.inl h)
/-- Exchanged, the other way round. -/
theorem cmp_anti {dx dy n m : Int} {lx ly : List (Int × Int)} (h : Sg (difL dx lx dy ly) n) (g : Sg (difL dy ly dx lx) m) : n = -m := by
  refine h.uniq (g.neg.ratio (A := 1) (B := 1) (by decide) (by decide) fun r => ?_)
  rw [coef_mulS, difL_coef, difL_coef]
  grind
theorem cmp_zero {dx dy n : Int} {lx ly : List (Int × Int)} (vx : Vld dx lx) (vy : Vld dy ly) (h : Sg (difL dx lx dy ly) n) : n = 0 ↔ (dx = dy ∧ lx = ly) := by
  constructor
  · rintro rfl
    rcases h with ⟨e, _⟩ | ⟨e, _⟩ | ⟨_, h⟩
    · cases e
    · cases e
    · refine num_uniq vx vy fun r => ?_
      have := h r
      rw [difL_coef] at this
      grind
  · rintro ⟨rfl, rfl⟩
    refine h.uniq (.inr (.inr ⟨rfl, fun r => ?_⟩))
    rw [difL_coef]; grind
theorem cmp_trans {dx dy dz n j : Int} {lx ly lz : List (Int × Int)} (px : 1 ≤ dx) (py : 1 ≤ dy) (pz : 1 ≤ dz) (h : Sg (difL dx lx dy ly) n) (g : Sg (difL dy ly dz lz) n) (k : Sg (difL dx lx dz lz) j) : j = n := by
  have h1 : Sg (mulS dz (difL dx lx dy ly)) n := h.ratio (A := dz) (B := 1) (by omega) (by decide) fun r => by rw [coef_mulS]; grind
  have g1 : Sg (mulS dx (difL dy ly dz lz)) n := g.ratio (A := dx) (B := 1) (by omega) (by decide) fun r => by rw [coef_mulS]; grind
  refine k.uniq ((h1.add g1).ratio (A := 1) (B := dy) (by decide) (by omega) fun r => ?_)
  rw [coef_append, coef_mulS, coef_mulS, difL_coef, difL_coef, difL_coef]
  grind
/-- What is added to both. -/
theorem cmp_add {dx dy dz da db n i : Int} {lx ly lz la lb : List (Int × Int)} (vx : Vld dx lx) (vy : Vld dy ly) (vz : Vld dz lz) (ha : addF 1 dx lx dz lz (da, la, 0)) (hb : addF 1 dy ly dz lz (db, lb, 0))
    (h : Sg (difL dx lx dy ly) n) (g : Sg (difL da la db lb) i) : i = n := by
  obtain ⟨va, ea⟩ := addF_ok vx vz ha
  obtain ⟨vb, eb⟩ := addF_ok vy vz hb
  have px := vx.d1
  have py := vy.d1
  have pz := vz.d1
  have pa := va.d1
  have pb := vb.d1
  refine g.uniq (h.ratio (A := da * db * dz) (B := dx * dy * dz) (Int.mul_pos (Int.mul_pos (by omega) (by omega)) (by omega)) (Int.mul_pos (Int.mul_pos (by omega) (by omega)) (by omega)) fun r => ?_)
  rw [difL_coef, difL_coef]
  have e1 := ea r
  have e2 := eb r
  generalize coefOf la r = A at *
  generalize coefOf lb r = B at *
  generalize coefOf lx r = X at *
  generalize coefOf ly r = Y at *
  generalize coefOf lz r = Z at *
  calc (dy * X - dx * Y) * (da * db * dz) = db * dy * ((dz * X + 1 * dx * Z) * da) - da * dx * ((dz * Y + 1 * dy * Z) * db) := by grind
    _ = db * dy * (A * (dx * dz)) - da * dx * (B * (dy * dz)) := by rw [e1, e2]
    _ = (db * A - da * B) * (dx * dy * dz) := by grind
/-- What is multiplied with both. -/
theorem cmp_mul {dx dy dz da db n z i : Int} {lx ly lz la lb : List (Int × Int)} (vx : Vld dx lx) (vy : Vld dy ly) (vz : Vld dz lz) (ha : mulF dx lx dz lz (da, la, 0)) (hb : mulF dy ly dz lz (db, lb, 0))
    (h : Sg (difL dx lx dy ly) n) (hz : Sg lz z) (g : Sg (difL da la db lb) i) : i = n * z := by
  obtain ⟨va, ea⟩ := mulF_ok vx vz ha
  obtain ⟨vb, eb⟩ := mulF_ok vy vz hb
  have px := vx.d1
  have py := vy.d1
  have pz := vz.d1
  have pa := va.d1
  have pb := vb.d1
  refine g.uniq ((h.mul hz (difL_rts vx.rts vy.rts) vz.rts).ratio (A := da * db) (B := dx * dy * dz) (Int.mul_pos (by omega) (by omega)) (Int.mul_pos (Int.mul_pos (by omega) (by omega)) (by omega)) fun r => ?_)
  have e0 : coefOf (prodL (difL dx lx dy ly) lz) r = dy * coefOf (prodL lx lz) r - dx * coefOf (prodL ly lz) r := by
    unfold difL
    rw [prodL_append, prodL_mulS, prodL_mulS]
    grind
  rw [e0, difL_coef]
  have e1 := ea r
  have e2 := eb r
  generalize coefOf la r = A at *
  generalize coefOf lb r = B at *
  generalize coefOf (prodL lx lz) r = X at *
  generalize coefOf (prodL ly lz) r = Y at *
  calc (dy * X - dx * Y) * (da * db) = db * dy * (X * da) - da * dx * (Y * db) := by grind
    _ = db * dy * (A * (dx * dz)) - da * dx * (B * (dy * dz)) := by rw [e1, e2]
    _ = (db * A - da * B) * (dx * dy * dz) := by grind
end Go.Proofs.YtkjclafbpocabaaGreatDoor
