/-
  Contracts of the program's own functions (and their plain mathematics), on the way to the law: each for all arguments that its hypotheses let.
-/
import Derived.Test.YtedpafdfecofnaaGreatDoorF32
import Derived.Test.YtedpafdfecofnaaGreatDoorF27
import Derived.WalkKit
import Derived.WalkSpells
import Derived.WalkLawsBesides
import Derived.Deep.QuietTactic
import Derived.BigQuiet
import Derived.Lib.Hide
import Derived.WalkSmall
import Derived.Maps.OwnSet
import Derived.Maps.RangeWalk
import Derived.Deep.RegionWith
import Derived.Deep.RegionHeld3
import Derived.Deep.DrawnRows
import Derived.Deep.DeepCutAuto
import Derived.OneCell
import Derived.KernelRfl
import Derived.Laws.StructEq
import Derived.StillTailTactics
import Derived.Laws.Externs
import Derived.RangeFuncBox
import Derived.Deep.RegionLaw
import Derived.Deep.AppendLies
import Derived.Test.YtedpafdfecofnaaGreatDoorPlain
set_option linter.unusedSimpArgs false
set_option linter.unusedVariables false

/-! ## V2 -/
namespace Go.Proofs.YtedpafdfecofnaaGreatDoor
open Go.RowKit Go.Maps Go.Shelf Go.Sort
/-! Plain mathematics of the reference's Plus, Times and Over. -/
theorem splitR_uniq {n s q s' q' : Int} (h : SplitR n s q) (h' : SplitR n s' q') : s = s' ∧ q = q' := by
  rcases h with ⟨h0, rfl, rfl⟩ | ⟨h1, hs, hq, hn, hf⟩
  · rcases h' with ⟨_, rfl, rfl⟩ | ⟨h1', _⟩
    · exact ⟨rfl, rfl⟩
    · omega
  · rcases h' with ⟨h0, _⟩ | ⟨_, hs', hq', hn', hf'⟩
    · omega
    · have key := sqf_uniqN s.toNat s'.toNat q.toNat q'.toNat (by omega) (by omega) (by
        apply Int.natCast_inj.1
        rw [Int.natCast_mul, Int.natCast_mul, Int.natCast_mul, Int.natCast_mul, Int.toNat_of_nonneg (by omega), Int.toNat_of_nonneg (by omega), Int.toNat_of_nonneg (by omega), Int.toNat_of_nonneg (by omega), hn, hn']) (sqfN hf hq) (sqfN hf' hq')
      omega
theorem sp_uniq {t u v : Int × Int} (h : Sp t u) (h' : Sp t v) : u = v := by
  obtain ⟨s, q, a, rfl⟩ := h
  obtain ⟨s', q', b, rfl⟩ := h'
  obtain ⟨rfl, rfl⟩ := splitR_uniq a b
  rfl
theorem spL_uniq {l us vs : List (Int × Int)} (h : SpL l us) (h' : SpL l vs) : us = vs := by
  apply List.ext_getElem
  · rw [h.1, h'.1]
  · intro i h1 h2
    have hi : i < l.length := by have := h.1; omega
    have := sp_uniq (h.2 i hi) (h'.2 i hi)
    simpa [h1, h2] using this
theorem spL_map {α : Type} (P : List α) (f g : α → Int × Int) (h : ∀ p ∈ P, Sp (f p) (g p)) : SpL (P.map f) (P.map g) := by
  refine ⟨by simp, fun i hi => ?_⟩
  have hi' : i < P.length := by simpa using hi
  have := h P[i] (List.getElem_mem hi')
  simpa [hi'] using this
theorem sp_rt {c r : Int} (h : Rt r) : Sp (c, r) (c, r) := ⟨1, r, .inr ⟨h.1, by omega, h.1, by simp, h.2⟩, by simp⟩
theorem sp_rt2 {x y r q : Int} (hr : Rt r) (hq : Rt q) : Sp (x * y, r * q) (mulT (x, r) (y, q)) := by
  have hR := Rt.r hr hq
  obtain ⟨a, ha, ha1, ha2⟩ := hr.nat
  obtain ⟨b, hb, hb1, hb2⟩ := hq.nat
  have hg1 : 1 ≤ gS r q := by
    rw [ha, hb, gS_nat]
    have := Nat.gcd_pos_of_pos_left b (show 0 < a by omega)
    omega
  have he : gS r q * gS r q * rS r q = r * q := by
    rw [ha, hb, gS_nat, rS_nat]
    have := gr_nat a b
    exact_mod_cast this
  have hrq : 1 ≤ r * q := by
    have := Int.mul_le_mul hr.1 hq.1 (by omega) (by have := hr.1; omega)
    omega
  refine ⟨gS r q, rS r q, .inr ⟨hrq, hg1, hR.1, he, hR.2⟩, ?_⟩
  rw [mulT_eq]
theorem s_le31 {r s : Int} (_h1 : 1 ≤ s) (hr : r ≤ 1000) (h : s * s ≤ r ∨ s = 1) : s ≤ 31 := by
  rcases h with h | h
  · rcases Int.lt_or_le 31 s with g | g
    · have := Int.mul_le_mul (show (32:Int) ≤ s by omega) (show (32:Int) ≤ s by omega) (by omega) (by omega)
      omega
    · exact g
  · omega
theorem s_le1000 {r s : Int} (_h1 : 1 ≤ s) (hr : r ≤ 1000000) (h : s * s ≤ r ∨ s = 1) : s ≤ 1000 := by
  rcases h with h | h
  · rcases Int.lt_or_le 1000 s with g | g
    · have := Int.mul_le_mul (show (1001:Int) ≤ s by omega) (show (1001:Int) ≤ s by omega) (by omega) (by omega)
      omega
    · exact g
  · omega
/-- The parts that Plus gives to Parts. -/
def plusL (s dx : Int) (lx : List (Int × Int)) (dy : Int) (ly : List (Int × Int)) : List (Int × Int) := lx.map (fun t => (t.1 * dy, t.2)) ++ ly.map (fun t => (s * t.1 * dx, t.2))
theorem plusL_sp {s dx dy : Int} {lx ly : List (Int × Int)} (hx : ∀ t ∈ lx, Rt t.2) (hy : ∀ t ∈ ly, Rt t.2) {us : List (Int × Int)} (h : SpL (plusL s dx lx dy ly) us) : us = plusL s dx lx dy ly := by
  have h2 := spL_map (plusL s dx lx dy ly) id id (fun p hp => by
    unfold plusL at hp
    rcases List.mem_append.1 hp with h | h
    · obtain ⟨t, ht, rfl⟩ := List.mem_map.1 h
      exact sp_rt (hx t ht)
    · obtain ⟨t, ht, rfl⟩ := List.mem_map.1 h
      exact sp_rt (hy t ht))
  rw [List.map_id] at h2
  exact spL_uniq h h2
theorem coef_scale (f : Int × Int → Int) (m : Int) (l : List (Int × Int)) (hf : ∀ t, f t = m * t.1) (r : Int) : coefOf (l.map fun t => (f t, t.2)) r = m * coefOf l r := by
  have : (l.map fun t => (f t, t.2)) = mulS m l := by unfold mulS; apply List.map_congr_left; intro t _; rw [hf]
  rw [this, coef_mulS]
theorem plusL_coef (s dx : Int) (lx : List (Int × Int)) (dy : Int) (ly : List (Int × Int)) : plusC zeroC 1 (plusL s dx lx dy ly) = combC dx lx dy ly s := by
  funext r
  rw [combC_at]
  unfold plusC plusL
  rw [coef_append, coef_scale _ dy lx (fun t => Int.mul_comm _ _), coef_scale _ (s * dx) ly (fun t => by rw [Int.mul_assoc, Int.mul_comm t.1, Int.mul_assoc])]
  simp [zeroC]
theorem mulab_bd {a b A B : Int} (h1 : -A ≤ a) (h2 : a ≤ A) (h3 : -B ≤ b) (h4 : b ≤ B) (hA : 0 ≤ A) (hB : 0 ≤ B) : -(A * B) ≤ a * b ∧ a * b ≤ A * B := by
  have hn : a.natAbs * b.natAbs ≤ A.natAbs * B.natAbs := Nat.mul_le_mul (by omega) (by omega)
  have e1 : (a * b).natAbs = a.natAbs * b.natAbs := Int.natAbs_mul a b
  have e2 : (A * B).natAbs = A.natAbs * B.natAbs := Int.natAbs_mul A B
  have e3 : 0 ≤ A * B := Int.mul_nonneg hA hB
  omega
theorem plusL_pb {s dx dy : Int} {lx ly : List (Int × Int)} (hx : Vld dx lx) (hy : Vld dy ly) (hs : s = 1 ∨ s = -1) : PB (plusL s dx lx dy ly) 400000000000 := by
  intro t ht
  have key : ∀ (c m r : Int), -100000 ≤ c → c ≤ 100000 → -100000 ≤ m → m ≤ 100000 → 1 ≤ r → r ≤ 1000 → 0 ≤ r ∧ r ≤ 1000000000000 ∧ ∀ z, 1 ≤ z → (z * z ≤ r ∨ z = 1) → -400000000000 ≤ c * m * z ∧ c * m * z ≤ 400000000000 := by
    intro c m r h1 h2 h3 h4 h5 h6
    refine ⟨by omega, by omega, fun z hz1 hz2 => ?_⟩
    have hz := s_le31 hz1 h6 hz2
    have a := mulab_bd h1 h2 h3 h4 (by omega) (by omega)
    have b := mulab_bd (a := c * m) (b := z) (A := 10000000000) (B := 31) (by omega) (by omega) (by omega) (by omega) (by omega) (by omega)
    omega
  unfold plusL at ht
  rcases List.mem_append.1 ht with h | h
  · obtain ⟨u, hu, rfl⟩ := List.mem_map.1 h
    have a := vld_pt hx u hu
    exact key u.1 dy u.2 a.1.1 a.1.2 (by have := hy.d1; omega) (by have := hy.d2; omega) a.2.1 a.2.2
  · obtain ⟨u, hu, rfl⟩ := List.mem_map.1 h
    have a := vld_pt hy u hu
    have := hx.d1
    have := hx.d2
    rcases hs with rfl | rfl
    · exact key (1 * u.1) dx u.2 (by omega) (by omega) (by omega) (by omega) a.2.1 a.2.2
    · exact key (-1 * u.1) dx u.2 (by omega) (by omega) (by omega) (by omega) a.2.1 a.2.2
/-- The parts that Times gives to Parts. -/
def timesL (lx ly : List (Int × Int)) : List (Int × Int) := lx.flatMap fun t => ly.map fun u => (t.1 * u.1, t.2 * u.2)
def pairsL (lx ly : List (Int × Int)) : List ((Int × Int) × (Int × Int)) := lx.flatMap fun t => ly.map fun u => (t, u)
theorem pairs_mem {lx ly : List (Int × Int)} {p : (Int × Int) × (Int × Int)} (h : p ∈ pairsL lx ly) : p.1 ∈ lx ∧ p.2 ∈ ly := by
  unfold pairsL at h
  obtain ⟨t, ht, h⟩ := List.mem_flatMap.1 h
  obtain ⟨u, hu, rfl⟩ := List.mem_map.1 h
  exact ⟨ht, hu⟩
theorem timesL_pairs (lx ly : List (Int × Int)) : timesL lx ly = (pairsL lx ly).map fun p => (p.1.1 * p.2.1, p.1.2 * p.2.2) := by
  unfold timesL pairsL
  rw [List.map_flatMap]
  congr 1; funext t
  rw [List.map_map]; rfl
theorem prodL_pairs (lx ly : List (Int × Int)) : prodL lx ly = (pairsL lx ly).map fun p => mulT p.1 p.2 := by
  unfold prodL pairsL
  rw [List.map_flatMap]
  congr 1; funext t
  rw [List.map_map]; rfl
theorem timesL_sp {lx ly us : List (Int × Int)} (hx : ∀ t ∈ lx, Rt t.2) (hy : ∀ t ∈ ly, Rt t.2) (h : SpL (timesL lx ly) us) : us = prodL lx ly := by
  rw [timesL_pairs] at h
  rw [prodL_pairs]
  exact spL_uniq h (spL_map _ _ _ fun p hp => sp_rt2 (hx _ (pairs_mem hp).1) (hy _ (pairs_mem hp).2))
theorem timesL_len (lx ly : List (Int × Int)) : (timesL lx ly).length = lx.length * ly.length := by
  rw [timesL_pairs, List.length_map, ← prodL_len lx ly, prodL_pairs, List.length_map]
theorem times_pt {c m r q : Int} (h1 : -100000 ≤ c) (h2 : c ≤ 100000) (h3 : -100000 ≤ m) (h4 : m ≤ 100000) (h5 : 1 ≤ r) (h6 : r ≤ 1000) (h7 : 1 ≤ q) (h8 : q ≤ 1000) :
    (-10000000000 ≤ c * m ∧ c * m ≤ 10000000000) ∧ 1 ≤ r * q ∧ r * q ≤ 1000000 := by
  have a := mulab_bd h1 h2 h3 h4 (by omega) (by omega)
  have b := mulab_bd (a := r) (b := q) (A := 1000) (B := 1000) (by omega) h6 (by omega) h8 (by omega) (by omega)
  have c := Int.mul_le_mul h5 h7 (by omega) (by omega)
  omega
theorem timesL_pb {dx dy : Int} {lx ly : List (Int × Int)} (hx : Vld dx lx) (hy : Vld dy ly) : PB (timesL lx ly) 10000000000000 := by
  intro t ht
  rw [timesL_pairs] at ht
  obtain ⟨p, hp, rfl⟩ := List.mem_map.1 ht
  have a := vld_pt hx _ (pairs_mem hp).1
  have b := vld_pt hy _ (pairs_mem hp).2
  have c := times_pt a.1.1 a.1.2 b.1.1 b.1.2 a.2.1 a.2.2 b.2.1 b.2.2
  refine ⟨by omega, by dsimp only; omega, fun s h1 h2 => ?_⟩
  dsimp only at *
  have hs := s_le1000 h1 c.2.2 h2
  have e := mulab_bd (a := p.1.1 * p.2.1) (b := s) (A := 10000000000) (B := 1000) (by omega) (by omega) (by omega) (by omega) (by omega) (by omega)
  omega
/-- The parts that Over gives to Parts. -/
def overT (dy : Int) (a b t : Int × Int) : List (Int × Int) := [(t.1 * a.1 * dy, t.2 * a.2), (-t.1 * b.1 * dy, t.2 * b.2)]
def overL (dy : Int) (a b : Int × Int) (lx : List (Int × Int)) : List (Int × Int) := lx.flatMap (overT dy a b)
def conjD (dy : Int) (a b : Int × Int) : List (Int × Int) := [(a.1 * dy, a.2), (-b.1 * dy, b.2)]
theorem overL_times (dy : Int) (a b : Int × Int) (lx : List (Int × Int)) : overL dy a b lx = timesL lx (conjD dy a b) := by
  unfold overL timesL conjD
  congr 1; funext t
  simp only [overT, List.map_cons, List.map_nil, Int.mul_assoc, Int.neg_mul, Int.mul_neg]
theorem overL_sp {dy : Int} {a b : Int × Int} {lx us : List (Int × Int)} (hx : ∀ t ∈ lx, Rt t.2) (ha : Rt a.2) (hb : Rt b.2) (h : SpL (overL dy a b lx) us) : us = prodL lx (conjD dy a b) := by
  rw [overL_times] at h
  exact timesL_sp hx (fun t ht => by
    unfold conjD at ht
    simp at ht
    rcases ht with rfl | rfl
    · exact ha
    · exact hb) h
/-- The divisor's two terms; one that lacks is 0. -/
def terA (ly : List (Int × Int)) : Int × Int := ly[0]?.getD (0, 0)
def terB (ly : List (Int × Int)) : Int × Int := ly[1]?.getD (0, 1)
theorem over_coef (dy : Int) (lx ly : List (Int × Int)) (h1 : ly.length ≠ 0) (h2 : ly.length ≤ 2) : plusC zeroC 1 (prodL lx (conjD dy (terA ly) (terB ly))) = plusC zeroC dy (prodL lx (conjL ly)) := by
  funext r
  unfold plusC
  rw [Int.one_mul]
  congr 1
  rw [coef_prodL, coef_prodL]
  have key : ∀ s, prodφ (conjD dy (terA ly) (terB ly)) r s = dy * prodφ (conjL ly) r s := by
    intro s
    match ly, h1, h2 with
    | [a], _, _ => simp [prodφ, lin, conjD, terA, terB, conjL, conjAt]; grind
    | [a, b], _, _ => simp [prodφ, lin, conjD, terA, terB, conjL, conjAt]; grind
  have e : prodφ (conjD dy (terA ly) (terB ly)) r = fun s => dy * prodφ (conjL ly) r s := funext key
  rw [e]
  unfold lin
  induction lx with
  | nil => simp
  | cons t l ih => simp only [List.map_cons, List.sum_cons]; rw [ih, Int.mul_add]; congr 1; rw [Int.mul_left_comm]
theorem over_den (ly : List (Int × Int)) (h1 : ly.length ≠ 0) (h2 : ly.length ≤ 2) : (terA ly).1 * (terA ly).1 * (terA ly).2 - (terB ly).1 * (terB ly).1 * (terB ly).2 = normL ly := by
  match ly, h1, h2 with
  | [a], _, _ => simp [terA, terB, normL, sqAt]
  | [a, b], _, _ => simp [terA, terB, normL, sqAt]; omega
theorem over_bd {d : Int} {ly : List (Int × Int)} (h : Vld d ly) (h1 : ly.length ≠ 0) (h2 : ly.length ≤ 2) : ((-100000 ≤ (terA ly).1 ∧ (terA ly).1 ≤ 100000) ∧ (1 ≤ (terA ly).2 ∧ (terA ly).2 ≤ 1000) ∧ Rt (terA ly).2) ∧ (-100000 ≤ (terB ly).1 ∧ (terB ly).1 ≤ 100000) ∧ (1 ≤ (terB ly).2 ∧ (terB ly).2 ≤ 1000) ∧ Rt (terB ly).2 := by
  have hr := h.rts
  have hp := vld_pt h
  have one : Rt 1 := by
    have := Rt.of_nat (n := 1) (by omega) (by
      intro e he hd
      have := Nat.le_of_dvd (by omega) hd
      have := Nat.mul_le_mul he he
      omega)
    exact_mod_cast this
  match ly, h1, h2 with
  | [a], _, _ =>
    have := hp a (by simp)
    exact ⟨⟨this.1, this.2, hr a (by simp)⟩, by simp [terB], by simp [terB], by simpa [terB] using one⟩
  | [a, b], _, _ =>
    have := hp a (by simp)
    have := hp b (by simp)
    exact ⟨⟨(hp a (by simp)).1, (hp a (by simp)).2, hr a (by simp)⟩, (hp b (by simp)).1, (hp b (by simp)).2, hr b (by simp)⟩
theorem over_pt {t a m : Int} (h1 : -100000 ≤ t) (h2 : t ≤ 100000) (h3 : -100000 ≤ a) (h4 : a ≤ 100000) (h5 : 1 ≤ m) (h6 : m ≤ 100000) :
    (-10000000000 ≤ t * a ∧ t * a ≤ 10000000000) ∧ -1000000000000000 ≤ t * a * m ∧ t * a * m ≤ 1000000000000000 := by
  have x := mulab_bd h1 h2 h3 h4 (by omega) (by omega)
  have y := mulab_bd (a := t * a) (b := m) (A := 10000000000) (B := 100000) (by omega) (by omega) (by omega) (by omega) (by omega) (by omega)
  omega
theorem overL_pb {dx dy : Int} {a b : Int × Int} {lx : List (Int × Int)} (hx : Vld dx lx) (hy1 : 1 ≤ dy) (hy2 : dy ≤ 100000) (ha : -100000 ≤ a.1 ∧ a.1 ≤ 100000) (ha2 : 1 ≤ a.2 ∧ a.2 ≤ 1000) (hb : -100000 ≤ b.1 ∧ b.1 ≤ 100000) (hb2 : 1 ≤ b.2 ∧ b.2 ≤ 1000) : PB (overL dy a b lx) 1000000000000000000 := by
  have key : ∀ (t m r q : Int), -100000 ≤ t → t ≤ 100000 → -100000 ≤ m → m ≤ 100000 → 1 ≤ r → r ≤ 1000 → 1 ≤ q → q ≤ 1000 → 0 ≤ r * q ∧ r * q ≤ 1000000000000 ∧ ∀ z, 1 ≤ z → (z * z ≤ r * q ∨ z = 1) → -1000000000000000000 ≤ t * m * dy * z ∧ t * m * dy * z ≤ 1000000000000000000 := by
    intro t m r q h1 h2 h3 h4 h5 h6 h7 h8
    have c := times_pt h1 h2 h3 h4 h5 h6 h7 h8
    have d := over_pt h1 h2 h3 h4 hy1 hy2
    refine ⟨by omega, by omega, fun z hz1 hz2 => ?_⟩
    have hs := s_le1000 hz1 c.2.2 hz2
    have e := mulab_bd (a := t * m * dy) (b := z) (A := 1000000000000000) (B := 1000) (by omega) (by omega) (by omega) (by omega) (by omega) (by omega)
    omega
  intro t ht
  unfold overL at ht
  obtain ⟨u, hu, h⟩ := List.mem_flatMap.1 ht
  have p := vld_pt hx u hu
  unfold overT at h
  simp only [List.mem_cons, List.not_mem_nil, or_false] at h
  rcases h with rfl | rfl
  · exact key u.1 a.1 u.2 a.2 p.1.1 p.1.2 ha.1 ha.2 p.2.1 p.2.2 ha2.1 ha2.2
  · exact key (-u.1) b.1 u.2 b.2 (by omega) (by omega) hb.1 hb.2 p.2.1 p.2.2 hb2.1 hb2.2
theorem overL_len (dy : Int) (a b : Int × Int) (lx : List (Int × Int)) : (overL dy a b lx).length = 2 * lx.length := by
  unfold overL
  induction lx with
  | nil => rfl
  | cons t l ih => simp only [List.flatMap_cons, List.length_append, ih]; simp [overT]; omega
theorem plus_snoc1 {s dx dy c r : Int} {lx : List (Int × Int)} {k : Nat} (h : k < lx.length) (he : lx[k]?.getD (0, 0) = (c, r)) : plusL s dx (lx.take (k + 1)) dy [] = plusL s dx (lx.take k) dy [] ++ [(c * dy, r)] := by
  have e : lx[k] = (c, r) := by simpa [h] using he
  unfold plusL
  rw [List.take_succ_eq_append_getElem h, List.map_append, e]
  simp
theorem plus_snoc2 {s dx dy c r : Int} {lx ly : List (Int × Int)} {k : Nat} (h : k < ly.length) (he : ly[k]?.getD (0, 0) = (c, r)) : plusL s dx lx dy (ly.take (k + 1)) = plusL s dx lx dy (ly.take k) ++ [(s * c * dx, r)] := by
  have e : ly[k] = (c, r) := by simpa [h] using he
  unfold plusL
  rw [List.take_succ_eq_append_getElem h, List.map_append, e]
  simp
theorem plusL_len (s dx : Int) (lx : List (Int × Int)) (dy : Int) (ly : List (Int × Int)) : (plusL s dx lx dy ly).length = lx.length + ly.length := by simp [plusL]
/-- The parts of Times, so far. -/
def timesUp (lx ly : List (Int × Int)) (k j : Nat) : List (Int × Int) := timesL (lx.take k) ly ++ timesL [lx[k]?.getD (0, 0)] (ly.take j)
theorem timesUp_snoc {lx ly : List (Int × Int)} {k j : Nat} {c r x y : Int} (hj : j < ly.length) (hk : lx[k]?.getD (0, 0) = (c, r)) (he : ly[j]?.getD (0, 0) = (x, y)) : timesUp lx ly k (j + 1) = timesUp lx ly k j ++ [(c * x, r * y)] := by
  have e : ly[j] = (x, y) := by simpa [hj] using he
  unfold timesUp
  rw [hk, List.append_assoc]
  congr 1
  unfold timesL
  simp only [List.flatMap_cons, List.flatMap_nil, List.append_nil]
  rw [List.take_succ_eq_append_getElem hj, List.map_append, e]
  simp
theorem timesUp_k {lx ly : List (Int × Int)} {k j : Nat} (h : k < lx.length) (hj : j = ly.length) : timesUp lx ly k j = timesUp lx ly (k + 1) 0 := by
  subst hj
  have e : lx[k]?.getD (0, 0) = lx[k] := by simp [h]
  unfold timesUp timesL
  rw [e, List.take_length, List.take_succ_eq_append_getElem h, List.flatMap_append]
  simp only [List.take_zero, List.map_nil, List.flatMap_cons, List.flatMap_nil, List.append_nil]
theorem timesUp_end (lx ly : List (Int × Int)) : timesUp lx ly lx.length 0 = timesL lx ly := by
  unfold timesUp timesL
  simp
theorem timesUp_zero (lx ly : List (Int × Int)) : timesUp lx ly 0 0 = [] := by
  unfold timesUp timesL
  simp
theorem timesUp_len {lx ly : List (Int × Int)} {k j : Nat} (h : k ≤ lx.length) : (timesUp lx ly k j).length = k * ly.length + min j ly.length := by
  unfold timesUp
  rw [List.length_append, timesL_len, timesL_len]
  simp
  rw [Nat.min_eq_left h]
theorem over_snoc {dy : Int} {a b : Int × Int} {lx : List (Int × Int)} {k : Nat} {c r : Int} (h : k < lx.length) (he : lx[k]?.getD (0, 0) = (c, r)) : overL dy a b (lx.take (k + 1)) = overL dy a b (lx.take k) ++ [(c * a.1 * dy, r * a.2), (-c * b.1 * dy, r * b.2)] := by
  have e : lx[k] = (c, r) := by simpa [h] using he
  unfold overL
  rw [List.take_succ_eq_append_getElem h, List.flatMap_append, e]
  simp [overT]
/-! What the sums, products and quotients are is one thing. -/
theorem addF_uniq {s dx dy : Int} {lx ly : List (Int × Int)} {r r' : Int × List (Int × Int) × Int} (h : addF s dx lx dy ly r) (h' : addF s dx lx dy ly r') : r = r' := by
  unfold addF at h h'
  split at h
  · rename_i c
    rw [if_pos c] at h'
    obtain ⟨t, ht, rfl⟩ := h
    obtain ⟨t', ht', rfl⟩ := h'
    rw [terms_uniq ht ht']
  · rename_i c
    rw [if_neg c] at h'
    rw [h, h']
theorem mulF_uniq {dx dy : Int} {lx ly : List (Int × Int)} {r r' : Int × List (Int × Int) × Int} (h : mulF dx lx dy ly r) (h' : mulF dx lx dy ly r') : r = r' := by
  unfold mulF at h h'
  split at h
  · rename_i c
    rw [if_pos c] at h'
    obtain ⟨t, ht, rfl⟩ := h
    obtain ⟨t', ht', rfl⟩ := h'
    rw [terms_uniq ht ht']
  · rename_i c
    rw [if_neg c] at h'
    rw [h, h']
theorem quoF_uniq {dx dy : Int} {lx ly : List (Int × Int)} {r r' : Int × List (Int × Int) × Int} (h : quoF dx lx dy ly r) (h' : quoF dx lx dy ly r') : r = r' := by
  unfold quoF at h h'
  split at h
  · rename_i c
    rw [if_pos c] at h'
    split at h
    · rename_i d
      rw [if_pos d] at h'
      rw [h, h']
    · rename_i d
      rw [if_neg d] at h'
      split at h
      · rename_i e
        rw [if_pos e] at h'
        rw [h, h']
      · rename_i e
        rw [if_neg e] at h'
        obtain ⟨t, ht, rfl⟩ := h
        obtain ⟨t', ht', rfl⟩ := h'
        rw [terms_uniq ht ht']
  · rename_i c
    rw [if_neg c] at h'
    rw [h, h']
end Go.Proofs.YtedpafdfecofnaaGreatDoor

/-! ## S98 -/
namespace Go.Proofs.YtedpafdfecofnaaGreatDoor
open Go.RowKit Go.Maps Go.Shelf Go.Sort
attribute [local go_sem ↓] Go.wp_at_zero Go.wp_at_succ

theorem own8' {w : World} {base n : Nat} {v : Value} {l : List (Int × Int)} (hn : l.length = n) (h : OwnT w base v l) : w.ownsRow base 34 2 v n (flatT l) := by subst hn; exact h
theorem own9' {w : World} {base n : Nat} {v : Value} {l : List (Int × Int)} (hn : l.length = n) (h : w.ownsRow base 34 2 v n (flatT l)) : OwnT w base v l := by subst hn; exact h
set_option maxRecDepth 100000 in
set_option maxHeartbeats 8000000 in
theorem rplus_any (s dx dy : Int) (vx vy : Value) (lx ly : List (Int × Int)) (w : World) (hx : TermsAt w vx lx) (hy : TermsAt w vy ly) (hs : s = 1 ∨ s = -1) :
    Calls Tryz.prog 26 #[.agg #[.int .i64 dx, vx], .agg #[.int .i64 dy, vy], .int .i64 s] w (NumP (addF s dx lx dy ly) w) := by
  have HSS := Lib.hid hs
  have hs1 : -1 ≤ s ∧ s ≤ 1 := by omega
  obtain ⟨hs1, hs2⟩ := hs1
  clear hs
  obtain ⟨ax, cx, rfl, px⟩ := hx.placed
  obtain ⟨ay, cy, rfl, py⟩ := hy.placed
  have PX := Lib.hid px
  have PY := Lib.hid py
  have HX := Lib.hid hx
  have HY := Lib.hid hy
  clear hx hy px py
  go_enter Tryz.func26, Tryz.ntmps26
  go_wp2_with fail
  refine (number_any dx _ lx _ (((HX.out.alloc _).alloc _).alloc _)).mono ?_
  rintro e w1 ⟨rfl, hb⟩
  have X1 : Two w1 w.heap.size (.int .i64 dx) (.slice ax lx.length cx) 24 := (((Two.new w (.int .i64 dx) (.slice ax lx.length cx) 24).alloc _).alloc _).below hb (by simp; omega)
  have Y1 : Two w1 (w.heap.size + 1) (.int .i64 dy) (.slice ay ly.length cy) 24 := by
    have := ((Two.new (w.alloc (.cells #[.int .i64 dx, .slice ax lx.length cx] 24)) (.int .i64 dy) (.slice ay ly.length cy) 24).alloc (.cells #[.int .i64 0, .slice none 0 0] 24)).below hb (by simp)
    simpa using this
  have R1 : Two w1 (w.heap.size + 1 + 1) (.int .i64 0) (.slice none 0 0) 24 := by
    have := (Two.new ((w.alloc (.cells #[.int .i64 dx, .slice ax lx.length cx] 24)).alloc (.cells #[.int .i64 dy, .slice ay ly.length cy] 24)) (.int .i64 0) (.slice none 0 0) 24).below hb (by simp)
    simpa [Nat.add_assoc] using this
  have B1 : Below w.heap.size w w1 := ((((Below.refl _ _).alloc (Nat.le_refl _) _).alloc (by simp) _).alloc (by simp; omega) _).trans (hb.mono (by simp; omega))
  have XX := Lib.hid X1
  have YY := Lib.hid Y1
  have RR := Lib.hid R1
  have BB := Lib.hid B1
  have x0 := X1.c0
  have x1 := X1.c1
  have y0 := Y1.c0
  have y1 := Y1.c1
  have r0 := R1.c0
  have r1 := R1.c1
  have f0 := R1.fr (i := 0)
  have f1 := R1.fr (i := 1)
  clear hb X1 Y1 R1 B1
  cases hvx : validF dx lx
  · have HP : Hid (addF s dx lx dy ly (0, [], 2)) := Lib.hid (by simp [addF, hvx])
    clear hvx
    go_wp2
    obtain ⟨d0, d1, d2, hg⟩ := two_after RR.out (.int .i64 0) (.slice none 0 0) rfl
    refine bodyPost_ret (v := .tuple #[.agg #[.int .i64 0, .slice none 0 0], .int .i64 2]) ?_ rfl ?_
    · simp [results, Tryz.results26, go_sem, d0, d1, d2]
    · exact ⟨_, HP.out, _, rfl, termsAt_nil _, BB.out.grown hg BB.out.size (by intro k hk; cases hk; omega), fun k hk => by cases hk⟩
  have HVX := Lib.hid hvx
  clear hvx
  go_wp2_with fail
  refine (number_any dy _ ly _ (HY.out.below BB.out)).mono ?_
  rintro e w2 ⟨rfl, hb⟩
  have X2 := XX.out.below hb XX.out.lt
  have Y2 := YY.out.below hb YY.out.lt
  have R2 := RR.out.below hb RR.out.lt
  have B2 := BB.out.trans (hb.mono BB.out.size)
  have XX2 := Lib.hid X2
  have YY2 := Lib.hid Y2
  have RR2 := Lib.hid R2
  have BB2 := Lib.hid B2
  clear x0 x1 y0 y1 r0 r1 f0 f1 XX YY RR
  have x0 := X2.c0
  have x1 := X2.c1
  have y0 := Y2.c0
  have y1 := Y2.c1
  have r0 := R2.c0
  have r1 := R2.c1
  have f0 := R2.fr (i := 0)
  have f1 := R2.fr (i := 1)
  clear hb X2 Y2 R2 B2
  cases hvy : validF dy ly
  · have HP : Hid (addF s dx lx dy ly (0, [], 2)) := Lib.hid (by simp [addF, hvy])
    clear hvy
    go_wp2
    obtain ⟨d0, d1, d2, hg⟩ := two_after RR2.out (.int .i64 0) (.slice none 0 0) rfl
    refine bodyPost_ret (v := .tuple #[.agg #[.int .i64 0, .slice none 0 0], .int .i64 2]) ?_ rfl ?_
    · simp [results, Tryz.results26, go_sem, d0, d1, d2]
    · exact ⟨_, HP.out, _, rfl, termsAt_nil _, BB2.out.grown hg BB2.out.size (by intro k hk; cases hk; omega), fun k hk => by cases hk⟩
  have HVY := Lib.hid hvy
  have VX := vld_of HVX.out
  have VY := vld_of hvy
  have HLX := Lib.hid VX.len
  have HLY := Lib.hid VY.len
  have hlx := VX.len
  have hly := VY.len
  have hdx1 := VX.d1
  have hdx2 := VX.d2
  have hdy1 := VY.d1
  have hdy2 := VY.d2
  have HVX2 := Lib.hid VX
  have HVY2 := Lib.hid VY
  have hsz2 : w.heap.size + 2 < w2.heap.size := RR2.out.lt
  obtain ⟨i0, hi, hz0, hz1, hz2⟩ := info_parts info34
  clear hvy VX VY BB
  go_wp2
  clear x0 x1 y0 y1 r0 r1 f0 f1
  go_loopw [8, 9] (fun v i wr => ∃ k : Nat, k ≤ lx.length ∧ i = .int .i64 k ∧ Hid (OwnT wr w2.heap.size v (plusL s dx (lx.take k) dy [])) ∧ Hid (Below w2.heap.size w2 wr)) (fun _ i _ => lx.length - (intOf i).toNat)
  case atStart => exact ⟨0, Nat.zero_le _, rfl, Lib.hid (empty_own w2), Lib.hid ((Below.refl _ _).alloc (Nat.le_refl _) _)⟩
  case round =>
    obtain ⟨k, hk, rfl, HO, HB⟩ := hrel
    have KX : Hid (∀ w', Below w2.heap.size w2 w' → w'.cell? ⟨w.heap.size, 0, none⟩ = some (.int .i64 dx) ∧ w'.cell? ⟨w.heap.size, 1, none⟩ = some (.slice ax lx.length cx) ∧ w'.cell? ⟨w.heap.size + 1, 0, none⟩ = some (.int .i64 dy) ∧ w'.cell? ⟨w.heap.size + 1, 1, none⟩ = some (.slice ay ly.length cy)) := Lib.hid fun w' h => by
      have a := XX2.out.below h XX2.out.lt
      have b := YY2.out.below h YY2.out.lt
      exact ⟨a.c0, a.c1, b.c0, b.c1⟩
    by_cases hlt : k < lx.length
    · obtain ⟨b, off, rfl, hbl, hp1, hp2⟩ := PX.out k hlt
      obtain ⟨x0, x1, y0, y1⟩ := KX.out _ HB.out
      have HBL : Hid (b < w2.heap.size) := Lib.hid (by omega)
      have HC1 := Lib.hid ((BB2.out.cell (p := ⟨b, _, none⟩) hbl).trans hp1)
      have HC2 := Lib.hid ((BB2.out.cell (p := ⟨b, _, none⟩) hbl).trans hp2)
      have hpt := vld_pt HVX2.out (lx[k]?.getD (0, 0)) (by simp [hlt])
      obtain ⟨c, r, hel⟩ : ∃ c r, lx[k]?.getD (0, 0) = (c, r) := ⟨_, _, rfl⟩
      rw [hel] at HC1 HC2 hpt
      dsimp only at HC1 HC2 hpt
      obtain ⟨⟨p1, p2⟩, p3, p4⟩ := hpt
      have HSN := Lib.hid (plus_snoc1 (s := s) (dx := dx) (dy := dy) hlt hel)
      have HN : Hid ((plusL s dx (lx.take k) dy []).length = k) := Lib.hid (by rw [plusL_len]; simp; omega)
      have hm := mulab_bd p1 p2 (show -100000 ≤ dy by omega) hdy2 (by omega) (by omega)
      have hw1 : IntKind.i64.wrap (c * dy) = c * dy := IntWalk.i64_in _ (by omega)
      have i1 : (0 : Int) ≤ (k : Int) := by omega
      have i2 : (k : Int) < (lx.length : Int) := by omega
      have KK : Hid (∀ w', Below w2.heap.size w2 w' → w'.cell? ⟨w.heap.size, 1, none⟩ = some (.slice (some ⟨b, off, none⟩) lx.length cx) ∧ w'.cell? ⟨w.heap.size + 1, 0, none⟩ = some (.int .i64 dy) ∧ w'.cell? ⟨b, off + k * 2, none⟩ = some (.int .i64 c) ∧ w'.cell? ⟨b, off + k * 2 + 1, none⟩ = some (.int .i64 r)) := Lib.hid fun w' h => by
        have q := KX.out w' h
        exact ⟨q.2.1, q.2.2.1, (h.cell (p := ⟨b, _, none⟩) HBL.out).trans HC1.out, (h.cell (p := ⟨b, _, none⟩) HBL.out).trans HC2.out⟩
      clear hel hp1 hp2 hm x0 y1
      have C0 := Below.refl wr.heap.size wr
      have KB : Hid (∀ w', Below wr.heap.size wr w' → Below w2.heap.size w2 w') := Lib.hid fun w' h => HB.out.trans (h.mono HB.out.size)
      have HOWN : Hid (∀ w', Below wr.heap.size wr w' → w'.ownsRow w2.heap.size 34 2 u8 k (flatT (plusL s dx (lx.take k) dy []))) := Lib.hid fun w' h => own8' HN.out (HO.out.below h)
      have HLOW : Hid (∀ q, u8.ownBlock = some q → w2.heap.size ≤ q) := Lib.hid (fun q hq => (HO.out.lt q hq).1)
      have HONE : Hid (∀ u ∈ [Value.int .i64 (c * dy), Value.int .i64 (r)], u.oneCell' = true) := Lib.hid (by simp [Value.oneCell'])
      have HQ10 : Hid (k + 1 ≤ maxLen) := Lib.hid (by unfold maxLen; omega)
      have HQ11 : Hid ((k + 1) * 16 ≤ 140737488355328) := Lib.hid (by omega)
      go_wp2_with fail
      go_region_held3 (fun w' => w'.cell? ⟨w.heap.size, 1, none⟩ = some (.slice (some ⟨b, off, none⟩) lx.length cx) ∧ w'.cell? ⟨w.heap.size + 1, 0, none⟩ = some (.int .i64 dy) ∧ w'.cell? ⟨b, off + k * 2, none⟩ = some (.int .i64 c) ∧ w'.cell? ⟨b, off + k * 2 + 1, none⟩ = some (.int .i64 r))
        (first | exact KK.out _ (KB.out _ (by (first | exact C0 | exact C0.drew | exact C0.alloc (Nat.le_refl _) _ | exact (C0.drew).alloc (Nat.le_refl _) _ | exact (C0.alloc (Nat.le_refl _) _).drew | exact ((C0.drew).alloc (Nat.le_refl _) _).drew))) | exact KK.out _ BG | exact KK.out _ BG.drew)
        ((refine step_append_lies _ (by rfl) _ _ _ (by rfl) w2.heap.size 34 i0 (.agg #[.int .i64 0, .int .i64 0]) 2 16 und22 hi hz0 hz1 hz2 (by rfl) (by decide) u8 k (flatT (plusL s dx (lx.take k) dy [])) (by rfl) (HOWN.out _ (by (first | exact C0 | exact C0.drew | exact C0.alloc (Nat.le_refl _) _ | exact (C0.drew).alloc (Nat.le_refl _) _ | exact (C0.alloc (Nat.le_refl _) _).drew | exact ((C0.drew).alloc (Nat.le_refl _) _).drew))) ⟨wr.heap.size, 0, none⟩ 1 1 [Value.int .i64 (c * dy), Value.int .i64 (r)] (by rfl) (by rfl) (fun j u h => cell_two_new _ _ _ _ j u h) HONE.out (by decide) HQ10.out HQ11.out (Below.size (KB.out _ (by (first | exact C0 | exact C0.drew | exact C0.alloc (Nat.le_refl _) _ | exact (C0.drew).alloc (Nat.le_refl _) _ | exact (C0.alloc (Nat.le_refl _) _).drew | exact ((C0.drew).alloc (Nat.le_refl _) _).drew)))) (wr.heap.size + 1) (by simp) ?_; intro g8 cap8 w8 hown8 hgrow8 hat8 hlt8; have BG := Below.grown (KB.out _ (by (first | exact C0 | exact C0.drew | exact C0.alloc (Nat.le_refl _) _ | exact (C0.drew).alloc (Nat.le_refl _) _ | exact (C0.alloc (Nat.le_refl _) _).drew | exact ((C0.drew).alloc (Nat.le_refl _) _).drew))) hgrow8 (Below.size (KB.out _ (by (first | exact C0 | exact C0.drew | exact C0.alloc (Nat.le_refl _) _ | exact (C0.drew).alloc (Nat.le_refl _) _ | exact (C0.alloc (Nat.le_refl _) _).drew | exact ((C0.drew).alloc (Nat.le_refl _) _).drew)))) HLOW.out; have HOWN9 := Lib.hid hown8; have HBG := Lib.hid BG; clear hown8 hgrow8 hat8))
      go_wp2
      go_roundw
      case rel => exact ⟨k + 1, by omega, by go_num, Lib.hid (by rw [HSN.out]; refine own9' (by rw [List.length_append, HN.out]) ?_; rw [flatT_snoc]; exact HOWN9.out), HBG⟩
      case measure => simp only [intOf]; omega
    · have hkl : k = lx.length := by omega
      have HO1 : Hid (OwnT wr w2.heap.size u8 (plusL s dx lx dy [])) := Lib.hid (by have := HO.out; rwa [hkl, List.take_length] at this)
      have z := KX.out _ HB.out
      obtain ⟨x0, x1, y0, y1⟩ := z
      clear hkl HO
      go_wp2
      go_loopw [8, 10] (fun v i wr => ∃ k : Nat, k ≤ ly.length ∧ i = .int .i64 k ∧ Hid (OwnT wr w2.heap.size v (plusL s dx lx dy (ly.take k))) ∧ Hid (Below w2.heap.size w2 wr)) (fun _ i _ => ly.length - (intOf i).toNat)
      case atStart => exact ⟨0, Nat.zero_le _, rfl, HO1, HB⟩
      case round =>
        clear HO1 HB x0 x1 y0 y1
        obtain ⟨k, hk, rfl, HO, HB⟩ := hrel
        by_cases hlt : k < ly.length
        · obtain ⟨b, off, rfl, hbl, hp1, hp2⟩ := PY.out k hlt
          obtain ⟨x0, x1, y0, y1⟩ := KX.out _ HB.out
          have HBL : Hid (b < w2.heap.size) := Lib.hid (by omega)
          have HC1 := Lib.hid ((BB2.out.cell (p := ⟨b, _, none⟩) hbl).trans hp1)
          have HC2 := Lib.hid ((BB2.out.cell (p := ⟨b, _, none⟩) hbl).trans hp2)
          have hpt := vld_pt HVY2.out (ly[k]?.getD (0, 0)) (by simp [hlt])
          obtain ⟨c, r, hel⟩ : ∃ c r, ly[k]?.getD (0, 0) = (c, r) := ⟨_, _, rfl⟩
          rw [hel] at HC1 HC2 hpt
          dsimp only at HC1 HC2 hpt
          obtain ⟨⟨p1, p2⟩, p3, p4⟩ := hpt
          have HSN := Lib.hid (plus_snoc2 (s := s) (dx := dx) (dy := dy) (lx := lx) hlt hel)
          have HN : Hid ((plusL s dx lx dy (ly.take k)).length = lx.length + k) := Lib.hid (by rw [plusL_len]; simp; omega)
          have hm1 := mulab_bd (show -1 ≤ s by omega) hs2 p1 p2 (by omega) (by omega)
          have hm := mulab_bd (a := s * c) (b := dx) (A := 100000) (B := 100000) (by omega) (by omega) (by omega) (by omega) (by omega) (by omega)
          have hw1 : IntKind.i64.wrap (s * c) = s * c := IntWalk.i64_in _ (by omega)
          have hw2 : IntKind.i64.wrap (s * c * dx) = s * c * dx := IntWalk.i64_in _ (by omega)
          have i1 : (0 : Int) ≤ (k : Int) := by omega
          have i2 : (k : Int) < (ly.length : Int) := by omega
          have KK : Hid (∀ w', Below w2.heap.size w2 w' → w'.cell? ⟨w.heap.size + 1, 1, none⟩ = some (.slice (some ⟨b, off, none⟩) ly.length cy) ∧ w'.cell? ⟨w.heap.size, 0, none⟩ = some (.int .i64 dx) ∧ w'.cell? ⟨b, off + k * 2, none⟩ = some (.int .i64 c) ∧ w'.cell? ⟨b, off + k * 2 + 1, none⟩ = some (.int .i64 r)) := Lib.hid fun w' h => by
            have q := KX.out w' h
            exact ⟨q.2.2.2, q.1, (h.cell (p := ⟨b, _, none⟩) HBL.out).trans HC1.out, (h.cell (p := ⟨b, _, none⟩) HBL.out).trans HC2.out⟩
          clear hel hp1 hp2 hm hm1 x1 y0
          have C0 := Below.refl wr.heap.size wr
          have KB : Hid (∀ w', Below wr.heap.size wr w' → Below w2.heap.size w2 w') := Lib.hid fun w' h => HB.out.trans (h.mono HB.out.size)
          have HOWN : Hid (∀ w', Below wr.heap.size wr w' → w'.ownsRow w2.heap.size 34 2 u8 (lx.length + k) (flatT (plusL s dx lx dy (ly.take k)))) := Lib.hid fun w' h => own8' HN.out (HO.out.below h)
          have HLOW : Hid (∀ q, u8.ownBlock = some q → w2.heap.size ≤ q) := Lib.hid (fun q hq => (HO.out.lt q hq).1)
          have HONE : Hid (∀ u ∈ [Value.int .i64 (s * c * dx), Value.int .i64 (r)], u.oneCell' = true) := Lib.hid (by simp [Value.oneCell'])
          have HQ10 : Hid ((lx.length + k) + 1 ≤ maxLen) := Lib.hid (by unfold maxLen; omega)
          have HQ11 : Hid (((lx.length + k) + 1) * 16 ≤ 140737488355328) := Lib.hid (by omega)
          go_wp2_with fail
          go_region_held3 (fun w' => w'.cell? ⟨w.heap.size + 1, 1, none⟩ = some (.slice (some ⟨b, off, none⟩) ly.length cy) ∧ w'.cell? ⟨w.heap.size, 0, none⟩ = some (.int .i64 dx) ∧ w'.cell? ⟨b, off + k * 2, none⟩ = some (.int .i64 c) ∧ w'.cell? ⟨b, off + k * 2 + 1, none⟩ = some (.int .i64 r))
            (first | exact KK.out _ (KB.out _ (by (first | exact C0 | exact C0.drew | exact C0.alloc (Nat.le_refl _) _ | exact (C0.drew).alloc (Nat.le_refl _) _ | exact (C0.alloc (Nat.le_refl _) _).drew | exact ((C0.drew).alloc (Nat.le_refl _) _).drew))) | exact KK.out _ BG | exact KK.out _ BG.drew)
            ((refine step_append_lies _ (by rfl) _ _ _ (by rfl) w2.heap.size 34 i0 (.agg #[.int .i64 0, .int .i64 0]) 2 16 und22 hi hz0 hz1 hz2 (by rfl) (by decide) u8 (lx.length + k) (flatT (plusL s dx lx dy (ly.take k))) (by rfl) (HOWN.out _ (by (first | exact C0 | exact C0.drew | exact C0.alloc (Nat.le_refl _) _ | exact (C0.drew).alloc (Nat.le_refl _) _ | exact (C0.alloc (Nat.le_refl _) _).drew | exact ((C0.drew).alloc (Nat.le_refl _) _).drew))) ⟨wr.heap.size, 0, none⟩ 1 1 [Value.int .i64 (s * c * dx), Value.int .i64 (r)] (by rfl) (by rfl) (fun j u h => cell_two_new _ _ _ _ j u h) HONE.out (by decide) HQ10.out HQ11.out (Below.size (KB.out _ (by (first | exact C0 | exact C0.drew | exact C0.alloc (Nat.le_refl _) _ | exact (C0.drew).alloc (Nat.le_refl _) _ | exact (C0.alloc (Nat.le_refl _) _).drew | exact ((C0.drew).alloc (Nat.le_refl _) _).drew)))) (wr.heap.size + 1) (by simp) ?_; intro g8 cap8 w8 hown8 hgrow8 hat8 hlt8; have BG := Below.grown (KB.out _ (by (first | exact C0 | exact C0.drew | exact C0.alloc (Nat.le_refl _) _ | exact (C0.drew).alloc (Nat.le_refl _) _ | exact (C0.alloc (Nat.le_refl _) _).drew | exact ((C0.drew).alloc (Nat.le_refl _) _).drew))) hgrow8 (Below.size (KB.out _ (by (first | exact C0 | exact C0.drew | exact C0.alloc (Nat.le_refl _) _ | exact (C0.drew).alloc (Nat.le_refl _) _ | exact (C0.alloc (Nat.le_refl _) _).drew | exact ((C0.drew).alloc (Nat.le_refl _) _).drew)))) HLOW.out; have HOWN9 := Lib.hid hown8; have HBG := Lib.hid BG; clear hown8 hgrow8 hat8))
          go_wp2
          go_roundw
          case rel => exact ⟨k + 1, by omega, by go_num, Lib.hid (by rw [HSN.out]; refine own9' (by rw [List.length_append, HN.out]) ?_; rw [flatT_snoc]; exact HOWN9.out), HBG⟩
          case measure => simp only [intOf]; omega
        · have hkl : k = ly.length := by omega
          have HO1 : Hid (OwnT wr w2.heap.size u8 (plusL s dx lx dy ly)) := Lib.hid (by have := HO.out; rwa [hkl, List.take_length] at this)
          have HT : Hid (TermsAt wr u8 (plusL s dx lx dy ly)) := Lib.hid (HO1.out.at (by rw [plusL_len]; omega))
          obtain ⟨x0, x1, y0, y1⟩ := KX.out _ HB.out
          clear hkl HO
          have hmd := mul_den dx dy hdx1 hdx2 hdy1 hdy2
          obtain ⟨hmd1, hmd2⟩ := hmd
          have hw1 : IntKind.i64.wrap (dx * dy) = dx * dy := IntWalk.i64_in _ (by omega)
          go_wp2_with fail
          refine (parts_any (dx * dy) 400000000000 _ _ _ HT.out (by rw [plusL_len]; omega) (by omega) (by rw [plusL_len]; omega) (plusL_pb HVX2.out HVY2.out HSS.out) (by omega) (by omega) (by omega)).mono ?_
          rintro e w7 ⟨us, hsp, lf, hit, hlf, v, rfl, hta, hbw, hfr⟩
          have e1 := plusL_sp HVX2.out.rts HVY2.out.rts hsp
          rw [e1, plusL_coef] at hit
          clear e1 hsp
          have R6 : Hid (Two wr (w.heap.size + 1 + 1) (.int .i64 0) (.slice none 0 0) 24) := Lib.hid (RR2.out.below HB.out RR2.out.lt)
          have HW6 : Hid (Below w.heap.size w wr) := Lib.hid (BB2.out.trans (HB.out.mono BB2.out.size))
          have R7 : Hid (Two w7 (w.heap.size + 1 + 1) (.int .i64 0) (.slice none 0 0) 24) := Lib.hid (R6.out.below hbw R6.out.lt)
          have HW7 : Hid (Below w.heap.size w w7) := Lib.hid (HW6.out.trans (hbw.mono HW6.out.size))
          have HFR : Hid (∀ k, v.ownBlock = some k → w.heap.size + 2 < k) := Lib.hid (fun k hk => by have := hfr k hk; have := R6.out.lt; omega)
          have HTA := Lib.hid hta
          have HP : Hid (addF s dx lx dy ly (finF (dx * dy) lf)) := Lib.hid (by simp only [addF]; rw [if_pos ⟨HVX.out, HVY.out⟩]; exact ⟨lf, hit, rfl⟩)
          obtain ⟨r, hr⟩ : ∃ r, finF (dx * dy) lf = r := ⟨_, rfl⟩
          rw [hr] at HTA HP
          rw [hr]
          obtain ⟨a7, cap7, rfl, _⟩ := HTA.out.placed
          clear hta hbw hfr hit hr x0 x1 y0 y1
          have r0 := R7.out.c0
          have r1 := R7.out.c1
          have f0 := R7.out.fr (i := 0)
          have f1 := R7.out.fr (i := 1)
          go_wp2
          obtain ⟨d0, d1, d2, hg⟩ := two_after R7.out (.int .i64 r.1) (.slice a7 r.2.1.length cap7) rfl
          refine bodyPost_ret (v := .tuple #[.agg #[.int .i64 r.1, .slice a7 r.2.1.length cap7], .int .i64 r.2.2]) ?_ rfl ?_
          · simp [results, Tryz.results26, go_sem, d0, d1, d2]
          · refine ⟨_, HP.out, _, rfl, HTA.out.kept hg ?_, HW7.out.grown hg HW7.out.size (by intro k hk; cases hk; omega), fun k hk => by have := HFR.out k hk; omega⟩
            cases hv : (Value.slice a7 r.2.1.length cap7).ownBlock with
            | none => exact .inl rfl
            | some k => right; have := HFR.out k hv; simp; omega
end Go.Proofs.YtedpafdfecofnaaGreatDoor
