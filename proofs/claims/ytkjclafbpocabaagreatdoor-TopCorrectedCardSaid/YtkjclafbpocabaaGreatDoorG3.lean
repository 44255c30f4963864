/-
  Contracts of the program's own functions (and their plain mathematics), on the way to the law: each for all arguments that its hypotheses let.
-/
import Derived.Test.YtkjclafbpocabaaGreatDoorG2
import Derived.WalkKit
import Derived.WalkSpells
import Derived.WalkLawsBesides
import Derived.Deep.QuietTactic
import Derived.BigQuiet
import Derived.Lib.Hide
import Derived.WalkSmall
import Derived.Maps.OwnSet
import Derived.Maps.RangeWalk
import Derived.Deep.RegionWith
import Derived.Deep.RegionHeld3
set_option linter.unusedSimpArgs false
set_option linter.unusedVariables false

/-! ## S7 -/
namespace Go.Proofs.YtkjclafbpocabaaGreatDoor
open Go.RowKit Go.Maps
def mulT (t u : Int × Int) : Int × Int := (t.1 * u.1 * (Int.gcd t.2 u.2 : Int), t.2 / (Int.gcd t.2 u.2 : Int) * (u.2 / (Int.gcd t.2 u.2 : Int)))
def prodUp (lx ly : List (Int × Int)) (k j : Nat) : List (Int × Int) := ((lx.take k).flatMap fun t => ly.map (mulT t)) ++ (ly.take j).map (mulT (lx[k]?.getD (0, 0)))
def prodL (lx ly : List (Int × Int)) : List (Int × Int) := lx.flatMap fun t => ly.map (mulT t)
theorem prodUp_j (lx ly : List (Int × Int)) (k j : Nat) (h : j < ly.length) : prodUp lx ly k (j + 1) = prodUp lx ly k j ++ [mulT (lx[k]?.getD (0, 0)) (ly[j]?.getD (0, 0))] := by
  unfold prodUp
  rw [List.take_succ_eq_append_getElem h, List.map_append, List.append_assoc]
  simp only [List.map_cons, List.map_nil, List.getElem?_eq_getElem h, Option.getD_some]
theorem prodUp_k (lx ly : List (Int × Int)) (k j : Nat) (h : k < lx.length) (hj : ly.length ≤ j) : prodUp lx ly k j = prodUp lx ly (k + 1) 0 := by
  unfold prodUp
  rw [List.take_of_length_le hj, List.take_succ_eq_append_getElem h, List.flatMap_append]
  simp only [List.take_zero, List.map_nil, List.append_nil, List.flatMap_cons, List.flatMap_nil, List.getElem?_eq_getElem h, Option.getD_some]
theorem prodUp_end (lx ly : List (Int × Int)) : prodUp lx ly lx.length 0 = prodL lx ly := by
  unfold prodUp prodL
  rw [List.take_length, List.take_zero, List.map_nil, List.append_nil]
theorem prodL_len (l ly : List (Int × Int)) : (prodL l ly).length = l.length * ly.length := by
  unfold prodL
  induction l with
  | nil => simp
  | cons t l ih => rw [List.flatMap_cons, List.length_append, ih, List.length_map, List.length_cons, Nat.succ_mul]; omega
theorem prodUp_len (lx ly : List (Int × Int)) (k j : Nat) (h : k < lx.length) : (prodUp lx ly k j).length ≤ lx.length * ly.length := by
  unfold prodUp
  have h1 := prodL_len (lx.take k) ly
  unfold prodL at h1
  rw [List.length_append, h1, List.length_map, List.length_take, List.length_take]
  have : min k lx.length * ly.length + 1 * ly.length ≤ lx.length * ly.length := by
    rw [← Nat.add_mul]; exact Nat.mul_le_mul_right _ (by omega)
  omega
theorem prodUp_mem (lx ly : List (Int × Int)) (k j : Nat) (h : k < lx.length) : ∀ p ∈ prodUp lx ly k j, ∃ t ∈ lx, ∃ u ∈ ly, p = mulT t u := by
  intro p hp
  unfold prodUp at hp
  rw [List.mem_append, List.mem_flatMap, List.mem_map] at hp
  rcases hp with ⟨t, ht, hp⟩ | ⟨u, hu, rfl⟩
  · obtain ⟨u, hu, rfl⟩ := List.mem_map.1 hp
    exact ⟨t, List.mem_of_mem_take ht, u, hu, rfl⟩
  · exact ⟨_, by simp [h], u, List.mem_of_mem_take hu, rfl⟩
theorem plusC_snoc (c : Int → Int) (m : Int) (l : List (Int × Int)) (t : Int × Int) : plusC (plusC c m l) m [t] = plusC c m (l ++ [t]) := by
  funext r
  simp only [plusC, coefOf_snoc]
  have : coefOf [t] r = if t.2 = r then t.1 else 0 := by simp [coefOf]
  rw [this]
  by_cases h : t.2 = r
  · rw [if_pos h, if_pos h, Int.mul_add]; omega
  · rw [if_neg h, if_neg h]; omega
theorem gcd_bd (a b : Int) (ha : 1 ≤ a) (ha2 : a ≤ 1000) : 1 ≤ (Int.gcd a b : Int) ∧ (Int.gcd a b : Int) ≤ 1000 := by
  have h1 : Int.gcd a b ≠ 0 := by intro h; have := Int.gcd_eq_zero_iff.1 h; omega
  have h2 := Nat.le_of_dvd (by omega) (Int.gcd_dvd_natAbs_left a b)
  omega
theorem div_bd (a g : Int) (ha : 1 ≤ a) (ha2 : a ≤ 1000) (hg : 1 ≤ g) : 0 ≤ a / g ∧ a / g ≤ 1000 := by
  exact ⟨Int.ediv_nonneg (by omega) (by omega), by have := Int.ediv_le_self (a := a) g (by omega); omega⟩
theorem mulT_bd (t u : Int × Int) (h1 : -100000 ≤ t.1 ∧ t.1 ≤ 100000) (h2 : -100000 ≤ u.1 ∧ u.1 ≤ 100000) (h3 : 1 ≤ t.2 ∧ t.2 ≤ 1000) (h4 : 1 ≤ u.2 ∧ u.2 ≤ 1000) :
    -10000000000 ≤ t.1 * u.1 ∧ t.1 * u.1 ≤ 10000000000 ∧ -10000000000000 ≤ (mulT t u).1 ∧ (mulT t u).1 ≤ 10000000000000 ∧ 0 ≤ (mulT t u).2 ∧ (mulT t u).2 ≤ 1000000 := by
  have a := mul_abs_le t.1 u.1 100000 100000 h1.1 h1.2 h2.1 h2.2
  have g := gcd_bd t.2 u.2 h3.1 h3.2
  have b := mul_abs_le (t.1 * u.1) (Int.gcd t.2 u.2) 10000000000 1000 (by omega) (by omega) (by omega) (by omega)
  have d1 := div_bd t.2 _ h3.1 h3.2 g.1
  have d2 := div_bd u.2 _ h4.1 h4.2 g.1
  have e := Int.mul_le_mul d1.2 d2.2 d2.1 (by omega)
  have f := Int.mul_nonneg d1.1 d2.1
  unfold mulT
  simp only
  omega

/-- A value of a list of terms, for a walk: where there is a term, there is its place. -/
def Placed (w : World) (a : Option Addr) (l : List (Int × Int)) : Prop :=
  ∀ i, i < l.length → ∃ b off, a = some ⟨b, off, none⟩ ∧ b < w.heap.size ∧ w.cell? ⟨b, off + i * 2, none⟩ = some (.int .i64 (l[i]?.getD (0, 0)).1) ∧ w.cell? ⟨b, off + i * 2 + 1, none⟩ = some (.int .i64 (l[i]?.getD (0, 0)).2)
theorem TermsAt.placed {w : World} {v : Value} {l : List (Int × Int)} (h : TermsAt w v l) : ∃ a cap, v = .slice a l.length cap ∧ Placed w a l := by
  obtain ⟨hl, ⟨rfl, a, cap, rfl⟩ | ⟨b, off, cap, rfl, _, hb, hc⟩⟩ := h
  · exact ⟨a, cap, rfl, fun i hi => by simp at hi⟩
  · exact ⟨_, cap, rfl, fun i hi => ⟨b, off, rfl, hb, (hc i hi).1, (hc i hi).2⟩⟩
theorem termsAt_one (w : World) (b cap : Nat) (t : Int × Int) (hb : b < w.heap.size) (hcap : 1 ≤ cap) (h0 : w.cell? ⟨b, 0, none⟩ = some (.int .i64 t.1)) (h1 : w.cell? ⟨b, 1, none⟩ = some (.int .i64 t.2)) : TermsAt w (.slice (some ⟨b, 0, none⟩) 1 cap) [t] := by
  refine ⟨by simp, .inr ⟨b, 0, cap, rfl, by simpa using hcap, hb, fun i hi => ?_⟩⟩
  have : i = 0 := by simpa using hi
  subst this
  exact ⟨by simpa using h0, by simpa using h1⟩

theorem zero_plus_bd (m M : Int) (L : List (Int × Int)) (n : Nat) (hm1 : -M ≤ m) (hm2 : m ≤ M) (hM0 : 0 ≤ M) (hL : L.length ≤ n) (hML : M * (10000000000000 * (n : Int)) ≤ 9000000000000000000) (h : ∀ t ∈ L, -10000000000000 ≤ t.1 ∧ t.1 ≤ 10000000000000) (s : Int) :
    -9000000000000000000 ≤ plusC zeroC m L s ∧ plusC zeroC m L s ≤ 9000000000000000000 := by
  have := plus_bd zeroC m L 0 M 10000000000000 (fun r => by simp [zeroC]) hm1 hm2 (by omega) h hM0 n hL L.length (Nat.le_refl _) s
  rw [List.take_length] at this
  omega

/-- What the sum holds, and how the heap has turned since the call began. -/
def ProdI (w wr : World) (B : Nat) (m : Int) (L : List (Int × Int)) : Prop := OwnSum wr B L.length (plusC zeroC m L) ∧ Below w.heap.size w wr ∧ w.heap.size < wr.heap.size ∧ B = w.heap.size

def DomQ (x y : Int) : Prop := 0 ≤ x ∧ x ≤ 1000000 ∧ 1 ≤ y
def DomM (x y : Int) : Prop := -9000000000000000000 ≤ x * y ∧ x * y ≤ 9000000000000000000
theorem domQ_wrap : ∀ x y : Int, DomQ x y → IntKind.i64.wrap (x.tdiv y) = x / y := fun x y h => IntWalk.i64_quo x y ⟨h.1, by have := h.2.1; omega, h.2.2⟩
theorem domM_wrap : ∀ x y : Int, DomM x y → IntKind.i64.wrap (x * y) = x * y := fun x y h => IntWalk.i64_in _ (by unfold DomM at h; omega)
theorem ProdI.alloc {w wr : World} {B : Nat} {m : Int} {L : List (Int × Int)} (h : ProdI w wr B m L) (o : Obj) : ProdI w (wr.alloc o) B m L :=
  ⟨h.1.below ((Below.refl _ _).alloc (Nat.le_refl _) _), h.2.1.alloc (Nat.le_trans (Nat.le_of_lt h.2.2.1) (Nat.le_refl _)) _, by have := h.2.2.1; simp; omega, h.2.2.2⟩
theorem prodI_start (w : World) (m : Int) (lx ly : List (Int × Int)) : ProdI w (w.alloc (.map #[] 0)) w.heap.size m (prodUp lx ly 0 0) := by
  have e : plusC zeroC m (prodUp lx ly 0 0) = (fun _ => 0) := by
    funext r
    simp [plusC, coefOf, prodUp, zeroC]
  have e2 : (prodUp lx ly 0 0).length = 0 := by simp [prodUp]
  refine ⟨?_, (Below.refl _ _).alloc (Nat.le_refl _) _, by simp, rfl⟩
  rw [e, e2]
  exact ownSum_made rfl
theorem keep1 {W2 w3 : World} {o : Obj} {b i : Nat} {v : Value} {B : Nat} (h : W2.cell? ⟨b, i, none⟩ = some v) (hg : ((W2.alloc o).drew).grownBy w3 (some B)) (hne : b ≠ B) : w3.cell? ⟨b, i, none⟩ = some v :=
  hg.cell (a := ⟨b, i, none⟩) (v := v) (by have := World.cell?_alloc_some W2 ⟨b, i, none⟩ o (by rw [h]; rfl); exact this.trans h) (by simpa using hne)
theorem prod_call {w wq W2 : World} {m M : Int} {L : List (Int × Int)} (HI : Hid (ProdI w wq w.heap.size m L)) (HBN : Hid (Below wq.heap.size wq W2)) (x r : Int)
    (HB : Hid (-M ≤ m ∧ m ≤ M ∧ M ≤ 100000 ∧ 0 ≤ M ∧ -10000000000000 ≤ x ∧ x ≤ 10000000000000 ∧ 0 ≤ r ∧ r ≤ 1000000 ∧ L.length ≤ 16 ∧ (∀ q : List (Int × Int), (q = L ∨ q = L ++ [(x, r)]) → ∀ s, -9000000000000000000 ≤ plusC zeroC m q s ∧ plusC zeroC m q s ≤ 9000000000000000000))) :
    Calls Tryz.prog 113 #[.map (some w.heap.size), .int .i64 m, .slice (some ⟨W2.heap.size, 0, none⟩) 1 1] ((W2.alloc (.cells #[.int .i64 x, .int .i64 r] 85)).drew)
      (AddTo w.heap.size (L ++ [(x, r)]).length (plusC zeroC m (L ++ [(x, r)])) ((W2.alloc (.cells #[.int .i64 x, .int .i64 r] 85)).drew)) := by
  obtain ⟨h1, h2, h3, h4, h5, h6, h7, h8, h9, h10⟩ := HB.out
  have hO2 : OwnSum W2 w.heap.size L.length (plusC zeroC m L) := HI.out.1.below HBN.out
  have := add_at w.heap.size L.length (plusC zeroC m L) m (.slice (some ⟨W2.heap.size, 0, none⟩) 1 1) [(x, r)] ((W2.alloc (.cells #[.int .i64 x, .int .i64 r] 85)).drew) (termsAt_one _ _ _ _ (by simp) (by omega) (cell_two_new _ _ _ _ 0 _ rfl) (cell_two_new _ _ _ _ 1 _ rfl))
    (by intro b off len cap hv _; simp at hv; have := hO2.lt; omega) (by simp) (by omega) (hO2.below ((Below.refl _ _).alloc (Nat.le_refl _) _ |>.drew))
    (Lib.hid (fun t ht => by
      simp at ht
      subst ht
      have := mul_abs_le m x M 10000000000000 h1 h2 (by omega) (by omega)
      have : M * 10000000000000 ≤ 100000 * 10000000000000 := Int.mul_le_mul_of_nonneg_right h3 (by omega)
      dsimp only
      omega))
    (Lib.hid (fun q hq s => by
      simp at hq
      have : q = 0 ∨ q = 1 := by omega
      rcases this with rfl | rfl
      · have := h10 L (.inl rfl) s; simpa [plusC, coefOf] using this
      · have := h10 _ (.inr rfl) s; rw [← plusC_snoc] at this; exact this))
  rw [plusC_snoc] at this
  simpa using this

set_option maxRecDepth 100000 in
set_option maxHeartbeats 1000000 in
theorem product_any (m M : Int) (vx vy : Value) (lx ly : List (Int × Int)) (w : World) (hx : TermsAt w vx lx) (hy : TermsAt w vy ly) (hlx : lx.length ≤ 4) (hly : ly.length ≤ 4) (hm1 : -M ≤ m) (hm2 : m ≤ M) (hM : M ≤ 100000) (hM0 : 0 ≤ M)
    (hML : M * (10000000000000 * ((lx.length * ly.length : Nat) : Int)) ≤ 9000000000000000000)
    (hcx : Hid (∀ t ∈ lx, (-100000 ≤ t.1 ∧ t.1 ≤ 100000) ∧ (1 ≤ t.2 ∧ t.2 ≤ 1000))) (hcy : Hid (∀ t ∈ ly, (-100000 ≤ t.1 ∧ t.1 ≤ 100000) ∧ (1 ≤ t.2 ∧ t.2 ≤ 1000))) :
    Calls Tryz.prog 116 #[.int .i64 m, vx, vy] w (SumTo (plusC zeroC m (prodL lx ly)) w) := by
  have hmm := @run_makeMap Tryz.prog
  obtain ⟨ax, cx, rfl, px⟩ := hx.placed
  obtain ⟨ay, cy, rfl, py⟩ := hy.placed
  have PX := Lib.hid px
  have PY := Lib.hid py
  have HML := Lib.hid hML
  clear hx hy px py hML
  go_enter Tryz.func116, Tryz.ntmps116
  go_wp2
  go_loopw [16] (fun i wr => ∃ k : Nat, k ≤ lx.length ∧ i = .int .i64 k ∧ Hid (ProdI w wr w.heap.size m (prodUp lx ly k 0))) (fun i _ => lx.length - (intOf i).toNat)
  case atStart => exact ⟨0, Nat.zero_le _, rfl, Lib.hid (prodI_start w m lx ly)⟩
  case round =>
    obtain ⟨k, hk, rfl, HI⟩ := hrel
    by_cases hlt : k < lx.length
    · obtain ⟨bx, offx, rfl, hbx, hc1, hc2⟩ := PX.out k hlt
      replace hc1 := (HI.out.2.1.cell (p := ⟨bx, _, none⟩) hbx).trans hc1
      replace hc2 := (HI.out.2.1.cell (p := ⟨bx, _, none⟩) hbx).trans hc2
      have hbd := hcx.out (lx[k]?.getD (0, 0)) (by simp [hlt])
      have hpj := fun j => prodUp_j lx ly k j
      have hpk := fun j => prodUp_k lx ly k j hlt
      have hpl := fun j => prodUp_len lx ly k j hlt
      have hpm := fun j => prodUp_mem lx ly k j hlt
      have hwl := HI.out.2.2.1
      obtain ⟨c1, r1, hel⟩ : ∃ x r, lx[k]?.getD (0, 0) = (x, r) := ⟨_, _, rfl⟩
      rw [hel] at hc1 hc2 hbd
      simp only [hel] at hpj
      have HPJ := Lib.hid hpj
      have HPK := Lib.hid hpk
      have HPL := Lib.hid hpl
      have HPM := Lib.hid hpm
      dsimp only at hc1 hc2 hbd
      obtain ⟨⟨hb1, hb2⟩, hb3, hb4⟩ := hbd
      clear hel hpj hpk hpl hpm
      go_wp2
      have hbox : Hid ((wr.alloc (.cells #[.int .i64 c1, .int .i64 r1] 85)).cell? ⟨wr.heap.size, 0, none⟩ = some (.int .i64 c1) ∧ (wr.alloc (.cells #[.int .i64 c1, .int .i64 r1] 85)).cell? ⟨wr.heap.size, 1, none⟩ = some (.int .i64 r1) ∧ wr.heap.size < (wr.alloc (.cells #[.int .i64 c1, .int .i64 r1] 85)).heap.size) :=
        Lib.hid ⟨cell_two_new _ _ _ _ 0 _ rfl, cell_two_new _ _ _ _ 1 _ rfl, by simp⟩
      have hI1 : Hid (ProdI w (wr.alloc (.cells #[.int .i64 c1, .int .i64 r1] 85)) w.heap.size m (prodUp lx ly k 0)) := Lib.hid (HI.out.alloc _)
      generalize hbt : wr.heap.size = bt at hbox ⊢
      have hbtw : w.heap.size < bt := by omega
      have HBT := Lib.hid hbt
      clear hbt
      go_loopw [22] (fun i wq => ∃ j : Nat, j ≤ ly.length ∧ i = .int .i64 j ∧ Hid (ProdI w wq w.heap.size m (prodUp lx ly k j)) ∧
        Hid (wq.cell? ⟨bt, 0, none⟩ = some (.int .i64 c1) ∧ wq.cell? ⟨bt, 1, none⟩ = some (.int .i64 r1) ∧ bt < wq.heap.size)) (fun i _ => ly.length - (intOf i).toNat)
      case atStart => exact ⟨0, Nat.zero_le _, rfl, hI1, hbox⟩
      case round =>
        clear hbox hI1
        obtain ⟨j, hj, rfl, HI2, HX2⟩ := hrel
        by_cases hlj : j < ly.length
        · obtain ⟨by', offy, rfl, hby, hd1, hd2⟩ := PY.out j hlj
          replace hd1 := (HI2.out.2.1.cell (p := ⟨by', _, none⟩) hby).trans hd1
          replace hd2 := (HI2.out.2.1.cell (p := ⟨by', _, none⟩) hby).trans hd2
          have hbd2 := hcy.out (ly[j]?.getD (0, 0)) (by simp [hlj])
          have hpj2 := HPJ.out j hlj
          have hwl2 := HI2.out.2.2.1
          obtain ⟨hx0, hx1, hxl⟩ := HX2.out
          obtain ⟨c2, r2, hel2⟩ : ∃ x r, ly[j]?.getD (0, 0) = (x, r) := ⟨_, _, rfl⟩
          rw [hel2] at hd1 hd2 hbd2 hpj2
          dsimp only at hd1 hd2 hbd2
          have HPJ2 := Lib.hid hpj2
          clear hel2 hpj2
          obtain ⟨⟨hb5, hb6⟩, hb7, hb8⟩ := hbd2
          go_wp2_with fail
          refine (gcd_any r1 r2 _ (by omega) (by omega) (by omega) (by omega)).mono ?_
          rintro e w2 ⟨rfl, n2, rfl⟩
          have hmb := mulT_bd (c1, r1) (c2, r2) ⟨hb1, hb2⟩ ⟨hb5, hb6⟩ ⟨hb3, hb4⟩ ⟨hb7, hb8⟩
          have hgb := gcd_bd r1 r2 hb3 hb4
          unfold mulT at hmb
          dsimp only at hmb
          generalize hg : (Int.gcd r1 r2 : Int) = g at hmb hgb ⊢
          have HG := Lib.hid hg
          clear hg
          obtain ⟨hg1, hg2⟩ := hgb
          obtain ⟨hm3, hm4, hm5, hm6, hm7, hm8⟩ := hmb
          go_wp2
          have hbn := below_drewN ((Below.refl _ wr).alloc (Nat.le_refl _) (.cells #[.int .i64 c2, .int .i64 r2] 85)) n2
          have k0 := (hbn.cell (p := ⟨bt, 0, none⟩) hxl).trans hx0
          have k1 := (hbn.cell (p := ⟨bt, 1, none⟩) hxl).trans hx1
          have k2 : ((wr.alloc (.cells #[.int .i64 c2, .int .i64 r2] 85)).drewN n2).cell? ⟨wr.heap.size, 0, none⟩ = some (.int .i64 c2) := cell_two_new _ _ _ _ 0 _ rfl
          have k3 : ((wr.alloc (.cells #[.int .i64 c2, .int .i64 r2] 85)).drewN n2).cell? ⟨wr.heap.size, 1, none⟩ = some (.int .i64 r2) := cell_two_new _ _ _ _ 1 _ rfl
          generalize hW2 : (World.drewN _ n2) = W2 at k0 k1 k2 k3 hbn ⊢
          have HBN := Lib.hid hbn
          clear hW2 hbn hx0 hx1 hd1 hd2 hc1 hc2
          have dq1 : DomQ r1 g := by unfold DomQ; omega
          have dq2 : DomQ r2 g := by unfold DomQ; omega
          have dm1 : DomM (r1 / g) (r2 / g) := by unfold DomM; omega
          have dm2 : DomM c1 c2 := by unfold DomM; omega
          have dm3 : DomM (c1 * c2) g := by unfold DomM; omega
          have hg0 : (g == 0) = false := by simp; omega
          have hg00 : ¬ g = 0 := by omega
          have hq := domQ_wrap
          have hp := domM_wrap
          have HBB : Hid (-M ≤ m ∧ m ≤ M ∧ M ≤ 100000 ∧ 0 ≤ M ∧ -10000000000000 ≤ c1 * c2 * g ∧ c1 * c2 * g ≤ 10000000000000 ∧ 0 ≤ r1 / g * (r2 / g) ∧ r1 / g * (r2 / g) ≤ 1000000 ∧ (prodUp lx ly k j).length ≤ 16 ∧ (∀ q : List (Int × Int), (q = prodUp lx ly k j ∨ q = prodUp lx ly k j ++ [(c1 * c2 * g, r1 / g * (r2 / g))]) → ∀ s, -9000000000000000000 ≤ plusC zeroC m q s ∧ plusC zeroC m q s ≤ 9000000000000000000)) := by
            have hll := HPL.out j
            have hpm := HPM.out j
            have hz : ∀ q : List (Int × Int), (q = prodUp lx ly k j ∨ q = prodUp lx ly k j ++ [(c1 * c2 * g, r1 / g * (r2 / g))]) → ∀ s, -9000000000000000000 ≤ plusC zeroC m q s ∧ plusC zeroC m q s ≤ 9000000000000000000 := by
              have bd : ∀ j', ∀ t ∈ prodUp lx ly k j', -10000000000000 ≤ t.1 ∧ t.1 ≤ 10000000000000 := by
                intro j' t ht
                obtain ⟨t1, h1, t2, h2, rfl⟩ := HPM.out j' t ht
                have a1 := hcx.out t1 h1
                have a2 := hcy.out t2 h2
                have := mulT_bd t1 t2 a1.1 a2.1 a1.2 a2.2
                omega
              have he : prodUp lx ly k (j + 1) = prodUp lx ly k j ++ [(c1 * c2 * g, r1 / g * (r2 / g))] := by rw [HPJ2.out]; unfold mulT; rw [← HG.out]
              intro q hq s
              rcases hq with rfl | rfl
              · exact zero_plus_bd m M _ _ hm1 hm2 hM0 hll HML.out (bd j) s
              · rw [← he]; exact zero_plus_bd m M _ _ hm1 hm2 hM0 (HPL.out (j + 1)) HML.out (bd (j + 1)) s
            have : lx.length * ly.length ≤ 4 * 4 := Nat.mul_le_mul hlx hly
            exact Lib.hid ⟨hm1, hm2, hM, hM0, hm5, hm6, hm7, hm8, by omega, hz⟩
          go_region_held3 (fun w' => w'.cell? ⟨bt, 0, none⟩ = some (.int .i64 c1) ∧ w'.cell? ⟨bt, 1, none⟩ = some (.int .i64 r1) ∧ w'.cell? ⟨wr.heap.size, 0, none⟩ = some (.int .i64 c2) ∧ w'.cell? ⟨wr.heap.size, 1, none⟩ = some (.int .i64 r2)) (first | go_keep | exact ⟨keep1 k0 hg3 (by omega), keep1 k1 hg3 (by omega), keep1 k2 hg3 (by omega), keep1 k3 hg3 (by omega)⟩) (first | (go_at_call 113; refine (prod_call HI2 HBN _ _ HBB).mono ?_; rintro e w3 ⟨rfl, ho3, hg3⟩))
          have HO3 := Lib.hid ho3
          have HG3 := Lib.hid hg3
          have HK3 : Hid (w3.cell? ⟨bt, 0, none⟩ = some (.int .i64 c1) ∧ w3.cell? ⟨bt, 1, none⟩ = some (.int .i64 r1) ∧ bt < w3.heap.size) := Lib.hid ⟨keep1 k0 hg3 (by omega), keep1 k1 hg3 (by omega), by have h1 := hg3.size; have h2 := HBN.out.size; simp at h1; omega⟩
          have HI3 : Hid (ProdI w w3 w.heap.size m (prodUp lx ly k (j + 1))) := by
            have he : prodUp lx ly k (j + 1) = prodUp lx ly k j ++ [(c1 * c2 * g, r1 / g * (r2 / g))] := by rw [HPJ2.out]; unfold mulT; rw [← HG.out]
            have hs2 := HBN.out.size
            have hs3 := hg3.size
            simp at hs3
            refine Lib.hid ⟨by rw [he]; exact HO3.out, ?_, by omega, rfl⟩
            have b1 : Below w.heap.size w W2 := HI2.out.2.1.trans (HBN.out.mono HI2.out.2.1.size)
            exact ((b1.alloc (by omega) _).drew).grown hg3 (by simp; omega) (by intro q hq; cases hq; omega)
          clear ho3 hg3 hq hp
          go_wp2
          go_roundw
          case rel => exact ⟨j + 1, by omega, by go_num, HI3, HK3⟩
          case measure => simp [intOf]; omega
        · have HE : Hid (ProdI w wr w.heap.size m (prodUp lx ly (k + 1) 0)) := Lib.hid (by rw [← HPK.out j (by omega)]; exact HI2.out)
          go_wp2
          go_roundw
          case rel => exact ⟨k + 1, by omega, by go_num, HE⟩
          case measure => simp [intOf]; omega
    · have hk : k = lx.length := by omega
      have HE : Hid (ProdI w wr w.heap.size m (prodL lx ly)) := Lib.hid (by rw [← prodUp_end, ← hk]; exact HI.out)
      clear hk
      go_wp2
      go_ret
      refine ⟨_, rfl, HE.out.1.mono ?_, HE.out.2.1⟩
      rw [prodL_len]
      have : lx.length * ly.length ≤ 4 * 4 := Nat.mul_le_mul hlx hly
      omega
end Go.Proofs.YtkjclafbpocabaaGreatDoor
