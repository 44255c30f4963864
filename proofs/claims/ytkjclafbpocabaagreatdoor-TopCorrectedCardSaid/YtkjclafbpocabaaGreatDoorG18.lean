/-
  Contracts of the program's own functions (and their plain mathematics), on the way to the law: each for all arguments that its hypotheses let.
-/
import Derived.Test.YtkjclafbpocabaaGreatDoorG14
import Derived.WalkKit
import Derived.WalkSpells
import Derived.WalkLawsBesides
import Derived.Deep.QuietTactic
import Derived.BigQuiet
import Derived.Lib.Hide
import Derived.WalkSmall
import Derived.Maps.OwnSet
import Derived.Maps.RangeWalk
import Derived.Deep.RegionWith
import Derived.Deep.RegionHeld3
import Derived.OneCell
import Derived.KernelRfl
import Derived.Laws.StructEq
import Derived.StillTailTactics
import Derived.Laws.Externs
import Derived.RangeFuncBox
import Derived.Test.YtkjclafbpocabaaGreatDoorPlain
import Derived.Test.YtkjclafbpocabaaGreatDoorG17
set_option linter.unusedSimpArgs false
set_option linter.unusedVariables false

/-! ## S45 -/
namespace Go.Proofs.YtkjclafbpocabaaGreatDoor
open Go.RowKit Go.Maps Go.Shelf Go.Sort

/-- What Div64 does by a divisor. -/
def DivTo (hi lo y : Nat) (w : World) (e : Ending) (w' : World) : Prop :=
  e = .returned (.tuple #[.int .u64 (((hi * 18446744073709551616 + lo) / y : Nat) : Int), .int .u64 (((hi * 18446744073709551616 + lo) % y : Nat) : Int)]) ∧ ∃ n, w' = w.drewN n
def DivC (y : Nat) : Prop := ∀ (hi lo : Nat) (w : World), hi < y → lo < 18446744073709551616 → Calls Tryz.prog 228 #[.int .u64 hi, .int .u64 lo, .int .u64 y] w (DivTo hi lo y w)
theorem wrap_small (n : Nat) (h : n < 18446744073709551616) : IntKind.u64.wrap (n : Int) = (n : Int) := by rw [wrap64, Nat.mod_eq_of_lt h]
set_option maxRecDepth 100000 in
set_option maxHeartbeats 2000000 in
theorem div_low (lo y : Nat) (w : World) (hl : lo < 18446744073709551616) (hy : 1 ≤ y) (hy2 : y < 18446744073709551616) : Calls Tryz.prog 228 #[.int .u64 (0 : Nat), .int .u64 lo, .int .u64 y] w (DivTo 0 lo y w) := by
  have e1 : (0 * 18446744073709551616 + lo) = lo := by omega
  have hq : lo / y ≤ lo := Nat.div_le_self _ _
  have hr : lo % y < y := Nat.mod_lt _ (by omega)
  have w1 : IntKind.u64.wrap ((lo : Int).tdiv (y : Int)) = ((lo / y : Nat) : Int) := by
    have e : (lo : Int).tdiv (y : Int) = ((lo / y : Nat) : Int) := rfl
    rw [e]; exact wrap_small _ (by omega)
  have w2 : IntKind.u64.wrap ((lo : Int).tmod (y : Int)) = ((lo % y : Nat) : Int) := by
    have e : (lo : Int).tmod (y : Int) = ((lo % y : Nat) : Int) := rfl
    rw [e]; exact wrap_small _ (by omega)
  unfold DivTo
  rw [e1]
  obtain ⟨q, hq'⟩ : ∃ q, lo / y = q := ⟨_, rfl⟩
  obtain ⟨r, hr'⟩ : ∃ r, lo % y = r := ⟨_, rfl⟩
  have e3 : (lo : Int) / (y : Int) = (q : Int) := by rw [← hq']; rfl
  have e4 : (lo : Int) % (y : Int) = (r : Int) := by rw [← hr']; rfl
  rw [hq'] at w1 hq ⊢
  rw [hr'] at w2 hr ⊢
  clear hq' hr' e1
  have hy0 : ¬ (y : Int) = 0 := by omega
  go_enter Tryz.func228, Tryz.ntmps228
  go_wp2
  go_quiet (fail)
  go_wp2
  go_ret2
  exact ⟨by rw [← e4]; rfl, _, rfl⟩
theorem divC_one : DivC 1 := fun hi lo w h1 h2 => by
  obtain rfl : hi = 0 := by omega
  exact div_low lo 1 w h2 (by decide) (by decide)

theorem valW_drop {ws : List Nat} {k : Nat} (h : k < ws.length) : valW (ws.drop k) = ws.getD k 0 + 18446744073709551616 * valW (ws.drop (k + 1)) := by
  rw [List.drop_eq_getElem_cons h, valW]
  congr 1
  rw [List.getD_eq_getElem?_getD, List.getElem?_eq_getElem h]; rfl
theorem drop_set_gt (ws : List Nat) (k x : Nat) : (ws.set k x).drop (k + 1) = ws.drop (k + 1) := by
  apply List.ext_getElem?
  intro i
  rw [List.getElem?_drop, List.getElem?_drop, List.getElem?_set_ne (by omega)]
def OverI (w wr : World) (ws : List Nat) (n k r : Nat) : Prop :=
  ∃ L, OwnW wr w.heap.size (.slice (some ⟨w.heap.size, 0, none⟩) ws.length ws.length) L ∧ L.length = ws.length ∧ Small L ∧ valW (L.drop k) * n + r = valW (ws.drop k) ∧ r < n ∧ Below w.heap.size w wr

set_option maxRecDepth 100000 in
set_option maxHeartbeats 2000000 in
theorem over_nat (v : Value) (a n : Nat) (w : World) (h : WordsAt w v (toW a)) (hla : (toW a).length ≤ 1000) (hn0 : 1 ≤ n) (hn : n < 18446744073709551616) (hdiv : Hid (DivC n)) :
    Calls Tryz.prog 199 #[v, .int .u64 n] w (NatTo (a / n) w) := by
  obtain ⟨ws, hws⟩ : ∃ ws, toW a = ws := ⟨_, rfl⟩
  have ha : valW ws = a := by rw [← hws, valW_toW]
  have hsa : Small ws := by rw [← hws]; exact toW_small a
  rw [hws] at h hla
  clear hws
  obtain ⟨p, cap, rfl, hp⟩ := h.reads
  have HP := Lib.hid hp
  have HA := Lib.hid ha
  have HSA := Lib.hid hsa
  clear h hp ha hsa
  go_enter Tryz.func199, Tryz.ntmps199
  obtain ⟨i0, hi, hz0, hz1, hz2⟩ := info_parts info114
  go_wp2_with (first | (at_make; refine wpList_make_full _ rfl _ _ 204 rfl w.heap.size 220 i0 (.int .u64 0) 1 und104 hi hz0 hz1 .i64 .i64 _ _ ws.length rfl rfl (by simp) (by simp) (by rw [hz2]; omega) (by unfold maxLen; omega) (Nat.le_refl _) ?_; intro w1 hown hgrow; rw [made_zero] at hown; have HOW := Lib.hid hown; have HGR := Lib.hid hgrow; clear hown hgrow))
  have HI0 : Hid (OverI w w1 ws n ws.length 0) := by
    refine Lib.hid ⟨List.replicate ws.length 0, ?_, by simp, ?_, by simp [valW], by omega, ?_⟩
    · have := HOW.out
      unfold OwnW
      rw [List.length_replicate]
      exact this
    · intro x hx; rw [List.eq_of_mem_replicate hx]; omega
    · exact (Below.refl _ w).grown HGR.out (Nat.le_refl _) (by intro q hq; cases hq)
  go_loopw [6, 7] (fun s t wr => ∃ (k r : Nat) (x : Int), s = .int .u64 (r : Nat) ∧ t = .int .i64 x ∧ x = (k : Int) - 1 ∧ k ≤ ws.length ∧ Hid (OverI w wr ws n k r)) (fun _ t _ => (intOf t + 1).toNat)
  case atStart => exact ⟨ws.length, 0, _, rfl, rfl, rfl, Nat.le_refl _, HI0⟩
  case round =>
    clear HI0
    obtain ⟨k, r, x, rfl, rfl, hx, hk, HI⟩ := hrel
    cases k with
    | zero =>
      have hx' : x = -1 := by omega
      subst hx'
      obtain ⟨L, ho, hL, hsm, hval, hr, hbw⟩ := HI.out
      have ho' : OwnW wr w.heap.size (.slice (some ⟨w.heap.size, 0, none⟩) L.length ws.length) L := by rw [hL]; exact ho
      have HEND := Lib.hid (ho'.at (by rw [hL]; omega))
      have HV : Hid (trimW L = toW (a / n)) := by
        refine Lib.hid ?_
        unfold trimW
        rw [List.drop_zero, List.drop_zero, HA.out] at hval
        congr 1
        have h2 : (n * valW L + r) / n = valW L + r / n := Nat.mul_add_div (by omega) _ _
        rw [Nat.div_eq_of_lt hr, Nat.add_zero] at h2
        rw [← hval, Nat.mul_comm, h2]
      have htr := trimmed_any (some ⟨w.heap.size, 0, none⟩) ws.length L _ HEND.out hsm
      rw [hL, HV.out] at htr
      have HTR := Lib.hid htr
      have HBW := Lib.hid hbw
      clear ho ho' hsm hval hr hbw htr HEND HI hx
      go_wp2_with fail
      refine HTR.out.mono ?_
      rintro e w2 ⟨rfl, hwt, rfl⟩
      have HWT := Lib.hid hwt
      clear hwt HTR
      go_wp2
      go_ret
      exact ⟨_, rfl, HWT.out, HBW.out⟩
    | succ j =>
      have hx' : x = (j : Int) := by omega
      subst hx'
      obtain ⟨L, ho, hL, hsm, hval, hr, hbw⟩ := HI.out
      obtain ⟨bk, off, rfl, hcap1, hbk, hc1⟩ := HP.out j (by omega)
      have hc1 := (hbw.cell (p := ⟨bk, off + j, none⟩) hbk).trans hc1
      obtain ⟨y, hy⟩ : ∃ y, ws.getD j 0 = y := ⟨_, rfl⟩
      rw [hy] at hc1
      have hy' : y < 18446744073709551616 := by rw [← hy]; exact getD_small HSA.out _
      have ho' : OwnW wr w.heap.size (.slice (some ⟨w.heap.size, 0, none⟩) L.length ws.length) L := by rw [hL]; exact ho
      have hci := ho'.cellAt j (by rw [hL]; omega)
      have hfi : wr.frozen? ⟨w.heap.size, j, none⟩ = false := World.ownsRow.frozenAt ho' j
      obtain ⟨z, hz⟩ : ∃ z, L.getD j 0 = z := ⟨_, rfl⟩
      rw [hz] at hci
      obtain ⟨q, hq⟩ : ∃ q, (r * 18446744073709551616 + y) / n = q := ⟨_, rfl⟩
      obtain ⟨r2, hr2⟩ : ∃ r2, (r * 18446744073709551616 + y) % n = r2 := ⟨_, rfl⟩
      have hdm := Nat.div_add_mod (r * 18446744073709551616 + y) n
      rw [hq, hr2] at hdm
      have hr2n : r2 < n := by rw [← hr2]; exact Nat.mod_lt _ (by omega)
      have hq64 : q < 18446744073709551616 := by
        rw [← hq]
        refine Nat.div_lt_of_lt_mul ?_
        have : (r + 1) * 18446744073709551616 ≤ n * 18446744073709551616 := Nat.mul_le_mul_right _ (by omega)
        omega
      have HDIV : Hid (∀ w0 : World, Calls Tryz.prog 228 #[.int .u64 r, .int .u64 y, .int .u64 n] w0 fun e w' => e = .returned (.tuple #[.int .u64 (q : Nat), .int .u64 (r2 : Nat)]) ∧ ∃ m, w' = w0.drewN m) := Lib.hid (fun w0 => by
        have := hdiv.out r y w0 hr hy'
        unfold DivTo at this
        rwa [hq, hr2] at this)
      have hjl : j < ws.length := by omega
      have HI2 : Hid (∀ m, OverI w ((wr.drewN m).setCell ⟨w.heap.size, j, none⟩ (.int .u64 (q : Nat))) ws n j r2) := Lib.hid (fun m => by
        have hm : OwnW (wr.drewN m) w.heap.size (.slice (some ⟨w.heap.size, 0, none⟩) L.length ws.length) L := ho'
        have h1 := OwnW.store hm j q
        rw [hL] at h1
        refine ⟨L.set j q, h1, by rw [List.length_set, hL], small_set hsm hq64, ?_, hr2n, (below_drewN hbw m).setCell (by simp) _⟩
        rw [valW_drop (by rw [List.length_set, hL]; exact hjl), valW_drop hjl, drop_set_gt, getD_set_eq (by rw [hL]; exact hjl), hy]
        generalize valW (L.drop (j + 1)) = V at hval
        generalize valW (ws.drop (j + 1)) = U at hval
        rw [← hval, Nat.add_mul, Nat.mul_add, Nat.mul_comm q n]
        have e : 18446744073709551616 * V * n = 18446744073709551616 * (V * n) := by rw [Nat.mul_assoc]
        rw [e]
        omega)
      clear ho ho' hsm hval hbw hz hy hq hr2 hdm HI hx hr
      have hcd : ∀ m, (wr.drewN m).cell? ⟨w.heap.size, j, none⟩ = some (.int .u64 (z : Nat)) := fun m => hci
      have hfd : ∀ m, (wr.drewN m).frozen? ⟨w.heap.size, j, none⟩ = false := fun m => hfi
      have HCD := Lib.hid hcd
      have HFD := Lib.hid hfd
      clear hcd hfd
      go_wp2_with fail
      refine (HDIV.out _).mono ?_
      rintro e w2 ⟨rfl, m, hm⟩
      have hci2 := HCD.out m
      have hfi2 := HFD.out m
      have HI3 := Lib.hid (HI2.out m)
      rw [← hm] at hci2 hfi2 HI3
      clear hm hci hfi HI2 HCD HFD HDIV hc1
      go_wp2
      exact ⟨⟨j, r2, _, rfl, rfl, by omega, by omega, HI3⟩, by simp [intOf]⟩
end Go.Proofs.YtkjclafbpocabaaGreatDoor

/-! ## S46 -/
namespace Go.Proofs.YtkjclafbpocabaaGreatDoor
open Go.RowKit Go.Maps Go.Shelf Go.Sort

theorem half_step (r x y z : Nat) (hr : r < 64) (hx : x < 18446744073709551616) :
    (x + 18446744073709551616 * (y + 18446744073709551616 * z)) / 2 ^ r = (x / 2 ^ r + y * 2 ^ (64 - r) % 18446744073709551616) + 18446744073709551616 * ((y + 18446744073709551616 * z) / 2 ^ r) ∧ x / 2 ^ r + y * 2 ^ (64 - r) % 18446744073709551616 < 18446744073709551616 ∧
    (x / 2 ^ r) ||| (y * 2 ^ (64 - r) % 18446744073709551616) = x / 2 ^ r + y * 2 ^ (64 - r) % 18446744073709551616 := by
  have hp : 0 < 2 ^ r := Nat.pow_pos (by decide)
  have hq : 0 < 2 ^ (64 - r) := Nat.pow_pos (by decide)
  have hpq : 2 ^ r * 2 ^ (64 - r) = 18446744073709551616 := by rw [← Nat.pow_add, show r + (64 - r) = 64 by omega]
  have hdiv : ∀ a b : Nat, (a + 18446744073709551616 * b) / 2 ^ r = a / 2 ^ r + 2 ^ (64 - r) * b := fun a b => by
    rw [← hpq, Nat.mul_assoc, Nat.add_mul_div_left _ _ hp]
  have hy1 : y * 2 ^ (64 - r) % 18446744073709551616 = 2 ^ (64 - r) * (y % 2 ^ r) := by
    rw [← hpq, Nat.mul_comm (2 ^ r), Nat.mul_comm y, Nat.mul_mod_mul_left]
  have hxl : x / 2 ^ r < 2 ^ (64 - r) := by
    refine Nat.div_lt_of_lt_mul ?_
    rw [hpq]; exact hx
  refine ⟨?_, ?_, ?_⟩
  · rw [hdiv, hdiv, hy1]
    have e := Nat.div_add_mod y (2 ^ r)
    have e2 : 2 ^ (64 - r) * y = 2 ^ (64 - r) * (2 ^ r * (y / 2 ^ r)) + 2 ^ (64 - r) * (y % 2 ^ r) := by rw [← Nat.mul_add, e]
    rw [← Nat.mul_assoc, Nat.mul_comm (2 ^ (64 - r)) (2 ^ r), hpq] at e2
    rw [Nat.mul_add, Nat.mul_add, e2, Nat.mul_left_comm (2 ^ (64 - r))]
    omega
  · rw [hy1]
    have h1 : y % 2 ^ r < 2 ^ r := Nat.mod_lt _ hp
    have h2 : 2 ^ (64 - r) * (y % 2 ^ r + 1) ≤ 2 ^ (64 - r) * 2 ^ r := Nat.mul_le_mul_left _ (by omega)
    rw [Nat.mul_comm (2 ^ (64 - r)) (2 ^ r), hpq, Nat.mul_add, Nat.mul_one] at h2
    omega
  · rw [hy1, or_low (64 - r) _ _ hxl]
def HalfI (w wr : World) (m : Nat) (vs : List Nat) (r i : Nat) : Prop :=
  ∃ L, OwnW wr w.heap.size (.slice (some ⟨w.heap.size, 0, none⟩) m m) L ∧ L.length = m ∧ Small L ∧ valW (L.take i) + 18446744073709551616 ^ i * (valW (vs.drop i) / 2 ^ r) = valW vs / 2 ^ r ∧ Below w.heap.size w wr
theorem val_drop_div (ws : List Nat) (h : Small ws) (k : Nat) (hk : k ≤ ws.length) : valW (ws.drop k) = valW ws / 18446744073709551616 ^ k := by
  have e : valW ws = valW (ws.take k) + 18446744073709551616 ^ k * valW (ws.drop k) := by
    conv => lhs; rw [← List.take_append_drop k ws]
    rw [valW_append, List.length_take, Nat.min_eq_left hk]
  have h1 := valW_lt (small_take h k)
  rw [List.length_take, Nat.min_eq_left hk] at h1
  rw [e, Nat.add_mul_div_left _ _ (Nat.pow_pos (by decide)), Nat.div_eq_of_lt h1, Nat.zero_add]

set_option maxRecDepth 100000 in
set_option maxHeartbeats 2000000 in
theorem halved_nat (v : Value) (a n : Nat) (w : World) (h : WordsAt w v (toW a)) (hla : (toW a).length ≤ 1000) (hn : n ≤ 60000) :
    Calls Tryz.prog 200 #[v, .int .i64 n] w (NatTo (a / 2 ^ n) w) := by
  obtain ⟨ws, hws⟩ : ∃ ws, toW a = ws := ⟨_, rfl⟩
  have ha : valW ws = a := by rw [← hws, valW_toW]
  have hsa : Small ws := by rw [← hws]; exact toW_small a
  rw [hws] at h hla
  clear hws
  have HWS := Lib.hid h
  obtain ⟨p, cap, rfl, hp⟩ := h.reads
  have HP := Lib.hid hp
  have HA := Lib.hid ha
  have HSA := Lib.hid hsa
  obtain ⟨k, hk⟩ : ∃ k, n / 64 = k := ⟨_, rfl⟩
  obtain ⟨r, hr⟩ : ∃ r, n % 64 = r := ⟨_, rfl⟩
  have hnk : n = 64 * k + r := by omega
  have hr64 : r < 64 := by omega
  have e1 : (n : Int) / 64 = (k : Int) := by omega
  have e2 : (n : Int) % 64 = (r : Int) := by omega
  have HN := Lib.hid hnk
  clear h hp ha hsa hk hr hnk
  by_cases hle : ws.length ≤ k
  · have HZ : Hid (a / 2 ^ n = 0) := Lib.hid (by
      have h1 := valW_lt HSA.out
      rw [HA.out] at h1
      refine Nat.div_eq_of_lt (Nat.lt_of_lt_of_le h1 ?_)
      rw [show (18446744073709551616 : Nat) = 2 ^ 64 from rfl, ← Nat.pow_mul, HN.out]
      exact Nat.pow_le_pow_right (by decide) (by have := Nat.mul_le_mul_left 64 hle; omega))
    rw [HZ.out]
    go_enter Tryz.func200, Tryz.ntmps200
    go_wp2
    go_ret
    exact ⟨_, rfl, words_nil _, Below.refl _ _⟩
  · obtain ⟨m, hm⟩ : ∃ m, ws.length = k + m := ⟨ws.length - k, by omega⟩
    have hm1 : 1 ≤ m := by omega
    have hlm : (ws.length : Int) - (k : Int) = (m : Int) := by omega
    have HM := Lib.hid hm
    clear hm
    go_enter Tryz.func200, Tryz.ntmps200
    obtain ⟨i0, hi, hz0, hz1, hz2⟩ := info_parts info114
    go_wp2_with (first | (at_make; refine wpList_make_full _ rfl _ _ 204 rfl w.heap.size 220 i0 (.int .u64 0) 1 und104 hi hz0 hz1 .i64 .i64 _ _ m rfl rfl (by first | rfl | omega) (by first | rfl | omega) (by rw [hz2]; omega) (by unfold maxLen; omega) (Nat.le_refl _) ?_; intro w1 hown hgrow; rw [made_zero] at hown; have HOW := Lib.hid hown; have HGR := Lib.hid hgrow; clear hown hgrow))
    have HI0 : Hid (HalfI w w1 m (ws.drop k) r 0) := by
      refine Lib.hid ⟨List.replicate m 0, ?_, by simp, ?_, by simp [valW], ?_⟩
      · have := HOW.out
        unfold OwnW
        rw [List.length_replicate]
        exact this
      · intro x hx; rw [List.eq_of_mem_replicate hx]; omega
      · exact (Below.refl _ w).grown HGR.out (Nat.le_refl _) (by intro q hq; cases hq)
    go_wp2_with fail
    go_loopw [8, 24] (fun _ t wr => ∃ i : Nat, t = .int .i64 (i : Nat) ∧ i ≤ m ∧ Hid (HalfI w wr m (ws.drop k) r i)) (fun _ t _ => m - (intOf t).toNat)
    case atStart => exact ⟨0, rfl, Nat.zero_le _, HI0⟩
    case round =>
      clear HI0
      obtain ⟨i, rfl, him, HI⟩ := hrel
      by_cases hlt : i < m
      · obtain ⟨L, ho, hL, hsm, hval, hbw⟩ := HI.out
        obtain ⟨bk, off, rfl, hcap1, hbk, hc1⟩ := HP.out (i + k) (by have := HM.out; omega)
        have hc1 := (hbw.cell (p := ⟨bk, off + (i + k), none⟩) hbk).trans hc1
        obtain ⟨x, hx⟩ : ∃ x, ws.getD (i + k) 0 = x := ⟨_, rfl⟩
        obtain ⟨y, hy⟩ : ∃ y, ws.getD (i + k + 1) 0 = y := ⟨_, rfl⟩
        rw [hx] at hc1
        have ho' : OwnW wr w.heap.size (.slice (some ⟨w.heap.size, 0, none⟩) L.length m) L := by rw [hL]; exact ho
        have hci := ho'.cellAt i (by rw [hL]; omega)
        have hfi : wr.frozen? ⟨w.heap.size, i, none⟩ = false := World.ownsRow.frozenAt ho' i
        obtain ⟨z, hz⟩ : ∃ z, L.getD i 0 = z := ⟨_, rfl⟩
        rw [hz] at hci
        have HWD : Hid (∀ m0, Calls Tryz.prog 201 #[.slice (some ⟨bk, off, none⟩) ws.length cap, .int .i64 (i + k + 1 : Nat)] (wr.drewN m0) fun e w' => e = .returned (.int .u64 (y : Nat)) ∧ w' = wr.drewN m0) := Lib.hid (fun m0 => by
          have := word_any (.slice (some ⟨bk, off, none⟩) ws.length cap) ws (i + k + 1) (wr.drewN m0) (HWS.out.below (below_drewN hbw m0)) (by have := HM.out; omega)
          rwa [hy] at this)
        have hcx : (i : Int) + (k : Int) = ((i + k : Nat) : Int) := by omega
        have hcy : ((i + k : Nat) : Int) + 1 = ((i + k + 1 : Nat) : Int) := by omega
        have hil : ((i + k : Nat) : Int) < (ws.length : Int) := by have := HM.out; omega
        have hil0 : (0 : Int) ≤ ((i + k : Nat) : Int) := by omega
        have him' : (i : Int) < (m : Int) := by omega
        have hr65 : (r : Int) < 64 := by omega
        have HO' := Lib.hid ho'
        have HBW := Lib.hid hbw
        have HSM := Lib.hid hsm
        have HVAL := Lib.hid hval
        have HX := Lib.hid hx
        have HY := Lib.hid hy
        clear ho ho' hbw hsm hval hz hx hy HI
        obtain ⟨s, hs⟩ : ∃ s : Nat, s = 64 - r := ⟨_, rfl⟩
        have hs1 : (64 : Int) - (r : Int) = (s : Int) := by omega
        have hs2 : s ≤ 64 := by omega
        have wcx : IntKind.i64.wrap ((i : Int) + (k : Int)) = ((i + k : Nat) : Int) := by rw [hcx]; exact IntWalk.i64_in _ (by have := HM.out; omega)
        have wcy : IntKind.i64.wrap (((i + k : Nat) : Int) + 1) = ((i + k + 1 : Nat) : Int) := by rw [hcy]; exact IntWalk.i64_in _ (by have := HM.out; omega)
        have wsb : IntKind.i64.wrap ((64 : Int) - (r : Int)) = (s : Int) := by rw [hs1]; exact IntWalk.i64_in _ (by omega)
        have HS := Lib.hid hs
        obtain ⟨ik, hik⟩ : ∃ ik, i + k = ik := ⟨_, rfl⟩
        obtain ⟨ik1, hik1⟩ : ∃ ik1, i + k + 1 = ik1 := ⟨_, rfl⟩
        have hik1' : ik + 1 = ik1 := by omega
        rw [hik] at hc1 hcx hil hil0 wcx wcy hcy
        rw [hik1'] at wcy hcy
        rw [hik1] at HWD
        have HIK := Lib.hid hik
        have HIK1 := Lib.hid hik1
        clear hs hik hik1 hik1' hcx hcy hs1
        have HK : Hid (∀ u, ((wr.drewN 1).setCell { block := w.heap.size, off := i } u).cell? ⟨bk, off + ik, none⟩ = some (.int .u64 (x : Nat))) := Lib.hid (fun u => (((Below.refl w.heap.size (wr.drewN 1)).setCell (p := ⟨w.heap.size, i, none⟩) (Nat.le_refl _) u).cell (p := ⟨bk, off + ik, none⟩) hbk).trans hc1)
        go_wp2_with fail
        go_region_held3 (fun w' => w'.cell? ⟨bk, off + ik, none⟩ = some (.int .u64 (x : Nat)))
          (first | exact hc1 | exact HK.out _ | (go_keep; done))
          (first
            | (go_at_call 201; refine (HWD.out _).mono ?_; rintro e w3 ⟨rfl, rfl⟩))
        have hval2 : bits BinOp.or IntKind.u64 ((x : Int) / 2 ^ r) (IntKind.u64.wrap ((y : Int) * 2 ^ s)) = ((x / 2 ^ r + y * 2 ^ (64 - r) % 18446744073709551616 : Nat) : Int) := by
          have e1 : (x : Int) / 2 ^ r = ((x / 2 ^ r : Nat) : Int) := by simp
          have e2 : (y : Int) * 2 ^ s = ((y * 2 ^ s : Nat) : Int) := by simp
          have hx64 : x < 18446744073709551616 := by rw [← HX.out]; exact getD_small HSA.out _
          rw [e1, e2, wrap64, or64 _ _ (Nat.lt_of_le_of_lt (Nat.div_le_self _ _) hx64) (Nat.mod_lt _ (by decide)), HS.out, (half_step r x y 0 hr64 hx64).2.2]
        rw [hval2]
        have HI2 : Hid (HalfI w ((wr.drewN 1).setCell ⟨w.heap.size, i, none⟩ (.int .u64 ((x / 2 ^ r + y * 2 ^ (64 - r) % 18446744073709551616 : Nat)))) m (ws.drop k) r (i + 1)) := by
          have hx64 : x < 18446744073709551616 := by rw [← HX.out]; exact getD_small HSA.out _
          have hm : OwnW (wr.drewN 1) w.heap.size (.slice (some ⟨w.heap.size, 0, none⟩) L.length m) L := HO'.out
          have h1 := OwnW.store hm i (x / 2 ^ r + y * 2 ^ (64 - r) % 18446744073709551616)
          rw [hL] at h1
          have hM := HM.out
          have hst := half_step r x y (valW (ws.drop (i + k + 1 + 1))) hr64 hx64
          have ed : (ws.drop k).drop i = ws.drop (i + k) := by rw [List.drop_drop, Nat.add_comm]
          have ed1 : (ws.drop k).drop (i + 1) = ws.drop (i + k + 1) := by rw [List.drop_drop]; congr 1; omega
          refine Lib.hid ⟨L.set i _, h1, by rw [List.length_set, hL], small_set HSM.out hst.2.1, ?_, (below_drewN HBW.out 1).setCell (by simp) _⟩
          have hv := HVAL.out
          rw [ed] at hv
          rw [valW_take_succ, take_set_ge (Nat.le_refl i), getD_set_eq (by omega), ed1, ← hv]
          have e0 : valW (ws.drop (i + k)) = x + 18446744073709551616 * valW (ws.drop (i + k + 1)) := by rw [valW_drop (by omega), HX.out]
          have e1 : valW (ws.drop (i + k + 1)) = y + 18446744073709551616 * valW (ws.drop (i + k + 1 + 1)) := by
            by_cases hend : i + k + 1 < ws.length
            · rw [valW_drop hend, HY.out]
            · have hy0 : y = 0 := by rw [← HY.out, List.getD_eq_getElem?_getD, List.getElem?_eq_none (by omega)]; rfl
              rw [List.drop_of_length_le (by omega), List.drop_of_length_le (by omega), hy0]; rfl
          rw [e0, e1, hst.1, Nat.pow_succ]
          generalize (y + 18446744073709551616 * valW (ws.drop (i + k + 1 + 1))) / 2 ^ r = E
          generalize 18446744073709551616 ^ i = P
          generalize x / 2 ^ r + y * 2 ^ (64 - r) % 18446744073709551616 = F
          rw [Nat.mul_add P, Nat.mul_assoc P]
          omega
        clear hval2 wcx wcy wsb hc1 hci hfi HK
        go_wp2
        exact ⟨⟨i + 1, by simp, by omega, HI2⟩, by simp [intOf]; omega⟩
      · have hie : i = m := by omega
        subst hie
        obtain ⟨L, ho, hL, hsm, hval, hbw⟩ := HI.out
        have ho' : OwnW wr w.heap.size (.slice (some ⟨w.heap.size, 0, none⟩) L.length i) L := by rw [hL]; exact ho
        have HEND := Lib.hid (ho'.at (by have := HM.out; rw [hL]; omega))
        have HV : Hid (trimW L = toW (a / 2 ^ n)) := by
          refine Lib.hid ?_
          unfold trimW
          have hM := HM.out
          rw [List.drop_of_length_le (by rw [List.length_drop]; omega), List.take_of_length_le (by omega)] at hval
          have h0 : valW [] / 2 ^ r = 0 := by simp [valW]
          rw [h0, Nat.mul_zero, Nat.add_zero] at hval
          rw [hval, val_drop_div ws HSA.out k (by omega), HA.out, HN.out, Nat.pow_add, ← Nat.div_div_eq_div_mul]
          congr 3
          rw [Nat.pow_mul]
        have htr := trimmed_any (some ⟨w.heap.size, 0, none⟩) i L _ HEND.out hsm
        rw [hL, HV.out] at htr
        have HTR := Lib.hid htr
        have HBW := Lib.hid hbw
        clear ho ho' hsm hval hbw htr HEND HI
        go_wp2_with fail
        refine HTR.out.mono ?_
        rintro e w2 ⟨rfl, hwt, rfl⟩
        have HWT := Lib.hid hwt
        clear hwt HTR
        go_wp2
        go_ret
        exact ⟨_, rfl, HWT.out, HBW.out⟩
end Go.Proofs.YtkjclafbpocabaaGreatDoor

/-! ## S47 -/
namespace Go.Proofs.YtkjclafbpocabaaGreatDoor
open Go.RowKit Go.Maps Go.Shelf Go.Sort

set_option maxRecDepth 100000 in
set_option maxHeartbeats 4000000 in
theorem whole_any (v : Value) (S0 S1 den dig bx bd : Nat) (w : World) (hv : EncAt w v S0 S1) (l0 : (toW S0).length ≤ 1000) (l1 : (toW S1).length ≤ 1000) (hx : w.cell? ⟨bx, 0, none⟩ = some (.int .i64 den)) (hd : w.cell? ⟨bd, 0, none⟩ = some (.int .i64 dig))
    (hbx : bx < w.heap.size) (hbd : bd < w.heap.size) (hden : 1 ≤ den) (hden2 : den ≤ 100000) (hdiv : Hid (DivC den)) (hdig : dig ≤ 60000) (hL : S0 / den / 2 ^ dig < 9223372036854775808) (h01 : S0 ≤ S1) :
    Calls Tryz.prog 198 #[v, .pointer (some ⟨bx, 0, none⟩), .pointer (some ⟨bd, 0, none⟩)] w (OkTo (S0 / den / 2 ^ dig : Nat) (decide (S0 / den / 2 ^ dig = S1 / den / 2 ^ dig)) w) := by
  obtain ⟨v0, v1, rfl, hv0, hv1⟩ := hv
  obtain ⟨p0, c0, rfl⟩ := hv0.shape
  obtain ⟨p1, c1, rfl⟩ := hv1.shape
  have X := Two.new w (.slice p0 (toW S0).length c0) (.slice p1 (toW S1).length c1) 206
  have hA : Below w.heap.size w (w.alloc (.cells #[.slice p0 (toW S0).length c0, .slice p1 (toW S1).length c1] 206)) := (Below.refl _ w).alloc (Nat.le_refl _) _
  obtain ⟨K, hK⟩ : ∃ K, K = 1000 := ⟨_, rfl⟩
  have lq' : ∀ S : Nat, (toW S).length ≤ K → (toW (S / den)).length ≤ K := fun S hS => by
    have h1 := valW_lt (toW_small S)
    rw [valW_toW] at h1
    exact toW_len_le (Nat.lt_of_le_of_lt (Nat.div_le_self _ _) (Nat.lt_of_lt_of_le h1 (Nat.pow_le_pow_right (by decide) hS)))
  have lq : ∀ S : Nat, (toW S).length ≤ 1000 → (toW (S / den)).length ≤ 1000 := by rw [← hK]; exact lq'
  clear lq' hK
  have HO0 := Lib.hid (fun w0 h0 => over_nat (.slice p0 (toW S0).length c0) S0 den w0 h0 l0 hden (by omega) hdiv)
  have HO1 := Lib.hid (fun w0 h0 => over_nat (.slice p1 (toW S1).length c1) S1 den w0 h0 l1 hden (by omega) hdiv)
  have HH0 := Lib.hid (fun v w0 h0 => halved_nat v (S0 / den) dig w0 h0 (lq S0 l0) hdig)
  have HH1 := Lib.hid (fun v w0 h0 => halved_nat v (S1 / den) dig w0 h0 (lq S1 l1) hdig)
  have wden : IntKind.u64.wrap (den : Int) = (den : Int) := wrap_small den (by omega)
  have hle : S0 / den / 2 ^ dig ≤ S1 / den / 2 ^ dig := Nat.div_le_div_right (Nat.div_le_div_right h01)
  obtain ⟨L, hLd⟩ : ∃ L, S0 / den / 2 ^ dig = L := ⟨_, rfl⟩
  obtain ⟨M, hMd⟩ : ∃ M, S1 / den / 2 ^ dig = M := ⟨_, rfl⟩
  rw [hLd] at hL hle HH0
  rw [hMd] at hle HH1
  rw [hLd, hMd]
  have hxa := (hA.cell (p := ⟨bx, 0, none⟩) hbx).trans hx
  have hda := (hA.cell (p := ⟨bd, 0, none⟩) hbd).trans hd
  have x0 := X.c0
  have x1 := X.c1
  have XX := Lib.hid X
  have HA := Lib.hid hA
  have HV0 := Lib.hid hv0
  have HV1 := Lib.hid hv1
  have HSZ : Hid ((w.alloc (.cells #[.slice p0 (toW S0).length c0, .slice p1 (toW S1).length c1] 206)).heap.size = w.heap.size + 1) := Lib.hid (by simp)
  have hcm : cmpN L M = if L = M then 0 else -1 := by
    unfold cmpN
    by_cases e : L = M
    · rw [if_neg (by omega), if_neg (by omega), if_pos e]
    · rw [if_pos (by omega), if_neg e]
  have HCM := Lib.hid hcm
  have hw0 : (toW L).getD 0 0 = L := by
    by_cases e : L = 0
    · subst e; rw [toW_zero]; rfl
    · rw [toW_pos e]; show L % 18446744073709551616 = L; exact Nat.mod_eq_of_lt (by omega)
  have HW0 := Lib.hid hw0
  have wL : IntKind.i64.wrap (L : Int) = (L : Int) := IntWalk.i64_in _ (by omega)
  clear X hA hx hd hv0 hv1 lq l0 l1 hLd hMd hdiv hle hcm hw0
  generalize (toW S0).length = n0 at *
  generalize (toW S1).length = n1 at *
  have XD := Lib.hid (show Two (w.alloc (.cells #[.slice p0 n0 c0, .slice p1 n1 c1] 206)).drew w.heap.size (.slice p0 n0 c0) (.slice p1 n1 c1) 206 from XX.out)
  have BD := Lib.hid (show Below w.heap.size w (w.alloc (.cells #[.slice p0 n0 c0, .slice p1 n1 c1] 206)).drew from HA.out.drew)
  have hxd : (w.alloc (.cells #[.slice p0 n0 c0, .slice p1 n1 c1] 206)).drew.cell? ⟨bx, 0, none⟩ = some (.int .i64 den) := hxa
  have hdd : (w.alloc (.cells #[.slice p0 n0 c0, .slice p1 n1 c1] 206)).drew.cell? ⟨bd, 0, none⟩ = some (.int .i64 dig) := hda
  have HXD := Lib.hid hxd
  have HDD := Lib.hid hdd
  have LX := Lib.hid (show bx < (w.alloc (.cells #[.slice p0 n0 c0, .slice p1 n1 c1] 206)).drew.heap.size from Nat.lt_of_lt_of_le hbx BD.out.size)
  have LD := Lib.hid (show bd < (w.alloc (.cells #[.slice p0 n0 c0, .slice p1 n1 c1] 206)).drew.heap.size from Nat.lt_of_lt_of_le hbd BD.out.size)
  have VD0 := Lib.hid (HV0.out.below BD.out)
  clear hxd hdd XX HA HSZ HV0
  obtain ⟨rb, hrb⟩ : ∃ rb, decide (L = M) = rb := ⟨_, rfl⟩
  rw [hrb]
  have HRB := Lib.hid hrb
  clear hrb
  go_enter Tryz.func198, Tryz.ntmps198
  go_wp2_with fail
  go_region_held3 (fun w' => w'.cell? ⟨w.heap.size, 0, none⟩ = some (.slice p0 n0 c0) ∧ w'.cell? ⟨bx, 0, none⟩ = some (.int .i64 den) ∧ w'.cell? ⟨bd, 0, none⟩ = some (.int .i64 dig))
    (first | exact ⟨x0, hxa, hda⟩ | exact ⟨X2.c0, a2, b2⟩ | exact ⟨X3.c0, a3, b3⟩ | (go_keep; done))
    (first
      | (go_at_call 200; refine (HH0.out _ _ hw2).mono ?_; rintro e w3 ⟨v3, rfl, hw3, hb3⟩; have X3 := X2.below hb3 X2.lt; have a3 := (hb3.cell (p := ⟨bx, 0, none⟩) lx2).trans a2; have b3 := (hb3.cell (p := ⟨bd, 0, none⟩) ld2).trans b2; have B3 := B2.trans (hb3.mono B2.size))
      | (go_at_call 199; refine (HO0.out (w.alloc (.cells #[.slice p0 n0 c0, .slice p1 n1 c1] 206)).drew VD0.out).mono ?_; rintro e w2 ⟨v2, rfl, hw2, hb2⟩; have X2 := XD.out.below hb2 XD.out.lt; have a2 := (hb2.cell (p := ⟨bx, 0, none⟩) LX.out).trans HXD.out; have b2 := (hb2.cell (p := ⟨bd, 0, none⟩) LD.out).trans HDD.out; have lx2 := Nat.lt_of_lt_of_le LX.out hb2.size; have ld2 := Nat.lt_of_lt_of_le LD.out hb2.size; have B2 := BD.out.trans (hb2.mono BD.out.size)))
  have XD4 := Lib.hid X3.drew
  have BD4 := Lib.hid B3.drew
  have HXD4 := Lib.hid (show w3.drew.cell? ⟨bx, 0, none⟩ = some (.int .i64 den) from a3)
  have HDD4 := Lib.hid (show w3.drew.cell? ⟨bd, 0, none⟩ = some (.int .i64 dig) from b3)
  have LX4 := Lib.hid (show bx < w3.drew.heap.size from Nat.lt_of_lt_of_le hbx B3.size)
  have LD4 := Lib.hid (show bd < w3.drew.heap.size from Nat.lt_of_lt_of_le hbd B3.size)
  have VD4 := Lib.hid (HV1.out.below BD4.out)
  have W4 := Lib.hid hw3.drew
  have y0 := X3.c0
  have y1 := X3.c1
  clear X2 a2 b2 lx2 ld2 B2 hw2 hb2 X3 B3 hw3 hb3 hxa hda x0 x1 XD BD HXD HDD LX LD VD0 HV1
  go_wp2_with fail
  go_region_held3 (fun w' => w'.cell? ⟨w.heap.size, 1, none⟩ = some (.slice p1 n1 c1) ∧ w'.cell? ⟨bx, 0, none⟩ = some (.int .i64 den) ∧ w'.cell? ⟨bd, 0, none⟩ = some (.int .i64 dig))
    (first | exact ⟨y1, a3, b3⟩ | exact ⟨X5.c1, a5, b5⟩ | exact ⟨X6.c1, a6, b6⟩ | (go_keep; done))
    (first
      | (go_at_call 200; refine (HH1.out _ _ hw5).mono ?_; rintro e w6 ⟨v6, rfl, hw6, hb6⟩; have X6 := X5.below hb6 X5.lt; have a6 := (hb6.cell (p := ⟨bx, 0, none⟩) lx5).trans a5; have b6 := (hb6.cell (p := ⟨bd, 0, none⟩) ld5).trans b5; have B6 := B5.trans (hb6.mono B5.size))
      | (go_at_call 199; refine (HO1.out w3.drew VD4.out).mono ?_; rintro e w5 ⟨v5, rfl, hw5, hb5⟩; have X5 := XD4.out.below hb5 XD4.out.lt; have a5 := (hb5.cell (p := ⟨bx, 0, none⟩) LX4.out).trans HXD4.out; have b5 := (hb5.cell (p := ⟨bd, 0, none⟩) LD4.out).trans HDD4.out; have lx5 := Nat.lt_of_lt_of_le LX4.out hb5.size; have ld5 := Nat.lt_of_lt_of_le LD4.out hb5.size; have B5 := BD4.out.trans (hb5.mono BD4.out.size)))
  have W6 := Lib.hid ((W4.out.below hb5).below hb6)
  have V6 := Lib.hid hw6
  have HB6 := Lib.hid B6
  clear X5 a5 b5 lx5 ld5 B5 hw5 hb5 X6 a6 b6 B6 hw6 hb6 a3 b3 y0 y1 XD4 BD4 HXD4 HDD4 LX4 LD4 VD4 W4 HH0 HH1 HO0 HO1
  have HWD : Hid (Calls Tryz.prog 201 #[v3, .int .i64 0] w6 fun e w' => e = .returned (.int .u64 (L : Nat)) ∧ w' = w6) := Lib.hid (by
    have := word_any v3 (toW L) 0 w6 W6.out (by omega)
    rw [HW0.out] at this
    exact this)
  go_wp2_with fail
  refine HWD.out.mono ?_
  rintro e w7 ⟨rfl, rfl⟩
  go_wp2_with fail
  refine (compare_any v3 v6 L M w7 W6.out V6.out).mono ?_
  rintro e w8 ⟨rfl, hb8⟩
  have HB8 := Lib.hid (HB6.out.trans (hb8.mono HB6.out.size))
  clear hb8 HWD W6 V6 HB6
  by_cases he : L = M
  · have e1 : cmpN L M = 0 := by rw [HCM.out, if_pos he]
    obtain rfl : rb = true := by rw [← HRB.out]; exact decide_eq_true he
    rw [e1]
    clear he e1 HRB
    go_wp2
    go_ret2
    exact ⟨rfl, HB8.out⟩
  · have e1 : cmpN L M = -1 := by rw [HCM.out, if_neg he]
    obtain rfl : rb = false := by rw [← HRB.out]; exact decide_eq_false he
    rw [e1]
    clear he e1 HRB
    go_wp2
    go_ret2
    exact ⟨rfl, HB8.out⟩
end Go.Proofs.YtkjclafbpocabaaGreatDoor
