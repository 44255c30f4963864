/-
  Contracts of the program's own functions (and their plain mathematics), on the way to the law: each for all arguments that its hypotheses let.
-/
import Derived.Test.YtedpafdfecofnaaGreatDoorF55
import Derived.WalkKit
import Derived.WalkSpells
import Derived.WalkLawsBesides
import Derived.Deep.QuietTactic
import Derived.BigQuiet
import Derived.Lib.Hide
import Derived.WalkSmall
import Derived.Maps.OwnSet
import Derived.Maps.RangeWalk
import Derived.Deep.RegionWith
import Derived.Deep.RegionHeld3
import Derived.Deep.DrawnRows
import Derived.Deep.DeepCutAuto
import Derived.OneCell
import Derived.KernelRfl
import Derived.Laws.StructEq
import Derived.StillTailTactics
import Derived.Laws.Externs
import Derived.RangeFuncBox
import Derived.Test.YtedpafdfecofnaaGreatDoorPlain
set_option linter.unusedSimpArgs false
set_option linter.unusedVariables false

/-! ## D4 -/
namespace Go.Proofs.YtedpafdfecofnaaGreatDoor
open Go.RowKit Go.Maps Go.Shelf Go.Sort
/-- A call that gives a list of digits that is there. -/
def ReadsD (P : List Nat → Prop) (w : World) (e : Ending) (w' : World) : Prop := ∃ l v, P l ∧ e = .returned v ∧ DigsN w' v l ∧ Below w.heap.size w w'
theorem trim_head {x : Nat} {l : List Nat} (h : x = 0) : trimD (x :: l) = trimD l := by rw [trimD, if_pos h]
theorem trim_stop {x : Nat} {l : List Nat} (h : x ≠ 0) : trimD (x :: l) = x :: l := by rw [trimD, if_neg h]
set_option maxRecDepth 100000 in
set_option maxHeartbeats 4000000 in
/-- trim: without the zeros in front. -/
theorem trim_dig (v : Value) (l : List Nat) (hl : l.length ≤ 100000) (w : World) (h : DigsN w v l) : Calls Tryz.prog 95 #[v] w (ReadsD (fun r => r = trimD l) w) := by
  obtain ⟨_, b, off, cap, rfl, hcap, hb, hc⟩ := h
  · have HC := Lib.hid hc
    clear hc
    go_enter Tryz.func95, Tryz.ntmps95
    go_wp2_with fail
    go_loopw [0] (fun s wr => ∃ (k m o : Nat), s = .slice (some ⟨b, o, none⟩) m (cap - k) ∧ (m = 0 ∨ o = off + k) ∧ k + m = l.length ∧ Hid (trimD (l.drop k) = trimD l) ∧ Hid (Below w.heap.size w wr)) (fun s _ => sliceLen s)
    case atStart => exact ⟨0, l.length, off, by rw [Nat.sub_zero], .inr rfl, by omega, Lib.hid rfl, Lib.hid (Below.refl _ _)⟩
    case round =>
      obtain ⟨k, m, o, rfl, ho, hkm, HT, HW⟩ := hrel
      by_cases hm : m = 0
      · subst hm
        have HF : Hid ([] = trimD l) := Lib.hid (by rw [← HT.out, List.drop_of_length_le (by omega)]; rfl)
        clear HT hkm
        go_wp2
        go_ret
        exact ⟨[], .slice (some ⟨b, o, none⟩) 0 (cap - k), HF.out, rfl, ⟨by simp, b, o, cap - k, rfl, Nat.zero_le _, Nat.lt_of_lt_of_le hb HW.out.size, fun i hi => by simp at hi⟩, HW.out⟩
      · obtain rfl : o = off + k := by omega
        have hk : k < l.length := by omega
        have c0 := (HW.out.cell (p := ⟨b, _, none⟩) hb).trans (HC.out k hk)
        have hmp : 0 < (m : Int) := by omega
        obtain ⟨x, hx⟩ : ∃ x, l.getD k 0 = x := ⟨_, rfl⟩
        rw [hx] at c0
        by_cases hx0 : x = 0
        · have HT2 : Hid (trimD (l.drop (k + 1)) = trimD l) := Lib.hid (by rw [← HT.out, drop_cons hk, trim_head (hx.trans hx0)])
          subst hx0
          have hm1 : 1 ≤ m := by omega
          have hcc : m ≤ cap - k := by omega
          clear hx HT hm ho
          by_cases hc1 : cap - k = 1
          · have hm2 : m - 1 = 0 := by omega
            go_wp2
            go_roundw
            case rel => exact ⟨k + 1, m - 1, off + k, by rw [hm2, show cap - (k + 1) = 0 by omega], .inl hm2, by omega, HT2, HW⟩
            case measure => simp [sliceLen]; omega
          · go_wp2
            go_roundw
            case rel => exact ⟨k + 1, m - 1, off + k + 1, by rw [Nat.sub_sub], .inr (by omega), by omega, HT2, HW⟩
            case measure => simp [sliceLen]; omega
        · have hq : ((x : Int) == 0) = false := by simp; exact hx0
          have HF : Hid (l.drop k = trimD l) := Lib.hid (by rw [← HT.out, drop_cons hk, hx, trim_stop hx0])
          have hlen : (l.drop k).length = m := by simp; omega
          have hb2 : b < (w : World).heap.size := hb
          clear HT hm hx hx0 ho
          go_wp2
          go_ret
          exact ⟨l.drop k, .slice (some ⟨b, off + k, none⟩) m (cap - k), HF.out, rfl, ⟨by omega, b, off + k, cap - k, by rw [hlen], by omega, Nat.lt_of_lt_of_le hb HW.out.size, fun i hi => by
            have := (HW.out.cell (p := ⟨b, _, none⟩) hb).trans (HC.out (k + i) (by omega))
            rw [show off + k + i = off + (k + i) by omega, this]
            congr 2
            simp [List.getD_eq_getElem?_getD, List.getElem?_drop]⟩, HW.out⟩
theorem times_digit {c x n p : Nat} {out l : List Nat} (h1 : dval out + c * 10 ^ out.length = dval l * n) (hl : out.length = l.length) (t q r : Nat) (ht : t = c + x * n) (hq : t / 10 = q) (hr : t % 10 = r) (hp : p = out.length + 1) :
    dval (r :: out) + q * 10 ^ p = dval (x :: l) * n := by
  subst hp
  rw [dval_cons, dval_cons, Nat.pow_succ, Nat.add_mul, ← h1, ← hl]
  have e : t = 10 * q + r := by omega
  have e2 : (c + x * n) * 10 ^ out.length = (10 * q + r) * 10 ^ out.length := by rw [← e, ht]
  rw [Nat.add_mul, Nat.add_mul] at e2
  have e3 : q * (10 ^ out.length * 10) = 10 * q * 10 ^ out.length := by rw [Nat.mul_comm (10 ^ out.length) 10, ← Nat.mul_assoc, Nat.mul_comm q 10]
  have e4 : x * 10 ^ out.length * n = x * n * 10 ^ out.length := by rw [Nat.mul_assoc, Nat.mul_comm (10 ^ out.length) n, ← Nat.mul_assoc]
  omega
set_option maxRecDepth 100000 in
set_option maxHeartbeats 4000000 in
/-- times: a list of digits times a digit. -/
theorem times_dig (v : Value) (l : List Nat) (n : Nat) (hn : n ≤ 9) (hl : l.length ≤ 100000) (w : World) (hd : Dg l) (h : DigsAt w v l) : Calls Tryz.prog 96 #[v, .int .i64 n] w (GivesN (fun r => Dg r ∧ dval r = dval l * n ∧ r.length ≤ l.length + 1) w) := by
  obtain ⟨i0, hi, hz0, hz1, hz2⟩ := info_parts info3
  have H0 := Lib.hid (emptyD w)
  have B0 : Hid (Below w.heap.size w (w.alloc (.cells #[] 3))) := Lib.hid ((Below.refl _ w).alloc (Nat.le_refl _) _)
  obtain ⟨p, cp, rfl, hp⟩ := h.reads
  have HP := Lib.hid hp
  have HD := Lib.hid hd
  clear h hp hd
  go_enter Tryz.func96, Tryz.ntmps96
  go_wp2_with fail
  go_loopw [5, 6, 7] (fun s5 s6 s7 wr => ∃ (k c : Nat) (e : Nat) (out : List Nat) (g cap : Nat), s5 = .slice (some ⟨g, 0, none⟩) out.length cap ∧ s6 = .int .i64 (c : Nat) ∧ s7 = .int .i64 ((k : Int) - 1 - (e : Int)) ∧ c ≤ 8 ∧ k ≤ l.length ∧ e ≤ 1 ∧ (e = 1 → k = 0 ∧ c = 0) ∧ out.length = l.length - k + e ∧ Hid (Dg out ∧ (e = 0 → dval out + c * 10 ^ out.length = dval (l.drop k) * n) ∧ (e = 1 → dval out = dval l * n)) ∧ Hid (OwnD wr w.heap.size (.slice (some ⟨g, 0, none⟩) out.length cap) out ∧ Below w.heap.size w wr)) (fun _ _ s7 _ => (intOf s7 + 3).toNat)
  case atStart => exact ⟨l.length, 0, 0, [], w.heap.size, 0, rfl, rfl, by simp, by omega, Nat.le_refl _, by omega, fun h => by omega, by simp, Lib.hid ⟨Dg.nil, fun _ => by rw [List.drop_length]; simp [dval], fun h => by omega⟩, Lib.hid ⟨H0.out, B0.out⟩⟩
  case round =>
    clear H0 B0
    obtain ⟨k, c, e, out, g, cap, rfl, rfl, rfl, hc, hk, he, hek, hol, HV, HO⟩ := hrel
    obtain ⟨ho, hb⟩ := HO.out
    have hsz := hb.size
    have hgl : g < wr.heap.size := (World.ownsRow.lt ho g rfl).2
    have HB := Lib.hid hb
    by_cases hk0 : 0 < k
    · obtain ⟨j, rfl⟩ : ∃ j, k = j + 1 := ⟨k - 1, by omega⟩
      obtain rfl : e = 0 := by omega
      have hi7 : (((j + 1 : Nat) : Int) - 1 - ((0 : Nat) : Int)) = (j : Int) := by omega
      rw [hi7]
      obtain ⟨bb, ob, rfl, hcb, hbb, cb⟩ := HP.out j (by omega)
      replace cb := (hb.cell (p := ⟨bb, _, none⟩) hbb).trans cb
      obtain ⟨x, hx⟩ : ∃ x, l.getD j 0 = x := ⟨_, rfl⟩
      have hx9 : x < 10 := by rw [← hx]; exact HD.out.getD j
      rw [hx] at cb
      obtain ⟨y, hy⟩ : ∃ y, x * n = y := ⟨_, rfl⟩
      have hy1 : y ≤ 81 := by rw [← hy]; exact Nat.mul_le_mul (show x ≤ 9 by omega) hn
      obtain ⟨t, ht⟩ : ∃ t, c + y = t := ⟨_, rfl⟩
      obtain ⟨q, hq⟩ : ∃ q, t / 10 = q := ⟨_, rfl⟩
      obtain ⟨r, hr⟩ : ∃ r, t % 10 = r := ⟨_, rfl⟩
      have m1 : (x : Int) * (n : Int) = (y : Int) := by rw [← hy]; simp
      have m2 : IntKind.i64.wrap (y : Int) = (y : Int) := IntWalk.i64_in _ (by omega)
      have m3 : (c : Int) + (y : Int) = (t : Int) := by omega
      have m4 : IntKind.i64.wrap (t : Int) = (t : Int) := IntWalk.i64_in _ (by omega)
      have e3 : (t : Int).tdiv 10 = (q : Int) := by rw [← hq]; rfl
      have e4 : (t : Int).tmod 10 = (r : Int) := by rw [← hr]; rfl
      have e1 : (t : Int) / 10 = (q : Int) := by omega
      have e2 : (t : Int) % 10 = (r : Int) := by omega
      have e5 : IntKind.i64.wrap (q : Int) = (q : Int) := IntWalk.i64_in _ (by omega)
      have e6 : IntKind.i64.wrap (r : Int) = (r : Int) := IntWalk.i64_in _ (by omega)
      have HN : Hid (Dg (r :: out) ∧ dval (r :: out) + q * 10 ^ (r :: out).length = dval (l.drop j) * n) := Lib.hid ⟨Dg.cons (by omega) HV.out.1, by
        rw [drop_cons (show j < l.length by omega), hx]
        exact times_digit (HV.out.2.1 rfl) (by rw [List.length_drop]; omega) t q r (by omega) hq hr rfl⟩
      have HO1 := Lib.hid (oneD wr r)
      have HNW := Lib.hid (newsD (W' := wr.alloc (.cells #[.int .i64 (r : Nat)] 3)) (b := g) (off := 0) hgl (fun i hi => by rw [Nat.zero_add]; exact ho.cellAt i hi) ((Below.refl _ wr).alloc (Nat.le_refl _) _))
      have hq8 : q ≤ 8 := by omega
      have HLN : Hid (out.length + 1 = l.length - j + 0) := Lib.hid (by omega)
      have ho2 : out.length ≤ 100000 := by omega
      have j0 : (0 : Int) ≤ (j : Int) := by omega
      have j1 : (j : Int) < (l.length : Int) := by omega
      clear hx hy ht hq hr HV ho hb hi7 hol hek
      go_wp2_with (first
        | (at_builtin; refine wpList_append_own _ rfl _ _ 88 rfl w.heap.size 3 i0 (.int .i64 0) 1 8 und88 hi hz0 hz1 hz2 rfl (by decide) (.slice (some ⟨wr.heap.size, 0, none⟩) 1 1) 1 (iv [r]) rfl (HO1.out.low hsz) ⟨g, 0, none⟩ out.length cap (iv out) rfl (by rw [iv_len]; omega) HNW.out (iv_one out) (by unfold maxLen; omega) (by omega) (by simp; omega) ?_; intro v' w3 hown3 hgrow3 _; obtain ⟨hod, hbd⟩ := app_own rfl HB.out hown3 hgrow3; obtain ⟨g', cap', rfl⟩ := ownD_some hod; have HOD := Lib.hid hod; have HBD := Lib.hid hbd; clear hown3 hgrow3 hod hbd))
      go_roundw
      case rel => exact ⟨j, q, 0, r :: out, g', cap', rfl, rfl, by simp, hq8, by omega, by omega, fun h => by omega, HLN.out, Lib.hid ⟨HN.out.1, fun _ => HN.out.2, fun h => by omega⟩, Lib.hid ⟨HOD.out, HBD.out⟩⟩
      case measure => simp [intOf]; omega
    · obtain rfl : k = 0 := by omega
      by_cases hc0 : c = 0
      · subst hc0
        have HF : Hid (dval out = dval l * n) := Lib.hid (by
          have h1 := HV.out.2.1
          have h2 := HV.out.2.2
          rcases Nat.lt_or_ge 0 e with h | h
          · exact h2 (by omega)
          · have := h1 (by omega); rw [List.drop_zero] at this; omega)
        have hle : out.length ≤ l.length + 1 := by omega
        have i1 : ¬ (0 : Int) ≤ (((0 : Nat) : Int) - 1 - (e : Int)) := by omega
        obtain ⟨i7, hi7⟩ : ∃ i, (((0 : Nat) : Int) - 1 - (e : Int)) = i := ⟨_, rfl⟩
        rw [hi7] at i1 ⊢
        clear hi7 hol hek
        go_wp2
        go_ret
        exact ⟨out, _, ⟨HV.out.1, HF.out, hle⟩, rfl, (fun e => by cases e), ho, hb⟩
      · obtain rfl : e = 0 := by omega
        have hi7 : (((0 : Nat) : Int) - 1 - ((0 : Nat) : Int)) = -1 := by omega
        rw [hi7]
        have HN : Hid (Dg (c :: out) ∧ dval (c :: out) = dval l * n) := Lib.hid ⟨Dg.cons (by omega) HV.out.1, by
          have := HV.out.2.1 rfl
          rw [List.drop_zero] at this
          rw [dval_cons, ← this]; omega⟩
        have HO1 := Lib.hid (oneD wr c)
        have HNW := Lib.hid (newsD (W' := wr.alloc (.cells #[.int .i64 (c : Nat)] 3)) (b := g) (off := 0) hgl (fun i hi => by rw [Nat.zero_add]; exact ho.cellAt i hi) ((Below.refl _ wr).alloc (Nat.le_refl _) _))
        have e3 : (c : Int).tdiv 10 = 0 := by have : (c : Int).tdiv 10 = ((c / 10 : Nat) : Int) := rfl; rw [this, show c / 10 = 0 by omega]; rfl
        have e4 : (c : Int).tmod 10 = (c : Int) := by have : (c : Int).tmod 10 = ((c % 10 : Nat) : Int) := rfl; rw [this, show c % 10 = c by omega]
        have e1 : (c : Int) / 10 = 0 := by omega
        have e2 : (c : Int) % 10 = (c : Int) := by omega
        have e6 : IntKind.i64.wrap (c : Int) = (c : Int) := IntWalk.i64_in _ (by omega)
        have c1 : 0 < (c : Int) := by omega
        have ho2 : out.length ≤ 100000 := by omega
        have HLN : Hid (out.length + 1 = l.length - 0 + 1) := Lib.hid (by omega)
        clear HV ho hb hi7 hol hek
        go_wp2_with (first
          | (at_builtin; refine wpList_append_own _ rfl _ _ 88 rfl w.heap.size 3 i0 (.int .i64 0) 1 8 und88 hi hz0 hz1 hz2 rfl (by decide) (.slice (some ⟨wr.heap.size, 0, none⟩) 1 1) 1 (iv [c]) rfl (HO1.out.low hsz) ⟨g, 0, none⟩ out.length cap (iv out) rfl (by rw [iv_len]; omega) HNW.out (iv_one out) (by unfold maxLen; omega) (by omega) (by simp; omega) ?_; intro v' w3 hown3 hgrow3 _; obtain ⟨hod, hbd⟩ := app_own rfl HB.out hown3 hgrow3; obtain ⟨g', cap', rfl⟩ := ownD_some hod; have HOD := Lib.hid hod; have HBD := Lib.hid hbd; clear hown3 hgrow3 hod hbd))
        go_roundw
        case rel => exact ⟨0, 0, 1, c :: out, g', cap', rfl, rfl, by simp, by omega, by omega, by omega, fun _ => ⟨rfl, rfl⟩, HLN.out, Lib.hid ⟨HN.out.1, fun h => by omega, fun _ => HN.out.2⟩, Lib.hid ⟨HOD.out, HBD.out⟩⟩
        case measure => simp [intOf]; try omega
end Go.Proofs.YtedpafdfecofnaaGreatDoor

/-! ## D5 -/
namespace Go.Proofs.YtedpafdfecofnaaGreatDoor
open Go.RowKit Go.Maps Go.Shelf Go.Sort
/-- Two lists, padded: what the loops of add and sub begin with. -/
def padD (n : Nat) (a : List Nat) : List Nat := List.replicate (n - a.length) 0 ++ a
theorem padD_len {n : Nat} {a : List Nat} (h : a.length ≤ n) : (padD n a).length = n := by unfold padD; simp; omega
theorem dval_padD (n : Nat) (a : List Nat) : dval (padD n a) = dval a := dval_pad _ _
theorem Dg.padD {a : List Nat} (h : Dg a) (n : Nat) : Dg (padD n a) := Dg.append (Dg.zeros _) h
theorem take_same {xs X : List Nat} {k : Nat} (h : xs.take (k + 1) = X.take (k + 1)) (hk : k < X.length) : xs.getD k 0 = X.getD k 0 ∧ xs.take k = X.take k := by
  have h1 : (xs.take (k + 1)).getD k 0 = (X.take (k + 1)).getD k 0 := by rw [h]
  have h2 : (xs.take (k + 1)).take k = (X.take (k + 1)).take k := by rw [h]
  constructor
  · simpa [List.getD_eq_getElem?_getD, List.getElem?_take] using h1
  · simpa [List.take_take, Nat.min_eq_left (Nat.le_succ k)] using h2
theorem drop_set {xs : List Nat} {k x : Nat} (hk : k < xs.length) : (xs.set k x).drop k = x :: xs.drop (k + 1) := by
  rw [drop_cons (by rw [List.length_set]; exact hk)]
  congr 1
  · simp [List.getD_eq_getElem?_getD, hk]
  · rw [List.drop_set]; simp [show ¬ k + 1 ≤ k by omega, show k < k + 1 by omega]
theorem add_digit {xs X Y : List Nat} {k c t q r : Nat} (hX : k < X.length) (hlx : xs.length = X.length) (hly : Y.length = X.length) (hv : dval (xs.drop (k + 1)) + c * 10 ^ (X.length - (k + 1)) = dval (X.drop (k + 1)) + dval (Y.drop (k + 1))) (ht : t = c + (X.getD k 0 + Y.getD k 0)) (hq : t / 10 = q) (hr : t % 10 = r) :
    dval ((xs.set k r).drop k) + q * 10 ^ (X.length - k) = dval (X.drop k) + dval (Y.drop k) := by
  rw [drop_set (by omega), drop_cons hX, drop_cons (l := Y) (by omega), dval_cons, dval_cons, dval_cons]
  simp only [List.length_drop]
  rw [hlx, hly]
  have e0 : X.length - k = (X.length - (k + 1)) + 1 := by omega
  rw [e0, Nat.pow_succ]
  generalize 10 ^ (X.length - (k + 1)) = P at hv ⊢
  have e : t = 10 * q + r := by omega
  have e2 : (c + (X.getD k 0 + Y.getD k 0)) * P = (10 * q + r) * P := by rw [← e, ht]
  rw [Nat.add_mul, Nat.add_mul, Nat.add_mul] at e2
  have e3 : q * (P * 10) = 10 * q * P := by rw [Nat.mul_comm P 10, ← Nat.mul_assoc, Nat.mul_comm q 10]
  omega
set_option maxRecDepth 100000 in
set_option maxHeartbeats 4000000 in
/-- add: the sum of two lists of digits. -/
theorem add_dig (va vb : Value) (a b : List Nat) (hla : a.length ≤ 50000) (hlb : b.length ≤ 50000) (w : World) (hda : Dg a) (hdb : Dg b) (ha : DigsAt w va a) (hb : DigsAt w vb b) : Calls Tryz.prog 71 #[va, vb] w (GivesN (fun r => Dg r ∧ dval r = dval a + dval b ∧ r.length ≤ max a.length b.length + 1) w) := by
  obtain ⟨pa, ca, rfl⟩ := ha.shape
  obtain ⟨pb, cb, rfl⟩ := hb.shape
  have HA := Lib.hid ha
  have HB := Lib.hid hb
  obtain ⟨n, hn⟩ : ∃ n, max a.length b.length + 1 = n := ⟨_, rfl⟩
  have hna : a.length < n := by omega
  have hnb : b.length < n := by omega
  have hn5 : n ≤ 50001 := by omega
  have HN : Hid (max (a.length : Int) (b.length : Int) + 1 = (n : Int)) := Lib.hid (by omega)
  have HNN := Lib.hid hn
  have HPA := Lib.hid (fun w0 h0 => pad_any (.slice pa a.length ca) a n (by omega) (by omega) w0 h0)
  have HPB := Lib.hid (fun w0 h0 => pad_any (.slice pb b.length cb) b n (by omega) (by omega) w0 h0)
  have HX0 : Hid (Dg (padD n a) ∧ (padD n a).length = n ∧ dval (padD n a) = dval a) := Lib.hid ⟨hda.padD n, padD_len (by omega), dval_padD n a⟩
  have HY0 : Hid (Dg (padD n b) ∧ (padD n b).length = n ∧ dval (padD n b) = dval b) := Lib.hid ⟨hdb.padD n, padD_len (by omega), dval_padD n b⟩
  have HFIN : Hid (dval a + dval b < 10 ^ n) := Lib.hid (by
    have h1 := dval_lt hda
    have h2 := dval_lt hdb
    have h3 : 10 ^ a.length ≤ 10 ^ (n - 1) := Nat.pow_le_pow_right (by decide) (by omega)
    have h4 : 10 ^ b.length ≤ 10 ^ (n - 1) := Nat.pow_le_pow_right (by decide) (by omega)
    have h5 : 10 ^ n = 10 ^ (n - 1) * 10 := by rw [← Nat.pow_succ, Nat.succ_eq_add_one, show n - 1 + 1 = n by omega]
    omega)
  clear ha hb hda hdb hn
  go_enter Tryz.func71, Tryz.ntmps71
  go_upto_region 1 with fail
  go_cut [5] (fun s wx => s = .int .i64 (n : Int) ∧ wx = w)
  case first =>
    go_wp2_with fail
    go_meet
    exact ⟨by rw [HN.out], rfl⟩
  case rest =>
    obtain ⟨rfl, rfl⟩ := hcut
    obtain ⟨w, hw⟩ : ∃ W, W = wc := ⟨wc, rfl⟩
    subst hw
    go_wp2_with fail
    refine (HPA.out _ HA.out).mono ?_
    rintro e w1 ⟨X, vx, hX, rfl, hox, hb1⟩
    have HB1 := Lib.hid hb1
    have HB' := Lib.hid (HB.out.below hb1)
    have HX := Lib.hid hX
    have HOX := Lib.hid hox
    clear hX hox hb1
    go_wp2_with fail
    refine (HPB.out _ HB'.out).mono ?_
    rintro e w2 ⟨Y, vy, hY, rfl, hoy, hb2⟩
    have HYR := Lib.hid (hoy.at (by rw [hY]; have := HY0.out.2.1; unfold padD at this; omega))
    have HY := Lib.hid hY
    have HOX2 := Lib.hid (HOX.out.below hb2)
    have HYB := Lib.hid (fun k hk => (World.ownsRow.lt hoy k hk).1)
    have HB2 := Lib.hid (HB1.out.trans (hb2.mono HB1.out.size))
    have HX1 : Hid (Dg X ∧ X.length = n ∧ dval X = dval a) := Lib.hid (by have := HX0.out; unfold padD at this; rw [HX.out]; exact this)
    have HY1 : Hid (Dg Y ∧ Y.length = n ∧ dval Y = dval b) := Lib.hid (by have := HY0.out; unfold padD at this; rw [HY.out]; exact this)
    obtain ⟨g, cap, rfl⟩ : ∃ g cap, vx = .slice (some ⟨g, 0, none⟩) n cap := by
      have h := HOX2.out
      have h2 := HX1.out.2.1
      cases hX : X with
      | nil => rw [hX] at h2; simp at h2; omega
      | cons x0 X0 => rw [hX] at h h2; obtain ⟨g, cap, e⟩ := ownD_some h; exact ⟨g, cap, by rw [e]; simp at h2; rw [h2]⟩
    have hly : Y.length = n := HY1.out.2.1
    obtain ⟨q, cq, ev, hq⟩ := HYR.out.reads
    rw [hly] at ev hq
    subst ev
    have HQ := Lib.hid hq
    have hg1 : g < w1.heap.size := (World.ownsRow.lt HOX.out g rfl).2
    have hgb : w.heap.size ≤ g := (World.ownsRow.lt HOX.out g rfl).1
    have hlx : X.length = n := HX1.out.2.1
    have HQB : Hid (∀ bk off, q = some ⟨bk, off, none⟩ → bk ≠ g) := Lib.hid (fun bk off e1 e2 => by
      have := HYB.out bk (by rw [e1]; rfl)
      omega)
    have HI0 : Hid (OwnD w2 w.heap.size (.slice (some ⟨g, 0, none⟩) n cap) X) := HOX2
    have HV0 : Hid (X.take n = X.take n ∧ Dg X ∧ dval (X.drop n) + 0 * 10 ^ (X.length - n) = dval (X.drop n) + dval (Y.drop n)) := Lib.hid ⟨rfl, HX1.out.1, by rw [List.drop_of_length_le (by omega), List.drop_of_length_le (by omega)]; simp [dval]⟩
    clear hoy hY hb2 hq HX HY HOX HYR HYB HPA HPB HA HB HB' HB1 HX0 HY0 HN
    go_wp2_with fail
    go_loopw [8, 9] (fun s8 s9 wr => ∃ (k c : Nat) (xs : List Nat), s8 = .int .i64 (c : Nat) ∧ s9 = .int .i64 ((k : Int) - 1) ∧ k ≤ n ∧ c ≤ 1 ∧ xs.length = n ∧ Hid (xs.take k = X.take k ∧ Dg xs ∧ dval (xs.drop k) + c * 10 ^ (X.length - k) = dval (X.drop k) + dval (Y.drop k)) ∧ Hid (OwnD wr w.heap.size (.slice (some ⟨g, 0, none⟩) n cap) xs) ∧ Hid (Below w.heap.size w wr) ∧ Hid (∀ i, i < n → ∃ bk off, q = some ⟨bk, off, none⟩ ∧ n ≤ cq ∧ bk < wr.heap.size ∧ wr.cell? ⟨bk, off + i, none⟩ = some (.int .i64 (Y.getD i 0 : Nat)))) (fun _ s9 _ => (intOf s9 + 1).toNat)
    case atStart => exact ⟨n, 0, X, rfl, by simp, Nat.le_refl _, by omega, hlx, Lib.hid ⟨rfl, HV0.out.2⟩, HI0, HB2, HQ⟩
    case round =>
      clear HI0 HQ HV0
      obtain ⟨k, c, xs, rfl, rfl, hk, hc, hxl, HV, HO, HW, HQ⟩ := hrel
      by_cases hk0 : 0 < k
      · obtain ⟨j, rfl⟩ : ∃ j, k = j + 1 := ⟨k - 1, by omega⟩
        have hi9 : (((j + 1 : Nat) : Int) - 1) = (j : Int) := by omega
        rw [hi9]
        obtain ⟨bk, off, rfl, hcq, hbk, cy⟩ := HQ.out j (by omega)
        obtain ⟨hsame, htake⟩ := take_same HV.out.1 (show j < X.length by omega)
        have ho2 : OwnD wr w.heap.size (.slice (some ⟨g, 0, none⟩) xs.length cap) xs := by rw [hxl]; exact HO.out
        have cx := ho2.cellAt j (by omega)
        have hfz : wr.frozen? ⟨g, j, none⟩ = false := World.ownsRow.frozenAt ho2 j
        obtain ⟨x, hx⟩ : ∃ x, xs.getD j 0 = x := ⟨_, rfl⟩
        obtain ⟨y, hy⟩ : ∃ y, Y.getD j 0 = y := ⟨_, rfl⟩
        have hx9 : x < 10 := by rw [← hx]; exact HV.out.2.1.getD j
        have hy9 : y < 10 := by rw [← hy]; exact HY1.out.1.getD j
        rw [hx] at cx
        rw [hy] at cy
        obtain ⟨s, hs⟩ : ∃ s, x + y = s := ⟨_, rfl⟩
        obtain ⟨t, ht⟩ : ∃ t, c + s = t := ⟨_, rfl⟩
        obtain ⟨u, hu⟩ : ∃ u, t / 10 = u := ⟨_, rfl⟩
        obtain ⟨r, hr⟩ : ∃ r, t % 10 = r := ⟨_, rfl⟩
        have m1 : (x : Int) + (y : Int) = (s : Int) := by omega
        have m2 : IntKind.i64.wrap (s : Int) = (s : Int) := IntWalk.i64_in _ (by omega)
        have m3 : (c : Int) + (s : Int) = (t : Int) := by omega
        have m4 : IntKind.i64.wrap (t : Int) = (t : Int) := IntWalk.i64_in _ (by omega)
        have e3 : (t : Int).tdiv 10 = (u : Int) := by rw [← hu]; rfl
        have e4 : (t : Int).tmod 10 = (r : Int) := by rw [← hr]; rfl
        have e1 : (t : Int) / 10 = (u : Int) := by omega
        have e2 : (t : Int) % 10 = (r : Int) := by omega
        have e5 : IntKind.i64.wrap (u : Int) = (u : Int) := IntWalk.i64_in _ (by omega)
        have e6 : IntKind.i64.wrap (r : Int) = (r : Int) := IntWalk.i64_in _ (by omega)
        have hu1 : u ≤ 1 := by omega
        have hr9 : r < 10 := by omega
        have HV2 : Hid ((xs.set j r).take j = X.take j ∧ Dg (xs.set j r) ∧ dval ((xs.set j r).drop j) + u * 10 ^ (X.length - j) = dval (X.drop j) + dval (Y.drop j)) := Lib.hid ⟨by
          rw [take_set_ge (Nat.le_refl j)]; exact htake, HV.out.2.1.set j hr9, add_digit (by omega) (by omega) (by omega) HV.out.2.2 (by rw [← hsame, hx, hy]; omega) hu hr⟩
        have HO2 := Lib.hid ho2
        have j0 : (0 : Int) ≤ (j : Int) := by omega
        have j1 : (j : Int) < (n : Int) := by omega
        have hgw : g < wr.heap.size := (World.ownsRow.lt HO.out g rfl).2
        have hbg : bk ≠ g := HQB.out bk off rfl
        have HBG := Lib.hid hbg
        have hgb2 := HW.out.size
        have hsl : (xs.set j r).length = n := by rw [List.length_set]; exact hxl
        have hjn : j ≤ n := by omega
        clear hx hy hs ht hu hr hsame htake ho2 HV HO hi9 hk hk0
        have HCY := Lib.hid HQ.out
        have HXL := Lib.hid hxl
        clear HQ hxl
        go_wp2
        go_quiet (fail)
        obtain ⟨w3, hw3⟩ : ∃ W, wr.drewN nq = W := ⟨_, rfl⟩
        rw [hw3]
        have bq : Below wr.heap.size wr w3 := by rw [← hw3]; exact below_drewN (Below.refl _ _) _
        have HO3 : Hid (OwnD (w3.setCell ⟨g, j, none⟩ (.int .i64 (r : Nat))) w.heap.size (.slice (some ⟨g, 0, none⟩) n cap) (xs.set j r)) := Lib.hid (by have := (HO2.out.below bq).store j r; rw [HXL.out] at this; exact this)
        have HW3 : Hid (Below w.heap.size w (w3.setCell ⟨g, j, none⟩ (.int .i64 (r : Nat)))) := Lib.hid ((HW.out.trans (bq.mono HW.out.size)).setCell hgb _)
        have HQ3 : Hid (∀ i, i < n → ∃ b' o', some (⟨bk, off, none⟩ : Addr) = some ⟨b', o', none⟩ ∧ n ≤ cq ∧ b' < (w3.setCell ⟨g, j, none⟩ (.int .i64 (r : Nat))).heap.size ∧ (w3.setCell ⟨g, j, none⟩ (.int .i64 (r : Nat))).cell? ⟨b', o' + i, none⟩ = some (.int .i64 (Y.getD i 0 : Nat))) := Lib.hid (fun i hi => by
          obtain ⟨b', o', e, h1, h2, h3⟩ := HCY.out i hi
          obtain ⟨rfl, rfl⟩ : bk = b' ∧ off = o' := by cases e; exact ⟨rfl, rfl⟩
          exact ⟨bk, off, rfl, h1, by have := bq.size; simp; omega, (grownBy_setCell w3 ⟨g, j, none⟩ (.int .i64 (r : Nat))).cell ((bq.cell (p := ⟨bk, _, none⟩) h2).trans h3) (by intro e; exact HBG.out (Option.some.inj e))⟩)
        have cx3 : w3.cell? ⟨g, j, none⟩ = some (.int .i64 (x : Nat)) := (bq.cell (p := ⟨g, _, none⟩) hgw).trans cx
        have fz3 : w3.frozen? ⟨g, j, none⟩ = false := World.ownsRow.frozenAt (HO2.out.below bq) j
        have gw3 : g < w3.heap.size := by have := bq.size; omega
        clear hw3 bq cx cy hfz HW HCY HO2
        go_wp2
        go_roundw
        case rel => exact ⟨j, u, xs.set j r, rfl, by simp, hjn, hu1, hsl, HV2, HO3, HW3, HQ3⟩
        case measure => simp [intOf]; try omega
      · obtain rfl : k = 0 := by omega
        have hi9 : (((0 : Nat) : Int) - 1) = -1 := by omega
        rw [hi9]
        have HF : Hid (dval xs = dval a + dval b) := Lib.hid (by
          have h := HV.out.2.2
          rw [List.drop_zero, List.drop_zero, List.drop_zero, HX1.out.2.2, HY1.out.2.2, hlx, Nat.sub_zero] at h
          have h2 := HFIN.out
          rcases Nat.eq_zero_or_pos c with h0 | h0
          · rw [h0] at h; omega
          · have : 1 * 10 ^ n ≤ c * 10 ^ n := Nat.mul_le_mul_right _ h0
            omega)
        have HXL : Hid (xs.length ≤ max a.length b.length + 1) := Lib.hid (by have := HNN.out; omega)
        have HO2 : Hid (OwnD wr w.heap.size (.slice (some ⟨g, 0, none⟩) n cap) xs) := HO
        clear hi9 hk hk0
        go_wp2
        go_ret
        exact ⟨xs, _, ⟨HV.out.2.1, HF.out, HXL.out⟩, rfl, (fun e => by cases e), HO2.out, HW.out⟩
end Go.Proofs.YtedpafdfecofnaaGreatDoor
