/-
  Contracts of the program's own functions (and their plain mathematics), on the way to the law: each for all arguments that its hypotheses let.
-/
import Derived.Test.YtedpafdfecofnaaGreatDoorF56
import Derived.WalkKit
import Derived.WalkSpells
import Derived.WalkLawsBesides
import Derived.Deep.QuietTactic
import Derived.BigQuiet
import Derived.Lib.Hide
import Derived.WalkSmall
import Derived.Maps.OwnSet
import Derived.Maps.RangeWalk
import Derived.Deep.RegionWith
import Derived.Deep.RegionHeld3
import Derived.Deep.DrawnRows
import Derived.Deep.DeepCutAuto
import Derived.OneCell
import Derived.KernelRfl
import Derived.Laws.StructEq
import Derived.StillTailTactics
import Derived.Laws.Externs
import Derived.RangeFuncBox
import Derived.Test.YtedpafdfecofnaaGreatDoorPlain
set_option linter.unusedSimpArgs false
set_option linter.unusedVariables false

/-! ## D6 -/
namespace Go.Proofs.YtedpafdfecofnaaGreatDoor
open Go.RowKit Go.Maps Go.Shelf Go.Sort
theorem sub_digit {xs X Y : List Nat} {k c q r : Nat} (hX : k < X.length) (hlx : xs.length = X.length) (hly : Y.length = X.length) (hv : dval (xs.drop (k + 1)) + dval (Y.drop (k + 1)) = dval (X.drop (k + 1)) + c * 10 ^ (X.length - (k + 1))) (ht : r + (Y.getD k 0 + c) = X.getD k 0 + 10 * q) :
    dval ((xs.set k r).drop k) + dval (Y.drop k) = dval (X.drop k) + q * 10 ^ (X.length - k) := by
  rw [drop_set (by omega), drop_cons hX, drop_cons (l := Y) (by omega), dval_cons, dval_cons, dval_cons]
  simp only [List.length_drop]
  rw [hlx, hly]
  have e0 : X.length - k = (X.length - (k + 1)) + 1 := by omega
  rw [e0, Nat.pow_succ]
  generalize 10 ^ (X.length - (k + 1)) = P at hv ⊢
  have e2 : (r + (Y.getD k 0 + c)) * P = (X.getD k 0 + 10 * q) * P := by rw [ht]
  rw [Nat.add_mul, Nat.add_mul, Nat.add_mul] at e2
  have e3 : q * (P * 10) = 10 * q * P := by rw [Nat.mul_comm P 10, ← Nat.mul_assoc, Nat.mul_comm q 10]
  omega
theorem OwnD.store2 {w : World} {base g cap : Nat} {l : List Nat} (h : OwnD w base (.slice (some ⟨g, 0, none⟩) l.length cap) l) (k : Nat) (u : Value) (x : Nat) :
    OwnD ((w.setCell ⟨g, k, none⟩ u).setCell ⟨g, k, none⟩ (.int .i64 (x : Nat))) base (.slice (some ⟨g, 0, none⟩) l.length cap) (l.set k x) := by
  have h1 := (World.ownsRow.stored h k u).1
  have h2 := (World.ownsRow.stored h1 k (.int .i64 (x : Nat))).1
  rw [List.set_set] at h2
  unfold OwnD
  rw [iv_set, List.length_set]
  exact h2
theorem OwnD.cell_set {w : World} {base g cap : Nat} {l : List Nat} (h : OwnD w base (.slice (some ⟨g, 0, none⟩) l.length cap) l) (k : Nat) (hk : k < l.length) (u : Value) :
    (w.setCell ⟨g, k, none⟩ u).cell? ⟨g, k, none⟩ = some u ∧ (w.setCell ⟨g, k, none⟩ u).frozen? ⟨g, k, none⟩ = false := by
  have h1 := (World.ownsRow.stored h k u).1
  refine ⟨?_, World.ownsRow.frozenAt h1 k⟩
  rw [World.ownsRow.cellAt h1 k (by omega)]
  simp [iv_len, hk]
set_option maxRecDepth 100000 in
set_option maxHeartbeats 4000000 in
/-- sub: the difference of two lists of digits. -/
theorem sub_dig (va vb : Value) (a b : List Nat) (hla : a.length ≤ 50000) (hlb : b.length ≤ 50000) (w : World) (hba : dval b ≤ dval a) (hda : Dg a) (hdb : Dg b) (ha : DigsAt w va a) (hb : DigsAt w vb b) : Calls Tryz.prog 97 #[va, vb] w (GivesN (fun r => Dg r ∧ dval r = dval a - dval b ∧ r.length ≤ max a.length b.length) w) := by
  obtain ⟨pa, ca, rfl⟩ := ha.shape
  obtain ⟨pb, cb, rfl⟩ := hb.shape
  have HA := Lib.hid ha
  have HB := Lib.hid hb
  obtain ⟨n, hn⟩ : ∃ n, max a.length b.length = n := ⟨_, rfl⟩
  have hna : a.length ≤ n := by omega
  have hnb : b.length ≤ n := by omega
  have hn5 : n ≤ 50000 := by omega
  have HN : Hid (max (a.length : Int) (b.length : Int) = (n : Int)) := Lib.hid (by omega)
  have HNN := Lib.hid hn
  have HPA := Lib.hid (fun w0 h0 => pad_some (.slice pa a.length ca) a n (by omega) (by omega) w0 h0)
  have HPB := Lib.hid (fun w0 h0 => pad_any (.slice pb b.length cb) b n (by omega) (by omega) w0 h0)
  have HX0 : Hid (Dg (padD n a) ∧ (padD n a).length = n ∧ dval (padD n a) = dval a) := Lib.hid ⟨hda.padD n, padD_len (by omega), dval_padD n a⟩
  have HY0 : Hid (Dg (padD n b) ∧ (padD n b).length = n ∧ dval (padD n b) = dval b) := Lib.hid ⟨hdb.padD n, padD_len (by omega), dval_padD n b⟩
  have HFIN : Hid (dval b ≤ dval a) := Lib.hid hba
  clear hba
  clear ha hb hda hdb hn
  go_enter Tryz.func97, Tryz.ntmps97
  go_upto_region 1 with fail
  go_cut [5] (fun s wx => s = .int .i64 (n : Int) ∧ wx = w)
  case first =>
    go_wp2_with fail
    go_meet
    exact ⟨by rw [HN.out], rfl⟩
  case rest =>
    obtain ⟨rfl, rfl⟩ := hcut
    obtain ⟨w, hw⟩ : ∃ W, W = wc := ⟨wc, rfl⟩
    subst hw
    go_wp2_with fail
    refine (HPA.out _ HA.out).mono ?_
    rintro e w1 ⟨X, vx, hX, rfl, hnv, hox, hb1⟩
    have HNV := Lib.hid hnv
    clear hnv
    have HB1 := Lib.hid hb1
    have HB' := Lib.hid (HB.out.below hb1)
    have HX := Lib.hid hX
    have HOX := Lib.hid hox
    clear hX hox hb1
    go_wp2_with fail
    refine (HPB.out _ HB'.out).mono ?_
    rintro e w2 ⟨Y, vy, hY, rfl, hoy, hb2⟩
    have HYR := Lib.hid (hoy.at (by rw [hY]; have := HY0.out.2.1; unfold padD at this; omega))
    have HY := Lib.hid hY
    have HOX2 := Lib.hid (HOX.out.below hb2)
    have HYB := Lib.hid (fun k hk => (World.ownsRow.lt hoy k hk).1)
    have HB2 := Lib.hid (HB1.out.trans (hb2.mono HB1.out.size))
    have HX1 : Hid (Dg X ∧ X.length = n ∧ dval X = dval a) := Lib.hid (by have := HX0.out; unfold padD at this; rw [HX.out]; exact this)
    have HY1 : Hid (Dg Y ∧ Y.length = n ∧ dval Y = dval b) := Lib.hid (by have := HY0.out; unfold padD at this; rw [HY.out]; exact this)
    have hlx : X.length = n := HX1.out.2.1
    have hnil : n ≠ 0 ∨ n = 0 := by omega
    obtain ⟨g, cap, rfl⟩ : ∃ g cap, vx = .slice (some ⟨g, 0, none⟩) n cap := by
      obtain ⟨g, cap, e⟩ := ownD_shape HOX.out HNV.out
      exact ⟨g, cap, by rw [e, hlx]⟩
    have hly : Y.length = n := HY1.out.2.1
    obtain ⟨q, cq, ev, hq⟩ := HYR.out.reads
    rw [hly] at ev hq
    subst ev
    have HQ := Lib.hid hq
    have hg1 : g < w1.heap.size := (World.ownsRow.lt HOX.out g rfl).2
    have hgb : w.heap.size ≤ g := (World.ownsRow.lt HOX.out g rfl).1
    have HQB : Hid (∀ bk off, q = some ⟨bk, off, none⟩ → bk ≠ g) := Lib.hid (fun bk off e1 e2 => by
      have := HYB.out bk (by rw [e1]; rfl)
      omega)
    have HI0 : Hid (OwnD w2 w.heap.size (.slice (some ⟨g, 0, none⟩) n cap) X) := HOX2
    have HV0 : Hid (X.take n = X.take n ∧ Dg X ∧ dval (X.drop n) + dval (Y.drop n) = dval (X.drop n) + 0 * 10 ^ (X.length - n)) := Lib.hid ⟨rfl, HX1.out.1, by rw [List.drop_of_length_le (by omega), List.drop_of_length_le (by omega)]; simp [dval]⟩
    clear hoy hY hb2 hq HX HY HOX HYR HYB HPA HPB HA HB HB' HB1 HX0 HY0 HN
    go_wp2_with fail
    go_loopw [8, 9] (fun s8 s9 wr => ∃ (k c : Nat) (xs : List Nat), s8 = .int .i64 (c : Nat) ∧ s9 = .int .i64 ((k : Int) - 1) ∧ k ≤ n ∧ c ≤ 1 ∧ xs.length = n ∧ Hid (xs.take k = X.take k ∧ Dg xs ∧ dval (xs.drop k) + dval (Y.drop k) = dval (X.drop k) + c * 10 ^ (X.length - k)) ∧ Hid (OwnD wr w.heap.size (.slice (some ⟨g, 0, none⟩) n cap) xs) ∧ Hid (Below w.heap.size w wr) ∧ Hid (∀ i, i < n → ∃ bk off, q = some ⟨bk, off, none⟩ ∧ n ≤ cq ∧ bk < wr.heap.size ∧ wr.cell? ⟨bk, off + i, none⟩ = some (.int .i64 (Y.getD i 0 : Nat)))) (fun _ s9 _ => (intOf s9 + 1).toNat)
    case atStart => exact ⟨n, 0, X, rfl, by simp, Nat.le_refl _, by omega, hlx, Lib.hid ⟨rfl, HV0.out.2⟩, HI0, HB2, HQ⟩
    case round =>
      clear HI0 HQ HV0
      obtain ⟨k, c, xs, rfl, rfl, hk, hc, hxl, HV, HO, HW, HQ⟩ := hrel
      by_cases hk0 : 0 < k
      · obtain ⟨j, rfl⟩ : ∃ j, k = j + 1 := ⟨k - 1, by omega⟩
        have hi9 : (((j + 1 : Nat) : Int) - 1) = (j : Int) := by omega
        rw [hi9]
        obtain ⟨bk, off, rfl, hcq, hbk, cy⟩ := HQ.out j (by omega)
        obtain ⟨hsame, htake⟩ := take_same HV.out.1 (show j < X.length by omega)
        have ho2 : OwnD wr w.heap.size (.slice (some ⟨g, 0, none⟩) xs.length cap) xs := by rw [hxl]; exact HO.out
        have cx := ho2.cellAt j (by omega)
        have hfz : wr.frozen? ⟨g, j, none⟩ = false := World.ownsRow.frozenAt ho2 j
        obtain ⟨x, hx⟩ : ∃ x, xs.getD j 0 = x := ⟨_, rfl⟩
        obtain ⟨y, hy⟩ : ∃ y, Y.getD j 0 = y := ⟨_, rfl⟩
        have hx9 : x < 10 := by rw [← hx]; exact HV.out.2.1.getD j
        have hy9 : y < 10 := by rw [← hy]; exact HY1.out.1.getD j
        rw [hx] at cx
        rw [hy] at cy
        obtain ⟨s, hs⟩ : ∃ s, y + c = s := ⟨_, rfl⟩
        have m1 : (y : Int) + (c : Int) = (s : Int) := by omega
        have m2 : IntKind.i64.wrap (s : Int) = (s : Int) := IntWalk.i64_in _ (by omega)
        have HO2 := Lib.hid ho2
        have j0 : (0 : Int) ≤ (j : Int) := by omega
        have j1 : (j : Int) < (n : Int) := by omega
        have hgw : g < wr.heap.size := (World.ownsRow.lt HO.out g rfl).2
        have hbg : bk ≠ g := HQB.out bk off rfl
        have HBG := Lib.hid hbg
        have hgb2 := HW.out.size
        have hjn : j ≤ n := by omega
        have HCY := Lib.hid HQ.out
        have HXL := Lib.hid hxl
        have HQ3 : Hid (∀ w3 : World, (∀ i, w3.cell? ⟨bk, i, none⟩ = wr.cell? ⟨bk, i, none⟩) → wr.heap.size ≤ w3.heap.size → ∀ i, i < n → ∃ b' o', some (⟨bk, off, none⟩ : Addr) = some ⟨b', o', none⟩ ∧ n ≤ cq ∧ b' < w3.heap.size ∧ w3.cell? ⟨b', o' + i, none⟩ = some (.int .i64 (Y.getD i 0 : Nat))) := Lib.hid (fun w3 hk hs i hi => by
          obtain ⟨b', o', e, h1, h2, h3⟩ := HCY.out i hi
          obtain ⟨rfl, rfl⟩ : bk = b' ∧ off = o' := by cases e; exact ⟨rfl, rfl⟩
          exact ⟨bk, off, rfl, h1, by omega, (hk _).trans h3⟩)
        have HFAR : Hid (∀ (W : World) (u : Value) (i : Nat), (W.setCell ⟨g, j, none⟩ u).cell? ⟨bk, i, none⟩ = W.cell? ⟨bk, i, none⟩) := Lib.hid (fun W u i => by
          have : ¬ (bk = g) := HBG.out
          unfold World.cell? World.setCell
          simp [Array.getElem?_modify, this, Ne.symm this])
        by_cases hlt : s ≤ x
        · obtain ⟨r, hr⟩ : ∃ r, x - s = r := ⟨_, rfl⟩
          have m3 : (x : Int) - (s : Int) = (r : Int) := by omega
          have m4 : IntKind.i64.wrap (r : Int) = (r : Int) := IntWalk.i64_in _ (by omega)
          have m5 : ¬ (r : Int) < 0 := by omega
          have HV2 : Hid ((xs.set j r).take j = X.take j ∧ Dg (xs.set j r) ∧ dval ((xs.set j r).drop j) + dval (Y.drop j) = dval (X.drop j) + 0 * 10 ^ (X.length - j)) := Lib.hid ⟨by
            rw [take_set_ge (Nat.le_refl j)]; exact htake, HV.out.2.1.set j (by omega), sub_digit (by omega) (by omega) (by omega) HV.out.2.2 (by rw [← hsame, hx, hy]; omega)⟩
          have hsl : (xs.set j r).length = n := by rw [List.length_set]; exact hxl
          clear hx hy hs hr hsame htake ho2 HV HO hi9 hk hk0 HQ hxl hlt HCY
          go_wp2
          go_region
          obtain ⟨w3, hw3⟩ : ∃ W, (wr.setCell ⟨g, j, none⟩ (.int .i64 (r : Nat))).drew = W := ⟨_, rfl⟩
          rw [hw3]
          have c3 : w3.cell? ⟨g, j, none⟩ = some (.int .i64 (r : Nat)) := by rw [← hw3]; exact (HO2.out.cell_set j (by rw [HXL.out]; omega) _).1
          have HO3 : Hid (OwnD w3 w.heap.size (.slice (some ⟨g, 0, none⟩) n cap) (xs.set j r)) := Lib.hid (by
            have := (HO2.out.store j r).below ((Below.refl _ _).drew)
            rw [HXL.out] at this; rw [← hw3]; exact this)
          have HW3 : Hid (Below w.heap.size w w3) := Lib.hid (by rw [← hw3]; exact (HW.out.setCell hgb _).drew)
          have HQ4 := Lib.hid (HQ3.out w3 (fun i => by rw [← hw3]; exact HFAR.out wr _ i) (by rw [← hw3]; simp))
          have gw3 : g < w3.heap.size := by rw [← hw3]; simpa using hgw
          clear hw3 cx cy hfz HW HO2 HQ3
          go_wp2
          go_roundw
          case rel => exact ⟨j, 0, xs.set j r, rfl, by simp, hjn, by omega, hsl, HV2, HO3, HW3, HQ4⟩
          case measure => simp [intOf]; try omega
        · obtain ⟨t, ht⟩ : ∃ t : Int, (x : Int) - (s : Int) = t := ⟨_, rfl⟩
          obtain ⟨r, hr⟩ : ∃ r, x + 10 - s = r := ⟨_, rfl⟩
          have m4 : IntKind.i64.wrap t = t := IntWalk.i64_in _ (by omega)
          have m5 : t < 0 := by omega
          have m6 : t + 10 = (r : Int) := by omega
          have m7 : IntKind.i64.wrap (r : Int) = (r : Int) := IntWalk.i64_in _ (by omega)
          have HV2 : Hid ((xs.set j r).take j = X.take j ∧ Dg (xs.set j r) ∧ dval ((xs.set j r).drop j) + dval (Y.drop j) = dval (X.drop j) + 1 * 10 ^ (X.length - j)) := Lib.hid ⟨by
            rw [take_set_ge (Nat.le_refl j)]; exact htake, HV.out.2.1.set j (by omega), sub_digit (by omega) (by omega) (by omega) HV.out.2.2 (by rw [← hsame, hx, hy]; omega)⟩
          have hsl : (xs.set j r).length = n := by rw [List.length_set]; exact hxl
          clear hx hy hs hr hsame htake ho2 HV HO hi9 hk hk0 HQ hxl hlt HCY
          go_wp2
          go_region
          obtain ⟨w3, hw3⟩ : ∃ W, (wr.setCell ⟨g, j, none⟩ (.int .i64 t)).drew = W := ⟨_, rfl⟩
          rw [hw3]
          have hcs := HO2.out.cell_set j (by rw [HXL.out]; omega) (.int .i64 t)
          have c3 : w3.cell? ⟨g, j, none⟩ = some (.int .i64 t) := by rw [← hw3]; exact hcs.1
          have f3 : w3.frozen? ⟨g, j, none⟩ = false := by rw [← hw3]; exact hcs.2
          have HO3 : Hid (OwnD (w3.setCell ⟨g, j, none⟩ (.int .i64 (r : Nat))) w.heap.size (.slice (some ⟨g, 0, none⟩) n cap) (xs.set j r)) := Lib.hid (by
            have := HO2.out.store2 j (.int .i64 t) r
            rw [HXL.out] at this; rw [← hw3]; exact this)
          have HW3 : Hid (Below w.heap.size w (w3.setCell ⟨g, j, none⟩ (.int .i64 (r : Nat)))) := Lib.hid (by rw [← hw3]; exact ((HW.out.setCell hgb _).drew).setCell hgb _)
          have HQ4 := Lib.hid (HQ3.out (w3.setCell ⟨g, j, none⟩ (.int .i64 (r : Nat))) (fun i => by rw [HFAR.out, ← hw3]; exact HFAR.out wr _ i) (by rw [← hw3]; simp))
          have gw3 : g < w3.heap.size := by rw [← hw3]; simpa using hgw
          clear hw3 cx cy hfz HW HO2 HQ3 hcs ht
          go_wp2
          go_roundw
          case rel => exact ⟨j, 1, xs.set j r, rfl, by simp, hjn, by omega, hsl, HV2, HO3, HW3, HQ4⟩
          case measure => simp [intOf]; try omega
      · obtain rfl : k = 0 := by omega
        have hi9 : (((0 : Nat) : Int) - 1) = -1 := by omega
        rw [hi9]
        have HF : Hid (dval xs = dval a - dval b) := Lib.hid (by
          have h := HV.out.2.2
          rw [List.drop_zero, List.drop_zero, List.drop_zero, HX1.out.2.2, HY1.out.2.2, hlx, Nat.sub_zero] at h
          have h2 := HFIN.out
          have h3 := dval_lt HV.out.2.1
          rw [hxl] at h3
          rcases Nat.eq_zero_or_pos c with h0 | h0
          · rw [h0] at h; omega
          · have : 1 * 10 ^ n ≤ c * 10 ^ n := Nat.mul_le_mul_right _ h0
            omega)
        have HXL : Hid (xs.length ≤ max a.length b.length) := Lib.hid (by have := HNN.out; omega)
        clear hi9 hk hk0
        go_wp2
        go_ret
        exact ⟨xs, _, ⟨HV.out.2.1, HF.out, HXL.out⟩, rfl, (fun e => by cases e), HO.out, HW.out⟩
end Go.Proofs.YtedpafdfecofnaaGreatDoor

/-! ## D7 -/
namespace Go.Proofs.YtedpafdfecofnaaGreatDoor
open Go.RowKit Go.Maps Go.Shelf Go.Sort
set_option maxRecDepth 100000 in
set_option maxHeartbeats 4000000 in
/-- atLeast: whether a list of digits is no less than another one. -/
theorem atLeast_dig (va vb : Value) (a b : List Nat) (hla : a.length ≤ 50000) (hlb : b.length ≤ 50000) (w : World) (hda : Dg a) (hdb : Dg b) (ha : DigsAt w va a) (hb : DigsAt w vb b) : Calls Tryz.prog 72 #[va, vb] w (AnsB (decide (dval b ≤ dval a)) w) := by
  obtain ⟨pa, ca, rfl⟩ := ha.shape
  obtain ⟨pb, cb, rfl⟩ := hb.shape
  have HA := Lib.hid ha
  have HB := Lib.hid hb
  obtain ⟨n, hn⟩ : ∃ n, max a.length b.length = n := ⟨_, rfl⟩
  have hna : a.length ≤ n := by omega
  have hnb : b.length ≤ n := by omega
  have hn5 : n ≤ 50000 := by omega
  have HN : Hid (max (a.length : Int) (b.length : Int) = (n : Int)) := Lib.hid (by omega)
  have HPA := Lib.hid (fun w0 h0 => pad_any (.slice pa a.length ca) a n (by omega) (by omega) w0 h0)
  have HPB := Lib.hid (fun w0 h0 => pad_any (.slice pb b.length cb) b n (by omega) (by omega) w0 h0)
  have HX0 : Hid (Dg (padD n a) ∧ (padD n a).length = n ∧ dval (padD n a) = dval a) := Lib.hid ⟨hda.padD n, padD_len (by omega), dval_padD n a⟩
  have HY0 : Hid (Dg (padD n b) ∧ (padD n b).length = n ∧ dval (padD n b) = dval b) := Lib.hid ⟨hdb.padD n, padD_len (by omega), dval_padD n b⟩
  have HF : Hid ((!(decide (dval a < dval b))) = decide (dval b ≤ dval a)) := Lib.hid (by
    by_cases h : dval a < dval b
    · rw [decide_eq_true h, decide_eq_false (by omega)]; rfl
    · rw [decide_eq_false h, decide_eq_true (by omega)]; rfl)
  clear ha hb hda hdb hn
  go_enter Tryz.func72, Tryz.ntmps72
  go_upto_region 1 with fail
  go_cut [5] (fun s wx => s = .int .i64 (n : Int) ∧ wx = w)
  case first =>
    go_wp2_with fail
    go_meet
    exact ⟨by rw [HN.out], rfl⟩
  case rest =>
    obtain ⟨rfl, rfl⟩ := hcut
    obtain ⟨w, hw⟩ : ∃ W, W = wc := ⟨wc, rfl⟩
    subst hw
    go_wp2_with fail
    refine (HPA.out _ HA.out).mono ?_
    rintro e w1 ⟨X, vx, hX, rfl, hox, hb1⟩
    have HB1 := Lib.hid hb1
    have HB' := Lib.hid (HB.out.below hb1)
    have HX1 : Hid (Dg X ∧ X.length = n ∧ dval X = dval a) := Lib.hid (by have := HX0.out; unfold padD at this; rw [hX]; exact this)
    have HXD := Lib.hid (hox.at (by rw [HX1.out.2.1]; omega))
    clear hX hox hb1
    go_wp2_with fail
    refine (HPB.out _ HB'.out).mono ?_
    rintro e w2 ⟨Y, vy, hY, rfl, hoy, hb2⟩
    have HY1 : Hid (Dg Y ∧ Y.length = n ∧ dval Y = dval b) := Lib.hid (by have := HY0.out; unfold padD at this; rw [hY]; exact this)
    have HYD := Lib.hid (hoy.at (by rw [HY1.out.2.1]; omega))
    have HXD2 := Lib.hid (HXD.out.below hb2)
    have HB2 := Lib.hid (HB1.out.trans (hb2.mono HB1.out.size))
    clear hY hoy hb2
    go_wp2_with fail
    refine (less_dig _ _ X Y HX1.out.1 HY1.out.1 (by rw [HX1.out.2.1, HY1.out.2.1]) _ HXD2.out HYD.out).mono ?_
    rintro e w3 ⟨rfl, hb3⟩
    have HB3 := Lib.hid (HB2.out.trans (hb3.mono HB2.out.size))
    clear hb3
    rw [HX1.out.2.2, HY1.out.2.2]
    obtain ⟨q, hq⟩ : ∃ q, decide (dval a < dval b) = q := ⟨_, rfl⟩
    rw [hq] at HF ⊢
    clear hq
    go_wp2
    go_ret
    exact ⟨ret_bool HF.out, HB3.out⟩
end Go.Proofs.YtedpafdfecofnaaGreatDoor
