import Derived.Test.YtopnlcjbklmicaaK92
import Derived.Maps.OwnIn
import Derived.WalkKit
import Derived.WalkSpells
import Derived.WalkLawsBesides
import Derived.Deep.QuietTactic
import Derived.BigQuiet
import Derived.Lib.Hide
import Derived.WalkSmall
import Derived.Maps.OwnSet
import Derived.Maps.RangeWalk
import Derived.Deep.RegionWith
import Derived.Deep.RegionHeld3
import Derived.Deep.DrawnRows
import Derived.Deep.DeepCutAuto
import Derived.OneCell
import Derived.KernelRfl
import Derived.Laws.StructEq
import Derived.StillTailTactics
import Derived.Laws.Externs
import Derived.RangeFuncBox
import Derived.Outline
import Derived.RangeFuncNested
import Derived.RangeFuncBound
import Derived.RangeFuncCalls
import Derived.RangeFuncLeaves
import Derived.Shelf.RegionOpen
import Derived.OwnWalkIn
import Derived.TacticsInMore
import Derived.LoopNIn
import Derived.LoopIn
import Derived.Test.YtopnlcjbklmicaaProg
namespace Go.Proofs.Ytopnlcjbklmicaa
open Go.RowKit Go.Maps Go.Shelf
set_option linter.unusedVariables false
set_option linter.unusedSimpArgs false
theorem zeroBool (w : World) : (zeroValue 4).run Try.prog w = .ok (.bool false) w := by kernel_rfl
theorem plainElem_bool_inv {H : Type} {v : Value} {d : DataW H} {ps : List MemPlace} (h : plainElem (H := H) Try.prog 4 v = some (d, ps)) : ∃ x, v = .bool x ∧ d = .lit (.bool x) := by
  unfold plainElem at h
  rw [undBool] at h
  cases v <;> simp at h
  exact ⟨_, rfl, h.1.symm⟩
/-- The map of the kinds that have come. -/
def SeenB (w : World) (bm k : Nat) (pre : List Int) : Prop :=
  ∃ (D : DataW Unit) (m : Nat), w.ownsMap Try.prog 3 (plainElem (H := Unit) Try.prog 4) bm m D ∧ m ≤ k ∧ ∀ x : Int, D.atKey (.int .i64 x) (.lit (.bool false)) = .lit (.bool (decide (x ∈ pre)))
theorem SeenB.past {w w' : World} {bm k : Nat} {pre : List Int} (h : SeenB w bm k pre) (hw : Below w.heap.size w w') : SeenB w' bm k pre := by
  obtain ⟨D, m, h1, h2⟩ := h
  exact ⟨D, m, h1.kept (row := none) ⟨hw.os, hw.tape, hw.output, hw.size, fun i hi _ => hw.block i hi⟩ (by simp), h2⟩
theorem SeenB.keptG {w w' : World} {bm k : Nat} {pre : List Int} {row : Option Nat} (h : SeenB w bm k pre) (hg : w.grownBy w' row) (hne : some bm ≠ row) : SeenB w' bm k pre := by
  obtain ⟨D, m, h1, h2⟩ := h
  exact ⟨D, m, h1.kept hg hne, h2⟩
theorem SeenB.set8 {gq j : Nat} {W : World} {bm k : Nat} {pre : List Int} (h : SeenB W bm k pre) (hne : bm ≠ gq) (x0 x1 x2 x3 x4 x5 x6 x7 : Int) : SeenB ((((((((W.setCell ⟨gq, j, none⟩ (.int .i64 x0)).setCell ⟨gq, j + 1, none⟩ (.int .i64 x1)).setCell ⟨gq, j + 2, none⟩ (.int .i64 x2)).setCell ⟨gq, j + 3, none⟩ (.int .i64 x3)).setCell ⟨gq, j + 4, none⟩ (.int .i64 x4)).setCell ⟨gq, j + 5, none⟩ (.int .i64 x5)).setCell ⟨gq, j + 6, none⟩ (.int .i64 x6)).setCell ⟨gq, j + 7, none⟩ (.int .i64 x7)) bm k pre := by
  have hs : ∀ {W : World} {i : Nat} {u : Value}, SeenB W bm k pre → SeenB (W.setCell ⟨gq, i, none⟩ u) bm k pre := fun h => h.keptG (grownBy_setCell _ _ _) (by intro e; exact hne (Option.some.inj e))
  exact hs (hs (hs (hs (hs (hs (hs (hs h)))))))
theorem SeenB.look {w : World} {bm k : Nat} {pre : List Int} (h : SeenB w bm k pre) {x : Int} (hwf : (Lit.int .i64 x).wf = true) :
    (Instr.lookup 168 (.map (some bm)) (.int .i64 x) false).run Try.prog w = .ok (.bool (decide (x ∈ pre))) w := by
  obtain ⟨D, m, h1, _, h3⟩ := h
  obtain ⟨v, ps, hrun, hv⟩ := h1.lookup (Maps.int_keyed undInt) undMap (zeroBool w) (zd := .lit (.bool false)) (zp := []) (plainElem_bool undBool false) (Maps.keyOf_int_mk undInt hwf)
  rw [h3] at hv
  obtain ⟨y, rfl, hy⟩ := plainElem_bool_inv hv
  simp only [DataW.lit.injEq, Lit.bool.injEq] at hy
  rw [hrun, hy]
theorem FR_drop {bs : BatL} {k : Nat} (hk : k < bs.length) {kd n : Int} (hp : bs[k]?.getD (0, 0) = (kd, n)) : bs.drop k = (kd, n) :: bs.drop (k + 1) ∧ bs.take (k + 1) = bs.take k ++ [(kd, n)] := by
  have h1 : bs[k] = (kd, n) := by simpa [hk] using hp
  refine ⟨?_, ?_⟩
  · rw [List.drop_eq_getElem_cons hk, h1]
  · rw [List.take_succ_eq_append_getElem hk, h1]
/-- How far the batches have been put in. -/
structure FRel (l : List St) (bs : BatL) (k : Nat) (seen : List Int) (li : List St) (s : Int) : Prop where
  eq : fillF bs [] l 0 = fillF (bs.drop k) seen li s
  inv : BInv li (bs.take k)
  seen : ∀ x, x ∈ seen ↔ x ∈ (bs.take k).map Prod.fst
  len : li.length = l.length
  low : 0 ≤ s
  high : s ≤ k * 1000000000000
theorem FRel.next {l : List St} {bs : BatL} {k : Nat} {seen : List Int} {li : List St} {s : Int} (h : FRel l bs k seen li s) (hk : k < bs.length) {kd n : Int} (hp : bs[k]?.getD (0, 0) = (kd, n)) :
    fillF bs [] l 0 = if inB kd 0 ((l.length : Int) - 1) = false then (7, [], 0) else if kd ∈ seen then (6, [], 0) else if inB n 1 1000000000 = false then (2, [], 0)
      else if (chF (burnF n (li[kd.toNat]?.getD St.zero))).2 ≠ 0 then ((chF (burnF n (li[kd.toNat]?.getD St.zero))).2, [], 0)
      else fillF (bs.drop (k + 1)) (kd :: seen) (li.set kd.toNat (chF (burnF n (li[kd.toNat]?.getD St.zero))).1) (s + n * (chF (burnF n (li[kd.toNat]?.getD St.zero))).1.space) := by
  rw [h.eq, (FR_drop hk hp).1, fillF, h.len]
theorem FRel.step {l : List St} {bs : BatL} {k : Nat} {seen : List Int} {li : List St} {s : Int} (h : FRel l bs k seen li s) (hk : k < bs.length) {kd n : Int} (hp : bs[k]?.getD (0, 0) = (kd, n))
    (h1 : inB kd 0 ((l.length : Int) - 1) = true) (h2 : kd ∉ seen) (h3 : inB n 1 1000000000 = true) {s' : St} (h4 : chF (burnF n (li[kd.toNat]?.getD St.zero)) = (s', 0)) :
    FRel l bs (k + 1) (kd :: seen) (li.set kd.toNat s') (s + n * s'.space) ∧ 0 ≤ n * s'.space ∧ n * s'.space ≤ 1000000000000 := by
  have hn := inB_parts h3
  have hkd := kind_nat h1
  have hb := h.inv.fill (p := (kd, n)) (by rw [h.len]; exact h1) (fun h6 => h2 ((h.seen _).2 h6)) h3 h4
  have hr := h.inv.room kd.toNat (by rw [h.len]; exact hkd.1)
  have hg := (burn_good hn.1 (h.inv.good _ (by rw [h.len]; exact hkd.1)) h4).2
  have hsp : s'.space = (li[kd.toNat]?.getD St.zero).space := by rw [hg]
  have m0 : 0 ≤ n * s'.space := Int.mul_nonneg (by omega) (by omega)
  have m1 : n * s'.space ≤ 1000000000 * 1000 := Int.mul_le_mul (by omega) (by omega) (by omega) (by omega)
  have h0 := h.next hk hp
  rw [if_neg (by simp [h1]), if_neg h2, if_neg (by simp [h3]), h4, if_neg (by simp)] at h0
  have htk := (FR_drop hk hp).2
  have hlow := h.low
  have hhigh := h.high
  refine ⟨⟨h0, by rw [htk]; exact hb, fun x => ?_, by rw [List.length_set]; exact h.len, by omega, by push_cast; omega⟩, m0, by omega⟩
  rw [htk]
  simp [h.seen x]
  exact Or.comm
def filledR (room : Int) (F : Int × List St × Int) : Int × List St := if F.1 ≠ 0 then (F.1, []) else if F.2.2 > room then (8, []) else (0, F.2.1)
/-- What filled hands back: the error, or new stores. -/
def FilledTo (w : World) (r : Int × List St) (e : Ending) (w' : World) : Prop :=
  ∃ sv, e = .returned (.tuple #[sv, .int .i64 r.1]) ∧ w'.ownsRow w.heap.size 133 8 sv r.2.length (flatS r.2) ∧ Below w.heap.size w w'
theorem FilledTo.err {w w' : World} {r : Int × List St} {er : Int} (h : r = (er, [])) (hb : Below w.heap.size w w') : FilledTo w r (.returned (.tuple #[.slice none 0 0, .int .i64 er])) w' := by
  subst h
  exact ⟨_, rfl, World.ownsRow_nil _ _ _ _, hb⟩
set_option maxRecDepth 100000 in
set_option maxHeartbeats 4000000 in
theorem filled_any (bb base : Nat) (l : List St) (room : Int) (iv : Value) (b off capb : Nat) (bs : BatL) (w : World) (hb : BookAt w bb base l room iv) (hq : PairsC w b off bs) (hbl : b < w.heap.size) (hl : l.length ≤ 1000000) (hl0 : 0 < l.length) (hbs : bs.length ≤ 20) (hinv : BInv l []) :
    Calls Try.prog 87 #[.pointer (some ⟨bb, 0, none⟩), .slice (some ⟨b, off, none⟩) bs.length capb] w (FilledTo w (filledR room (fillF bs [] l 0))) := by
  obtain ⟨sv, h1, h2⟩ := id hb
  obtain ⟨gq, cap, rfl⟩ : ∃ gq cap, sv = .slice (some ⟨gq, 0, none⟩) l.length cap := by
    rcases h2.2 with ⟨_, h⟩ | ⟨gq, cap, cur, rfl, _⟩
    · omega
    · exact ⟨gq, cap, rfl⟩
  have c0 := h1.cell (i := 0) (v := .slice (some ⟨gq, 0, none⟩) l.length cap) rfl
  have HC := Lib.hid (cloneS_any gq cap base l w h2 hl)
  have HB := Lib.hid hb
  have HBB := Lib.hid h1
  have HQ := Lib.hid hq
  have HI := Lib.hid hinv
  obtain ⟨F, hF⟩ : ∃ F, fillF bs [] l 0 = F := ⟨_, rfl⟩
  have HFE := Lib.hid hF
  have hmm := @run_makeMap Try.prog
  rw [hF]
  clear h1 h2 hb hq hinv hF
  go_enter Try.func87, Try.ntmps87
  go_wp2_with fail
  refine HC.out.mono ?_
  rintro e w1 ⟨nv, rfl, hown1, hb1⟩
  obtain ⟨gn, capn, rfl⟩ : ∃ gn capn, nv = .slice (some ⟨gn, 0, none⟩) l.length capn := by
    rcases hown1.2 with ⟨_, h⟩ | ⟨gn, capn, cur, rfl, _⟩
    · omega
    · exact ⟨gn, capn, rfl⟩
  obtain ⟨bm, hbm⟩ : ∃ bm, w1.heap.size = bm := ⟨_, rfl⟩
  have hm0 := World.ownsMap_made w1 Try.prog 3 (plainElem (H := Unit) Try.prog 4)
  rw [hbm] at hm0
  have HS0 : Hid (SeenB (w1.alloc (.map #[] 0)) bm 0 []) := Lib.hid ⟨_, 0, hm0, Nat.le_refl _, fun x => by simp [DataW.atKey]⟩
  have HO0 := Lib.hid (World.ownsRow.kept (row := none) hown1 (World.grownBy_alloc w1 (.map #[] 0) none) (.inr (by simp [Value.ownBlock])))
  have HW0 := Lib.hid (hb1.alloc hb1.size (.map #[] 0))
  have hgn : gn < bm := by
    have := own_block_ty hown1
    omega
  have hwbm : w.heap.size ≤ bm := by have := hb1.size; omega
  obtain ⟨w0, hw0⟩ : ∃ w0, w1.alloc (.map #[] 0) = w0 := ⟨_, rfl⟩
  rw [hw0] at HS0 HO0 HW0
  clear hm0 hown1 hb1 c0 HC
  go_wp2
  clear hw0 hbm hmm
  go_loopw [8, 21] (fun sp i wr => ∃ (k : Nat) (seen : List Int) (li : List St) (s : Int), k ≤ bs.length ∧ sp = .int .i64 s ∧ i = .int .i64 k ∧ Hid (FRel l bs k seen li s) ∧ Hid (SeenB wr bm k seen) ∧ Hid (wr.ownsRow w.heap.size 133 8 (.slice (some ⟨gn, 0, none⟩) l.length capn) l.length (flatS li)) ∧ Hid (Below w.heap.size w wr)) (fun _ i _ => bs.length - (intOf i).toNat)
  case atStart => exact ⟨0, [], l, 0, Nat.zero_le _, rfl, rfl, Lib.hid ⟨by simp, by simpa using HI.out, by simp, rfl, by omega, by omega⟩, HS0, HO0, HW0⟩
  case round =>
    obtain ⟨k, seen, li, s, hk, rfl, rfl, HR, HS, HO, HW⟩ := hrel
    by_cases hlt : k < bs.length
    · obtain ⟨c1, c2⟩ := HQ.out k hlt
      have c1 := (HW.out.cell (p := ⟨b, _, none⟩) hbl).trans c1
      have c2 := (HW.out.cell (p := ⟨b, _, none⟩) hbl).trans c2
      obtain ⟨kd, n, hel⟩ : ∃ x y, bs[k]?.getD (0, 0) = (x, y) := ⟨_, _, rfl⟩
      rw [hel] at c1 c2
      have HEL := Lib.hid hel
      dsimp only at c1 c2
      obtain ⟨tb, htb⟩ : ∃ tb, wr.heap.size = tb := ⟨_, rfl⟩
      have hb2 : Below wr.heap.size wr (wr.alloc (.cells #[.int .i64 kd, .int .i64 n] 111)) := (Below.refl _ _).alloc (Nat.le_refl _) _
      have HW2 := Lib.hid (HW.out.trans (hb2.mono HW.out.size))
      have HT2 := Lib.hid (Blk.newI wr tb #[.int .i64 kd, .int .i64 n] 111 htb)
      have HS2 := Lib.hid (HS.out.past hb2)
      have HO2 := Lib.hid (World.ownsRow.kept (row := none) HO.out (World.grownBy_alloc wr (.cells #[.int .i64 kd, .int .i64 n] 111) none) (.inr (by simp [Value.ownBlock])))
      have hgt : gn < tb := by have := own_block_ty HO.out; omega
      have hbt : bm < tb := by
        obtain ⟨D, m, h1, _⟩ := HS.out
        have := h1.lt
        omega
      obtain ⟨wA, hwA⟩ : ∃ wA, wr.alloc (.cells #[.int .i64 kd, .int .i64 n] 111) = wA := ⟨_, rfl⟩
      have hszA : tb < wA.heap.size := by rw [← hwA]; simp; omega
      rw [hwA] at HW2 HT2 HS2 HO2
      have e0 := HT2.out.cell (i := 0) (v := .int .i64 kd) rfl
      have e1 := HT2.out.cell (i := 1) (v := .int .i64 n) rfl
      have HH := Lib.hid (has_any bb base l room iv kd wA (HB.out.past HW2.out) hl)
      obtain ⟨q1, hq1⟩ : ∃ q, inB kd 0 ((l.length : Int) - 1) = q := ⟨_, rfl⟩
      have HN := Lib.hid (HR.out.next hlt hel)
      rw [HFE.out] at HN
      rw [hq1] at HH HN
      have HQ1 := Lib.hid hq1
      clear hel hb2 hq1 HS HO HW
      go_wp2_with fail
      try rw [hwA]
      clear hwA c1 c2
      refine HH.out.mono ?_
      rintro e w2 ⟨rfl, hb2⟩
      have HW3 := Lib.hid (HW2.out.trans (hb2.mono HW2.out.size))
      have HT3 := Lib.hid (HT2.out.past hb2)
      have HS3 := Lib.hid (HS2.out.past hb2)
      have HO3 := Lib.hid (World.ownsRow.kept (row := none) HO2.out ⟨hb2.os, hb2.tape, hb2.output, hb2.size, fun j hj _ => hb2.block j hj⟩ (.inr (by simp [Value.ownBlock])))
      have hsz2 := hb2.size
      have hsz3 : tb < w2.heap.size := by omega
      clear hb2 hsz2 hszA e0 e1 HT2 HS2 HO2 HW2 HH
      have e0 := HT3.out.cell (i := 0) (v := .int .i64 kd) rfl
      have e1 := HT3.out.cell (i := 1) (v := .int .i64 n) rfl
      cases q1
      · have HV : Hid (filledR room F = (7, [])) := Lib.hid (by rw [HN.out]; rfl)
        clear HN
        go_wp2
        exact bodyPost_ret (v := .tuple #[.slice none 0 0, .int .i64 7]) (by simp [results, Try.results87, go_sem]) rfl (FilledTo.err HV.out HW3.out)
      have hkr := inB_parts HQ1.out
      have hwf : (Lit.int .i64 kd).wf = true := wf_small (by omega) (by omega)
      have hlk := HS3.out.look hwf
      obtain ⟨q2, hq2⟩ : ∃ q, decide (kd ∈ seen) = q := ⟨_, rfl⟩
      rw [hq2] at hlk
      have HQ2 := Lib.hid hq2
      have hnn : [n].all (fun x => inB x 1 1000000000) = inB n 1 1000000000 := by simp
      have hA := areWithin_any 1 1000000000 _ [n] _ (ints_one1 w2 n)
      rw [hnn] at hA
      obtain ⟨q3, hq3⟩ : ∃ q, inB n 1 1000000000 = q := ⟨_, rfl⟩
      rw [hq3] at hA
      have HA := Lib.hid hA
      have HQ3 := Lib.hid hq3
      have HKR := Lib.hid hkr
      clear hq2 hnn hA hq3 hkr
      cases q2
      rotate_left 1
      · have HV : Hid (filledR room F = (6, [])) := Lib.hid (by rw [HN.out, if_neg (by simp), if_pos (of_decide_eq_true HQ2.out)]; rfl)
        clear HN
        go_wp2
        exact bodyPost_ret (v := .tuple #[.slice none 0 0, .int .i64 6]) (by simp [results, Try.results87, go_sem]) rfl (FilledTo.err HV.out HW3.out)
      have HB4 := Lib.hid ((Below.refl w2.heap.size w2).alloc (Nat.le_refl _) (.cells #[.int .i64 n] 3))
      go_wp2_with fail
      refine HA.out.mono ?_
      rintro e w3 ⟨rfl, rfl⟩
      have HW4 := Lib.hid (HW3.out.trans (HB4.out.mono HW3.out.size))
      have HT4 := Lib.hid (HT3.out.past HB4.out)
      have HS4 := Lib.hid (HS3.out.past HB4.out)
      have HO4 := Lib.hid (World.ownsRow.kept (row := none) HO3.out (World.grownBy_alloc w2 (.cells #[.int .i64 n] 3) none) (.inr (by simp [Value.ownBlock])))
      obtain ⟨w3, hw3⟩ : ∃ w3, w2.alloc (.cells #[.int .i64 n] 3) = w3 := ⟨_, rfl⟩
      have hsz4 : tb < w3.heap.size := by rw [← hw3]; simp; omega
      rw [hw3] at HB4 HW4 HT4 HS4 HO4 ⊢
      clear hw3 e0 e1 hlk HT3 HS3 HO3 HW3 HB4 hsz3 HA
      have e0 := HT4.out.cell (i := 0) (v := .int .i64 kd) rfl
      have e1 := HT4.out.cell (i := 1) (v := .int .i64 n) rfl
      cases q3
      · have HV : Hid (filledR room F = (2, [])) := Lib.hid (by rw [HN.out, if_neg (by simp), if_neg (of_decide_eq_false HQ2.out), if_pos HQ3.out]; rfl)
        clear HN
        go_wp2
        exact bodyPost_ret (v := .tuple #[.slice none 0 0, .int .i64 2]) (by simp [results, Try.results87, go_sem]) rfl (FilledTo.err HV.out HW4.out)
      have hk20 : k ≤ 20 := by omega
      obtain ⟨D, m, hown, hm2, hat⟩ := HS4.out
      have hmx : m < maxLen := by unfold maxLen; omega
      have HMO := Lib.hid hown
      have HAT := Lib.hid hat
      clear hown hat HS4
      go_wp2_with (first | (at_mapUpdate; refine stopHere ?_))
      intro _
      refine wpList_mapUpdate_own _ rfl _ _ _ 168 rfl 3 4 (Maps.int_keyed undInt) undMap _ bm m _ rfl HMO.out hmx _ _ _ rfl rfl (Maps.keyOf_int_mk undInt hwf) _ [] (plainElem_bool undBool true) ?_
      intro w4 hown4 hgrow4
      have HS5 : Hid (SeenB w4 bm (k + 1) (kd :: seen)) := Lib.hid ⟨_, m + 1, hown4, by omega, fun x => by
        by_cases e : x = kd
        · subst e
          rw [Maps.atKey_put_same HMO.out.isMap (by simp [WideAt.IsKeyLit])]
          simp
        · rw [Maps.atKey_put_other (by intro h; cases h; exact e rfl), HAT.out]
          simp [e]⟩
      have HT5 := Lib.hid (HT4.out.kept hgrow4 (by intro e; have := Option.some.inj e; omega))
      have HO5 := Lib.hid (World.ownsRow.kept HO4.out hgrow4 (.inr (by simp [Value.ownBlock]; omega)))
      have HW5 := Lib.hid (HW4.out.grown hgrow4 HW4.out.size (by intro j hj; cases hj; omega))
      have hsz5 : tb < w4.heap.size := HT5.out.lt
      clear hown4 hgrow4 HMO HAT HT4 HO4 HW4 e0 e1 hwf hm2 hmx hsz4
      obtain ⟨kk, rfl⟩ : ∃ kk : Nat, kd = kk := ⟨kd.toNat, by have := HKR.out; omega⟩
      have hk0 : (0 : Int) ≤ (kk : Int) := by omega
      have hk1 : (kk : Int) < (l.length : Int) := by have := HKR.out; omega
      have hkl : kk < l.length := by omega
      have HNN := Lib.hid (inB_parts HQ3.out)
      obtain ⟨s0, hs0⟩ : ∃ s0, li[(kk : Int).toNat]?.getD St.zero = s0 := ⟨_, rfl⟩
      have hsk : li[kk]?.getD St.zero = s0 := by rw [← hs0]; simp
      have hOk : s0.Ok := by rw [← hsk]; exact (HR.out.inv.good kk (by rw [HR.out.len]; exact hkl)).1
      have HN2 := Lib.hid (HN.out.trans ((if_neg (by simp)).trans ((if_neg (of_decide_eq_false HQ2.out)).trans (if_neg (by rw [HQ3.out]; simp)))))
      have HST := Lib.hid fun s' h4 => HR.out.step hlt HEL.out HQ1.out (of_decide_eq_false HQ2.out) HQ3.out (s' := s') h4
      rw [hs0] at HN2 HST
      have hg : ∀ i, i < 8 → w4.cell? ⟨gn, kk * 8 + i, none⟩ = s0.vals[i]? := fun i hi => by
        rw [HO5.out.cellAt (kk * 8 + i) (by have := HR.out.len; omega), flatS_get li kk i (by have := HR.out.len; omega) hi, hsk]
      have HCC := Lib.hid (changed_any 103 #[.pointer (some ⟨tb, 0, none⟩)] s0 (burnF n s0) w4 (enters_of Try.func103 (by kernel_rfl) rfl)
        (fun W hW hB => fill1_any s0 n kk hOk (by have := HNN.out; omega) w4.heap.size tb W hB (HT5.out.past hW)))
      obtain ⟨a0, a1, a2, a3, a4, a5, a6, a7⟩ := s0
      have b0 : w4.cell? ⟨gn, kk * 8, none⟩ = some (.int .i64 a0) := hg 0 (by omega)
      have b1 : w4.cell? ⟨gn, kk * 8 + 1, none⟩ = some (.int .i64 a1) := hg 1 (by omega)
      have b2 : w4.cell? ⟨gn, kk * 8 + 2, none⟩ = some (.int .i64 a2) := hg 2 (by omega)
      have b3 : w4.cell? ⟨gn, kk * 8 + 3, none⟩ = some (.int .i64 a3) := hg 3 (by omega)
      have b4 : w4.cell? ⟨gn, kk * 8 + 4, none⟩ = some (.int .i64 a4) := hg 4 (by omega)
      have b5 : w4.cell? ⟨gn, kk * 8 + 5, none⟩ = some (.int .i64 a5) := hg 5 (by omega)
      have b6 : w4.cell? ⟨gn, kk * 8 + 6, none⟩ = some (.int .i64 a6) := hg 6 (by omega)
      have b7 : w4.cell? ⟨gn, kk * 8 + 7, none⟩ = some (.int .i64 a7) := hg 7 (by omega)
      have e0 := HT5.out.cell (i := 0) (v := .int .i64 kk) rfl
      dsimp only [St.vals] at HCC
      obtain ⟨s', er, hch⟩ : ∃ s' er, chF (burnF n ⟨a0, a1, a2, a3, a4, a5, a6, a7⟩) = (s', er) := ⟨_, _, rfl⟩
      rw [hch] at HCC HN2 HST
      obtain ⟨x0, x1, x2, x3, x4, x5, x6, x7⟩ := s'
      dsimp only at HCC HN2
      clear hg hs0 hsk hOk hch
      go_wp2_with fail
      refine HCC.out.mono ?_
      rintro x w5 ⟨rfl, hb5⟩
      have HW6 := Lib.hid (HW5.out.trans (hb5.mono HW5.out.size))
      by_cases he : er = 0
      · subst he
        obtain ⟨xb, hxb⟩ : ∃ xb, w5.heap.size = xb := ⟨_, rfl⟩
        have hp := hb5.alloc hb5.size (.cells #[.int .i64 x0, .int .i64 x1, .int .i64 x2, .int .i64 x3, .int .i64 x4, .int .i64 x5, .int .i64 x6, .int .i64 x7] 133)
        have HT6 := Lib.hid (HT5.out.past hp)
        have HS6 := Lib.hid (HS5.out.past hp)
        have H2 := World.ownsRow.kept (row := none) HO5.out ⟨hp.os, hp.tape, hp.output, hp.size, fun j hj _ => hp.block j hj⟩ (.inr (by simp [Value.ownBlock]))
        have HX6 := Blk.newI w5 xb #[.int .i64 x0, .int .i64 x1, .int .i64 x2, .int .i64 x3, .int .i64 x4, .int .i64 x5, .int .i64 x6, .int .i64 x7] 133 hxb
        have HW7 := Lib.hid (HW5.out.trans (hp.mono HW5.out.size))
        have hxt : tb < xb := by have := hb5.size; omega
        obtain ⟨w6, hw6⟩ : ∃ w6, w5.alloc (.cells #[.int .i64 x0, .int .i64 x1, .int .i64 x2, .int .i64 x3, .int .i64 x4, .int .i64 x5, .int .i64 x6, .int .i64 x7] 133) = w6 := ⟨_, rfl⟩
        rw [hw6] at HT6 HS6 H2 HX6 HW7
        have hrow := stored8 (j := kk * 8) H2 ⟨x0, x1, x2, x3, x4, x5, x6, x7⟩
        have hlen := HR.out.len
        rw [flatS_set li kk _ (by omega)] at hrow
        have HROW := Lib.hid hrow
        have HT7 := Lib.hid (blk_far8 (j := kk * 8) HT6.out (show tb ≠ gn by omega) x0 x1 x2 x3 x4 x5 x6 x7)
        have HX7 := Lib.hid (blk_far8 (j := kk * 8) HX6 (show xb ≠ gn by omega) x0 x1 x2 x3 x4 x5 x6 x7)
        have HW8 := Lib.hid ((but_set8 (gq := gn) (j := kk * 8) (But.of_below (x := gn) (y := gn) HW7.out) x0 x1 x2 x3 x4 x5 x6 x7).toBelow (Nat.le_refl _) (own_block_ty H2).1 (own_block_ty H2).1)
        have HS7 := Lib.hid (HS6.out.set8 (gq := gn) (j := kk * 8) (by omega) x0 x1 x2 x3 x4 x5 x6 x7)
        obtain ⟨hfr, m0, m1⟩ := HST.out _ rfl
        dsimp only at m0 m1 hfr
        obtain ⟨M, hM⟩ : ∃ M, n * x7 = M := ⟨_, rfl⟩
        rw [hM] at m0 m1 hfr
        have hlow := HR.out.low
        have hhigh := HR.out.high
        have wm : IntKind.i64.wrap (n * x7) = M := by rw [hM]; exact wrap_id (by omega) (by omega)
        have ws : IntKind.i64.wrap (s + M) = s + M := wrap_id (by omega) (by omega)
        have HFR := Lib.hid hfr
        have HM := Lib.hid hM
        clear b0 b1 b2 b3 b4 b5 b6 b7 e0 hfr hM hlow hhigh m0 m1 hrow hlen hp hb5 HCC HN2 HST HT5 HS5 HO5
        have b0 := HX6.cell (i := 0) (v := .int .i64 x0) rfl
        have b1 := HX6.cell (i := 1) (v := .int .i64 x1) rfl
        have b2 := HX6.cell (i := 2) (v := .int .i64 x2) rfl
        have b3 := HX6.cell (i := 3) (v := .int .i64 x3) rfl
        have b4 := HX6.cell (i := 4) (v := .int .i64 x4) rfl
        have b5 := HX6.cell (i := 5) (v := .int .i64 x5) rfl
        have b6 := HX6.cell (i := 6) (v := .int .i64 x6) rfl
        have b7 := HX6.cell (i := 7) (v := .int .i64 x7) rfl
        have e0 := HT6.out.cell (i := 0) (v := .int .i64 kk) rfl
        have hfl : (flatS li).length = l.length * 8 := by rw [flatS_len, HR.out.len]
        obtain ⟨y0, g0⟩ : ∃ y, w6.cell? ⟨gn, kk * 8, none⟩ = some y := ⟨_, (H2.cellAt (kk * 8 + 0) (by omega)).trans (List.getElem?_eq_getElem (by omega))⟩
        have f0 : w6.frozen? ⟨gn, kk * 8, none⟩ = false := H2.frozenAt (kk * 8 + 0)
        obtain ⟨y1, g1⟩ : ∃ y, w6.cell? ⟨gn, kk * 8 + 1, none⟩ = some y := ⟨_, (H2.cellAt (kk * 8 + 1) (by omega)).trans (List.getElem?_eq_getElem (by omega))⟩
        have f1 : w6.frozen? ⟨gn, kk * 8 + 1, none⟩ = false := H2.frozenAt (kk * 8 + 1)
        obtain ⟨y2, g2⟩ : ∃ y, w6.cell? ⟨gn, kk * 8 + 2, none⟩ = some y := ⟨_, (H2.cellAt (kk * 8 + 2) (by omega)).trans (List.getElem?_eq_getElem (by omega))⟩
        have f2 : w6.frozen? ⟨gn, kk * 8 + 2, none⟩ = false := H2.frozenAt (kk * 8 + 2)
        obtain ⟨y3, g3⟩ : ∃ y, w6.cell? ⟨gn, kk * 8 + 3, none⟩ = some y := ⟨_, (H2.cellAt (kk * 8 + 3) (by omega)).trans (List.getElem?_eq_getElem (by omega))⟩
        have f3 : w6.frozen? ⟨gn, kk * 8 + 3, none⟩ = false := H2.frozenAt (kk * 8 + 3)
        obtain ⟨y4, g4⟩ : ∃ y, w6.cell? ⟨gn, kk * 8 + 4, none⟩ = some y := ⟨_, (H2.cellAt (kk * 8 + 4) (by omega)).trans (List.getElem?_eq_getElem (by omega))⟩
        have f4 : w6.frozen? ⟨gn, kk * 8 + 4, none⟩ = false := H2.frozenAt (kk * 8 + 4)
        obtain ⟨y5, g5⟩ : ∃ y, w6.cell? ⟨gn, kk * 8 + 5, none⟩ = some y := ⟨_, (H2.cellAt (kk * 8 + 5) (by omega)).trans (List.getElem?_eq_getElem (by omega))⟩
        have f5 : w6.frozen? ⟨gn, kk * 8 + 5, none⟩ = false := H2.frozenAt (kk * 8 + 5)
        obtain ⟨y6, g6⟩ : ∃ y, w6.cell? ⟨gn, kk * 8 + 6, none⟩ = some y := ⟨_, (H2.cellAt (kk * 8 + 6) (by omega)).trans (List.getElem?_eq_getElem (by omega))⟩
        have f6 : w6.frozen? ⟨gn, kk * 8 + 6, none⟩ = false := H2.frozenAt (kk * 8 + 6)
        obtain ⟨y7, g7⟩ : ∃ y, w6.cell? ⟨gn, kk * 8 + 7, none⟩ = some y := ⟨_, (H2.cellAt (kk * 8 + 7) (by omega)).trans (List.getElem?_eq_getElem (by omega))⟩
        have f7 : w6.frozen? ⟨gn, kk * 8 + 7, none⟩ = false := H2.frozenAt (kk * 8 + 7)
        clear H2 HX6 hfl
        go_upto_region 18 with fail
        try rw [hw6]
        clear hw6 b0 b1 b2 b3 b4 b5 b6 b7 e0 f0 f1 f2 f3 f4 f5 f6 f7 g0 g1 g2 g3 g4 g5 g6 g7
        obtain ⟨w8, hw8⟩ : ∃ w8, ((((((((w6.setCell ⟨gn, kk * 8, none⟩ (.int .i64 x0)).setCell ⟨gn, kk * 8 + 1, none⟩ (.int .i64 x1)).setCell ⟨gn, kk * 8 + 2, none⟩ (.int .i64 x2)).setCell ⟨gn, kk * 8 + 3, none⟩ (.int .i64 x3)).setCell ⟨gn, kk * 8 + 4, none⟩ (.int .i64 x4)).setCell ⟨gn, kk * 8 + 5, none⟩ (.int .i64 x5)).setCell ⟨gn, kk * 8 + 6, none⟩ (.int .i64 x6)).setCell ⟨gn, kk * 8 + 7, none⟩ (.int .i64 x7)) = w8 := ⟨_, rfl⟩
        rw [hw8] at HROW HT7 HX7 HW8 HS7 ⊢
        clear hw8
        have e1 := HT7.out.cell (i := 1) (v := .int .i64 n) rfl
        have e7 := HX7.out.cell (i := 7) (v := .int .i64 x7) rfl
        go_wp2
        go_roundw
        case rel => exact ⟨k + 1, (kk : Int) :: seen, li.set kk ⟨x0, x1, x2, x3, x4, x5, x6, x7⟩, s + M, by omega, rfl, by go_num, Lib.hid (by simpa using HFR.out), HS7, HROW, HW8⟩
        case measure => simp [intOf]; omega
      · have hne : (er != 0) = true := by simpa using he
        have HV : Hid (filledR room F = (er, [])) := Lib.hid (by rw [HN2.out, if_pos he]; unfold filledR; rw [if_pos he])
        have HW7 := Lib.hid (HW6.out.alloc HW6.out.size (.cells #[.int .i64 x0, .int .i64 x1, .int .i64 x2, .int .i64 x3, .int .i64 x4, .int .i64 x5, .int .i64 x6, .int .i64 x7] 133))
        clear HCC HN HN2 HST hb5 he
        go_wp2
        exact bodyPost_ret (v := .tuple #[.slice none 0 0, .int .i64 er]) (by simp [results, Try.results87, go_sem]) rfl (FilledTo.err HV.out HW7.out)
    · have hke : k = bs.length := by omega
      have hF2 : F = (0, li, s) := by
        rw [← HFE.out, HR.out.eq, hke, List.drop_length]
        rfl
      have HLE := Lib.hid HR.out.len
      have c1 := (HBB.out.below HW.out HBB.out.lt).cell (i := 1) (v := .int .i64 room) rfl
      obtain ⟨q, hq⟩ : ∃ q, decide (room < s) = q := ⟨_, rfl⟩
      have HV : Hid (filledR room F = if q = true then (8, []) else (0, li)) := Lib.hid (by
        rw [hF2, ← hq]
        simp [filledR])
      clear hF2 hke HR HFE
      cases q
      · have HV2 := Lib.hid (HV.out.trans (if_neg (by simp)))
        go_wp2
        refine bodyPost_ret (v := .tuple #[.slice (some ⟨gn, 0, none⟩) l.length capn, .int .i64 0]) (by simp [results, Try.results87, go_sem]) rfl ⟨.slice (some ⟨gn, 0, none⟩) l.length capn, ?_, ?_, HW.out⟩
        · rw [HV2.out]
        · rw [HV2.out]
          have := HO.out
          rw [← HLE.out] at this
          rw [← HLE.out]
          exact this
      · have HV2 := Lib.hid (HV.out.trans (if_pos rfl))
        go_wp2
        exact bodyPost_ret (v := .tuple #[.slice none 0 0, .int .i64 8]) (by simp [results, Try.results87, go_sem]) rfl (FilledTo.err HV2.out HW.out)
end Go.Proofs.Ytopnlcjbklmicaa
