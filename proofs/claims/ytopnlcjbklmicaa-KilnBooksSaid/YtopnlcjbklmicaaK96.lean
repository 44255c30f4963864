import Derived.Test.YtopnlcjbklmicaaK95
import Derived.Test.YtopnlcjbklmicaaK52
import Derived.Test.YtopnlcjbklmicaaL2
import Derived.WalkKit
import Derived.WalkSpells
import Derived.WalkLawsBesides
import Derived.Deep.QuietTactic
import Derived.BigQuiet
import Derived.Lib.Hide
import Derived.WalkSmall
import Derived.Maps.OwnSet
import Derived.Maps.RangeWalk
import Derived.Deep.RegionWith
import Derived.Deep.RegionHeld3
import Derived.Deep.DrawnRows
import Derived.Deep.DeepCutAuto
import Derived.OneCell
import Derived.KernelRfl
import Derived.Laws.StructEq
import Derived.StillTailTactics
import Derived.Laws.Externs
import Derived.RangeFuncBox
import Derived.Outline
import Derived.RangeFuncNested
import Derived.RangeFuncBound
import Derived.RangeFuncCalls
import Derived.RangeFuncLeaves
import Derived.Shelf.RegionOpen
import Derived.OwnWalkIn
import Derived.TacticsInMore
import Derived.LoopNIn
import Derived.LoopIn
import Derived.Test.YtopnlcjbklmicaaProg
namespace Go.Proofs.Ytopnlcjbklmicaa
open Go.RowKit Go.Maps Go.Shelf
set_option linter.unusedVariables false
set_option linter.unusedSimpArgs false
theorem zip_get (L : BatL) (br : List Int) (k : Nat) (h : k < L.length) (hl : br.length = L.length) : (L.zip br)[k]?.getD ((0, 0), 0) = (L[k]?.getD (0, 0), br[k]?.getD 0) := by
  have h2 : k < br.length := by omega
  rw [List.getElem?_eq_getElem (by rw [List.length_zip]; omega)]
  simp [List.getElem_zip, h, h2]
theorem zip_len (L : BatL) (br : List Int) (hl : br.length = L.length) : (L.zip br).length = L.length := by rw [List.length_zip]; omega
theorem drawn_snoc : ∀ (xs : List ((Int × Int) × Int)) (x : (Int × Int) × Int) (l : List St), drawn (xs ++ [x]) l = (drawn xs l).set x.1.1.toNat (drawS x.1.2 x.2 ((drawn xs l)[x.1.1.toNat]?.getD St.zero))
  | [], x, l => rfl
  | y :: xs, x, l => by rw [List.cons_append, drawn, drawn, drawn_snoc xs]
theorem drawn_part {l : List St} {L : BatL} {br : List Int} (hl : br.length = L.length) (ha : (L.zip br).all (fun x => inB x.2 0 x.1.2) = true) (h : BInv l L) : ∀ k, k ≤ L.length → BInv (drawn ((L.zip br).take k) l) (L.drop k)
  | 0, _ => by simpa [drawn] using h
  | k + 1, hk => by
    have ih := drawn_part hl ha h k (by omega)
    have hz : k < (L.zip br).length := by rw [zip_len L br hl]; omega
    have hg := zip_get L br k (by omega) hl
    have hb := all_get ((0, 0), 0) ha k hz
    rw [hg] at hb
    have e1 : (L.zip br)[k] = (L[k]?.getD (0, 0), br[k]?.getD 0) := by rw [← hg, List.getElem?_eq_getElem hz]; rfl
    have e2 : L[k] = L[k]?.getD (0, 0) := by simp [show k < L.length by omega]
    rw [List.drop_eq_getElem_cons (by omega), e2] at ih
    rw [List.take_succ_eq_append_getElem hz, drawn_snoc, e1]
    exact ih.draw hb
theorem flatS_set1 : ∀ (l : List St) (k i : Nat) (u : Value) (s' : St), k < l.length → i < 8 → s'.vals = (l[k]?.getD St.zero).vals.set i u → (flatS l).set (k * 8 + i) u = flatS (l.set k s')
  | [], k, i, u, s', h, _, _ => by simp at h
  | x :: l, 0, i, u, s', _, hi, hs => by
    rw [List.set_cons_zero, flatS_cons, flatS_cons, hs, List.set_append_left _ _ (by rw [vals_len]; omega)]
    simp
  | x :: l, k + 1, i, u, s', h, hi, hs => by
    rw [List.set_cons_succ, flatS_cons, flatS_cons, show (k + 1) * 8 + i = 8 + (k * 8 + i) by omega, set_right x.vals _ 8 _ (vals_len x), flatS_set1 l k i u s' (by simpa using h) hi (by simpa using hs)]
theorem row_cell {W : World} {base gq n cap : Nat} {l : List St} {k i : Nat} {s : St} (h : W.ownsRow base 133 8 (.slice (some ⟨gq, 0, none⟩) n cap) n (flatS l)) (hn : l.length = n) (hk : k < l.length) (hi : i < 8) (hs : l[k]?.getD St.zero = s) : W.cell? ⟨gq, k * 8 + i, none⟩ = s.vals[i]? := by
  rw [h.cellAt (k * 8 + i) (by omega), flatS_get l k i hk hi, hs]
theorem row_store {W : World} {base gq n cap : Nat} {l : List St} {k i : Nat} {u : Int} {s s' : St} (h : W.ownsRow base 133 8 (.slice (some ⟨gq, 0, none⟩) n cap) n (flatS l)) (hk : k < l.length) (hi : i < 8) (hs : l[k]?.getD St.zero = s) (hv : s'.vals = s.vals.set i (.int .i64 u)) :
    (W.setCell ⟨gq, k * 8 + i, none⟩ (.int .i64 u)).ownsRow base 133 8 (.slice (some ⟨gq, 0, none⟩) n cap) n (flatS (l.set k s')) := by
  have := (h.stored (k * 8 + i) (.int .i64 u)).1
  rwa [flatS_set1 l k i _ s' hk hi (by rw [hs]; exact hv)] at this
/-- What lies while a kiln is drawn. -/
structure DW (w : World) (bb base base0 gq cap n : Nat) (room : Int) (iv v : Value) (L : BatL) (br : List Int) (l : List St) (W : World) : Prop where
  blk : Blk W bb #[.slice (some ⟨gq, 0, none⟩) n cap, .int .i64 room, iv] 131
  row : W.ownsRow base 133 8 (.slice (some ⟨gq, 0, none⟩) n cap) n (flatS l)
  ins : InsAt W base iv L
  ints : IntsR W base0 v br
  but : But gq gq w W
  len : l.length = n
section
variable {w : World} {bb base base0 gq cap n : Nat} {room : Int} {iv v : Value} {L : BatL} {br : List Int} {l : List St} {W : World}
theorem DW.past {W' : World} (h : DW w bb base base0 gq cap n room iv v L br l W) (hb : Below W.heap.size W W') : DW w bb base base0 gq cap n room iv v L br l W' :=
  ⟨h.blk.past hb, own_past h.row hb, h.ins.past hb, own_past h.ints hb, h.but.past hb, h.len⟩
theorem DW.alloc (h : DW w bb base base0 gq cap n room iv v L br l W) (o : Obj) : DW w bb base base0 gq cap n room iv v L br l (W.alloc o) := h.past ((Below.refl _ _).alloc (Nat.le_refl _) o)
theorem DW.drew (h : DW w bb base base0 gq cap n room iv v L br l W) : DW w bb base base0 gq cap n room iv v L br l W.drew := ⟨h.blk, h.row, h.ins, h.ints, h.but.drew, h.len⟩
theorem own_ty {W : World} {base z n q : Nat} {T : TypeId} {v : Value} {xs : List Value} (h : W.ownsRow base T z v n xs) (hq : v.ownBlock = some q) : ∃ cur, W.heap[q]? = some (.cells cur T (0, 0)) := by
  rcases h.2 with ⟨rfl, _⟩ | ⟨g, cap, cur, rfl, hb, hg, _⟩
  · simp [Value.ownBlock] at hq
  · obtain rfl : g = q := by simpa [Value.ownBlock] using hq
    exact ⟨cur, hg⟩
theorem DW.gqty (h : DW w bb base base0 gq cap n room iv v L br l W) : ∃ cur, W.heap[gq]? = some (.cells cur 133 (0, 0)) := own_ty h.row rfl
theorem own_ne {W : World} {base z n gq : Nat} {T S : TypeId} {v : Value} {xs : List Value} (h : W.ownsRow base T z v n xs) (hg : ∃ cur, W.heap[gq]? = some (.cells cur S (0, 0))) (hne : T ≠ S) : v.ownBlock ≠ some gq := fun e => by
  obtain ⟨c1, h1⟩ := own_ty h e
  obtain ⟨c2, h2⟩ := hg
  rw [h1] at h2
  injection h2 with h2
  injection h2 with _ h2
  exact hne h2
theorem DW.ne (h : DW w bb base base0 gq cap n room iv v L br l W) : bb ≠ gq := fun e => by
  obtain ⟨cur, hc⟩ := h.gqty
  have h1 : W.heap[bb]? = _ := h.blk
  rw [e, hc] at h1
  injection h1 with h1
  injection h1 with _ h1
  exact absurd h1 (by decide)
theorem DW.store {k i : Nat} {u : Int} {s s' : St} (h : DW w bb base base0 gq cap n room iv v L br l W) (hk : k < l.length) (hi : i < 8) (hs : l[k]?.getD St.zero = s) (hv : s'.vals = s.vals.set i (.int .i64 u)) :
    DW w bb base base0 gq cap n room iv v L br (l.set k s') (W.setCell ⟨gq, k * 8 + i, none⟩ (.int .i64 u)) :=
  ⟨h.blk.far h.ne, row_store h.row hk hi hs hv, own_far h.ins (own_ne h.ins h.gqty (by decide)), own_far h.ints (own_ne h.ints h.gqty (by decide)), h.but.set gq (.inl rfl) _, by rw [List.length_set]; exact h.len⟩
end
set_option maxRecDepth 100000 in
set_option maxHeartbeats 4000000 in
theorem draw_any (bb base base0 : Nat) (l : List St) (room : Int) (iv : Value) (L : BatL) (v : Value) (br : List Int) (w : World) (hb : BookAt w bb base l room iv) (hi : InsAt w base iv L) (hbase : base ≤ w.heap.size) (hq : IntsR w base0 v br) (hbl : br.length ≤ 1000000) (hLl : L.length ≤ 1000000) (hl : l.length ≤ 1000000) (hl0 : 0 < l.length) (hinv : BInv l L) :
    Calls Try.prog 47 #[.pointer (some ⟨bb, 0, none⟩), v] w (BookTo2 w bb base (drawF l L br) room) := by
  obtain ⟨av, capb, rfl⟩ := hq.shape
  have HF := Lib.hid (isFired_any bb base base l room iv L w hb hi)
  have HB := Lib.hid hb
  have HI := Lib.hid hi
  have HINV := Lib.hid hinv
  have HQ := Lib.hid hq
  obtain ⟨q1, hq1⟩ : ∃ q, decide (0 < (L.length : Int)) = q := ⟨_, rfl⟩
  rw [hq1] at HF
  have HQ1 := Lib.hid hq1
  obtain ⟨R, hR⟩ : ∃ R, drawF l L br = R := ⟨_, rfl⟩
  have HR := Lib.hid hR
  rw [hR]
  clear hb hi hinv hq hq1 hR
  go_enter Try.func47, Try.ntmps47
  go_wp2_with fail
  refine HF.out.mono ?_
  rintro e w2 ⟨rfl, hw2⟩
  subst w2
  cases q1
  · obtain rfl : L = [] := by
      have := of_decide_eq_false HQ1.out
      exact List.length_eq_zero_iff.1 (by omega)
    have HV : Hid (R = (9, l, [])) := Lib.hid (by rw [← HR.out]; unfold drawF; rw [if_pos rfl])
    go_wp2
    go_ret
    exact BookTo2.same HV.out HB.out HI.out (Below.refl _ _) hbase
  have hne : L ≠ [] := by rintro rfl; have := HQ1.out; simp at this
  have HNE := Lib.hid hne
  have hpos : 0 < L.length := List.length_pos_iff.2 hne
  obtain ⟨sv, h1, h2⟩ := HB.out
  obtain ⟨gq, cap, rfl⟩ : ∃ gq cap, sv = .slice (some ⟨gq, 0, none⟩) l.length cap := by
    rcases h2.2 with ⟨_, h⟩ | ⟨gq, cap, cur, rfl, _⟩
    · omega
    · exact ⟨gq, cap, rfl⟩
  obtain ⟨gi, ci, rfl⟩ : ∃ gi ci, iv = .slice (some ⟨gi, 0, none⟩) L.length ci := by
    rcases HI.out.2 with ⟨_, h⟩ | ⟨gi, ci, cur, rfl, _⟩
    · omega
    · exact ⟨gi, ci, rfl⟩
  have HD0 : Hid (DW w bb base base0 gq cap l.length room (.slice (some ⟨gi, 0, none⟩) L.length ci) (.slice av br.length capb) L br l w) := Lib.hid ⟨h1, h2, HI.out, HQ.out, But.refl _ _ _, rfl⟩
  have c2 := h1.cell (i := 2) (v := .slice (some ⟨gi, 0, none⟩) L.length ci) rfl
  obtain ⟨q2, hq2⟩ : ∃ q, ((br.length : Int) != (L.length : Int)) = q := ⟨_, rfl⟩
  have HQ2 := Lib.hid hq2
  clear h1 h2 hne
  cases q2
  rotate_left 1
  · have h0 : br.length ≠ L.length := by
      have := HQ2.out
      simp at this
      omega
    have HV : Hid (R = (4, l, L)) := Lib.hid (by rw [← HR.out]; unfold drawF; rw [if_neg HNE.out, if_pos h0])
    clear h0
    go_wp2
    go_ret
    exact BookTo2.same HV.out HB.out HI.out (Below.refl _ _) hbase
  have hbl2 : br.length = L.length := by
    have := HQ2.out
    simp at this
    omega
  have HBL := Lib.hid hbl2
  have HIN : Hid (∀ i, i < br.length → ∃ b9 off9, av = some ⟨b9, off9, none⟩ ∧ b9 < w.heap.size ∧ w.cell? ⟨b9, off9 + i, none⟩ = some (.int .i64 (br[i]?.getD 0))) := Lib.hid fun i hi => by
    obtain ⟨a, c, he, _, hp⟩ := (HQ.out.ints hbl).placed
    simp only [Value.slice.injEq] at he
    obtain ⟨b9, off9, h1, h2, h3⟩ := hp i hi
    exact ⟨b9, off9, he.1.trans h1, h2, h3⟩
  clear hbl2
  have hgi : gi < w.heap.size := (HI.out.lt gi rfl).2
  go_wp2
  clear c2
  go_loopw [31] (fun i wr => ∃ k : Nat, k ≤ L.length ∧ i = .int .i64 k ∧ Hid (((L.zip br).take k).all (fun x => inB x.2 0 x.1.2) = true) ∧ Hid (Below w.heap.size w wr)) (fun i _ => L.length - (intOf i).toNat)
  case atStart => exact ⟨0, Nat.zero_le _, rfl, Lib.hid (by simp), Lib.hid (Below.refl _ _)⟩
  case round =>
    obtain ⟨k, hk, rfl, HA, HW⟩ := hrel
    by_cases hlt : k < L.length
    · obtain ⟨b9, off9, rfl, hb9, c9⟩ := HIN.out k (by rw [HBL.out]; exact hlt)
      have hlt2 : k < br.length := by rw [HBL.out]; exact hlt
      obtain ⟨a1, a2⟩ := flatQ_at L k hlt
      have c1 := (HW.out.cell (p := ⟨gi, k * 2, none⟩) hgi).trans ((World.ownsRow.cellAt HI.out (k * 2) (by omega)).trans a1)
      have c2 := (HW.out.cell (p := ⟨gi, k * 2 + 1, none⟩) hgi).trans ((World.ownsRow.cellAt HI.out (k * 2 + 1) (by omega)).trans a2)
      have hz := zip_get L br k hlt HBL.out
      have has := allN_take_succ ((0, 0), 0) (fun x : (Int × Int) × Int => inB x.2 0 x.1.2) (L.zip br) k (by rw [zip_len L br HBL.out]; exact hlt)
      have hno := allN_not ((0, 0), 0) (fun x : (Int × Int) × Int => inB x.2 0 x.1.2) (L.zip br) k (by rw [zip_len L br HBL.out]; exact hlt)
      rw [hz] at has hno
      obtain ⟨kd, n, hel⟩ : ∃ x y, L[k]?.getD (0, 0) = (x, y) := ⟨_, _, rfl⟩
      obtain ⟨x, hx⟩ : ∃ x, br[k]?.getD 0 = x := ⟨_, rfl⟩
      rw [hel] at c1 c2
      rw [hx] at c9
      rw [hel, hx] at has hno
      dsimp only at c1 c2 has hno
      obtain ⟨q, hq⟩ : ∃ q, inB x 0 n = q := ⟨_, rfl⟩
      rw [hq] at has hno
      have HAS := Lib.hid has
      have HNO := Lib.hid hno
      obtain ⟨tb, htb⟩ : ∃ tb, wr.heap.size = tb := ⟨_, rfl⟩
      have HT := Lib.hid (Blk.newI wr tb #[.int .i64 kd, .int .i64 n] 111 htb)
      have HWA := Lib.hid (HW.out.alloc HW.out.size (.cells #[.int .i64 kd, .int .i64 n] 111))
      clear a1 a2 hz has hno hel hx
      go_upto_region 10 with fail
      obtain ⟨wA, hwA⟩ : ∃ wA, wr.alloc (.cells #[.int .i64 kd, .int .i64 n] 111) = wA := ⟨_, rfl⟩
      rw [hwA] at HT HWA
      try rw [hwA]
      clear hwA c1 c2
      refine region_plain (fun W => W.cell? ⟨tb, 1, none⟩ = some (.int .i64 n) ∧ W.cell? ⟨b9, off9 + k, none⟩ = some (.int .i64 x)) 9 #[false, false, false, false, false, false, false, false, false] rfl rfl (by kernel_rfl) ?_
      obtain ⟨wx, hwx⟩ : ∃ x, wA.drew = x := ⟨_, rfl⟩
      have HTX : Hid (Blk wx tb #[.int .i64 kd, .int .i64 n] 111) := Lib.hid (by rw [← hwx]; exact HT.out.drew)
      have HWX : Hid (Below w.heap.size w wx) := Lib.hid (by rw [← hwx]; exact HWA.out.drew)
      rw [hwx]
      clear hwx
      have hSS : (wx.cell? ⟨tb, 1, none⟩ = some (.int .i64 n) ∧ wx.cell? ⟨b9, off9 + k, none⟩ = some (.int .i64 x)) := ⟨HTX.out.cell (i := 1) rfl, (HWX.out.cell (p := ⟨b9, _, none⟩) hb9).trans c9⟩
      have hA := areWithin_any 0 n _ [x] _ (ints_one1 wx x)
      have e9 : ([x].all fun y => inB y 0 n) = inB x 0 n := by simp
      rw [e9, hq] at hA
      have HAW := Lib.hid hA
      have HWY := Lib.hid (HWX.out.alloc HWX.out.size (.cells #[.int .i64 x] 3))
      have HTY := Lib.hid (HTX.out.alloc (.cells #[.int .i64 x] 3))
      clear hA e9 hq
      refine take_first (i := 0) (v := ?_) rfl (by kernel_rfl) (by kernel_rfl) (by kernel_rfl) (fun _ _ _ h => h) (by rfl) (by assumption) ?_ ?_
      rotate_left 1
      · intro X hSX
        (try dsimp only at hSX)
        first | (go_simp; done) | (go_simp; with_reducible rfl)
      try simp only [Act.put, List.setIfInBounds_toArray, List.set_cons_zero, List.set_cons_succ]
      refine take_first (i := 1) (v := ?_) rfl (by kernel_rfl) (by kernel_rfl) (by kernel_rfl) (fun _ _ _ h => h) (by rfl) (by assumption) ?_ ?_
      rotate_left 1
      · intro X hSX
        (try dsimp only at hSX)
        first | (go_simp; done) | (go_simp; with_reducible rfl)
      try simp only [Act.put, List.setIfInBounds_toArray, List.set_cons_zero, List.set_cons_succ]
      refine take_first (i := 2) (v := ?_) rfl (by kernel_rfl) (by kernel_rfl) (by kernel_rfl) (fun _ _ _ h => h) (by rfl) (by assumption) ?_ ?_
      rotate_left 1
      · intro X hSX
        (try dsimp only at hSX)
        first | (go_simp; done) | (go_simp; with_reducible rfl)
      try simp only [Act.put, List.setIfInBounds_toArray, List.set_cons_zero, List.set_cons_succ]
      refine take_first (i := 3) (v := ?_) rfl (by kernel_rfl) (by kernel_rfl) (by kernel_rfl) (fun _ _ _ h => h) (by rfl) (by assumption) ?_ ?_
      rotate_left 1
      · intro X hSX
        (try dsimp only at hSX)
        first | (go_simp; done) | (go_simp; with_reducible rfl)
      try simp only [Act.put, List.setIfInBounds_toArray, List.set_cons_zero, List.set_cons_succ]
      refine take_first (i := 4) (v := ?_) rfl (by kernel_rfl) (by kernel_rfl) (by kernel_rfl) (fun _ _ _ h => h) (by rfl) (by assumption) ?_ ?_
      rotate_left 1
      · intro X hSX
        (try dsimp only at hSX)
        first | (go_simp; done) | (go_simp; with_reducible rfl)
      try simp only [Act.put, List.setIfInBounds_toArray, List.set_cons_zero, List.set_cons_succ]
      refine take_first (i := 5) (v := ?_) rfl (by kernel_rfl) (by kernel_rfl) (by kernel_rfl) (fun _ _ _ h => h) (by rfl) (by assumption) ?_ ?_
      rotate_left 1
      · intro X hSX
        (try dsimp only at hSX)
        first | (go_simp; done) | (go_simp; with_reducible rfl)
      try simp only [Act.put, List.setIfInBounds_toArray, List.set_cons_zero, List.set_cons_succ]
      refine only_one (i := 6) (by kernel_rfl) rfl (by rfl) ?_
      intro K hK
      go_simp
      clear hSS
      have hSS : ((wx.alloc (.cells #[.int .i64 x] 3)).cell? ⟨tb, 1, none⟩ = some (.int .i64 n) ∧ (wx.alloc (.cells #[.int .i64 x] 3)).cell? ⟨b9, off9 + k, none⟩ = some (.int .i64 x)) := ⟨HTY.out.cell (i := 1) rfl, (HWY.out.cell (p := ⟨b9, _, none⟩) hb9).trans c9⟩
      refine hK.out _ _ hSS ?_
      clear hK K
      try simp only [Act.put, List.setIfInBounds_toArray, List.set_cons_zero, List.set_cons_succ]
      refine only_one (i := 7) (by kernel_rfl) rfl (by rfl) ?_
      intro K hK
      go_simp
      refine HAW.out.mono ?_
      rintro e w3 ⟨rfl, rfl⟩
      refine hK.out _ _ hSS ?_
      clear hK K
      try simp only [Act.put, List.setIfInBounds_toArray, List.set_cons_zero, List.set_cons_succ]
      refine take_first (i := 8) (v := ?_) rfl (by kernel_rfl) (by kernel_rfl) (by kernel_rfl) (fun _ _ _ h => h) (by rfl) (by assumption) ?_ ?_
      rotate_left 1
      · intro X hSX
        (try dsimp only at hSX)
        first | (go_simp; done) | (go_simp; with_reducible rfl)
      try simp only [Act.put, List.setIfInBounds_toArray, List.set_cons_zero, List.set_cons_succ]
      refine wpAnyH_done (by kernel_rfl) ?_ _
      clear hSS HAW c9
      cases q
      · have HV : Hid (R = (2, l, L)) := Lib.hid (by
          rw [← HR.out]; unfold drawF
          rw [if_neg HNE.out, if_neg (by rw [HBL.out]; simp), if_pos (HNO.out rfl)])
        go_wp2
        go_ret
        exact BookTo2.same HV.out HB.out HI.out HWY.out hbase
      · go_wp2
        go_roundw
        case rel => exact ⟨k + 1, by omega, by go_num, Lib.hid (by rw [HAS.out, HA.out]; rfl), HWY⟩
        case measure => simp [intOf]; omega
    · have hall : (L.zip br).all (fun x => inB x.2 0 x.1.2) = true := by
        have := HA.out
        rwa [List.take_of_length_le (by rw [zip_len L br HBL.out]; omega)] at this
      have HALL := Lib.hid hall
      have HV : Hid (R = (0, drawn (L.zip br) l, [])) := Lib.hid (by
        rw [← HR.out]; unfold drawF
        rw [if_neg HNE.out, if_neg (by rw [HBL.out]; simp), if_neg (by rw [hall]; simp)])
      have HD1 := Lib.hid (HD0.out.past HW.out)
      have c2 := HD1.out.blk.cell (i := 2) (v := .slice (some ⟨gi, 0, none⟩) L.length ci) rfl
      clear hall HA HIN
      go_wp2
      clear c2
      go_loopw [51] (fun i wr => ∃ k : Nat, k ≤ L.length ∧ i = .int .i64 k ∧ Hid (DW w bb base base0 gq cap l.length room (.slice (some ⟨gi, 0, none⟩) L.length ci) (.slice av br.length capb) L br (drawn ((L.zip br).take k) l) wr)) (fun i _ => L.length - (intOf i).toNat)
      case atStart => exact ⟨0, Nat.zero_le _, rfl, HD1⟩
      case round =>
        obtain ⟨k, hk, rfl, HD⟩ := hrel
        by_cases hlt : k < L.length
        · have hpart := drawn_part HBL.out HALL.out HINV.out k hk
          obtain ⟨kd, n, hel⟩ : ∃ x y, L[k]?.getD (0, 0) = (x, y) := ⟨_, _, rfl⟩
          have hLk : L[k] = (kd, n) := by rw [← hel]; simp [hlt]
          rw [List.drop_eq_getElem_cons hlt, hLk] at hpart
          have hkd := kind_nat (hpart.kind (kd, n) (by simp))
          rw [drawn_len] at hkd
          obtain ⟨kk, rfl⟩ : ∃ kk : Nat, kd = kk := ⟨kd.toNat, by omega⟩
          have hkl : kk < l.length := by simpa using hkd.1
          have hk0 : (0 : Int) ≤ (kk : Int) := by omega
          have hk1 : (kk : Int) < (l.length : Int) := by omega
          obtain ⟨x, hx⟩ : ∃ x, br[k]?.getD 0 = x := ⟨_, rfl⟩
          have hxr := all_get ((0, 0), 0) HALL.out k (by rw [zip_len L br HBL.out]; exact hlt)
          have hz := zip_get L br k hlt HBL.out
          rw [hel, hx] at hz
          rw [hz] at hxr
          have hxr2 := inB_parts hxr
          dsimp only at hxr2
          have hnext : drawn ((L.zip br).take (k + 1)) l = (drawn ((L.zip br).take k) l).set kk (drawS n x ((drawn ((L.zip br).take k) l)[kk]?.getD St.zero)) := by
            have hzl : k < (L.zip br).length := by rw [zip_len L br HBL.out]; exact hlt
            rw [List.take_succ_eq_append_getElem hzl, drawn_snoc, show (L.zip br)[k] = (((kk : Int), n), x) by rw [← hz, List.getElem?_eq_getElem hzl]; rfl]
            simp
          obtain ⟨li, hli⟩ : ∃ li, drawn ((L.zip br).take k) l = li := ⟨_, rfl⟩
          rw [hli] at hpart hnext HD
          have hkli : kk < li.length := by rw [HD.out.len]; exact hkl
          obtain ⟨s0, hs0⟩ : ∃ s0, li[kk]?.getD St.zero = s0 := ⟨_, rfl⟩
          have hOk := (hpart.good kk hkli).1
          have hmy := hpart.many ((kk : Int), n) (by simp)
          simp only [Int.toNat_natCast] at hmy
          rw [hs0] at hnext hOk hmy
          have HNEXT := Lib.hid hnext
          obtain ⟨a1, a2⟩ := flatQ_at L k hlt
          rw [hel] at a1 a2
          have c1 := (World.ownsRow.cellAt HD.out.ins (k * 2) (by omega)).trans a1
          have c2 := (World.ownsRow.cellAt HD.out.ins (k * 2 + 1) (by omega)).trans a2
          dsimp only at c1 c2
          obtain ⟨g9, rfl⟩ : ∃ g9, av = some ⟨g9, 0, none⟩ := by
            rcases HD.out.ints.2 with ⟨_, h⟩ | ⟨g9, cap9, cur9, h, _⟩
            · have := HBL.out; omega
            · simp only [Value.slice.injEq] at h; exact ⟨g9, h.1⟩
          have hlt2 : k < br.length := by rw [HBL.out]; exact hlt
          have HIM : Hid ((iM br)[k]? = some (.int .i64 x)) := Lib.hid (by rw [← hx]; simp [iM, hlt2])
          obtain ⟨y0, y1, y2, y3, y4, y5, y6, y7⟩ := s0
          obtain ⟨r1, r2, r3, r4, r5, r6, r7⟩ := hOk
          dsimp only at r1 r2 r3 r4 r5 r6 r7 hmy
          have w1 : IntKind.i64.wrap (y2 - n) = y2 - n := wrap_id (by omega) (by omega)
          have w2 : IntKind.i64.wrap (n - x) = n - x := wrap_id (by omega) (by omega)
          have w3 : IntKind.i64.wrap (y3 + (n - x)) = y3 + (n - x) := wrap_id (by omega) (by omega)
          have w4 : IntKind.i64.wrap (y5 + x) = y5 + x := wrap_id (by omega) (by omega)
          obtain ⟨tb, htb⟩ : ∃ tb, wr.heap.size = tb := ⟨_, rfl⟩
          have HT := Lib.hid (Blk.newI wr tb #[.int .i64 kk, .int .i64 n] 111 htb)
          have HDA := Lib.hid (HD.out.alloc (.cells #[.int .i64 kk, .int .i64 n] 111))
          have hgt : tb ≠ gq := by have := (own_block_ty HD.out.row).2.1; omega
          clear r1 r2 r3 r4 r5 r6 r7 hmy hpart hLk hkd hxr hz hxr2 hnext a1 a2 hel hx hli
          go_upto_region 16 with fail
          obtain ⟨wA, hwA⟩ : ∃ wA, wr.alloc (.cells #[.int .i64 kk, .int .i64 n] 111) = wA := ⟨_, rfl⟩
          rw [hwA] at HT HDA
          try rw [hwA]
          clear hwA c1 c2 htb HD
          refine region_plain (fun W => W.cell? ⟨bb, 0, none⟩ = some (.slice (some ⟨gq, 0, none⟩) l.length cap) ∧ W.cell? ⟨tb, 0, none⟩ = some (.int .i64 kk)) 8 #[false, false, false, false, false, false, false, false] rfl rfl (by kernel_rfl) ?_
          obtain ⟨wx, hwx⟩ : ∃ x, wA.drew = x := ⟨_, rfl⟩
          have HT0 : Hid (Blk wx tb #[.int .i64 kk, .int .i64 n] 111) := Lib.hid (by rw [← hwx]; exact HT.out.drew)
          have HE0 := Lib.hid HDA.out.drew
          rw [hwx] at HE0
          rw [hwx]
          clear hwx HT HDA
          have hSS : (wx.cell? ⟨bb, 0, none⟩ = some (.slice (some ⟨gq, 0, none⟩) l.length cap) ∧ wx.cell? ⟨tb, 0, none⟩ = some (.int .i64 kk)) := ⟨HE0.out.blk.cell (i := 0) rfl, HT0.out.cell (i := 0) rfl⟩
          refine take_first (i := 0) (v := ?_) rfl (by kernel_rfl) (by kernel_rfl) (by kernel_rfl) (fun _ _ _ h => h) (by rfl) (by assumption) ?_ ?_
          rotate_left 1
          · intro X hSX
            (try dsimp only at hSX)
            first | (go_simp; done) | (go_simp; with_reducible rfl)
          try simp only [Act.put, List.setIfInBounds_toArray, List.set_cons_zero, List.set_cons_succ]
          refine take_first (i := 1) (v := ?_) rfl (by kernel_rfl) (by kernel_rfl) (by kernel_rfl) (fun _ _ _ h => h) (by rfl) (by assumption) ?_ ?_
          rotate_left 1
          · intro X hSX
            (try dsimp only at hSX)
            first | (go_simp; done) | (go_simp; with_reducible rfl)
          try simp only [Act.put, List.setIfInBounds_toArray, List.set_cons_zero, List.set_cons_succ]
          refine take_first (i := 2) (v := ?_) rfl (by kernel_rfl) (by kernel_rfl) (by kernel_rfl) (fun _ _ _ h => h) (by rfl) (by assumption) ?_ ?_
          rotate_left 1
          · intro X hSX
            (try dsimp only at hSX)
            first | (go_simp; done) | (go_simp; with_reducible rfl)
          try simp only [Act.put, List.setIfInBounds_toArray, List.set_cons_zero, List.set_cons_succ]
          refine take_first (i := 3) (v := ?_) rfl (by kernel_rfl) (by kernel_rfl) (by kernel_rfl) (fun _ _ _ h => h) (by rfl) (by assumption) ?_ ?_
          rotate_left 1
          · intro X hSX
            (try dsimp only at hSX)
            first | (go_simp; done) | (go_simp; with_reducible rfl)
          try simp only [Act.put, List.setIfInBounds_toArray, List.set_cons_zero, List.set_cons_succ]
          refine take_first (i := 4) (v := ?_) rfl (by kernel_rfl) (by kernel_rfl) (by kernel_rfl) (fun _ _ _ h => h) (by rfl) (by assumption) ?_ ?_
          rotate_left 1
          · intro X hSX
            (try dsimp only at hSX)
            first | (go_simp; done) | (go_simp; with_reducible rfl)
          try simp only [Act.put, List.setIfInBounds_toArray, List.set_cons_zero, List.set_cons_succ]
          refine take_first (i := 5) (v := ?_) rfl (by kernel_rfl) (by kernel_rfl) (by kernel_rfl) (fun _ _ _ h => h) (by rfl) (by assumption) ?_ ?_
          rotate_left 1
          · intro X hSX
            (try dsimp only at hSX)
            first | (go_simp; done) | (go_simp; with_reducible rfl)
          try simp only [Act.put, List.setIfInBounds_toArray, List.set_cons_zero, List.set_cons_succ]
          refine take_first (i := 6) (v := ?_) rfl (by kernel_rfl) (by kernel_rfl) (by kernel_rfl) (fun _ _ _ h => h) (by rfl) (by assumption) ?_ ?_
          rotate_left 1
          · intro X hSX
            (try dsimp only at hSX)
            first | (go_simp; done) | (go_simp; with_reducible rfl)
          try simp only [Act.put, List.setIfInBounds_toArray, List.set_cons_zero, List.set_cons_succ]
          refine take_first (i := 7) (v := ?_) rfl (by kernel_rfl) (by kernel_rfl) (by kernel_rfl) (fun _ _ _ h => h) (by rfl) (by assumption) ?_ ?_
          rotate_left 1
          · intro X hSX
            (try dsimp only at hSX)
            first | (go_simp; done) | (go_simp; with_reducible rfl)
          try simp only [Act.put, List.setIfInBounds_toArray, List.set_cons_zero, List.set_cons_succ]
          refine wpAnyH_done (by kernel_rfl) ?_ _
          clear hSS
          have b2 : wx.cell? ⟨gq, kk * 8 + 2, none⟩ = some (.int .i64 y2) := row_cell HE0.out.row HE0.out.len (k := kk) (i := 2) (s := ⟨y0, y1, y2, y3, y4, y5, y6, y7⟩) (by have := HE0.out.len; omega) (by omega) (by first | exact hs0 | (rw [set_at _ _ _ _ hkli, if_pos rfl]))
          have f2 : wx.frozen? ⟨gq, kk * 8 + 2, none⟩ = false := HE0.out.row.frozenAt (kk * 8 + 2)
          have t1 := HT0.out.cell (i := 1) (v := .int .i64 n) rfl
          have HE1 := Lib.hid (HE0.out.store (k := kk) (i := 2) (u := y2 - n) hkli (by omega) hs0 (s' := ⟨y0, y1, y2 - n, y3, y4, y5, y6, y7⟩) rfl).drew
          have HT1 := Lib.hid (HT0.out.far (b' := gq) (i := kk * 8 + 2) (u := .int .i64 (y2 - n)) hgt).drew
          go_wp2
          go_region
          obtain ⟨wy, hwy⟩ : ∃ Z, (wx.setCell ⟨gq, kk * 8 + 2, none⟩ (.int .i64 (y2 - n))).drew = Z := ⟨_, rfl⟩
          rw [hwy] at HE1 HT1 ⊢
          clear hwy b2 f2 t1 HE0 HT0
          have b3 : wy.cell? ⟨gq, kk * 8 + 3, none⟩ = some (.int .i64 y3) := row_cell HE1.out.row HE1.out.len (k := kk) (i := 3) (s := ⟨y0, y1, y2 - n, y3, y4, y5, y6, y7⟩) (by have := HE1.out.len; omega) (by omega) (by first | exact hs0 | (rw [set_at _ _ _ _ hkli, if_pos rfl]))
          have f3 : wy.frozen? ⟨gq, kk * 8 + 3, none⟩ = false := HE1.out.row.frozenAt (kk * 8 + 3)
          have t1 := HT1.out.cell (i := 1) (v := .int .i64 n) rfl
          have z1 := (World.ownsRow.cellAt HE1.out.ints k (by omega)).trans HIM.out
          have HE2 := Lib.hid (HE1.out.store (k := kk) (i := 3) (u := y3 + (n - x)) (by rw [List.length_set]; exact hkli) (by omega) (by rw [set_at _ _ _ _ hkli, if_pos rfl]) (s := ⟨y0, y1, y2 - n, y3, y4, y5, y6, y7⟩) (s' := ⟨y0, y1, y2 - n, y3 + (n - x), y4, y5, y6, y7⟩) rfl).drew
          rw [List.set_set] at HE2
          have HT2 := Lib.hid (HT1.out.far (b' := gq) (i := kk * 8 + 3) (u := .int .i64 (y3 + (n - x))) hgt).drew
          go_wp2
          go_region
          obtain ⟨wz, hwz⟩ : ∃ Z, (wy.setCell ⟨gq, kk * 8 + 3, none⟩ (.int .i64 (y3 + (n - x)))).drew = Z := ⟨_, rfl⟩
          rw [hwz] at HE2 HT2 ⊢
          clear hwz b3 f3 t1 z1 HE1 HT1
          have b5 : wz.cell? ⟨gq, kk * 8 + 5, none⟩ = some (.int .i64 y5) := row_cell HE2.out.row HE2.out.len (k := kk) (i := 5) (s := ⟨y0, y1, y2 - n, y3 + (n - x), y4, y5, y6, y7⟩) (by have := HE2.out.len; omega) (by omega) (by first | exact hs0 | (rw [set_at _ _ _ _ hkli, if_pos rfl]))
          have f5 : wz.frozen? ⟨gq, kk * 8 + 5, none⟩ = false := HE2.out.row.frozenAt (kk * 8 + 5)
          have z1 := (World.ownsRow.cellAt HE2.out.ints k (by omega)).trans HIM.out
          have HE3 := Lib.hid (HE2.out.store (k := kk) (i := 5) (u := y5 + x) (by rw [List.length_set]; exact hkli) (by omega) (by rw [set_at _ _ _ _ hkli, if_pos rfl]) (s := ⟨y0, y1, y2 - n, y3 + (n - x), y4, y5, y6, y7⟩) (s' := ⟨y0, y1, y2 - n, y3 + (n - x), y4, y5 + x, y6, y7⟩) rfl).drew
          rw [List.set_set] at HE3
          go_wp2
          go_region
          go_wp2
          go_roundw
          case rel => exact ⟨k + 1, by omega, by go_num, Lib.hid (by rw [HNEXT.out]; exact HE3.out)⟩
          case measure => simp [intOf]; omega
        · have hdr : drawn ((L.zip br).take k) l = drawn (L.zip br) l := by rw [List.take_of_length_le (by rw [zip_len L br HBL.out]; omega)]
          rw [hdr] at HD
          have g2 := HD.out.blk.cell (i := 2) (v := .slice (some ⟨gi, 0, none⟩) L.length ci) rfl
          have f2 := HD.out.blk.fr (i := 2)
          have HFIN : Hid (BookAt (wr.setCell ⟨bb, 2, none⟩ (.slice none 0 0)) bb base (drawn (L.zip br) l) room (.slice none 0 0)) := Lib.hid
            ⟨_, by simpa using HD.out.blk.set 2 (by simp) (.slice none 0 0) rfl, by
              have := own_far (i := 2) (u := .slice none 0 0) HD.out.row (bb := bb) (fun e => HD.out.ne (Option.some.inj e).symm)
              rwa [HD.out.len]⟩
          have HBT : Hid (But bb gq w (wr.setCell ⟨bb, 2, none⟩ (.slice none 0 0))) := Lib.hid
            ((⟨HD.out.but.os, HD.out.but.tape, HD.out.but.output, HD.out.but.size, fun j hj h1 h2 => HD.out.but.block j hj h2 h2⟩ : But bb gq w wr).set bb (.inl rfl) _)
          have HG : Hid (base ≤ gq ∧ ∀ o, w.heap[gq]? = some o → ∃ vs f, o = .cells vs 133 f) := Lib.hid ⟨(own_block_ty HD.out.row).1, fun o ho => by
            obtain ⟨cur, hc⟩ := HD0.out.gqty
            rw [hc] at ho
            cases ho
            exact ⟨_, _, rfl⟩⟩
          clear hdr HD
          go_wp2
          go_ret
          exact ⟨by rw [HV.out]; rfl, ⟨_, by rw [HV.out]; exact HFIN.out, by rw [HV.out]; exact InsAt.nil _ _⟩, gq, HG.out.1, HG.out.2, HBT.out⟩
end Go.Proofs.Ytopnlcjbklmicaa
