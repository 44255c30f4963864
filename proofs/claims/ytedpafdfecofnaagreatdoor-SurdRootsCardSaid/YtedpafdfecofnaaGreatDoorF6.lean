/-
  Contracts of the program's own functions (and their plain mathematics), on the way to the law: each for all arguments that its hypotheses let.
-/
import Derived.Test.YtedpafdfecofnaaGreatDoorF5
import Derived.RangeFuncNested
import Derived.RangeFuncBound
import Derived.RangeFuncCalls
import Derived.RangeFuncLeaves
import Derived.RangeFuncFrom
import Derived.Shelf.Abstract
import Derived.Shelf.RegionOpen
import Derived.WalkKit
import Derived.OwnWalkIn
import Derived.TacticsInMore
import Derived.LoopNIn
import Derived.LoopIn
import Derived.WalkSpells
import Derived.WalkLawsBesides
import Derived.Lib.Hide
import Derived.Deep.QuietTactic
import Derived.BigQuiet
import Derived.WalkSmall
import Derived.Maps.OwnSet
import Derived.Maps.RangeWalk
import Derived.Deep.RegionWith
import Derived.Deep.RegionHeld3
import Derived.OneCell
import Derived.RangeFuncBox
import Derived.Test.YtedpafdfecofnaaGreatDoorPlain
set_option linter.unusedSimpArgs false
set_option linter.unusedVariables false

/-! ## S18 -/
namespace Go.Proofs.YtedpafdfecofnaaGreatDoor
open Go.RowKit Go.Shelf
attribute [local go_sem] Oper.semAt_some
theorem cell_new_l (W : World) (v : Value) (t : TypeId) : (W.alloc (.cells #[v] t)).cell? ⟨W.heap.size, 0, none⟩ = some v ∧ (W.alloc (.cells #[v] t)).frozen? ⟨W.heap.size, 0, none⟩ = false := by
  exact ⟨cell_of_one (World.alloc_heap_new W _), free_of_one (World.alloc_heap_new W _)⟩
theorem cell_alloc_l {W : World} {a : Addr} {v : Value} (o : Obj) (h : W.cell? a = some v) : (W.alloc o).cell? a = some v := cell_kept h (World.grownBy_alloc W o none) (fun r e => by cases e)
theorem frozen_alloc_l {W : World} {a : Addr} {v : Value} (o : Obj) (h : W.cell? a = some v) (hf : W.frozen? a = false) : (W.alloc o).frozen? a = false := (frozen_kept h (World.grownBy_alloc W o none) (fun r e => by cases e)).trans hf
theorem ext1 (R : List UInt8) : (⟨R.toArray⟩ : ByteArray).extract 1 R.length = ⟨(R.drop 1).toArray⟩ := by
  apply ByteArray.ext
  apply Array.toList_inj.1
  rw [Lib.extract_data]
  simp only [List.drop_one]
  rw [List.take_of_length_le (by simp)]
abbrev Dig := { x : Int // 0 ≤ x ∧ x ≤ 9 }
def isDig (b : UInt8) : Bool := decide (48 ≤ b.toNat) && decide (b.toNat ≤ 57)
def dv (b : UInt8) : Dig := ⟨(((b.toNat - 48) % 10 : Nat) : Int), by omega⟩
def digsV (L : List UInt8) : List Dig := (L.takeWhile isDig).map dv
def encD (x : Dig) : Array Value := #[.int .i64 x.1]
/-- What a round keeps: the string's box. -/
def KpS (Bs : Nat) (W W' : World) : Prop := W'.heap[Bs]? = W.heap[Bs]?
theorem kpS_t {Bs : Nat} {A B C : World} (h : KpS Bs A B) (k : KpS Bs B C) : KpS Bs A C := k.trans h
theorem kpS_b {Bs : Nat} {w : World} (hn : Bs < w.heap.size) (W : World) (l : Nat) (o o' : Obj) (hl : w.heap.size ≤ l) (h : W.heap[l]? = some o) (_ : o.isCells = false) (_ : o.isWalk = false) : KpS Bs W (W.putObj l o') := by
  have hg := grownBy_putObj' W l o'
  exact hg.block Bs (by have := (Array.getElem?_eq_some_iff.1 h).1; omega) (fun e => by cases e; omega)

theorem digs_len_le (L : List UInt8) : (digsV L).length ≤ L.length := by unfold digsV; rw [List.length_map]; exact (List.takeWhile_prefix _).length_le
theorem tw_at : ∀ (L : List UInt8) (k : Nat) (h : k < (L.takeWhile isDig).length) (hk : k < L.length), (L.takeWhile isDig)[k] = L[k]
  | [], k, h, _ => by simp at h
  | a :: r, k, h, hk => by
    cases ha : isDig a with
    | false => simp [List.takeWhile_cons, ha] at h
    | true =>
      cases k with
      | zero => simp [List.takeWhile_cons, ha]
      | succ k =>
        simp only [List.takeWhile_cons, ha, if_true, List.length_cons, Nat.add_lt_add_iff_right] at h
        have := tw_at r k h (by simpa using hk)
        simpa [List.takeWhile_cons, ha] using this
theorem tw_stop : ∀ (L : List UInt8) (k : Nat), k = (L.takeWhile isDig).length → ∀ h : k < L.length, isDig L[k] = false
  | [], k, _, h => by simp at h
  | a :: r, k, hk, h => by
    cases ha : isDig a with
    | false =>
      simp [List.takeWhile_cons, ha] at hk
      subst hk; simpa using ha
    | true =>
      cases k with
      | zero => simp [List.takeWhile_cons, ha] at hk
      | succ k =>
        simp only [List.takeWhile_cons, ha, if_true, List.length_cons, Nat.add_right_cancel_iff] at hk
        have := tw_stop r k hk (by simpa using h)
        simpa using this
theorem tw_end : ∀ (L : List UInt8) (k : Nat), k ≤ (L.takeWhile isDig).length → (∀ h : k < L.length, isDig L[k] = false) → k = (L.takeWhile isDig).length
  | [], k, hk, _ => by simpa using hk
  | a :: r, k, hk, h => by
    cases k with
    | zero =>
      have := h (by simp)
      simp at this
      simp [List.takeWhile_cons, this]
    | succ k =>
      cases ha : isDig a with
      | false => simp [List.takeWhile_cons, ha] at hk
      | true =>
        simp only [List.takeWhile_cons, ha, if_true, List.length_cons] at hk ⊢
        have := tw_end r k (by omega) (fun h2 => by have := h (by simpa using h2); simpa using this)
        omega
theorem digs_end (L : List UInt8) (k : Nat) (hk : k ≤ (digsV L).length) (h : ∀ h : k < L.length, isDig L[k] = false) : k = (digsV L).length := by
  unfold digsV at hk ⊢
  rw [List.length_map] at hk ⊢
  exact tw_end L k hk h
theorem digs_lt (L : List UInt8) (k : Nat) (hk : k ≤ (digsV L).length) (hkl : k < L.length) (h : isDig L[k] = true) : k < (digsV L).length := by
  rcases Nat.lt_or_ge k (digsV L).length with h1 | h1
  · exact h1
  · have he : k = (L.takeWhile isDig).length := by unfold digsV at hk h1; rw [List.length_map] at hk h1; omega
    rw [tw_stop L k he hkl] at h; cases h
theorem digs_val (L : List UInt8) (k : Nat) (hlt : k < (digsV L).length) (b : UInt8) (hkl : k < L.length) (hb : L[k] = b) (h1 : 48 ≤ b.toNat) (h2 : b.toNat ≤ 57) : ((digsV L)[k]).1 = (b.toNat : Int) - 48 := by
  unfold digsV at hlt ⊢
  rw [List.getElem_map, tw_at L k (by simpa using hlt) hkl, hb]
  unfold dv
  dsimp only
  omega

set_option maxRecDepth 100000 in
set_option maxHeartbeats 2000000 in
theorem digits1_in (F : Fence) (n : Nat) (h6 : F.fn 141) (hro : F.round = none) (hn : 1 ≤ n) (l Bs : Nat) (L : List UInt8) (hLs : L.length ≤ 4294967200) (J Jx : List Dig → World → Prop)
    (hY : ∀ pre x W, J pre W → pre.length < (digsV L).length → YieldAt F (n - 1) Tryz.prog l (encD x) W fun e W' =>
      (e = .returned (.bool true) ∧ J (pre ++ [x]) W' ∧ KpS Bs W W') ∨ (e = .returned (.bool false) ∧ Jx (pre ++ [x]) W'))
    (W : World) (hBn : W.heap[Bs]? = some (.cells #[.string ⟨L.toArray⟩] 9 (0, 0))) (h0 : J [] W) :
    CallsIn F n Tryz.prog 141 #[.func (.yield l) #[] #[], .pointer (some ⟨Bs, 0, none⟩)] W fun e W' => (∃ v, e = .returned v) ∧
      ((∃ ys, ys = digsV L ∧ J ys W') ∨ (∃ pre, pre <+: digsV L ∧ Jx pre W')) := by
  refine callsIn_of_wp Tryz.func141 rfl h6 ?_ hro
  simp only [Tryz.ntmps141, List.size_toArray, List.length_cons, List.length_nil, Nat.reduceAdd, Nat.reduceSub, Array.replicate_succ, Array.replicate_zero, List.push_toArray, List.append_toArray, List.nil_append, List.cons_append]
  gi_wp2
  gi_loopw [3] (fun i wr => ∃ k : Nat, k ≤ (digsV L).length ∧ i = .int .i64 k ∧ wr.heap[Bs]? = some (.cells #[.string ⟨L.toArray⟩] 9 (0, 0)) ∧ J ((digsV L).take k) wr)
    (fun i wr => (digsV L).length - (intOf i).toNat)
  case atStart =>
    exact ⟨0, Nat.zero_le _, rfl, hBn, h0⟩
  case round =>
    obtain ⟨k, hk, rfl, hb, hJs⟩ := hrel
    have c0 := cell_of_one hb
    by_cases hkl : k < L.length
    · obtain ⟨b, hbv⟩ : ∃ b, L[k] = b := ⟨_, rfl⟩
      have hbk : ∀ h, (({ data := L.toArray } : ByteArray)[k]'h) = b := fun h => hbv
      have HBV := Lib.hid hbv
      clear hbv
      by_cases hd : 48 ≤ b.toNat ∧ b.toNat ≤ 57
      · obtain ⟨hd1, hd2⟩ := hd
        have hdi1 : 48 ≤ (b.toNat : Int) := by omega
        have hdi2 : (b.toNat : Int) ≤ 57 := by omega
        have hlt : k < (digsV L).length := digs_lt L k hk hkl (by rw [HBV.out]; simp [isDig, hd1, hd2])
        have hval : ((digsV L)[k]).1 = (b.toNat : Int) - 48 := digs_val L k hlt b hkl HBV.out hd1 hd2
        obtain ⟨fn, tmps, assign, body, hy, hR⟩ := hY ((digsV L).take k) ((digsV L)[k]) wr hJs (by simp; omega)
        dsimp only [encD] at hy
        rw [hval] at hy
        have HTS : Hid ((digsV L).take k ++ [(digsV L)[k]] = (digsV L).take (k + 1)) := Lib.hid (by rw [List.take_succ_eq_append_getElem hlt])
        rw [HTS.out] at hR
        clear hval
        gi_wp2
        refine hR.mono ?_
        rintro e W3 (⟨rfl, hJ3, hk3⟩ | ⟨rfl, hJx3⟩)
        · have hb3 : W3.heap[Bs]? = some (.cells #[.string ⟨L.toArray⟩] 9 (0, 0)) := hk3.trans hb
          have HJ3 := Lib.hid hJ3
          have HB3 := Lib.hid hb3
          clear hJ3 hb3 hk3 hY hb hJs
          gi_wp2
          go_roundw
          case rel => exact ⟨k + 1, by omega, by go_num, HB3.out, HJ3.out⟩
          case measure => simp [intOf]; omega
        · gi_wp2
          refine bodyPost_ret (results_none rfl _ _ _) rfl ?_
          exact ⟨⟨_, rfl⟩, .inr ⟨(digsV L).take (k + 1), List.take_prefix _ _, hJx3⟩⟩
      · have HE : Hid (k = (digsV L).length) := Lib.hid (digs_end L k hk (fun h => by rw [HBV.out]; simp [isDig]; omega))
        by_cases hd1 : 48 ≤ b.toNat
        · have hdi1 : 48 ≤ (b.toNat : Int) := by omega
          have hdi2 : ¬ (b.toNat : Int) ≤ 57 := by omega
          gi_wp2
          go_end0
          exact ⟨⟨_, rfl⟩, .inl (by have := hJs; rw [HE.out, List.take_length] at this; first | exact this | exact ⟨_, rfl, this⟩)⟩
        · have hdi1 : ¬ 48 ≤ (b.toNat : Int) := by omega
          gi_wp2
          go_end0
          exact ⟨⟨_, rfl⟩, .inl (by have := hJs; rw [HE.out, List.take_length] at this; first | exact this | exact ⟨_, rfl, this⟩)⟩
    · have HE : Hid (k = (digsV L).length) := Lib.hid (digs_end L k hk (fun h => absurd h hkl))
      gi_wp2
      go_end0
      exact ⟨⟨_, rfl⟩, .inl (by have := hJs; rw [HE.out, List.take_length] at this; first | exact this | exact ⟨_, rfl, this⟩)⟩
theorem digits_stops (F : Fence) (n : Nat) (h6 : F.fn 141) (hro : F.round = none) (hn : 1 ≤ n) (Bs : Nat) (L : List UInt8) (hLs : L.length ≤ 4294967200) (w : World) (hBn : w.heap[Bs]? = some (.cells #[.string ⟨L.toArray⟩] 9 (0, 0))) :
    SeqStopsK F n Tryz.prog 141 #[.pointer (some ⟨Bs, 0, none⟩)] encD (KpS Bs) (fun ys => ys = digsV L) (fun pre => pre <+: digsV L) (digsV L).length w := fun l J Jx W hW _ _ hY h0 =>
  digits1_in F n h6 hro hn l Bs L hLs J Jx hY W ((hW.block Bs (lt_of_block hBn)).trans hBn) h0

/-- digits: the closure, and the box of the string. -/
theorem digits_in (F : Fence) (n : Nat) (h : F.fn 126) (hro : F.round = none) (s : ByteArray) (w : World) :
    CallsIn F n Tryz.prog 126 #[.string s] w fun e w' => e = .returned (.func (.func 141) #[] #[.pointer (some ⟨w.heap.size, 0, none⟩)]) ∧ w' = w.alloc (.cells #[.string s] 9) := by
  refine callsIn_of_wp Tryz.func126 rfl h ?_ hro
  simp only [Tryz.ntmps126, List.size_toArray, List.length_cons, List.length_nil, Nat.reduceAdd, Nat.reduceSub, Array.replicate_succ, Array.replicate_zero, List.push_toArray, List.append_toArray, List.nil_append, List.cons_append]
  gi_wp2
  go_ret
  exact ⟨rfl, rfl⟩

def numF (xs : List Dig) : Int := xs.foldl (fun n d => min (10 * n + d.1) 100001) 0
theorem numF_snoc (xs : List Dig) (d : Dig) : numF (xs ++ [d]) = min (10 * numF xs + d.1) 100001 := by unfold numF; rw [List.foldl_append]; rfl
theorem numF_bd (xs : List Dig) : 0 ≤ numF xs ∧ numF xs ≤ 100001 := by
  unfold numF
  have key : ∀ (xs : List Dig) (n : Int), 0 ≤ n → n ≤ 100001 → 0 ≤ xs.foldl (fun n d => min (10 * n + d.1) 100001) n ∧ xs.foldl (fun n d => min (10 * n + d.1) 100001) n ≤ 100001 := by
    intro xs
    induction xs with
    | nil => intro n h1 h2; exact ⟨h1, h2⟩
    | cons d xs ih =>
      intro n h1 h2
      have := d.2
      exact ih _ (by show 0 ≤ min (10 * n + d.1) 100001; omega) (by show min (10 * n + d.1) 100001 ≤ 100001; omega)
  exact key xs 0 (by omega) (by omega)

set_option maxRecDepth 100000 in
set_option maxHeartbeats 4000000 in
theorem readDigits_in (F : Fence) (n : Nat) (h3 : F.fn 110) (h5 : F.fn 126) (h6 : F.fn 141) (hro : F.round = none) (hn : 3 ≤ n) (L : List UInt8) (hLs : L.length ≤ 4294967200) (w : World) :
    CallsIn F n Tryz.prog 110 #[.string ⟨L.toArray⟩] w fun e W' => e = .returned (.tuple #[.int .i64 (numF (digsV L)), .string ⟨(L.drop (digsV L).length).toArray⟩]) ∧ Below w.heap.size w W' := by
  have h1 : 1 ≤ n := by omega
  refine callsIn_of_wp_marks Tryz.func110 rfl h3 ?_ hro
  simp only [Tryz.ntmps110, List.size_toArray, List.length_cons, List.length_nil, Nat.reduceAdd, Nat.reduceSub, Array.replicate_succ, Array.replicate_zero, List.push_toArray, List.append_toArray, List.nil_append, List.cons_append]
  gi_wp2_with (gi_at_call 126; refine (digits_in F (n - 1) h5 hro _ _).mono ?_; rintro e w' ⟨rfl, rfl⟩)
  have hs := cell_new_l w (.int .i64 0) 3
  have hb := cell_new_l (w.alloc (.cells #[.int .i64 0] 3)) (.string ⟨L.toArray⟩) 9
  rw [World.size_alloc] at hb
  have hB0 : Below w.heap.size w (((w.alloc (.cells #[.int .i64 0] 3)).alloc (.cells #[.string ⟨L.toArray⟩] 9)).alloc (.cells #[.string ⟨L.toArray⟩] 9)) := (((Below.refl _ w).alloc (Nat.le_refl _) _).alloc (by simp) _).alloc (by simp; omega) _
  have hbox : (((w.alloc (.cells #[.int .i64 0] 3)).alloc (.cells #[.string ⟨L.toArray⟩] 9)).alloc (.cells #[.string ⟨L.toArray⟩] 9)).heap[w.heap.size + 1 + 1]? = some (.cells #[.string ⟨L.toArray⟩] 9 (0, 0)) := by
    have := World.alloc_heap_new ((w.alloc (.cells #[.int .i64 0] 3)).alloc (.cells #[.string ⟨L.toArray⟩] 9)) (.cells #[.string ⟨L.toArray⟩] 9)
    rwa [World.size_alloc, World.size_alloc] at this
  have hdl := digs_len_le L
  refine wpIn_rangeFunc_ownF hro h1 (gf := 141) (lb := #[.pointer (some ⟨w.heap.size + 1 + 1, 0, none⟩)]) rfl h6 (enters_of Tryz.func141 (by kernel_rfl) rfl)
    (digits_stops F (n - 1) h6 hro (by omega) (w.heap.size + 1 + 1) L hLs _ hbox) kpS_t (kpS_b (by simp)) (Below.refl _ _) (fun _ => rfl)
    (fun pre W => (W.cell? ⟨w.heap.size, 0, none⟩ = some (.int .i64 (numF pre)) ∧ W.frozen? ⟨w.heap.size, 0, none⟩ = false ∧ W.cell? ⟨w.heap.size + 1, 0, none⟩ = some (.string ⟨(L.drop pre.length).toArray⟩) ∧ W.frozen? ⟨w.heap.size + 1, 0, none⟩ = false) ∧ Below w.heap.size w W)
    (fun _ _ _ => False)
    (OwnFrom.and (Own.from (fun s A B row hs hg hr => ⟨cell_kept hs.1 hg hr, (frozen_kept hs.1 hg hr).trans hs.2.1, cell_kept hs.2.2.1 hg hr, (frozen_kept hs.2.2.1 hg hr).trans hs.2.2.2⟩) _) (ownFrom_below (Nat.le_refl _) (by simp; omega)))
    (fun _ _ _ _ _ hs _ _ => hs)
    ⟨⟨cell_alloc_l _ (cell_alloc_l _ hs.1), frozen_alloc_l _ (cell_alloc_l _ hs.1) (frozen_alloc_l _ hs.1 hs.2), cell_alloc_l _ hb.1, frozen_alloc_l _ hb.1 hb.2⟩, hB0⟩
    (fun x => { tmps := #[.string ⟨L.toArray⟩, undef, .pointer (some ⟨w.heap.size, 0, none⟩), .pointer (some ⟨w.heap.size + 1, 0, none⟩), .int .i64 x.1, .string ⟨L.toArray⟩, .string ⟨L.toArray⟩, .func (.func 141) #[] #[.pointer (some ⟨w.heap.size + 1 + 1, 0, none⟩)], .int .i64 x.1, undef, undef, undef, undef, undef, undef, undef, undef, undef], defers := [] }) ?assign ?body ?done ?stop
  case assign =>
    intro l x W K hK
    unfold encD
    gi_wp2
    exact hK
  case body =>
    rintro l pre x W ⟨⟨hc, hf, hc2, hf2⟩, hB⟩ hlt
    have hbd := numF_bd pre
    obtain ⟨x, hx1, hx2⟩ := x
    obtain ⟨hbd1, hbd2⟩ := hbd
    have hsn := numF_snoc pre ⟨x, hx1, hx2⟩
    have hpl : pre.length < L.length := by omega
    generalize hN : numF pre = N at hc hbd1 hbd2 hsn
    generalize hM : numF (pre ++ [⟨x, hx1, hx2⟩]) = M at hsn
    have hM2 := Lib.hid hM
    have hN2 := Lib.hid hN
    have HSN := Lib.hid hsn
    clear hN hM hsn
    have hdrop : (L.drop pre.length).length = L.length - pre.length := by simp
    have hd0 : 1 ≤ (L.drop pre.length).length := by omega
    generalize hR : L.drop pre.length = R at hc2 hd0
    have HR := Lib.hid hR
    clear hR hdrop
    gi_wp2
    have e1 : (⟨R.toArray⟩ : ByteArray).extract 1 R.length = ⟨(L.drop (pre ++ [(⟨x, hx1, hx2⟩ : Dig)]).length).toArray⟩ := by
      rw [ext1, ← HR.out]; simp
    have e2 : min (10 * N + x) 100001 = numF (pre ++ [(⟨x, hx1, hx2⟩ : Dig)]) := by rw [hM2.out, HSN.out]
    rw [e1, e2]
    generalize hv1 : numF (pre ++ [(⟨x, hx1, hx2⟩ : Dig)]) = v1
    generalize hv2 : (⟨(L.drop (pre ++ [(⟨x, hx1, hx2⟩ : Dig)]).length).toArray⟩ : ByteArray) = v2
    have g1 := World.cell?_setCell_same' W ⟨w.heap.size, 0, none⟩ (.int .i64 v1) (by rw [hc]; rfl)
    have g2 : (W.setCell ⟨w.heap.size, 0, none⟩ (.int .i64 v1)).cell? ⟨w.heap.size + 1, 0, none⟩ = some (.string ⟨R.toArray⟩) := (grownBy_setCell W ⟨w.heap.size, 0, none⟩ (.int .i64 v1)).cell hc2 (by simp)
    have g3 := World.cell?_setCell_same' (W.setCell ⟨w.heap.size, 0, none⟩ (.int .i64 v1)) ⟨w.heap.size + 1, 0, none⟩ (.string v2) (by rw [g2]; rfl)
    have g4 := (grownBy_setCell (W.setCell ⟨w.heap.size, 0, none⟩ (.int .i64 v1)) ⟨w.heap.size + 1, 0, none⟩ (.string v2)).cell g1 (by simp)
    refine ⟨(KeepsOthers.setCell _ _ _).trans (KeepsOthers.setCell _ _ _), (Below.heap_setCell _ _ _ _ (by simp)).trans (Below.heap_setCell _ _ _ _ (by simp; try omega)), ⟨?_, ?_, ?_, ?_⟩, (hB.setCell (p := ⟨w.heap.size, 0, none⟩) (Nat.le_refl _) _).setCell (p := ⟨w.heap.size + 1, 0, none⟩) (by simp) _⟩
    · rw [hv1]; exact g4
    · rw [World.frozen?_setCell, World.frozen?_setCell]; exact hf
    · rw [hv2]; exact g3
    · rw [World.frozen?_setCell, World.frozen?_setCell]; exact hf2
  case done =>
    rintro D ys W hD rfl ⟨⟨hc, hf, hc2, hf2⟩, hB⟩ hK
    generalize hN : numF (digsV L) = N at hc ⊢
    generalize hR : (⟨(L.drop (digsV L).length).toArray⟩ : ByteArray) = R at hc2 ⊢
    gi_wp2
    gi_region
    all_goals
      gi_wp2
      have hDs : w.heap.size + 3 ≤ D := by simp at hD; omega
      have g1 := World.cell?_setCell_same' W ⟨w.heap.size, 0, none⟩ (.int .i64 N) (by rw [hc]; rfl)
      have g2 : (W.setCell ⟨w.heap.size, 0, none⟩ (.int .i64 N)).cell? ⟨w.heap.size + 1, 0, none⟩ = some (.string R) := (grownBy_setCell W ⟨w.heap.size, 0, none⟩ (.int .i64 N)).cell hc2 (by simp)
      have g3 := World.cell?_setCell_same' (W.setCell ⟨w.heap.size, 0, none⟩ (.int .i64 N)) ⟨w.heap.size + 1, 0, none⟩ (.string R) (by rw [g2]; rfl)
      have g4 := (grownBy_setCell (W.setCell ⟨w.heap.size, 0, none⟩ (.int .i64 N)) ⟨w.heap.size + 1, 0, none⟩ (.string R)).cell g1 (by simp)
      have hK' : (((W.setCell ⟨w.heap.size, 0, none⟩ (.int .i64 N)).setCell ⟨w.heap.size + 1, 0, none⟩ (.string R)).drew).heap[D]? = some (.deferred (some [])) := ((Below.heap_setCell _ _ _ _ (by simp; omega)).trans (Below.heap_setCell _ _ _ _ (by simp; omega))).trans hK
      have hBB : Below w.heap.size w (((W.setCell ⟨w.heap.size, 0, none⟩ (.int .i64 N)).setCell ⟨w.heap.size + 1, 0, none⟩ (.string R)).drew) := ((hB.setCell (p := ⟨w.heap.size, 0, none⟩) (Nat.le_refl _) _).setCell (p := ⟨w.heap.size + 1, 0, none⟩) (by simp) _).drew
      have hc5 := cell_kept (W := ((W.setCell ⟨w.heap.size, 0, none⟩ (.int .i64 N)).setCell ⟨w.heap.size + 1, 0, none⟩ (.string R)).drew) g4 (grownBy_putObj' _ D (.deferred none)) (fun r e => by cases e; exact ⟨_, hK', rfl⟩)
      have hc6 := cell_kept (W := ((W.setCell ⟨w.heap.size, 0, none⟩ (.int .i64 N)).setCell ⟨w.heap.size + 1, 0, none⟩ (.string R)).drew) g3 (grownBy_putObj' _ D (.deferred none)) (fun r e => by cases e; exact ⟨_, hK', rfl⟩)
      refine ⟨by simp, .inl ⟨_, _, rfl, run_takeDeferred hK', ?_⟩⟩
      refine ⟨.tuple #[.int .i64 N, .string R], ?_, by rw [hN, hR], hBB.trans (belowK_b (w := w) (Nat.le_refl _) _ D _ _ (by omega) hK' rfl rfl)⟩
      generalize World.putObj _ D _ = WF at hc5 hc6 ⊢
      simp [results, Tryz.f110, go_sem, hc5, hc6]
  case stop =>
    rintro D c pre W _ _ h _
    exact h.elim
theorem readDigits_any (L : List UInt8) (hLs : L.length ≤ 4294967200) (w : World) :
    Calls Tryz.prog 110 #[.string ⟨L.toArray⟩] w fun e W' => e = .returned (.tuple #[.int .i64 (numF (digsV L)), .string ⟨(L.drop (digsV L).length).toArray⟩]) ∧ Below w.heap.size w W' := by
  refine (callsIn_wide (n := 3)).1 ?_
  exact readDigits_in _ 3 trivial trivial trivial rfl (by omega) L hLs w
end Go.Proofs.YtedpafdfecofnaaGreatDoor

/-! ## S19 -/
namespace Go.Proofs.YtedpafdfecofnaaGreatDoor
open Go.RowKit Go.Maps Go.Shelf Go.Sort
theorem cutPrefix_any (L P M : List UInt8) (b : Bool) (hM : Hid (Lib.trimPrefix L P = M)) (hb : Hid (Lib.hasPrefix L P = b)) (w : World) :
    Calls Tryz.prog 129 #[.string ⟨L.toArray⟩, .string ⟨P.toArray⟩] w fun e w' => e = .returned (.tuple #[str M, .bool b]) ∧ w' = w := by
  refine (Tryz.strings_CutPrefix ⟨L.toArray⟩ ⟨P.toArray⟩ w).mono ?_
  rintro e w' ⟨rfl, rfl⟩
  exact ⟨by rw [← hM.out, ← hb.out], rfl⟩
theorem trimPrefix_any (L P M : List UInt8) (hM : Hid (Lib.trimPrefix L P = M)) (w : World) : Calls Tryz.prog 112 #[.string ⟨L.toArray⟩, .string ⟨P.toArray⟩] w fun e w' => e = .returned (str M) ∧ w' = w := by
  refine (Tryz.strings_TrimPrefix ⟨L.toArray⟩ ⟨P.toArray⟩ w).mono ?_
  rintro e w' ⟨rfl, rfl⟩
  exact ⟨by rw [← hM.out], rfl⟩
theorem readDigits_L (L C : List UInt8) (N : Int) (hN : Hid (numF (digsV L) = N)) (hC : Hid (L.drop (digsV L).length = C)) (hLs : L.length ≤ 4294967200) (w : World) :
    Calls Tryz.prog 110 #[.string ⟨L.toArray⟩] w fun e W' => e = .returned (.tuple #[.int .i64 N, str C]) ∧ Below w.heap.size w W' := by
  refine (readDigits_any L hLs w).mono ?_
  rintro e w' ⟨rfl, h⟩
  exact ⟨by rw [hN.out, hC.out], h⟩
theorem trimPrefix_len (l p : List UInt8) : (Lib.trimPrefix l p).length ≤ l.length := by
  unfold Lib.trimPrefix; split
  · simp
  · exact Nat.le_refl _
theorem str_inj {a b : List UInt8} : ((⟨a.toArray⟩ : ByteArray) = ⟨b.toArray⟩) ↔ a = b := by simp

/-- What 'readTerm' gives. -/
def rtB (L : List UInt8) : List UInt8 := Lib.trimPrefix (Lib.trimPrefix L [45]) [43]
def rtC (L : List UInt8) : List UInt8 := (rtB L).drop (digsV (rtB L)).length
def rtCoef (L : List UInt8) : Int := if rtC L = rtB L then 1 else numF (digsV (rtB L))
def rtE (L : List UInt8) : List UInt8 := Lib.trimPrefix (rtC L) [114]
def readTermF (L : List UInt8) : (Int × Int) × List UInt8 :=
  ((if Lib.hasPrefix L [45] = true then -rtCoef L else rtCoef L, if Lib.hasPrefix (rtC L) [114] = true then numF (digsV (rtE L)) else 1),
    if Lib.hasPrefix (rtC L) [114] = true then (rtE L).drop (digsV (rtE L)).length else rtC L)

def TermTo (t : (Int × Int) × List UInt8) (w : World) (e : Ending) (w' : World) : Prop :=
  e = .returned (.tuple #[.agg #[.int .i64 t.1.1, .int .i64 t.1.2], str t.2]) ∧ Below w.heap.size w w'

set_option maxRecDepth 100000 in
set_option maxHeartbeats 2000000 in
theorem readTerm_any (L : List UInt8) (hL : L.length ≤ 4294967200) (w : World) : Calls Tryz.prog 113 #[.string ⟨L.toArray⟩] w (TermTo (readTermF L) w) := by
  obtain ⟨A, hA⟩ : ∃ A, Lib.trimPrefix L [45] = A := ⟨_, rfl⟩
  obtain ⟨B, hB⟩ : ∃ B, rtB L = B := ⟨_, rfl⟩
  have hB2 : Lib.trimPrefix A [43] = B := by rw [← hA, ← hB]; rfl
  obtain ⟨C, hC⟩ : ∃ C, rtC L = C := ⟨_, rfl⟩
  have hC2 : B.drop (digsV B).length = C := by rw [← hC, ← hB]; rfl
  obtain ⟨N, hN⟩ : ∃ N, numF (digsV B) = N := ⟨_, rfl⟩
  obtain ⟨E, hE⟩ : ∃ E, rtE L = E := ⟨_, rfl⟩
  have hE2 : Lib.trimPrefix C [114] = E := by rw [← hE, ← hC]; rfl
  obtain ⟨M, hM⟩ : ∃ M, numF (digsV E) = M := ⟨_, rfl⟩
  obtain ⟨G, hG⟩ : ∃ G, E.drop (digsV E).length = G := ⟨_, rfl⟩
  obtain ⟨m, hm⟩ : ∃ m, Lib.hasPrefix L [45] = m := ⟨_, rfl⟩
  obtain ⟨q, hq⟩ : ∃ q, Lib.hasPrefix C [114] = q := ⟨_, rfl⟩
  have hN1 := numF_bd (digsV B)
  rw [hN] at hN1
  obtain ⟨hN1, hN2⟩ := hN1
  have hAl : A.length ≤ 4294967200 := by rw [← hA]; exact Nat.le_trans (trimPrefix_len _ _) hL
  have hBl : B.length ≤ 4294967200 := by rw [← hB2]; exact Nat.le_trans (trimPrefix_len _ _) hAl
  have hCl : C.length ≤ 4294967200 := by rw [← hC2]; simp; omega
  have hEl : E.length ≤ 4294967200 := by rw [← hE2]; exact Nat.le_trans (trimPrefix_len _ _) hCl
  have hF : readTermF L = ((if m = true then -(if C = B then 1 else N) else (if C = B then 1 else N), if q = true then M else 1), if q = true then G else C) := by
    unfold readTermF rtCoef
    rw [hm, hC, hB, hE, hq, hN, hM, hG]
  have HF := Lib.hid hF
  have HA := Lib.hid hA
  have HB := Lib.hid hB2
  have HC := Lib.hid hC2
  have HN := Lib.hid hN
  have HE := Lib.hid hE2
  have HM := Lib.hid hM
  have HG := Lib.hid hG
  have Hm := Lib.hid hm
  have Hq := Lib.hid hq
  clear hF hA hB hB2 hC hC2 hN hE hE2 hM hG hm hq
  go_enter Tryz.func113, Tryz.ntmps113
  go_wp2_with fail
  refine (cutPrefix_any L [45] A m HA Hm _).mono ?_
  rintro e w1 ⟨rfl, rfl⟩
  go_wp2_with fail
  refine (trimPrefix_any A [43] B HB _).mono ?_
  rintro e w1 ⟨rfl, rfl⟩
  go_wp2_with fail
  refine (readDigits_L B C N HN HC hBl _).mono ?_
  rintro e w1 ⟨rfl, hb1⟩
  have R1 := (Two.new w (.int .i64 1) (.int .i64 1) 34).below hb1 (by simp)
  have HB1 : Hid (Below w.heap.size w w1) := Lib.hid (((Below.refl _ _).alloc (Nat.le_refl _) _).trans (hb1.mono (by simp)))
  have HR1 := Lib.hid R1
  have r0 := R1.c0
  have r1 := R1.c1
  have f0 := R1.fr (i := 0)
  have f1 := R1.fr (i := 1)
  clear hb1 R1
  cases hcb : C == B
  · have hne : ¬ C = B := by intro e; rw [e] at hcb; simp at hcb
    have HF2 : Hid (readTermF L = ((if m = true then -N else N, if q = true then M else 1), if q = true then G else C)) := Lib.hid (by rw [HF.out, if_neg hne])
    have T2 : Two (w1.setCell ⟨w.heap.size, 0, none⟩ (.int .i64 N)) w.heap.size (.int .i64 N) (.int .i64 1) 34 := HR1.out.set0 _
    have HT2 := Lib.hid T2
    have HB2 : Hid (Below w.heap.size w (w1.setCell ⟨w.heap.size, 0, none⟩ (.int .i64 N))) := Lib.hid (HB1.out.setCell (Nat.le_refl _) _)
    clear hne T2
    go_wp2_with fail
    generalize hW2 : w1.setCell ⟨w.heap.size, 0, none⟩ (.int .i64 N) = W2 at HT2 HB2 ⊢
    clear hW2 r0 r1 f0 f1
    refine (cutPrefix_any C [114] E q HE Hq _).mono ?_
    rintro e w3 ⟨rfl, rfl⟩
    have r0 := HT2.out.c0
    have r1 := HT2.out.c1
    have f0 := HT2.out.fr (i := 0)
    have f1 := HT2.out.fr (i := 1)
    cases q
    · cases m
      · go_wp2
        obtain ⟨d0, d1, d2, hg⟩ := two_after HT2.out (.int .i64 N) (.int .i64 1) rfl
        refine bodyPost_ret (v := .tuple #[.agg #[.int .i64 N, .int .i64 1], str C]) ?_ rfl ?_
        · simp [results, Tryz.results113, go_sem, d0, d1, d2, r0, r1]
        · exact ⟨by rw [HF2.out]; rfl, HB2.out.grown hg HB2.out.size (by intro k hk; cases hk; omega)⟩
      · have T3 := HT2.out.set0 (.int .i64 (-N))
        have s0 := T3.c0
        have s1 := T3.c1
        have s2 := T3.fr (i := 0)
        have s3 := T3.fr (i := 1)
        go_wp2
        obtain ⟨d0, d1, d2, hg⟩ := two_after T3 (.int .i64 (-N)) (.int .i64 1) rfl
        refine bodyPost_ret (v := .tuple #[.agg #[.int .i64 (-N), .int .i64 1], str C]) ?_ rfl ?_
        · simp [results, Tryz.results113, go_sem, d0, d1, d2, r0, r1, s0, s1]
        · exact ⟨by rw [HF2.out]; rfl, (HB2.out.setCell (p := ⟨w.heap.size, 0, none⟩) (Nat.le_refl _) _).grown hg (HB2.out.setCell (p := ⟨w.heap.size, 0, none⟩) (Nat.le_refl _) (.int .i64 (-N))).size (by intro k hk; cases hk; omega)⟩
    · go_wp2_with fail
      refine (readDigits_L E G M HM HG hEl _).mono ?_
      rintro e w4 ⟨rfl, hb4⟩
      have T4 := HT2.out.below hb4 HT2.out.lt
      have HB4 : Hid (Below w.heap.size w w4) := Lib.hid (HB2.out.trans (hb4.mono HB2.out.size))
      have T5 := T4.set1 (.int .i64 M) rfl
      have HB5 := Lib.hid (HB4.out.setCell (p := ⟨w.heap.size, 1, none⟩) (Nat.le_refl _) (.int .i64 M))
      have t0 := T4.c0
      have t1 := T4.c1
      have t2 := T4.fr (i := 0)
      have t3 := T4.fr (i := 1)
      have u0 := T5.c0
      have u1 := T5.c1
      have u2 := T5.fr (i := 0)
      have u3 := T5.fr (i := 1)
      clear hb4 r0 r1 f0 f1
      cases m
      · go_wp2
        obtain ⟨d0, d1, d2, hg⟩ := two_after T5 (.int .i64 N) (.int .i64 M) rfl
        refine bodyPost_ret (v := .tuple #[.agg #[.int .i64 N, .int .i64 M], str G]) ?_ rfl ?_
        · simp [results, Tryz.results113, go_sem, d0, d1, d2, u0, u1]
        · exact ⟨by rw [HF2.out]; rfl, HB5.out.grown hg HB5.out.size (by intro k hk; cases hk; omega)⟩
      · have T3 := T5.set0 (.int .i64 (-N))
        have s0 := T3.c0
        have s1 := T3.c1
        have s2 := T3.fr (i := 0)
        have s3 := T3.fr (i := 1)
        go_wp2
        obtain ⟨d0, d1, d2, hg⟩ := two_after T3 (.int .i64 (-N)) (.int .i64 M) rfl
        refine bodyPost_ret (v := .tuple #[.agg #[.int .i64 (-N), .int .i64 M], str G]) ?_ rfl ?_
        · simp [results, Tryz.results113, go_sem, d0, d1, d2, u0, u1, s0, s1]
        · exact ⟨by rw [HF2.out]; rfl, (HB5.out.setCell (p := ⟨w.heap.size, 0, none⟩) (Nat.le_refl _) _).grown hg (HB5.out.setCell (p := ⟨w.heap.size, 0, none⟩) (Nat.le_refl _) (.int .i64 (-N))).size (by intro k hk; cases hk; omega)⟩
  · have he : C = B := eq_of_beq hcb
    subst he
    have HF2 : Hid (readTermF L = ((if m = true then -1 else 1, if q = true then M else 1), if q = true then G else C)) := Lib.hid (by rw [HF.out, if_pos rfl])
    have HT2 := HR1
    have HB2 := HB1
    have hN1 : (0 : Int) ≤ 1 := by omega
    have hN2 : (1 : Int) ≤ 100001 := by omega
    go_wp2_with fail
    generalize w1 = W2 at HT2 HB2 r0 r1 f0 f1 ⊢
    clear r0 r1 f0 f1
    refine (cutPrefix_any C [114] E q HE Hq _).mono ?_
    rintro e w3 ⟨rfl, rfl⟩
    have r0 := HT2.out.c0
    have r1 := HT2.out.c1
    have f0 := HT2.out.fr (i := 0)
    have f1 := HT2.out.fr (i := 1)
    cases q
    · cases m
      · go_wp2
        obtain ⟨d0, d1, d2, hg⟩ := two_after HT2.out (.int .i64 1) (.int .i64 1) rfl
        refine bodyPost_ret (v := .tuple #[.agg #[.int .i64 1, .int .i64 1], str C]) ?_ rfl ?_
        · simp [results, Tryz.results113, go_sem, d0, d1, d2, r0, r1]
        · exact ⟨by rw [HF2.out]; rfl, HB2.out.grown hg HB2.out.size (by intro k hk; cases hk; omega)⟩
      · have T3 := HT2.out.set0 (.int .i64 (-1))
        have s0 := T3.c0
        have s1 := T3.c1
        have s2 := T3.fr (i := 0)
        have s3 := T3.fr (i := 1)
        go_wp2
        obtain ⟨d0, d1, d2, hg⟩ := two_after T3 (.int .i64 (-1)) (.int .i64 1) rfl
        refine bodyPost_ret (v := .tuple #[.agg #[.int .i64 (-1), .int .i64 1], str C]) ?_ rfl ?_
        · simp [results, Tryz.results113, go_sem, d0, d1, d2, r0, r1, s0, s1]
        · exact ⟨by rw [HF2.out]; rfl, (HB2.out.setCell (p := ⟨w.heap.size, 0, none⟩) (Nat.le_refl _) _).grown hg (HB2.out.setCell (p := ⟨w.heap.size, 0, none⟩) (Nat.le_refl _) (.int .i64 (-1))).size (by intro k hk; cases hk; omega)⟩
    · go_wp2_with fail
      refine (readDigits_L E G M HM HG hEl _).mono ?_
      rintro e w4 ⟨rfl, hb4⟩
      have T4 := HT2.out.below hb4 HT2.out.lt
      have HB4 : Hid (Below w.heap.size w w4) := Lib.hid (HB2.out.trans (hb4.mono HB2.out.size))
      have T5 := T4.set1 (.int .i64 M) rfl
      have HB5 := Lib.hid (HB4.out.setCell (p := ⟨w.heap.size, 1, none⟩) (Nat.le_refl _) (.int .i64 M))
      have t0 := T4.c0
      have t1 := T4.c1
      have t2 := T4.fr (i := 0)
      have t3 := T4.fr (i := 1)
      have u0 := T5.c0
      have u1 := T5.c1
      have u2 := T5.fr (i := 0)
      have u3 := T5.fr (i := 1)
      clear hb4 r0 r1 f0 f1
      cases m
      · go_wp2
        obtain ⟨d0, d1, d2, hg⟩ := two_after T5 (.int .i64 1) (.int .i64 M) rfl
        refine bodyPost_ret (v := .tuple #[.agg #[.int .i64 1, .int .i64 M], str G]) ?_ rfl ?_
        · simp [results, Tryz.results113, go_sem, d0, d1, d2, u0, u1]
        · exact ⟨by rw [HF2.out]; rfl, HB5.out.grown hg HB5.out.size (by intro k hk; cases hk; omega)⟩
      · have T3 := T5.set0 (.int .i64 (-1))
        have s0 := T3.c0
        have s1 := T3.c1
        have s2 := T3.fr (i := 0)
        have s3 := T3.fr (i := 1)
        go_wp2
        obtain ⟨d0, d1, d2, hg⟩ := two_after T3 (.int .i64 (-1)) (.int .i64 M) rfl
        refine bodyPost_ret (v := .tuple #[.agg #[.int .i64 (-1), .int .i64 M], str G]) ?_ rfl ?_
        · simp [results, Tryz.results113, go_sem, d0, d1, d2, u0, u1, s0, s1]
        · exact ⟨by rw [HF2.out]; rfl, (HB5.out.setCell (p := ⟨w.heap.size, 0, none⟩) (Nat.le_refl _) _).grown hg (HB5.out.setCell (p := ⟨w.heap.size, 0, none⟩) (Nat.le_refl _) (.int .i64 (-1))).size (by intro k hk; cases hk; omega)⟩
end Go.Proofs.YtedpafdfecofnaaGreatDoor
