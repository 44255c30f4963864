/-
  Contracts of the program's own functions (and their plain mathematics), on the way to the law: each for all arguments that its hypotheses let.
-/
import Derived.Test.YtkjclafbpocabaaGreatDoorG9
import Derived.WalkKit
import Derived.WalkSpells
import Derived.WalkLawsBesides
import Derived.Deep.QuietTactic
import Derived.BigQuiet
import Derived.Lib.Hide
import Derived.WalkSmall
import Derived.Maps.OwnSet
import Derived.Maps.RangeWalk
import Derived.Deep.RegionWith
import Derived.Deep.RegionHeld3
import Derived.OneCell
import Derived.StillTailTactics
import Derived.Laws.Externs
import Derived.RangeFuncBox
import Derived.Test.YtkjclafbpocabaaGreatDoorPlain
set_option linter.unusedSimpArgs false
set_option linter.unusedVariables false

/-! ## S23 -/
namespace Go.Proofs.YtkjclafbpocabaaGreatDoor
open Go.RowKit Go.Maps Go.Shelf Go.Sort
theorem WordsAt.reads {w : World} {v : Value} {ws : List Nat} (h : WordsAt w v ws) : ∃ p cap, v = .slice p ws.length cap ∧ ∀ i, i < ws.length → ∃ bk off, p = some ⟨bk, off, none⟩ ∧ ws.length ≤ cap ∧ bk < w.heap.size ∧ w.cell? ⟨bk, off + i, none⟩ = some (.int .u64 (ws.getD i 0 : Nat)) := by
  rcases h.2 with ⟨rfl, a', cap', rfl⟩ | ⟨bk, off, cap, rfl, hcap, hbk, hcells⟩
  · exact ⟨a', cap', rfl, fun i hi => absurd hi (by simp)⟩
  · exact ⟨_, cap, rfl, fun i hi => ⟨bk, off, rfl, hcap, hbk, hcells i hi⟩⟩
def uv (ws : List Nat) : List Value := ws.map fun n => Value.int .u64 (n : Nat)
theorem uv_get (ws : List Nat) (i : Nat) (h : i < ws.length) : (uv ws)[i]? = some (.int .u64 (ws.getD i 0 : Nat)) := by
  simp [uv, List.getD_eq_getElem?_getD, h]
def OwnW (w : World) (base : Nat) (v : Value) (ws : List Nat) : Prop := w.ownsRow base 220 1 v ws.length (uv ws)
theorem OwnW.at {w : World} {base : Nat} {v : Value} {ws : List Nat} (h : OwnW w base v ws) (hl : ws.length ≤ 1000000) : WordsAt w v ws := by
  refine ⟨hl, ?_⟩
  have h' := h
  obtain ⟨_, ⟨hv, h0⟩ | ⟨g, cap, cur, rfl, hbase, hb, hcap, _⟩⟩ := h
  · exact .inl ⟨List.length_eq_zero_iff.1 h0, none, 0, hv⟩
  · refine .inr ⟨g, 0, cap, rfl, hcap, (Array.getElem?_eq_some_iff.1 hb).1, fun i hi => ?_⟩
    have := World.ownsRow.cells h' (g := g) rfl i _ (uv_get ws i hi)
    have hadd : (⟨g, 0, none⟩ : Addr).add i = ⟨g, i, none⟩ := by unfold Addr.add; split <;> simp_all
    rw [hadd] at this
    rw [Nat.zero_add]; exact this
theorem OwnW.cellAt {w : World} {base g cap : Nat} {ws : List Nat} (h : OwnW w base (.slice (some ⟨g, 0, none⟩) ws.length cap) ws) (i : Nat) (hi : i < ws.length) :
    w.cell? ⟨g, i, none⟩ = some (.int .u64 (ws.getD i 0 : Nat)) := by
  rw [World.ownsRow.cellAt h i (by omega), uv_get ws i hi]
theorem uv_set (ws : List Nat) (k x : Nat) : uv (ws.set k x) = (uv ws).set k (.int .u64 (x : Nat)) := by
  simp [uv, List.map_set]
theorem OwnW.store {w : World} {base g cap : Nat} {ws : List Nat} (h : OwnW w base (.slice (some ⟨g, 0, none⟩) ws.length cap) ws) (k x : Nat) :
    OwnW (w.setCell ⟨g, k, none⟩ (.int .u64 (x : Nat))) base (.slice (some ⟨g, 0, none⟩) ws.length cap) (ws.set k x) := by
  have := World.ownsRow.stored h k (.int .u64 (x : Nat))
  unfold OwnW
  rw [uv_set, List.length_set]
  exact this.1
theorem made_zero (n : Nat) : (madeCells (Value.int .u64 0).cells (n * 1)).toList = uv (List.replicate n 0) := by
  rw [Nat.mul_one]
  apply List.ext_getElem?
  intro i
  by_cases h : i < n <;> simp [madeCells, uv, Value.cells, h, Nat.mod_one]
theorem und104 : Tryz.prog.underlying 204 = some (.slice 220) := by kernel_rfl
theorem valW_take_succ (us : List Nat) (i : Nat) : valW (us.take (i + 1)) = valW (us.take i) + 18446744073709551616 ^ i * us.getD i 0 := by
  by_cases h : i < us.length
  · rw [List.take_succ_eq_append_getElem h, valW_append, List.length_take, Nat.min_eq_left (Nat.le_of_lt h)]
    simp [valW, List.getD_eq_getElem?_getD, h]
  · rw [List.take_of_length_le (by omega), List.take_of_length_le (by omega)]
    simp [List.getD_eq_getElem?_getD, show us.length ≤ i by omega]
theorem take_set_ge {ws : List Nat} {i k x : Nat} (h : i ≤ k) : (ws.set k x).take i = ws.take i := by
  apply List.ext_getElem?
  intro j
  simp only [List.getElem?_take, List.getElem?_set]
  split <;> rename_i h1
  · rw [if_neg (by omega)]
  · rfl
theorem getD_set_eq {ws : List Nat} {k x : Nat} (h : k < ws.length) : (ws.set k x).getD k 0 = x := by
  simp [List.getD_eq_getElem?_getD, h]
theorem small_set {ws : List Nat} {k x : Nat} (h : Small ws) (hx : x < 18446744073709551616) : Small (ws.set k x) := fun y hy => by
  rcases List.mem_or_eq_of_mem_set hy with h1 | rfl
  · exact h y h1
  · exact hx
def NatTo (n : Nat) (w : World) (e : Ending) (w' : World) : Prop := ∃ v, e = .returned v ∧ WordsAt w' v (toW n) ∧ Below w.heap.size w w'
theorem add64_run (x y c : Nat) (hc : c ≤ 1) (w : World) :
    (callFunc 257 #[.int .u64 x, .int .u64 y, .int .u64 c]).run Tryz.prog w =
      .ok (.value (.tuple #[.int .u64 ((x + y + c) % 18446744073709551616 : Nat), .int .u64 ((x + y + c) / 18446744073709551616 : Nat)])) w := by
  rw [run_callFunc_extern Tryz.func257 (by kernel_rfl) (by kernel_rfl) (by kernel_rfl) (e := add64Entry) (by kernel_rfl), run_add64 x y c (by omega) (by omega) (by omega) (by omega)]
  simp only [Result.andThen]
  congr 5 <;> omega

theorem info114 : (Tryz.prog.info? 220).map (fun i => (i.zero, i.size, i.bytes)) = some (some (.int .u64 0), 1, 8) := by kernel_rfl
def PlusI (w wr : World) (g cap : Nat) (ws us : List Nat) (i c : Nat) : Prop :=
  ∃ L, OwnW wr w.heap.size (.slice (some ⟨g, 0, none⟩) (ws.length + 1) (ws.length + 1)) L ∧ L.length = ws.length + 1 ∧ Small L ∧ valW (L.take i) + 18446744073709551616 ^ i * c = valW (ws.take i) + valW (us.take i) ∧ c ≤ 1 ∧ Below w.heap.size w wr

set_option maxRecDepth 100000 in
set_option maxHeartbeats 2000000 in
theorem plus_long (v u : Value) (a b : Nat) (w : World) (h : WordsAt w v (toW a)) (g : WordsAt w u (toW b)) (hla : (toW a).length ≤ 1000) (hlb : (toW b).length ≤ (toW a).length) :
    Calls Tryz.prog 235 #[v, u] w (NatTo (a + b) w) := by
  obtain ⟨ws, hws⟩ : ∃ ws, toW a = ws := ⟨_, rfl⟩
  obtain ⟨us, hus⟩ : ∃ us, toW b = us := ⟨_, rfl⟩
  have ha : valW ws = a := by rw [← hws, valW_toW]
  have hb : valW us = b := by rw [← hus, valW_toW]
  have hsa : Small ws := by rw [← hws]; exact toW_small a
  have hsb : Small us := by rw [← hus]; exact toW_small b
  rw [hws] at h hla hlb
  rw [hus] at g hlb
  clear hws hus
  obtain ⟨p, cap, rfl, hp⟩ := h.reads
  obtain ⟨q, cap2, rfl⟩ := g.shape
  have HP := Lib.hid hp
  have HG := Lib.hid g
  have HA := Lib.hid ha
  have HB := Lib.hid hb
  have HSA := Lib.hid hsa
  have HSB := Lib.hid hsb
  clear h g hp ha hb hsa hsb
  go_enter Tryz.func235, Tryz.ntmps235
  obtain ⟨i0, hi, hz0, hz1, hz2⟩ := info_parts info114
  go_wp2_with (first | (at_make; refine wpList_make_full _ rfl _ _ 204 rfl w.heap.size 220 i0 (.int .u64 0) 1 und104 hi hz0 hz1 .i64 .i64 _ _ (ws.length + 1) rfl rfl (by simp) (by simp) (by rw [hz2]; omega) (by unfold maxLen; omega) (Nat.le_refl _) ?_; intro w1 hown hgrow; rw [made_zero] at hown; have HOW := Lib.hid hown; have HGR := Lib.hid hgrow; clear hown hgrow))
  have HI0 : Hid (PlusI w w1 w.heap.size 0 ws us 0 0) := by
    refine Lib.hid ⟨List.replicate (ws.length + 1) 0, ?_, by simp, ?_, by simp [valW], by omega, ?_⟩
    · have := HOW.out
      unfold OwnW
      rw [List.length_replicate]
      exact this
    · intro x hx; rw [List.eq_of_mem_replicate hx]; omega
    · exact (Below.refl _ w).grown HGR.out (Nat.le_refl _) (by intro q hq; cases hq)
  go_loopw [6, 21] (fun s t wr => ∃ i c : Nat, s = .int .u64 (c : Nat) ∧ t = .int .i64 (i : Nat) ∧ i ≤ ws.length ∧ Hid (PlusI w wr w.heap.size 0 ws us i c)) (fun _ t _ => ws.length - (intOf t).toNat)
  case atStart => exact ⟨0, 0, rfl, rfl, Nat.zero_le _, HI0⟩
  case round =>
    obtain ⟨i, c, rfl, rfl, hi', HI⟩ := hrel
    by_cases hlt : i < ws.length
    · obtain ⟨L, ho, hL, hsm, hval, hc, hbw⟩ := HI.out
      obtain ⟨bk, off, rfl, hcap1, hbk, hc1⟩ := HP.out i hlt
      have hc1 := (hbw.cell (p := ⟨bk, off + i, none⟩) hbk).trans hc1
      obtain ⟨x, hx⟩ : ∃ x, ws.getD i 0 = x := ⟨_, rfl⟩
      obtain ⟨y, hy⟩ : ∃ y, us.getD i 0 = y := ⟨_, rfl⟩
      rw [hx] at hc1
      have HX := Lib.hid hx
      have HY := Lib.hid hy
      have hwd := fun w0 h0 => word_any (.slice q us.length cap2) us i w0 h0 (by omega)
      rw [hy] at hwd
      have HWD := Lib.hid hwd
      obtain ⟨lo, co, hadd, hlc⟩ : ∃ lo co : Nat, (∀ w0, (callFunc 257 #[.int .u64 x, .int .u64 y, .int .u64 c]).run Tryz.prog w0 = .ok (.value (.tuple #[.int .u64 lo, .int .u64 co])) w0) ∧ Hid (lo + 18446744073709551616 * co = x + y + c ∧ lo < 18446744073709551616) :=
        ⟨_, _, fun w0 => add64_run x y c hc w0, Lib.hid ⟨by omega, by omega⟩⟩
      have HGW := Lib.hid (HG.out.below hbw)
      have hij : (i : Int) < (ws.length : Int) := by omega
      have hij2 : (i : Int) < (ws.length : Int) + 1 := by omega
      have hij3 : (0 : Int) ≤ (i : Int) := by omega
      have ho' : OwnW wr w.heap.size (.slice (some ⟨w.heap.size, 0, none⟩) L.length (ws.length + 1)) L := by rw [hL]; exact ho
      clear hx hy hwd
      have hci := ho'.cellAt i (by rw [hL]; omega)
      have hfi : wr.frozen? ⟨w.heap.size, i, none⟩ = false := World.ownsRow.frozenAt ho' i
      obtain ⟨z, hz⟩ : ∃ z, L.getD i 0 = z := ⟨_, rfl⟩
      rw [hz] at hci
      have HO' := Lib.hid ho'
      have HBW := Lib.hid hbw
      have HSM := Lib.hid hsm
      have HVAL := Lib.hid hval
      clear ho ho' hbw hsm hval hz
      go_wp2
      have hk1 : ∀ u', (wr.setCell ⟨w.heap.size, i, none⟩ u').drew.cell? ⟨bk, off + i, none⟩ = some (.int .u64 (x : Nat)) := fun u' => ((((Below.refl w.heap.size wr).setCell (by simp) u').drew).cell (p := ⟨bk, off + i, none⟩) hbk).trans hc1
      have hk2 : ∀ u', WordsAt (wr.setCell ⟨w.heap.size, i, none⟩ u').drew (.slice q us.length cap2) us := fun u' => HG.out.below ((HBW.out.setCell (by simp) u').drew)
      have HK1 := Lib.hid hk1
      have HK2 := Lib.hid hk2
      clear hk1 hk2
      go_region_held3 (fun w' => w'.cell? ⟨bk, off + i, none⟩ = some (.int .u64 (x : Nat)) ∧ WordsAt w' (.slice q us.length cap2) us) (first | exact ⟨hc1, HGW.out⟩ | exact ⟨HK1.out _, HK2.out _⟩ | go_keep) (first | (go_at_call 201; refine (HWD.out _ (by assumption)).mono ?_; rintro e w3 ⟨rfl, rfl⟩))
      have HI2 : Hid (PlusI w ((wr.setCell ⟨w.heap.size, i, none⟩ (.int .u64 (lo : Nat))).drew) w.heap.size 0 ws us (i + 1) co) := by
        have h1 : OwnW (wr.setCell ⟨w.heap.size, i, none⟩ (.int .u64 (lo : Nat))) w.heap.size (.slice (some ⟨w.heap.size, 0, none⟩) L.length (ws.length + 1)) (L.set i lo) := HO'.out.store i lo
        rw [hL] at h1
        obtain ⟨hq1, hq2⟩ := hlc.out
        refine Lib.hid ⟨L.set i lo, h1, by rw [List.length_set, hL], small_set HSM.out hq2, ?_, ?_, (HBW.out.setCell (by simp) _).drew⟩
        · rw [valW_take_succ, valW_take_succ ws, valW_take_succ us, take_set_ge (Nat.le_refl i), getD_set_eq (by omega), HX.out, HY.out]
          have hv := HVAL.out
          have hp : 18446744073709551616 ^ (i + 1) * co = 18446744073709551616 ^ i * (18446744073709551616 * co) := by rw [Nat.pow_succ, Nat.mul_assoc]
          rw [hp]
          generalize 18446744073709551616 ^ i = P at hv ⊢
          have e1 : P * lo + P * (18446744073709551616 * co) = P * (x + y + c) := by rw [← Nat.mul_add, hq1]
          have e2 : P * (x + y + c) = P * x + P * y + P * c := by rw [Nat.mul_add, Nat.mul_add]
          omega
        · have hx : x < 18446744073709551616 := by rw [← HX.out]; exact getD_small HSA.out _
          have hy : y < 18446744073709551616 := by rw [← HY.out]; exact getD_small HSB.out _
          omega
      clear hlc hci hfi HK1 HK2 hadd HI
      go_wp2
      go_roundw
      case rel => exact ⟨i + 1, co, rfl, by go_num, by omega, HI2⟩
      case measure => simp [intOf]; omega
    · have hie : i = ws.length := by omega
      subst hie
      obtain ⟨L, ho, hL, hsm, hval, hc, hbw⟩ := HI.out
      have ho' : OwnW wr w.heap.size (.slice (some ⟨w.heap.size, 0, none⟩) L.length (ws.length + 1)) L := by rw [hL]; exact ho
      have hci := ho'.cellAt ws.length (by rw [hL]; omega)
      have hfi : wr.frozen? ⟨w.heap.size, ws.length, none⟩ = false := World.ownsRow.frozenAt ho' ws.length
      obtain ⟨z, hz⟩ : ∃ z, L.getD ws.length 0 = z := ⟨_, rfl⟩
      rw [hz] at hci
      have HEND : Hid (WordsAt (wr.setCell ⟨w.heap.size, ws.length, none⟩ (.int .u64 (c : Nat))) (.slice (some ⟨w.heap.size, 0, none⟩) (L.set ws.length c).length (ws.length + 1)) (L.set ws.length c)) := by
        have h1 := ho'.store ws.length c
        have el : L.length = (L.set ws.length c).length := by rw [List.length_set]
        rw [el] at h1
        exact Lib.hid (h1.at (by rw [List.length_set, hL]; omega))
      have HSM := Lib.hid (small_set hsm (show c < 18446744073709551616 by omega) (k := ws.length))
      have HV : Hid (trimW (L.set ws.length c) = toW (a + b)) := by
        have e : L.set ws.length c = (L.set ws.length c).take (ws.length + 1) := by rw [List.take_of_length_le (by rw [List.length_set, hL]; exact Nat.le_refl _)]
        refine Lib.hid ?_
        unfold trimW
        rw [e, valW_take_succ, take_set_ge (Nat.le_refl _), getD_set_eq (by omega), hval, List.take_of_length_le (Nat.le_refl _), List.take_of_length_le hlb, HA.out, HB.out]
      have hlen2 : (L.set ws.length c).length = ws.length + 1 := by rw [List.length_set, hL]
      have htr := trimmed_any (some ⟨w.heap.size, 0, none⟩) (ws.length + 1) (L.set ws.length c) _ HEND.out HSM.out
      rw [hlen2, HV.out] at htr
      have HTR := Lib.hid htr
      have HBW : Hid (Below w.heap.size w (wr.setCell ⟨w.heap.size, ws.length, none⟩ (.int .u64 (c : Nat)))) := Lib.hid (hbw.setCell (by simp) _)
      clear ho ho' hbw hsm hval hz htr hlen2 HEND HI hlt
      go_wp2_with fail
      refine HTR.out.mono ?_
      rintro e w2 ⟨rfl, hwt, rfl⟩
      have HWT := Lib.hid hwt
      clear hwt HTR
      go_wp2
      go_ret
      exact ⟨_, rfl, HWT.out, HBW.out⟩

set_option maxRecDepth 100000 in
set_option maxHeartbeats 2000000 in
theorem plus_short (v u : Value) (a b : Nat) (w : World) (h : WordsAt w v (toW a)) (g : WordsAt w u (toW b)) (hla : (toW a).length ≤ 1000) (hlt0 : (toW b).length < (toW a).length) :
    Calls Tryz.prog 235 #[u, v] w (NatTo (a + b) w) := by
  obtain ⟨ws, hws⟩ : ∃ ws, toW a = ws := ⟨_, rfl⟩
  obtain ⟨us, hus⟩ : ∃ us, toW b = us := ⟨_, rfl⟩
  have ha : valW ws = a := by rw [← hws, valW_toW]
  have hb : valW us = b := by rw [← hus, valW_toW]
  have hsa : Small ws := by rw [← hws]; exact toW_small a
  have hsb : Small us := by rw [← hus]; exact toW_small b
  rw [hws] at h hla hlt0
  rw [hus] at g hlt0
  have hlb : us.length ≤ ws.length := Nat.le_of_lt hlt0
  clear hws hus
  obtain ⟨p, cap, rfl, hp⟩ := h.reads
  obtain ⟨q, cap2, rfl⟩ := g.shape
  have HP := Lib.hid hp
  have HG := Lib.hid g
  have HA := Lib.hid ha
  have HB := Lib.hid hb
  have HSA := Lib.hid hsa
  have HSB := Lib.hid hsb
  clear h g hp ha hb hsa hsb
  go_enter Tryz.func235, Tryz.ntmps235
  obtain ⟨i0, hi, hz0, hz1, hz2⟩ := info_parts info114
  go_wp2_with (first | (at_make; refine wpList_make_full _ rfl _ _ 204 rfl w.heap.size 220 i0 (.int .u64 0) 1 und104 hi hz0 hz1 .i64 .i64 _ _ (ws.length + 1) rfl rfl (by simp) (by simp) (by rw [hz2]; omega) (by unfold maxLen; omega) (Nat.le_refl _) ?_; intro w1 hown hgrow; rw [made_zero] at hown; have HOW := Lib.hid hown; have HGR := Lib.hid hgrow; clear hown hgrow))
  have HI0 : Hid (PlusI w w1 w.heap.size 0 ws us 0 0) := by
    refine Lib.hid ⟨List.replicate (ws.length + 1) 0, ?_, by simp, ?_, by simp [valW], by omega, ?_⟩
    · have := HOW.out
      unfold OwnW
      rw [List.length_replicate]
      exact this
    · intro x hx; rw [List.eq_of_mem_replicate hx]; omega
    · exact (Below.refl _ w).grown HGR.out (Nat.le_refl _) (by intro q hq; cases hq)
  go_loopw [6, 21] (fun s t wr => ∃ i c : Nat, s = .int .u64 (c : Nat) ∧ t = .int .i64 (i : Nat) ∧ i ≤ ws.length ∧ Hid (PlusI w wr w.heap.size 0 ws us i c)) (fun _ t _ => ws.length - (intOf t).toNat)
  case atStart => exact ⟨0, 0, rfl, rfl, Nat.zero_le _, HI0⟩
  case round =>
    obtain ⟨i, c, rfl, rfl, hi', HI⟩ := hrel
    by_cases hlt : i < ws.length
    · obtain ⟨L, ho, hL, hsm, hval, hc, hbw⟩ := HI.out
      obtain ⟨bk, off, rfl, hcap1, hbk, hc1⟩ := HP.out i hlt
      have hc1 := (hbw.cell (p := ⟨bk, off + i, none⟩) hbk).trans hc1
      obtain ⟨x, hx⟩ : ∃ x, ws.getD i 0 = x := ⟨_, rfl⟩
      obtain ⟨y, hy⟩ : ∃ y, us.getD i 0 = y := ⟨_, rfl⟩
      rw [hx] at hc1
      have HX := Lib.hid hx
      have HY := Lib.hid hy
      have hwd := fun w0 h0 => word_any (.slice q us.length cap2) us i w0 h0 (by omega)
      rw [hy] at hwd
      have HWD := Lib.hid hwd
      obtain ⟨lo, co, hadd, hlc⟩ : ∃ lo co : Nat, (∀ w0, (callFunc 257 #[.int .u64 x, .int .u64 y, .int .u64 c]).run Tryz.prog w0 = .ok (.value (.tuple #[.int .u64 lo, .int .u64 co])) w0) ∧ Hid (lo + 18446744073709551616 * co = x + y + c ∧ lo < 18446744073709551616) :=
        ⟨_, _, fun w0 => add64_run x y c hc w0, Lib.hid ⟨by omega, by omega⟩⟩
      have HGW := Lib.hid (HG.out.below hbw)
      have hij : (i : Int) < (ws.length : Int) := by omega
      have hij2 : (i : Int) < (ws.length : Int) + 1 := by omega
      have hij3 : (0 : Int) ≤ (i : Int) := by omega
      have ho' : OwnW wr w.heap.size (.slice (some ⟨w.heap.size, 0, none⟩) L.length (ws.length + 1)) L := by rw [hL]; exact ho
      clear hx hy hwd
      have hci := ho'.cellAt i (by rw [hL]; omega)
      have hfi : wr.frozen? ⟨w.heap.size, i, none⟩ = false := World.ownsRow.frozenAt ho' i
      obtain ⟨z, hz⟩ : ∃ z, L.getD i 0 = z := ⟨_, rfl⟩
      rw [hz] at hci
      have HO' := Lib.hid ho'
      have HBW := Lib.hid hbw
      have HSM := Lib.hid hsm
      have HVAL := Lib.hid hval
      clear ho ho' hbw hsm hval hz
      go_wp2
      have hk1 : ∀ u', (wr.setCell ⟨w.heap.size, i, none⟩ u').drew.cell? ⟨bk, off + i, none⟩ = some (.int .u64 (x : Nat)) := fun u' => ((((Below.refl w.heap.size wr).setCell (by simp) u').drew).cell (p := ⟨bk, off + i, none⟩) hbk).trans hc1
      have hk2 : ∀ u', WordsAt (wr.setCell ⟨w.heap.size, i, none⟩ u').drew (.slice q us.length cap2) us := fun u' => HG.out.below ((HBW.out.setCell (by simp) u').drew)
      have HK1 := Lib.hid hk1
      have HK2 := Lib.hid hk2
      clear hk1 hk2
      go_region_held3 (fun w' => w'.cell? ⟨bk, off + i, none⟩ = some (.int .u64 (x : Nat)) ∧ WordsAt w' (.slice q us.length cap2) us) (first | exact ⟨hc1, HGW.out⟩ | exact ⟨HK1.out _, HK2.out _⟩ | go_keep) (first | (go_at_call 201; refine (HWD.out _ (by assumption)).mono ?_; rintro e w3 ⟨rfl, rfl⟩))
      have HI2 : Hid (PlusI w ((wr.setCell ⟨w.heap.size, i, none⟩ (.int .u64 (lo : Nat))).drew) w.heap.size 0 ws us (i + 1) co) := by
        have h1 : OwnW (wr.setCell ⟨w.heap.size, i, none⟩ (.int .u64 (lo : Nat))) w.heap.size (.slice (some ⟨w.heap.size, 0, none⟩) L.length (ws.length + 1)) (L.set i lo) := HO'.out.store i lo
        rw [hL] at h1
        obtain ⟨hq1, hq2⟩ := hlc.out
        refine Lib.hid ⟨L.set i lo, h1, by rw [List.length_set, hL], small_set HSM.out hq2, ?_, ?_, (HBW.out.setCell (by simp) _).drew⟩
        · rw [valW_take_succ, valW_take_succ ws, valW_take_succ us, take_set_ge (Nat.le_refl i), getD_set_eq (by omega), HX.out, HY.out]
          have hv := HVAL.out
          have hp : 18446744073709551616 ^ (i + 1) * co = 18446744073709551616 ^ i * (18446744073709551616 * co) := by rw [Nat.pow_succ, Nat.mul_assoc]
          rw [hp]
          generalize 18446744073709551616 ^ i = P at hv ⊢
          have e1 : P * lo + P * (18446744073709551616 * co) = P * (x + y + c) := by rw [← Nat.mul_add, hq1]
          have e2 : P * (x + y + c) = P * x + P * y + P * c := by rw [Nat.mul_add, Nat.mul_add]
          omega
        · have hx : x < 18446744073709551616 := by rw [← HX.out]; exact getD_small HSA.out _
          have hy : y < 18446744073709551616 := by rw [← HY.out]; exact getD_small HSB.out _
          omega
      clear hlc hci hfi HK1 HK2 hadd HI
      go_wp2
      go_roundw
      case rel => exact ⟨i + 1, co, rfl, by go_num, by omega, HI2⟩
      case measure => simp [intOf]; omega
    · have hie : i = ws.length := by omega
      subst hie
      obtain ⟨L, ho, hL, hsm, hval, hc, hbw⟩ := HI.out
      have ho' : OwnW wr w.heap.size (.slice (some ⟨w.heap.size, 0, none⟩) L.length (ws.length + 1)) L := by rw [hL]; exact ho
      have hci := ho'.cellAt ws.length (by rw [hL]; omega)
      have hfi : wr.frozen? ⟨w.heap.size, ws.length, none⟩ = false := World.ownsRow.frozenAt ho' ws.length
      obtain ⟨z, hz⟩ : ∃ z, L.getD ws.length 0 = z := ⟨_, rfl⟩
      rw [hz] at hci
      have HEND : Hid (WordsAt (wr.setCell ⟨w.heap.size, ws.length, none⟩ (.int .u64 (c : Nat))) (.slice (some ⟨w.heap.size, 0, none⟩) (L.set ws.length c).length (ws.length + 1)) (L.set ws.length c)) := by
        have h1 := ho'.store ws.length c
        have el : L.length = (L.set ws.length c).length := by rw [List.length_set]
        rw [el] at h1
        exact Lib.hid (h1.at (by rw [List.length_set, hL]; omega))
      have HSM := Lib.hid (small_set hsm (show c < 18446744073709551616 by omega) (k := ws.length))
      have HV : Hid (trimW (L.set ws.length c) = toW (a + b)) := by
        have e : L.set ws.length c = (L.set ws.length c).take (ws.length + 1) := by rw [List.take_of_length_le (by rw [List.length_set, hL]; exact Nat.le_refl _)]
        refine Lib.hid ?_
        unfold trimW
        rw [e, valW_take_succ, take_set_ge (Nat.le_refl _), getD_set_eq (by omega), hval, List.take_of_length_le (Nat.le_refl _), List.take_of_length_le hlb, HA.out, HB.out]
      have hlen2 : (L.set ws.length c).length = ws.length + 1 := by rw [List.length_set, hL]
      have htr := trimmed_any (some ⟨w.heap.size, 0, none⟩) (ws.length + 1) (L.set ws.length c) _ HEND.out HSM.out
      rw [hlen2, HV.out] at htr
      have HTR := Lib.hid htr
      have HBW : Hid (Below w.heap.size w (wr.setCell ⟨w.heap.size, ws.length, none⟩ (.int .u64 (c : Nat)))) := Lib.hid (hbw.setCell (by simp) _)
      clear ho ho' hbw hsm hval hz htr hlen2 HEND HI hlt
      go_wp2_with fail
      refine HTR.out.mono ?_
      rintro e w2 ⟨rfl, hwt, rfl⟩
      have HWT := Lib.hid hwt
      clear hwt HTR
      go_wp2
      go_ret
      exact ⟨_, rfl, HWT.out, HBW.out⟩

theorem plus_any (v u : Value) (a b : Nat) (w : World) (h : WordsAt w v (toW a)) (g : WordsAt w u (toW b)) (hla : (toW a).length ≤ 1000) (hlb : (toW b).length ≤ 1000) :
    Calls Tryz.prog 235 #[v, u] w (NatTo (a + b) w) := by
  rcases Nat.lt_or_ge (toW a).length (toW b).length with hl | hl
  · rw [Nat.add_comm]; exact plus_short u v b a w g h hlb hl
  · exact plus_long v u a b w h g hla hl
end Go.Proofs.YtkjclafbpocabaaGreatDoor

/-! ## S24 -/
namespace Go.Proofs.YtkjclafbpocabaaGreatDoor
open Go.RowKit Go.Maps Go.Shelf Go.Sort
def sub64Entry : Array Value → Sem Value := fun args => do
  let (x, y, b) ← Extern.MathBitsCarry.three "Sub64" args
  pure (Extern.MathBitsCarry.pair ((x + Extern.MathBitsCarry.m64 - y - b) % Extern.MathBitsCarry.m64) (if x < y + b then 1 else 0))
theorem sub64_run (x y c : Nat) (hc : c ≤ 1) (w : World) :
    (callFunc 237 #[.int .u64 x, .int .u64 y, .int .u64 c]).run Tryz.prog w =
      .ok (.value (.tuple #[.int .u64 ((x + 18446744073709551616 - y - c) % 18446744073709551616 : Nat), .int .u64 ((if x < y + c then 1 else 0 : Nat) : Nat)])) w := by
  rw [run_callFunc_extern Tryz.func237 (by kernel_rfl) (by kernel_rfl) (by kernel_rfl) (e := sub64Entry) (by kernel_rfl)]
  have : c = 0 ∨ c = 1 := by omega
  rcases this with rfl | rfl <;> rfl
def MinusI (w wr : World) (g cap : Nat) (ws us : List Nat) (i c : Nat) : Prop :=
  ∃ L, OwnW wr w.heap.size (.slice (some ⟨g, 0, none⟩) ws.length ws.length) L ∧ L.length = ws.length ∧ Small L ∧ valW (L.take i) + valW (us.take i) = valW (ws.take i) + 18446744073709551616 ^ i * c ∧ c ≤ 1 ∧ Below w.heap.size w wr

set_option maxRecDepth 100000 in
set_option maxHeartbeats 2000000 in
theorem minus_any (v u : Value) (a b : Nat) (w : World) (h : WordsAt w v (toW a)) (g : WordsAt w u (toW b)) (hla : (toW a).length ≤ 1000) (hba : b ≤ a) :
    Calls Tryz.prog 216 #[v, u] w (NatTo (a - b) w) := by
  obtain ⟨ws, hws⟩ : ∃ ws, toW a = ws := ⟨_, rfl⟩
  obtain ⟨us, hus⟩ : ∃ us, toW b = us := ⟨_, rfl⟩
  have ha : valW ws = a := by rw [← hws, valW_toW]
  have hb : valW us = b := by rw [← hus, valW_toW]
  have hsa : Small ws := by rw [← hws]; exact toW_small a
  have hsb : Small us := by rw [← hus]; exact toW_small b
  rw [hws] at h hla
  rw [hus] at g
  have htb : Trim us := by rw [← hus]; exact trim_toW b
  have hlb : us.length ≤ ws.length := by
    rcases Nat.lt_or_ge ws.length us.length with hl | hl
    · have := val_len hsa htb hl
      omega
    · exact hl
  have HBA := Lib.hid hba
  clear hws hus htb hba
  obtain ⟨p, cap, rfl, hp⟩ := h.reads
  obtain ⟨q, cap2, rfl⟩ := g.shape
  have HP := Lib.hid hp
  have HG := Lib.hid g
  have HA := Lib.hid ha
  have HB := Lib.hid hb
  have HSA := Lib.hid hsa
  have HSB := Lib.hid hsb
  clear h g hp ha hb hsa hsb
  go_enter Tryz.func216, Tryz.ntmps216
  obtain ⟨i0, hi, hz0, hz1, hz2⟩ := info_parts info114
  go_wp2_with (first | (at_make; refine wpList_make_full _ rfl _ _ 204 rfl w.heap.size 220 i0 (.int .u64 0) 1 und104 hi hz0 hz1 .i64 .i64 _ _ ws.length rfl rfl (by simp) (by simp) (by rw [hz2]; omega) (by unfold maxLen; omega) (Nat.le_refl _) ?_; intro w1 hown hgrow; rw [made_zero] at hown; have HOW := Lib.hid hown; have HGR := Lib.hid hgrow; clear hown hgrow))
  have HI0 : Hid (MinusI w w1 w.heap.size 0 ws us 0 0) := by
    refine Lib.hid ⟨List.replicate ws.length 0, ?_, by simp, ?_, by simp [valW], by omega, ?_⟩
    · have := HOW.out
      unfold OwnW
      rw [List.length_replicate]
      exact this
    · intro x hx; rw [List.eq_of_mem_replicate hx]; omega
    · exact (Below.refl _ w).grown HGR.out (Nat.le_refl _) (by intro q hq; cases hq)
  go_loopw [6, 13] (fun s t wr => ∃ i c : Nat, s = .int .u64 (c : Nat) ∧ t = .int .i64 (i : Nat) ∧ i ≤ ws.length ∧ Hid (MinusI w wr w.heap.size 0 ws us i c)) (fun _ t _ => ws.length - (intOf t).toNat)
  case atStart => exact ⟨0, 0, rfl, rfl, Nat.zero_le _, HI0⟩
  case round =>
    obtain ⟨i, c, rfl, rfl, hi', HI⟩ := hrel
    by_cases hlt : i < ws.length
    · obtain ⟨L, ho, hL, hsm, hval, hc, hbw⟩ := HI.out
      obtain ⟨bk, off, rfl, hcap1, hbk, hc1⟩ := HP.out i hlt
      have hc1 := (hbw.cell (p := ⟨bk, off + i, none⟩) hbk).trans hc1
      obtain ⟨x, hx⟩ : ∃ x, ws.getD i 0 = x := ⟨_, rfl⟩
      obtain ⟨y, hy⟩ : ∃ y, us.getD i 0 = y := ⟨_, rfl⟩
      rw [hx] at hc1
      have HX := Lib.hid hx
      have HY := Lib.hid hy
      have hwd := fun w0 h0 => word_any (.slice q us.length cap2) us i w0 h0 (by omega)
      rw [hy] at hwd
      have HWD := Lib.hid hwd
      have hx' : x < 18446744073709551616 := by rw [← HX.out]; exact getD_small HSA.out _
      have hy' : y < 18446744073709551616 := by rw [← HY.out]; exact getD_small HSB.out _
      obtain ⟨lo, co, hadd, hlc⟩ : ∃ lo co : Nat, (∀ w0, (callFunc 237 #[.int .u64 x, .int .u64 y, .int .u64 c]).run Tryz.prog w0 = .ok (.value (.tuple #[.int .u64 lo, .int .u64 co])) w0) ∧ Hid (lo + y + c = x + 18446744073709551616 * co ∧ lo < 18446744073709551616 ∧ co ≤ 1) :=
        ⟨_, _, fun w0 => sub64_run x y c hc w0, Lib.hid (by split <;> refine ⟨by omega, by omega, by omega⟩)⟩
      have HGW := Lib.hid (HG.out.below hbw)
      have hij : (i : Int) < (ws.length : Int) := by omega
      have hij3 : (0 : Int) ≤ (i : Int) := by omega
      have ho' : OwnW wr w.heap.size (.slice (some ⟨w.heap.size, 0, none⟩) L.length ws.length) L := by rw [hL]; exact ho
      clear hx hy hwd
      have hci := ho'.cellAt i (by rw [hL]; omega)
      have hfi : wr.frozen? ⟨w.heap.size, i, none⟩ = false := World.ownsRow.frozenAt ho' i
      obtain ⟨z, hz⟩ : ∃ z, L.getD i 0 = z := ⟨_, rfl⟩
      rw [hz] at hci
      have HO' := Lib.hid ho'
      have HBW := Lib.hid hbw
      have HSM := Lib.hid hsm
      have HVAL := Lib.hid hval
      clear ho ho' hbw hsm hval hz
      go_wp2
      have hk1 : ∀ u', (wr.setCell ⟨w.heap.size, i, none⟩ u').drew.cell? ⟨bk, off + i, none⟩ = some (.int .u64 (x : Nat)) := fun u' => ((((Below.refl w.heap.size wr).setCell (by simp) u').drew).cell (p := ⟨bk, off + i, none⟩) hbk).trans hc1
      have hk2 : ∀ u', WordsAt (wr.setCell ⟨w.heap.size, i, none⟩ u').drew (.slice q us.length cap2) us := fun u' => HG.out.below ((HBW.out.setCell (by simp) u').drew)
      have HK1 := Lib.hid hk1
      have HK2 := Lib.hid hk2
      clear hk1 hk2
      go_region_held3 (fun w' => w'.cell? ⟨bk, off + i, none⟩ = some (.int .u64 (x : Nat)) ∧ WordsAt w' (.slice q us.length cap2) us) (first | exact ⟨hc1, HGW.out⟩ | exact ⟨HK1.out _, HK2.out _⟩ | go_keep) (first | (go_at_call 201; refine (HWD.out _ (by assumption)).mono ?_; rintro e w3 ⟨rfl, rfl⟩))
      have HI2 : Hid (MinusI w ((wr.setCell ⟨w.heap.size, i, none⟩ (.int .u64 (lo : Nat))).drew) w.heap.size 0 ws us (i + 1) co) := by
        have h1 : OwnW (wr.setCell ⟨w.heap.size, i, none⟩ (.int .u64 (lo : Nat))) w.heap.size (.slice (some ⟨w.heap.size, 0, none⟩) L.length ws.length) (L.set i lo) := HO'.out.store i lo
        rw [hL] at h1
        obtain ⟨hq1, hq2, hq3⟩ := hlc.out
        refine Lib.hid ⟨L.set i lo, h1, by rw [List.length_set, hL], small_set HSM.out hq2, ?_, hq3, (HBW.out.setCell (by simp) _).drew⟩
        rw [valW_take_succ, valW_take_succ ws, valW_take_succ us, take_set_ge (Nat.le_refl i), getD_set_eq (by omega), HX.out, HY.out]
        have hv := HVAL.out
        have hp : 18446744073709551616 ^ (i + 1) * co = 18446744073709551616 ^ i * (18446744073709551616 * co) := by rw [Nat.pow_succ, Nat.mul_assoc]
        rw [hp]
        generalize 18446744073709551616 ^ i = P at hv ⊢
        have e1 : P * x + P * (18446744073709551616 * co) = P * (lo + y + c) := by rw [← Nat.mul_add, hq1]
        have e2 : P * (lo + y + c) = P * lo + P * y + P * c := by rw [Nat.mul_add, Nat.mul_add]
        omega
      clear hlc hci hfi HK1 HK2 hadd HI
      go_wp2
      go_roundw
      case rel => exact ⟨i + 1, co, rfl, by go_num, by omega, HI2⟩
      case measure => simp [intOf]; omega
    · have hie : i = ws.length := by omega
      subst hie
      obtain ⟨L, ho, hL, hsm, hval, hc, hbw⟩ := HI.out
      have ho' : OwnW wr w.heap.size (.slice (some ⟨w.heap.size, 0, none⟩) L.length ws.length) L := by rw [hL]; exact ho
      have hL' : L.take ws.length = L := List.take_of_length_le (by omega)
      have HV : Hid (trimW L = toW (a - b)) := by
        refine Lib.hid ?_
        unfold trimW
        rw [hL', List.take_of_length_le (Nat.le_refl _), List.take_of_length_le hlb, HA.out, HB.out] at hval
        have h1 := valW_lt hsm
        rw [hL] at h1
        have h2 := HBA.out
        have h3 : c = 0 := by
          have : c = 0 ∨ c = 1 := by omega
          rcases this with h | h
          · exact h
          · subst h; rw [Nat.mul_one] at hval; omega
        subst h3
        congr 1
        omega
      have htr := trimmed_any (some ⟨w.heap.size, 0, none⟩) ws.length L _ (ho'.at (by omega)) hsm
      rw [hL, HV.out] at htr
      have HTR := Lib.hid htr
      have HBW := Lib.hid hbw
      clear ho ho' hbw hsm hval htr HI hlt hL'
      go_wp2_with fail
      refine HTR.out.mono ?_
      rintro e w2 ⟨rfl, hwt, rfl⟩
      have HWT := Lib.hid hwt
      clear hwt HTR
      go_wp2
      go_ret
      exact ⟨_, rfl, HWT.out, HBW.out⟩
end Go.Proofs.YtkjclafbpocabaaGreatDoor
