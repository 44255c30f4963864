import Derived.Test.YtopnlcjbklmicaaK42
import Derived.WalkKit
import Derived.WalkSpells
import Derived.WalkLawsBesides
import Derived.Deep.QuietTactic
import Derived.BigQuiet
import Derived.Lib.Hide
import Derived.WalkSmall
import Derived.Maps.OwnSet
import Derived.Maps.RangeWalk
import Derived.Deep.RegionWith
import Derived.Deep.RegionHeld3
import Derived.Deep.DrawnRows
import Derived.Deep.DeepCutAuto
import Derived.OneCell
import Derived.KernelRfl
import Derived.Laws.StructEq
import Derived.StillTailTactics
import Derived.Laws.Externs
import Derived.RangeFuncBox
import Derived.Outline
import Derived.RangeFuncNested
import Derived.RangeFuncBound
import Derived.RangeFuncCalls
import Derived.RangeFuncLeaves
import Derived.Shelf.RegionOpen
import Derived.OwnWalkIn
import Derived.TacticsInMore
import Derived.LoopNIn
import Derived.LoopIn
import Derived.Test.YtopnlcjbklmicaaProg
namespace Go.Proofs.Ytopnlcjbklmicaa
open Go.RowKit Go.Maps Go.Shelf
set_option linter.unusedVariables false
set_option linter.unusedSimpArgs false
theorem leftF_bad {n : Int} {l : List (Int × Int)} (h1 : l.length ≤ 9) (h2 : ¬ l.all stageF = true) : leftF n l = (0, 0, 2) := by
  unfold leftF
  rw [if_neg (by omega), if_pos (by simpa using h2)]
/-- A new pair behind a call. -/
theorem pair_new {w0 wa wb : World} {xb : Nat} {u v : Value} (hw : Below w0.heap.size w0 wa) (h : Below wa.heap.size wa wb) (hx : wb.heap.size = xb) :
    Blk (wb.alloc (.cells #[u, v] 23)) xb #[u, v] 23 ∧ Below wa.heap.size wa (wb.alloc (.cells #[u, v] 23)) ∧ Below w0.heap.size w0 (wb.alloc (.cells #[u, v] 23)) :=
  have hp := h.alloc h.size (.cells #[u, v] 23)
  ⟨Blk.newI wb xb #[u, v] 23 hx, hp, hw.trans (hp.mono hw.size)⟩
theorem len_le {x : Int × Int} {r : List (Int × Int)} {N : Nat} (h : (x :: r).length = N) : r.length = N - 1 := by simp at h; omega
/-- Two operations may come up. -/
theorem one_of_two {P : Program} {md : Region.Mode} {ops : Array Oper} {Q : Exit → Act → World → Prop} {S : World → Prop} {i j : Nat} {o o' : Oper} {fuel : Nat} {L : Array Bool} {a : Act} {w : World} (hr : Region.ready md ops L = [i, j]) (hi : ops.toList[i]? = some o) (hj : ops.toList[j]? = some o')
    (hw : Region.wanted o (yielded ops a.tmps) = true) (hw' : Region.wanted o' (yielded ops a.tmps) = true) (h : ∀ K : Act → World → Prop, Hid (∀ a' w', S w' → wpAnyH P md ops Q S fuel (L.setIfInBounds i true) a' w' → K a' w') → o.wp P a w K Q)
    (h' : ∀ K : Act → World → Prop, Hid (∀ a' w', S w' → wpAnyH P md ops Q S fuel (L.setIfInBounds j true) a' w' → K a' w') → o'.wp P a w K Q) : wpAnyH P md ops Q S (fuel + 1) L a w :=
  wpAnyH_all hr (by simp) fun k hk => by
    rcases List.mem_cons.1 hk with rfl | hk
    · unfold wpOp
      rw [show ops[k]? = some o from by rw [← Array.getElem?_toList]; exact hi]
      simp only [hw, if_true]
      exact .inl (h _ (Lib.hid fun a' w' h1 h2 => ⟨h1, h2⟩))
    · rw [List.mem_singleton.1 hk]
      unfold wpOp
      rw [show ops[j]? = some o' from by rw [← Array.getElem?_toList]; exact hj]
      simp only [hw', if_true]
      exact .inl (h' _ (Lib.hid fun a' w' h1 h2 => ⟨h1, h2⟩))
/-- The pairs of a list of blocks stand, and what was there is as it was. -/
def KeepB (l : List (Nat × Int × Int)) (w W : World) : Prop := (∀ p ∈ l, Blk W p.1 #[.int .i64 p.2.1, .int .i64 p.2.2] 23) ∧ Below w.heap.size w W
theorem KeepB.past {l : List (Nat × Int × Int)} {w W W' : World} (h : KeepB l w W) (hb : Below W.heap.size W W') : KeepB l w W' :=
  ⟨fun p hp => (h.1 p hp).past hb, h.2.trans (hb.mono h.2.size)⟩
theorem Blk.below_size {W : World} {b : Nat} {vs : Array Value} {T : TypeId} (h : Blk W b vs T) : b < W.heap.size := (Array.getElem?_eq_some_iff.1 h).1
theorem KeepB.new {l : List (Nat × Int × Int)} {w W : World} {xd : Nat} (h : KeepB l w W) (hx : W.heap.size = xd) (u v : Value) :
    KeepB l w (W.alloc (.cells #[u, v] 23)) ∧ Blk (W.alloc (.cells #[u, v] 23)) xd #[u, v] 23 ∧ (∀ p ∈ l, p.1 ≠ xd) ∧ w.heap.size ≤ xd :=
  ⟨h.past ((Below.refl _ W).alloc (Nat.le_refl _) _), Blk.newI W xd #[u, v] 23 hx, fun p hp => by have := (h.1 p hp).below_size; omega, by have := h.2.size; omega⟩
theorem KeepB.store {l : List (Nat × Int × Int)} {w W : World} {xd : Nat} {u v : Value} (h : KeepB l w W) (hd : Blk W xd #[u, v] 23) (hn : ∀ p ∈ l, p.1 ≠ xd) (hB : w.heap.size ≤ xd) (p q : Int) :
    KeepB ((xd, p, q) :: l) w ((W.setCell ⟨xd, 0, none⟩ (.int .i64 p)).setCell ⟨xd, 1, none⟩ (.int .i64 q)) := by
  refine ⟨fun x hx => ?_, (h.2.setCell (p := ⟨xd, 0, none⟩) hB _).setCell (p := ⟨xd, 1, none⟩) hB _⟩
  rcases List.mem_cons.1 hx with rfl | hx
  · exact (hd.set 0 (by simp) (.int .i64 p) rfl).set 1 (by simp) (.int .i64 q) rfl
  · exact ((h.1 x hx).far (b' := xd) (i := 0) (u := .int .i64 p) (hn x hx)).far (b' := xd) (i := 1) (u := .int .i64 q) (hn x hx)
theorem KeepB.tail {a : Nat × Int × Int} {l : List (Nat × Int × Int)} {w W : World} (h : KeepB (a :: l) w W) : KeepB l w W := ⟨fun p hp => h.1 p (by simp [hp]), h.2⟩
set_option maxRecDepth 100000 in
set_option maxHeartbeats 4000000 in
theorem allows_cons (n m : Int) (b off N cap : Nat) (x : Int × Int) (r : List (Int × Int)) (w : World) (hN : (x :: r).length = N) (hc : N ≤ cap) (hN9 : N ≤ 9) (hsrc : SrcAt w (.slice (some ⟨b, off, none⟩) N cap) (x :: r))
    (hn : 0 ≤ n ∧ n ≤ 4294967295) (hm : n.tmod 500000000 = m) (hmr : 0 ≤ m ∧ m < 500000000) :
    Calls Try.prog 9 #[.int .u32 n, .slice (some ⟨b, off, none⟩) N cap] w fun e w' => e = .returned (.bool true) ∧ Below w.heap.size w w' := by
  have HSRC := Lib.hid hsrc
  have HK := Lib.hid known_any
  have hN1 : 1 ≤ N := by rw [← hN]; simp
  have hNa : (1 : Int) ≤ (N : Int) := by omega
  have hNb : (N : Int) ≤ 9 := by omega
  have hNc : (1 : Int) ≤ (cap : Int) := by omega
  have w1 : IntKind.i64.wrap n = n := wrap_id (by omega) (by omega)
  have w2 : IntKind.i64.wrap m = m := wrap_id (by omega) (by omega)
  have w3 : IntKind.i64.wrap (m + 1) = m + 1 := wrap_id (by omega) (by omega)
  have HLN := Lib.hid hN
  clear hsrc hN
  by_cases hs : (x :: r).all stageF = true
  · obtain ⟨s1, s2, b1, b2, f1, f2, c2, d1, ⟨e1, e2, e3, e4, e5⟩, g1, g2, g3, g4, g5, g6, g7, g8⟩ := allows_maths (by rw [HLN.out]; exact hN9) hs hmr
    have HN := Lib.hid fun r hr => allows_need (by rw [HLN.out]; exact hN9) hs hmr (r := r) hr
    have E1 := Lib.hid e1
    have E2 := Lib.hid e2
    have E3 := Lib.hid e3
    have E4 := Lib.hid e4
    have E5 := Lib.hid e5
    clear e1 e2 e3 e4 e5 hs
    go_enter Try.func9, Try.ntmps9
    go_wp2_with fail
    refine (stages_eq HLN.out HSRC.out (by omega)).mono ?_
    rintro e u1 ⟨a1, c1, rfl, hp1, hb1⟩
    have HP := Lib.hid hp1
    have HB := Lib.hid hb1
    clear hp1 hb1
    go_wp2_with fail
    refine (left_eq E1.out HP.out).mono ?_
    rintro e u2 ⟨rfl, hb2⟩
    obtain ⟨xa, hxa⟩ : ∃ xa, u2.heap.size = xa := ⟨_, rfl⟩
    obtain ⟨X, _, BB⟩ := pair_new (u := .int .i64 s1) (v := .int .i64 s2) HB.out hb2 hxa
    obtain ⟨u3, hu3⟩ : ∃ u3, u2.alloc (.cells #[.int .i64 s1, .int .i64 s2] 23) = u3 := ⟨_, rfl⟩
    rw [hu3] at X BB
    have HX := Lib.hid X
    have HBB := Lib.hid BB
    clear X BB hb2 HP HB
    go_wp2_with fail
    clear hu3
    refine (stages_eq HLN.out (HSRC.out.past HBB.out) (by omega)).mono ?_
    rintro e u4 ⟨a2, c2', rfl, hp1, hb1⟩
    have HP := Lib.hid hp1
    have HB := Lib.hid (HBB.out.trans (hb1.mono HBB.out.size))
    have HX2 := Lib.hid (HX.out.past hb1)
    clear hp1 hb1 HBB HX
    go_wp2_with fail
    refine (left_eq E2.out HP.out).mono ?_
    rintro e u5 ⟨rfl, hb2⟩
    obtain ⟨xb, hxb⟩ : ∃ xa, u5.heap.size = xa := ⟨_, rfl⟩
    obtain ⟨Y, hp, BB⟩ := pair_new (u := .int .i64 b1) (v := .int .i64 b2) HB.out hb2 hxb
    obtain ⟨u6, hu6⟩ : ∃ u3, u5.alloc (.cells #[.int .i64 b1, .int .i64 b2] 23) = u3 := ⟨_, rfl⟩
    rw [hu6] at Y BB hp
    have HX := Lib.hid (HX2.out.past hp)
    have HY := Lib.hid Y
    have HBB := Lib.hid BB
    clear Y BB hb2 hp HP HB HX2
    go_wp2_with fail
    clear hu6
    refine (stages_eq (l := [x]) (N := 1) rfl (srcAt_take (HSRC.out.past HBB.out) cap) (by decide)).mono ?_
    rintro e u7 ⟨a3, c3, rfl, hp1, hb1⟩
    have HP := Lib.hid hp1
    have HB := Lib.hid (HBB.out.trans (hb1.mono HBB.out.size))
    have HX2 := Lib.hid (HX.out.past hb1)
    have HY2 := Lib.hid (HY.out.past hb1)
    clear hp1 hb1 HBB HX HY
    go_wp2_with fail
    refine (left_eq E3.out HP.out).mono ?_
    rintro e u8 ⟨rfl, hb2⟩
    obtain ⟨xc, hxc⟩ : ∃ xa, u8.heap.size = xa := ⟨_, rfl⟩
    obtain ⟨Z, hp, BB⟩ := pair_new (u := .int .i64 f1) (v := .int .i64 f2) HB.out hb2 hxc
    obtain ⟨u9, hu9⟩ : ∃ u3, u8.alloc (.cells #[.int .i64 f1, .int .i64 f2] 23) = u3 := ⟨_, rfl⟩
    rw [hu9] at Z BB hp
    have X := HX2.out.past hp
    have Y := HY2.out.past hp
    have HX := Lib.hid X
    have HY := Lib.hid Y
    have HZ := Lib.hid Z
    have HBB := Lib.hid BB
    have x0 := X.cell (i := 0) (v := .int .i64 s1) rfl
    have x1 := X.cell (i := 1) (v := .int .i64 s2) rfl
    have y0 := Y.cell (i := 0) (v := .int .i64 b1) rfl
    have y1 := Y.cell (i := 1) (v := .int .i64 b2) rfl
    have z0 := Z.cell (i := 0) (v := .int .i64 f1) rfl
    have z1 := Z.cell (i := 1) (v := .int .i64 f2) rfl
    clear X Y Z BB hb2 hp HP HB HX2 HY2
    go_upto_region 11 with fail
    clear hu9 x0 x1 y0 y1 z0 z1
    have HK9 : Hid (KeepB [(xc, f1, f2), (xa, s1, s2)] w u9) := Lib.hid ⟨fun p hp => by
      rcases List.mem_cons.1 hp with rfl | hp
      · exact HZ.out
      · rw [List.mem_singleton.1 hp]; exact HX.out, HBB.out⟩
    clear HX HY HZ HBB
    go_cut [11, 7] (fun p e W => ∃ xd, p = .pointer (some ⟨xd, 0, none⟩) ∧ e = .int .i64 0 ∧ Hid (KeepB [(xd, s1, c2), (xc, f1, f2), (xa, s1, s2)] w W))
    case first =>
      refine region_plain (fun W => W.cell? ⟨xc, 0, none⟩ = some (.int .i64 f1) ∧ KeepB [(xc, f1, f2), (xa, s1, s2)] w W) 12 #[false, false, false, false, false, false, false, false, false, false, false, false] rfl rfl (by kernel_rfl) ?_
      obtain ⟨sd, hsd⟩ : ∃ sd, (if cap = 1 then some (⟨b, off, none⟩ : Addr) else some ⟨b, off + 2, none⟩) = sd := ⟨_, rfl⟩
      have HSD : Hid (∀ W, Below w.heap.size w W → SrcAt W (.slice sd (N - 1) (cap - 1)) r) := Lib.hid fun W hb => by
        rw [← hsd]
        exact srcAt_drop (HSRC.out.past hb) HLN.out hc _
      have HSDE := Lib.hid hsd
      clear hsd
      obtain ⟨wx, hwx⟩ : ∃ x, u9.drew = x := ⟨_, rfl⟩
      have HKB := Lib.hid (HK9.out.past (Below.refl _ _).drew)
      rw [hwx] at HKB ⊢
      clear hwx
      have hSS : (wx.cell? ⟨xc, 0, none⟩ = some (.int .i64 f1) ∧ KeepB [(xc, f1, f2), (xa, s1, s2)] w wx) := ⟨(HKB.out.1 (xc, f1, f2) (by simp)).cell (i := 0) rfl, HKB.out⟩
      clear HK9
      refine take_first (i := 0) (v := ?_) rfl (by kernel_rfl) (by kernel_rfl) (by kernel_rfl) (fun _ _ _ h => h) (by rfl) (by assumption) ?_ ?_
      rotate_left 1
      · intro X hSX
        (try dsimp only at hSX)
        first | (go_simp; done) | (go_simp; with_reducible rfl)
      try simp only [Act.put, List.setIfInBounds_toArray, List.set_cons_zero, List.set_cons_succ]
      refine take_first (i := 1) (v := ?_) rfl (by kernel_rfl) (by kernel_rfl) (by kernel_rfl) (fun _ _ _ h => h) (by rfl) (by assumption) ?_ ?_
      rotate_left 1
      · intro X hSX
        (try dsimp only at hSX)
        first | (go_simp; done) | (go_simp; with_reducible rfl)
      try simp only [Act.put, List.setIfInBounds_toArray, List.set_cons_zero, List.set_cons_succ]
      refine take_first (i := 2) (v := ?_) rfl (by kernel_rfl) (by kernel_rfl) (by kernel_rfl) (fun _ _ _ h => h) (by rfl) (by assumption) ?_ ?_
      rotate_left 1
      · intro X hSX
        (try dsimp only at hSX)
        first | (go_simp; done) | (go_simp; with_reducible rfl)
      try simp only [Act.put, List.setIfInBounds_toArray, List.set_cons_zero, List.set_cons_succ]
      refine take_first (i := 3) (v := ?_) rfl (by kernel_rfl) (by kernel_rfl) (by kernel_rfl) (fun _ _ _ h => h) (by rfl) (by assumption) ?_ ?_
      rotate_left 1
      · intro X hSX
        (try dsimp only at hSX)
        first | (go_simp; done) | (go_simp; with_reducible rfl)
      try simp only [Act.put, List.setIfInBounds_toArray, List.set_cons_zero, List.set_cons_succ]
      refine one_of_two (i := 4) (j := 9) (by kernel_rfl) rfl rfl (by rfl) (by rfl) ?_ ?_
      · intro K hK
        go_simp
        simp only [HSDE.out]
        refine (stages_eq (N := N - 1) (len_le HLN.out) (HSD.out _ HKB.out.2) (by omega)).mono ?_
        rintro e v1 ⟨a5, c5, rfl, hp5, hb5⟩
        have HP := Lib.hid hp5
        have HKA := Lib.hid (HKB.out.past hb5)
        clear HKB hSS
        skip
        clear hp5 hb5
        have hSS : (v1.cell? ⟨xc, 0, none⟩ = some (.int .i64 f1) ∧ KeepB [(xc, f1, f2), (xa, s1, s2)] w v1) := ⟨(HKA.out.1 (xc, f1, f2) (by simp)).cell (i := 0) rfl, HKA.out⟩
        refine hK.out _ _ hSS ?_
        clear hK K
        try simp only [Act.put, List.setIfInBounds_toArray, List.set_cons_zero, List.set_cons_succ]
        refine one_of_two (i := 5) (j := 9) (by kernel_rfl) rfl rfl (by rfl) (by rfl) ?_ ?_
        · intro K hK
          go_simp
          refine (left_eq E4.out HP.out).mono ?_
          rintro e v2 ⟨rfl, hb6⟩
          have HKB := Lib.hid (HKA.out.past hb6)
          clear HKA hSS
          skip
          clear hb6 HP
          have hSS : (v2.cell? ⟨xc, 0, none⟩ = some (.int .i64 f1) ∧ KeepB [(xc, f1, f2), (xa, s1, s2)] w v2) := ⟨(HKB.out.1 (xc, f1, f2) (by simp)).cell (i := 0) rfl, HKB.out⟩
          refine hK.out _ _ hSS ?_
          clear hK K
          try simp only [Act.put, List.setIfInBounds_toArray, List.set_cons_zero, List.set_cons_succ]
          refine take_first (i := 6) (v := ?_) rfl (by kernel_rfl) (by kernel_rfl) (by kernel_rfl) (fun _ _ _ h => h) (by rfl) (by assumption) ?_ ?_
          rotate_left 1
          · intro X hSX
            (try dsimp only at hSX)
            first | (go_simp; done) | (go_simp; with_reducible rfl)
          try simp only [Act.put, List.setIfInBounds_toArray, List.set_cons_zero, List.set_cons_succ]
          refine take_first (i := 7) (v := ?_) rfl (by kernel_rfl) (by kernel_rfl) (by kernel_rfl) (fun _ _ _ h => h) (by rfl) (by assumption) ?_ ?_
          rotate_left 1
          · intro X hSX
            (try dsimp only at hSX)
            first | (go_simp; done) | (go_simp; with_reducible rfl)
          try simp only [Act.put, List.setIfInBounds_toArray, List.set_cons_zero, List.set_cons_succ]
          refine take_first (i := 8) (v := ?_) rfl (by kernel_rfl) (by kernel_rfl) (by kernel_rfl) (fun _ _ _ h => h) (by rfl) (by assumption) ?_ ?_
          rotate_left 1
          · intro X hSX
            (try dsimp only at hSX)
            first | (go_simp; done) | (go_simp; with_reducible rfl)
          try simp only [Act.put, List.setIfInBounds_toArray, List.set_cons_zero, List.set_cons_succ]
          refine only_one (i := 9) (by kernel_rfl) rfl (by rfl) ?_
          intro K hK
          go_simp
          obtain ⟨xd, hxd⟩ : ∃ x, v2.heap.size = x := ⟨_, rfl⟩
          obtain ⟨k1, k2, k3, k4⟩ := HKB.out.new hxd (.int .i64 0) (.int .i64 0)
          rw [hxd]
          obtain ⟨v3, hv3⟩ : ∃ v3, v2.alloc (.cells #[.int .i64 0, .int .i64 0] 23) = v3 := ⟨_, rfl⟩
          skip
          have HV3 := Lib.hid hv3
          rw [hv3] at k1 k2 ⊢
          have HKC := Lib.hid k1
          have HD := Lib.hid k2
          have HNE := Lib.hid k3
          have HLE := Lib.hid k4
          clear hv3 k1 k2 k3 k4 hxd hSS
          have hSS : (v3.cell? ⟨xc, 0, none⟩ = some (.int .i64 f1) ∧ KeepB [(xc, f1, f2), (xa, s1, s2)] w v3) := ⟨(HKC.out.1 (xc, f1, f2) (by simp)).cell (i := 0) rfl, HKC.out⟩
          refine hK.out _ _ hSS ?_
          clear hK K
          try simp only [Act.put, List.setIfInBounds_toArray, List.set_cons_zero, List.set_cons_succ]
          clear HKB
          have HKB := HKC
          clear HKC
          have q0 := HD.out.cell (i := 0) (v := .int .i64 0) rfl
          have q1 := HD.out.cell (i := 1) (v := .int .i64 0) rfl
          have df := HD.out.fr (i := 0)
          have dg := HD.out.fr (i := 1)
          refine only_one (i := 10) (by kernel_rfl) rfl (by rfl) ?_
          intro K hK
          go_simp
          have HKD := Lib.hid (HKB.out.store HD.out HNE.out HLE.out s1 c2)
          clear hSS q0 q1 df dg
          have hSS : (World.cell? _ ⟨xc, 0, none⟩ = some (.int .i64 f1) ∧ KeepB [(xc, f1, f2), (xa, s1, s2)] w _) := ⟨(HKD.out.tail.1 (xc, f1, f2) (by simp)).cell (i := 0) rfl, HKD.out.tail⟩
          refine hK.out _ _ hSS ?_
          clear hK K
          try simp only [Act.put, List.setIfInBounds_toArray, List.set_cons_zero, List.set_cons_succ]
          refine take_first (i := 11) (v := ?_) rfl (by kernel_rfl) (by kernel_rfl) (by kernel_rfl) (fun _ _ _ h => h) (by rfl) (by assumption) ?_ ?_
          rotate_left 1
          · intro X hSX
            (try dsimp only at hSX)
            first | (go_simp; done) | (go_simp; with_reducible rfl)
          try simp only [Act.put, List.setIfInBounds_toArray, List.set_cons_zero, List.set_cons_succ]
          refine wpAnyH_done (by kernel_rfl) ?_ _
          go_wp2_with fail
          go_meet
          exact ⟨_, rfl, rfl, HKD⟩
        · intro K hK
          go_simp
          obtain ⟨xd, hxd⟩ : ∃ x, v1.heap.size = x := ⟨_, rfl⟩
          obtain ⟨k1, k2, k3, k4⟩ := HKA.out.new hxd (.int .i64 0) (.int .i64 0)
          rw [hxd]
          obtain ⟨v3, hv3⟩ : ∃ v3, v1.alloc (.cells #[.int .i64 0, .int .i64 0] 23) = v3 := ⟨_, rfl⟩
          have HP2 := Lib.hid (HP.out.below ((Below.refl _ v1).alloc (Nat.le_refl _) (.cells #[.int .i64 0, .int .i64 0] 23)))
          rw [hv3] at HP2
          clear HP
          have HP := HP2
          clear HP2
          have HV3 := Lib.hid hv3
          rw [hv3] at k1 k2 ⊢
          have HKC := Lib.hid k1
          have HD := Lib.hid k2
          have HNE := Lib.hid k3
          have HLE := Lib.hid k4
          clear hv3 k1 k2 k3 k4 hxd hSS
          have hSS : (v3.cell? ⟨xc, 0, none⟩ = some (.int .i64 f1) ∧ KeepB [(xc, f1, f2), (xa, s1, s2)] w v3) := ⟨(HKC.out.1 (xc, f1, f2) (by simp)).cell (i := 0) rfl, HKC.out⟩
          refine hK.out _ _ hSS ?_
          clear hK K
          try simp only [Act.put, List.setIfInBounds_toArray, List.set_cons_zero, List.set_cons_succ]
          clear HKA
          have HKA := HKC
          clear HKC
          refine only_one (i := 5) (by kernel_rfl) rfl (by rfl) ?_
          intro K hK
          go_simp
          refine (left_eq E4.out HP.out).mono ?_
          rintro e v2 ⟨rfl, hb6⟩
          have HKB := Lib.hid (HKA.out.past hb6)
          clear HKA hSS
          have HD2 := Lib.hid (HD.out.past hb6)
          clear HD
          have HD := HD2
          clear HD2
          clear hb6 HP
          have hSS : (v2.cell? ⟨xc, 0, none⟩ = some (.int .i64 f1) ∧ KeepB [(xc, f1, f2), (xa, s1, s2)] w v2) := ⟨(HKB.out.1 (xc, f1, f2) (by simp)).cell (i := 0) rfl, HKB.out⟩
          refine hK.out _ _ hSS ?_
          clear hK K
          try simp only [Act.put, List.setIfInBounds_toArray, List.set_cons_zero, List.set_cons_succ]
          refine take_first (i := 6) (v := ?_) rfl (by kernel_rfl) (by kernel_rfl) (by kernel_rfl) (fun _ _ _ h => h) (by rfl) (by assumption) ?_ ?_
          rotate_left 1
          · intro X hSX
            (try dsimp only at hSX)
            first | (go_simp; done) | (go_simp; with_reducible rfl)
          try simp only [Act.put, List.setIfInBounds_toArray, List.set_cons_zero, List.set_cons_succ]
          refine take_first (i := 7) (v := ?_) rfl (by kernel_rfl) (by kernel_rfl) (by kernel_rfl) (fun _ _ _ h => h) (by rfl) (by assumption) ?_ ?_
          rotate_left 1
          · intro X hSX
            (try dsimp only at hSX)
            first | (go_simp; done) | (go_simp; with_reducible rfl)
          try simp only [Act.put, List.setIfInBounds_toArray, List.set_cons_zero, List.set_cons_succ]
          refine take_first (i := 8) (v := ?_) rfl (by kernel_rfl) (by kernel_rfl) (by kernel_rfl) (fun _ _ _ h => h) (by rfl) (by assumption) ?_ ?_
          rotate_left 1
          · intro X hSX
            (try dsimp only at hSX)
            first | (go_simp; done) | (go_simp; with_reducible rfl)
          try simp only [Act.put, List.setIfInBounds_toArray, List.set_cons_zero, List.set_cons_succ]
          have q0 := HD.out.cell (i := 0) (v := .int .i64 0) rfl
          have q1 := HD.out.cell (i := 1) (v := .int .i64 0) rfl
          have df := HD.out.fr (i := 0)
          have dg := HD.out.fr (i := 1)
          refine only_one (i := 10) (by kernel_rfl) rfl (by rfl) ?_
          intro K hK
          go_simp
          have HKD := Lib.hid (HKB.out.store HD.out HNE.out HLE.out s1 c2)
          clear hSS q0 q1 df dg
          have hSS : (World.cell? _ ⟨xc, 0, none⟩ = some (.int .i64 f1) ∧ KeepB [(xc, f1, f2), (xa, s1, s2)] w _) := ⟨(HKD.out.tail.1 (xc, f1, f2) (by simp)).cell (i := 0) rfl, HKD.out.tail⟩
          refine hK.out _ _ hSS ?_
          clear hK K
          try simp only [Act.put, List.setIfInBounds_toArray, List.set_cons_zero, List.set_cons_succ]
          refine take_first (i := 11) (v := ?_) rfl (by kernel_rfl) (by kernel_rfl) (by kernel_rfl) (fun _ _ _ h => h) (by rfl) (by assumption) ?_ ?_
          rotate_left 1
          · intro X hSX
            (try dsimp only at hSX)
            first | (go_simp; done) | (go_simp; with_reducible rfl)
          try simp only [Act.put, List.setIfInBounds_toArray, List.set_cons_zero, List.set_cons_succ]
          refine wpAnyH_done (by kernel_rfl) ?_ _
          go_wp2_with fail
          go_meet
          exact ⟨_, rfl, rfl, HKD⟩
      · intro K hK
        go_simp
        obtain ⟨xd, hxd⟩ : ∃ x, wx.heap.size = x := ⟨_, rfl⟩
        obtain ⟨k1, k2, k3, k4⟩ := HKB.out.new hxd (.int .i64 0) (.int .i64 0)
        rw [hxd]
        obtain ⟨v3, hv3⟩ : ∃ v3, wx.alloc (.cells #[.int .i64 0, .int .i64 0] 23) = v3 := ⟨_, rfl⟩
        skip
        have HV3 := Lib.hid hv3
        rw [hv3] at k1 k2 ⊢
        have HKC := Lib.hid k1
        have HD := Lib.hid k2
        have HNE := Lib.hid k3
        have HLE := Lib.hid k4
        clear hv3 k1 k2 k3 k4 hxd hSS
        have hSS : (v3.cell? ⟨xc, 0, none⟩ = some (.int .i64 f1) ∧ KeepB [(xc, f1, f2), (xa, s1, s2)] w v3) := ⟨(HKC.out.1 (xc, f1, f2) (by simp)).cell (i := 0) rfl, HKC.out⟩
        refine hK.out _ _ hSS ?_
        clear hK K
        try simp only [Act.put, List.setIfInBounds_toArray, List.set_cons_zero, List.set_cons_succ]
        clear HKB
        have HKB := HKC
        clear HKC
        refine only_one (i := 4) (by kernel_rfl) rfl (by rfl) ?_
        intro K hK
        go_simp
        simp only [HSDE.out]
        refine (stages_eq (N := N - 1) (len_le HLN.out) (HSD.out _ HKB.out.2) (by omega)).mono ?_
        rintro e v1 ⟨a5, c5, rfl, hp5, hb5⟩
        have HP := Lib.hid hp5
        have HKA := Lib.hid (HKB.out.past hb5)
        clear HKB hSS
        have HD2 := Lib.hid (HD.out.past hb5)
        clear HD
        have HD := HD2
        clear HD2
        clear hp5 hb5
        have hSS : (v1.cell? ⟨xc, 0, none⟩ = some (.int .i64 f1) ∧ KeepB [(xc, f1, f2), (xa, s1, s2)] w v1) := ⟨(HKA.out.1 (xc, f1, f2) (by simp)).cell (i := 0) rfl, HKA.out⟩
        refine hK.out _ _ hSS ?_
        clear hK K
        try simp only [Act.put, List.setIfInBounds_toArray, List.set_cons_zero, List.set_cons_succ]
        refine only_one (i := 5) (by kernel_rfl) rfl (by rfl) ?_
        intro K hK
        go_simp
        refine (left_eq E4.out HP.out).mono ?_
        rintro e v2 ⟨rfl, hb6⟩
        have HKB := Lib.hid (HKA.out.past hb6)
        clear HKA hSS
        have HD2 := Lib.hid (HD.out.past hb6)
        clear HD
        have HD := HD2
        clear HD2
        clear hb6 HP
        have hSS : (v2.cell? ⟨xc, 0, none⟩ = some (.int .i64 f1) ∧ KeepB [(xc, f1, f2), (xa, s1, s2)] w v2) := ⟨(HKB.out.1 (xc, f1, f2) (by simp)).cell (i := 0) rfl, HKB.out⟩
        refine hK.out _ _ hSS ?_
        clear hK K
        try simp only [Act.put, List.setIfInBounds_toArray, List.set_cons_zero, List.set_cons_succ]
        refine take_first (i := 6) (v := ?_) rfl (by kernel_rfl) (by kernel_rfl) (by kernel_rfl) (fun _ _ _ h => h) (by rfl) (by assumption) ?_ ?_
        rotate_left 1
        · intro X hSX
          (try dsimp only at hSX)
          first | (go_simp; done) | (go_simp; with_reducible rfl)
        try simp only [Act.put, List.setIfInBounds_toArray, List.set_cons_zero, List.set_cons_succ]
        refine take_first (i := 7) (v := ?_) rfl (by kernel_rfl) (by kernel_rfl) (by kernel_rfl) (fun _ _ _ h => h) (by rfl) (by assumption) ?_ ?_
        rotate_left 1
        · intro X hSX
          (try dsimp only at hSX)
          first | (go_simp; done) | (go_simp; with_reducible rfl)
        try simp only [Act.put, List.setIfInBounds_toArray, List.set_cons_zero, List.set_cons_succ]
        refine take_first (i := 8) (v := ?_) rfl (by kernel_rfl) (by kernel_rfl) (by kernel_rfl) (fun _ _ _ h => h) (by rfl) (by assumption) ?_ ?_
        rotate_left 1
        · intro X hSX
          (try dsimp only at hSX)
          first | (go_simp; done) | (go_simp; with_reducible rfl)
        try simp only [Act.put, List.setIfInBounds_toArray, List.set_cons_zero, List.set_cons_succ]
        have q0 := HD.out.cell (i := 0) (v := .int .i64 0) rfl
        have q1 := HD.out.cell (i := 1) (v := .int .i64 0) rfl
        have df := HD.out.fr (i := 0)
        have dg := HD.out.fr (i := 1)
        refine only_one (i := 10) (by kernel_rfl) rfl (by rfl) ?_
        intro K hK
        go_simp
        have HKD := Lib.hid (HKB.out.store HD.out HNE.out HLE.out s1 c2)
        clear hSS q0 q1 df dg
        have hSS : (World.cell? _ ⟨xc, 0, none⟩ = some (.int .i64 f1) ∧ KeepB [(xc, f1, f2), (xa, s1, s2)] w _) := ⟨(HKD.out.tail.1 (xc, f1, f2) (by simp)).cell (i := 0) rfl, HKD.out.tail⟩
        refine hK.out _ _ hSS ?_
        clear hK K
        try simp only [Act.put, List.setIfInBounds_toArray, List.set_cons_zero, List.set_cons_succ]
        refine take_first (i := 11) (v := ?_) rfl (by kernel_rfl) (by kernel_rfl) (by kernel_rfl) (fun _ _ _ h => h) (by rfl) (by assumption) ?_ ?_
        rotate_left 1
        · intro X hSX
          (try dsimp only at hSX)
          first | (go_simp; done) | (go_simp; with_reducible rfl)
        try simp only [Act.put, List.setIfInBounds_toArray, List.set_cons_zero, List.set_cons_succ]
        refine wpAnyH_done (by kernel_rfl) ?_ _
        go_wp2_with fail
        go_meet
        exact ⟨_, rfl, rfl, HKD⟩
    case rest =>
      obtain ⟨xd, rfl, rfl, HKD0⟩ := hcut
      clear HK9
      go_upto_region 12 with fail
      go_cut [12, 10] (fun p e W => ∃ xe, p = .pointer (some ⟨xe, 0, none⟩) ∧ e = .int .i64 0 ∧ Hid (KeepB [(xe, d1, s2), (xd, s1, c2), (xc, f1, f2), (xa, s1, s2)] w W))
      case first =>
        refine region_plain (fun W => W.cell? ⟨xc, 1, none⟩ = some (.int .i64 f2) ∧ KeepB [(xd, s1, c2), (xc, f1, f2), (xa, s1, s2)] w W) 12 #[false, false, false, false, false, false, false, false, false, false, false, false] rfl rfl (by kernel_rfl) ?_
        obtain ⟨sd, hsd⟩ : ∃ sd, (if cap = 1 then some (⟨b, off, none⟩ : Addr) else some ⟨b, off + 2, none⟩) = sd := ⟨_, rfl⟩
        have HSD : Hid (∀ W, Below w.heap.size w W → SrcAt W (.slice sd (N - 1) (cap - 1)) r) := Lib.hid fun W hb => by
          rw [← hsd]
          exact srcAt_drop (HSRC.out.past hb) HLN.out hc _
        have HSDE := Lib.hid hsd
        clear hsd
        obtain ⟨wx, hwx⟩ : ∃ x, wc.drew = x := ⟨_, rfl⟩
        have HKB := Lib.hid (HKD0.out.past (Below.refl _ _).drew)
        rw [hwx] at HKB ⊢
        clear hwx
        have hSS : (wx.cell? ⟨xc, 1, none⟩ = some (.int .i64 f2) ∧ KeepB [(xd, s1, c2), (xc, f1, f2), (xa, s1, s2)] w wx) := ⟨(HKB.out.1 (xc, f1, f2) (by simp)).cell (i := 1) rfl, HKB.out⟩
        clear HKD0
        refine take_first (i := 0) (v := ?_) rfl (by kernel_rfl) (by kernel_rfl) (by kernel_rfl) (fun _ _ _ h => h) (by rfl) (by assumption) ?_ ?_
        rotate_left 1
        · intro X hSX
          (try dsimp only at hSX)
          first | (go_simp; done) | (go_simp; with_reducible rfl)
        try simp only [Act.put, List.setIfInBounds_toArray, List.set_cons_zero, List.set_cons_succ]
        refine take_first (i := 1) (v := ?_) rfl (by kernel_rfl) (by kernel_rfl) (by kernel_rfl) (fun _ _ _ h => h) (by rfl) (by assumption) ?_ ?_
        rotate_left 1
        · intro X hSX
          (try dsimp only at hSX)
          first | (go_simp; done) | (go_simp; with_reducible rfl)
        try simp only [Act.put, List.setIfInBounds_toArray, List.set_cons_zero, List.set_cons_succ]
        refine take_first (i := 2) (v := ?_) rfl (by kernel_rfl) (by kernel_rfl) (by kernel_rfl) (fun _ _ _ h => h) (by rfl) (by assumption) ?_ ?_
        rotate_left 1
        · intro X hSX
          (try dsimp only at hSX)
          first | (go_simp; done) | (go_simp; with_reducible rfl)
        try simp only [Act.put, List.setIfInBounds_toArray, List.set_cons_zero, List.set_cons_succ]
        refine take_first (i := 3) (v := ?_) rfl (by kernel_rfl) (by kernel_rfl) (by kernel_rfl) (fun _ _ _ h => h) (by rfl) (by assumption) ?_ ?_
        rotate_left 1
        · intro X hSX
          (try dsimp only at hSX)
          first | (go_simp; done) | (go_simp; with_reducible rfl)
        try simp only [Act.put, List.setIfInBounds_toArray, List.set_cons_zero, List.set_cons_succ]
        refine one_of_two (i := 4) (j := 9) (by kernel_rfl) rfl rfl (by rfl) (by rfl) ?_ ?_
        · intro K hK
          go_simp
          simp only [HSDE.out]
          refine (stages_eq (N := N - 1) (len_le HLN.out) (HSD.out _ HKB.out.2) (by omega)).mono ?_
          rintro e v1 ⟨a5, c5, rfl, hp5, hb5⟩
          have HP := Lib.hid hp5
          have HKA := Lib.hid (HKB.out.past hb5)
          clear HKB hSS
          skip
          clear hp5 hb5
          have hSS : (v1.cell? ⟨xc, 1, none⟩ = some (.int .i64 f2) ∧ KeepB [(xd, s1, c2), (xc, f1, f2), (xa, s1, s2)] w v1) := ⟨(HKA.out.1 (xc, f1, f2) (by simp)).cell (i := 1) rfl, HKA.out⟩
          refine hK.out _ _ hSS ?_
          clear hK K
          try simp only [Act.put, List.setIfInBounds_toArray, List.set_cons_zero, List.set_cons_succ]
          refine one_of_two (i := 5) (j := 9) (by kernel_rfl) rfl rfl (by rfl) (by rfl) ?_ ?_
          · intro K hK
            go_simp
            refine (left_eq E5.out HP.out).mono ?_
            rintro e v2 ⟨rfl, hb6⟩
            have HKB := Lib.hid (HKA.out.past hb6)
            clear HKA hSS
            skip
            clear hb6 HP
            have hSS : (v2.cell? ⟨xc, 1, none⟩ = some (.int .i64 f2) ∧ KeepB [(xd, s1, c2), (xc, f1, f2), (xa, s1, s2)] w v2) := ⟨(HKB.out.1 (xc, f1, f2) (by simp)).cell (i := 1) rfl, HKB.out⟩
            refine hK.out _ _ hSS ?_
            clear hK K
            try simp only [Act.put, List.setIfInBounds_toArray, List.set_cons_zero, List.set_cons_succ]
            refine take_first (i := 6) (v := ?_) rfl (by kernel_rfl) (by kernel_rfl) (by kernel_rfl) (fun _ _ _ h => h) (by rfl) (by assumption) ?_ ?_
            rotate_left 1
            · intro X hSX
              (try dsimp only at hSX)
              first | (go_simp; done) | (go_simp; with_reducible rfl)
            try simp only [Act.put, List.setIfInBounds_toArray, List.set_cons_zero, List.set_cons_succ]
            refine take_first (i := 7) (v := ?_) rfl (by kernel_rfl) (by kernel_rfl) (by kernel_rfl) (fun _ _ _ h => h) (by rfl) (by assumption) ?_ ?_
            rotate_left 1
            · intro X hSX
              (try dsimp only at hSX)
              first | (go_simp; done) | (go_simp; with_reducible rfl)
            try simp only [Act.put, List.setIfInBounds_toArray, List.set_cons_zero, List.set_cons_succ]
            refine take_first (i := 8) (v := ?_) rfl (by kernel_rfl) (by kernel_rfl) (by kernel_rfl) (fun _ _ _ h => h) (by rfl) (by assumption) ?_ ?_
            rotate_left 1
            · intro X hSX
              (try dsimp only at hSX)
              first | (go_simp; done) | (go_simp; with_reducible rfl)
            try simp only [Act.put, List.setIfInBounds_toArray, List.set_cons_zero, List.set_cons_succ]
            refine only_one (i := 9) (by kernel_rfl) rfl (by rfl) ?_
            intro K hK
            go_simp
            obtain ⟨xe, hxd⟩ : ∃ x, v2.heap.size = x := ⟨_, rfl⟩
            obtain ⟨k1, k2, k3, k4⟩ := HKB.out.new hxd (.int .i64 0) (.int .i64 0)
            rw [hxd]
            obtain ⟨v3, hv3⟩ : ∃ v3, v2.alloc (.cells #[.int .i64 0, .int .i64 0] 23) = v3 := ⟨_, rfl⟩
            skip
            have HV3 := Lib.hid hv3
            rw [hv3] at k1 k2 ⊢
            have HKC := Lib.hid k1
            have HD := Lib.hid k2
            have HNE := Lib.hid k3
            have HLE := Lib.hid k4
            clear hv3 k1 k2 k3 k4 hxd hSS
            have hSS : (v3.cell? ⟨xc, 1, none⟩ = some (.int .i64 f2) ∧ KeepB [(xd, s1, c2), (xc, f1, f2), (xa, s1, s2)] w v3) := ⟨(HKC.out.1 (xc, f1, f2) (by simp)).cell (i := 1) rfl, HKC.out⟩
            refine hK.out _ _ hSS ?_
            clear hK K
            try simp only [Act.put, List.setIfInBounds_toArray, List.set_cons_zero, List.set_cons_succ]
            clear HKB
            have HKB := HKC
            clear HKC
            have q0 := HD.out.cell (i := 0) (v := .int .i64 0) rfl
            have q1 := HD.out.cell (i := 1) (v := .int .i64 0) rfl
            have df := HD.out.fr (i := 0)
            have dg := HD.out.fr (i := 1)
            refine only_one (i := 10) (by kernel_rfl) rfl (by rfl) ?_
            intro K hK
            go_simp
            have HKD := Lib.hid (HKB.out.store HD.out HNE.out HLE.out d1 s2)
            clear hSS q0 q1 df dg
            have hSS : (World.cell? _ ⟨xc, 1, none⟩ = some (.int .i64 f2) ∧ KeepB [(xd, s1, c2), (xc, f1, f2), (xa, s1, s2)] w _) := ⟨(HKD.out.tail.1 (xc, f1, f2) (by simp)).cell (i := 1) rfl, HKD.out.tail⟩
            refine hK.out _ _ hSS ?_
            clear hK K
            try simp only [Act.put, List.setIfInBounds_toArray, List.set_cons_zero, List.set_cons_succ]
            refine take_first (i := 11) (v := ?_) rfl (by kernel_rfl) (by kernel_rfl) (by kernel_rfl) (fun _ _ _ h => h) (by rfl) (by assumption) ?_ ?_
            rotate_left 1
            · intro X hSX
              (try dsimp only at hSX)
              first | (go_simp; done) | (go_simp; with_reducible rfl)
            try simp only [Act.put, List.setIfInBounds_toArray, List.set_cons_zero, List.set_cons_succ]
            refine wpAnyH_done (by kernel_rfl) ?_ _
            go_wp2_with fail
            go_meet
            exact ⟨_, rfl, rfl, HKD⟩
          · intro K hK
            go_simp
            obtain ⟨xe, hxd⟩ : ∃ x, v1.heap.size = x := ⟨_, rfl⟩
            obtain ⟨k1, k2, k3, k4⟩ := HKA.out.new hxd (.int .i64 0) (.int .i64 0)
            rw [hxd]
            obtain ⟨v3, hv3⟩ : ∃ v3, v1.alloc (.cells #[.int .i64 0, .int .i64 0] 23) = v3 := ⟨_, rfl⟩
            have HP2 := Lib.hid (HP.out.below ((Below.refl _ v1).alloc (Nat.le_refl _) (.cells #[.int .i64 0, .int .i64 0] 23)))
            rw [hv3] at HP2
            clear HP
            have HP := HP2
            clear HP2
            have HV3 := Lib.hid hv3
            rw [hv3] at k1 k2 ⊢
            have HKC := Lib.hid k1
            have HD := Lib.hid k2
            have HNE := Lib.hid k3
            have HLE := Lib.hid k4
            clear hv3 k1 k2 k3 k4 hxd hSS
            have hSS : (v3.cell? ⟨xc, 1, none⟩ = some (.int .i64 f2) ∧ KeepB [(xd, s1, c2), (xc, f1, f2), (xa, s1, s2)] w v3) := ⟨(HKC.out.1 (xc, f1, f2) (by simp)).cell (i := 1) rfl, HKC.out⟩
            refine hK.out _ _ hSS ?_
            clear hK K
            try simp only [Act.put, List.setIfInBounds_toArray, List.set_cons_zero, List.set_cons_succ]
            clear HKA
            have HKA := HKC
            clear HKC
            refine only_one (i := 5) (by kernel_rfl) rfl (by rfl) ?_
            intro K hK
            go_simp
            refine (left_eq E5.out HP.out).mono ?_
            rintro e v2 ⟨rfl, hb6⟩
            have HKB := Lib.hid (HKA.out.past hb6)
            clear HKA hSS
            have HD2 := Lib.hid (HD.out.past hb6)
            clear HD
            have HD := HD2
            clear HD2
            clear hb6 HP
            have hSS : (v2.cell? ⟨xc, 1, none⟩ = some (.int .i64 f2) ∧ KeepB [(xd, s1, c2), (xc, f1, f2), (xa, s1, s2)] w v2) := ⟨(HKB.out.1 (xc, f1, f2) (by simp)).cell (i := 1) rfl, HKB.out⟩
            refine hK.out _ _ hSS ?_
            clear hK K
            try simp only [Act.put, List.setIfInBounds_toArray, List.set_cons_zero, List.set_cons_succ]
            refine take_first (i := 6) (v := ?_) rfl (by kernel_rfl) (by kernel_rfl) (by kernel_rfl) (fun _ _ _ h => h) (by rfl) (by assumption) ?_ ?_
            rotate_left 1
            · intro X hSX
              (try dsimp only at hSX)
              first | (go_simp; done) | (go_simp; with_reducible rfl)
            try simp only [Act.put, List.setIfInBounds_toArray, List.set_cons_zero, List.set_cons_succ]
            refine take_first (i := 7) (v := ?_) rfl (by kernel_rfl) (by kernel_rfl) (by kernel_rfl) (fun _ _ _ h => h) (by rfl) (by assumption) ?_ ?_
            rotate_left 1
            · intro X hSX
              (try dsimp only at hSX)
              first | (go_simp; done) | (go_simp; with_reducible rfl)
            try simp only [Act.put, List.setIfInBounds_toArray, List.set_cons_zero, List.set_cons_succ]
            refine take_first (i := 8) (v := ?_) rfl (by kernel_rfl) (by kernel_rfl) (by kernel_rfl) (fun _ _ _ h => h) (by rfl) (by assumption) ?_ ?_
            rotate_left 1
            · intro X hSX
              (try dsimp only at hSX)
              first | (go_simp; done) | (go_simp; with_reducible rfl)
            try simp only [Act.put, List.setIfInBounds_toArray, List.set_cons_zero, List.set_cons_succ]
            have q0 := HD.out.cell (i := 0) (v := .int .i64 0) rfl
            have q1 := HD.out.cell (i := 1) (v := .int .i64 0) rfl
            have df := HD.out.fr (i := 0)
            have dg := HD.out.fr (i := 1)
            refine only_one (i := 10) (by kernel_rfl) rfl (by rfl) ?_
            intro K hK
            go_simp
            have HKD := Lib.hid (HKB.out.store HD.out HNE.out HLE.out d1 s2)
            clear hSS q0 q1 df dg
            have hSS : (World.cell? _ ⟨xc, 1, none⟩ = some (.int .i64 f2) ∧ KeepB [(xd, s1, c2), (xc, f1, f2), (xa, s1, s2)] w _) := ⟨(HKD.out.tail.1 (xc, f1, f2) (by simp)).cell (i := 1) rfl, HKD.out.tail⟩
            refine hK.out _ _ hSS ?_
            clear hK K
            try simp only [Act.put, List.setIfInBounds_toArray, List.set_cons_zero, List.set_cons_succ]
            refine take_first (i := 11) (v := ?_) rfl (by kernel_rfl) (by kernel_rfl) (by kernel_rfl) (fun _ _ _ h => h) (by rfl) (by assumption) ?_ ?_
            rotate_left 1
            · intro X hSX
              (try dsimp only at hSX)
              first | (go_simp; done) | (go_simp; with_reducible rfl)
            try simp only [Act.put, List.setIfInBounds_toArray, List.set_cons_zero, List.set_cons_succ]
            refine wpAnyH_done (by kernel_rfl) ?_ _
            go_wp2_with fail
            go_meet
            exact ⟨_, rfl, rfl, HKD⟩
        · intro K hK
          go_simp
          obtain ⟨xe, hxd⟩ : ∃ x, wx.heap.size = x := ⟨_, rfl⟩
          obtain ⟨k1, k2, k3, k4⟩ := HKB.out.new hxd (.int .i64 0) (.int .i64 0)
          rw [hxd]
          obtain ⟨v3, hv3⟩ : ∃ v3, wx.alloc (.cells #[.int .i64 0, .int .i64 0] 23) = v3 := ⟨_, rfl⟩
          skip
          have HV3 := Lib.hid hv3
          rw [hv3] at k1 k2 ⊢
          have HKC := Lib.hid k1
          have HD := Lib.hid k2
          have HNE := Lib.hid k3
          have HLE := Lib.hid k4
          clear hv3 k1 k2 k3 k4 hxd hSS
          have hSS : (v3.cell? ⟨xc, 1, none⟩ = some (.int .i64 f2) ∧ KeepB [(xd, s1, c2), (xc, f1, f2), (xa, s1, s2)] w v3) := ⟨(HKC.out.1 (xc, f1, f2) (by simp)).cell (i := 1) rfl, HKC.out⟩
          refine hK.out _ _ hSS ?_
          clear hK K
          try simp only [Act.put, List.setIfInBounds_toArray, List.set_cons_zero, List.set_cons_succ]
          clear HKB
          have HKB := HKC
          clear HKC
          refine only_one (i := 4) (by kernel_rfl) rfl (by rfl) ?_
          intro K hK
          go_simp
          simp only [HSDE.out]
          refine (stages_eq (N := N - 1) (len_le HLN.out) (HSD.out _ HKB.out.2) (by omega)).mono ?_
          rintro e v1 ⟨a5, c5, rfl, hp5, hb5⟩
          have HP := Lib.hid hp5
          have HKA := Lib.hid (HKB.out.past hb5)
          clear HKB hSS
          have HD2 := Lib.hid (HD.out.past hb5)
          clear HD
          have HD := HD2
          clear HD2
          clear hp5 hb5
          have hSS : (v1.cell? ⟨xc, 1, none⟩ = some (.int .i64 f2) ∧ KeepB [(xd, s1, c2), (xc, f1, f2), (xa, s1, s2)] w v1) := ⟨(HKA.out.1 (xc, f1, f2) (by simp)).cell (i := 1) rfl, HKA.out⟩
          refine hK.out _ _ hSS ?_
          clear hK K
          try simp only [Act.put, List.setIfInBounds_toArray, List.set_cons_zero, List.set_cons_succ]
          refine only_one (i := 5) (by kernel_rfl) rfl (by rfl) ?_
          intro K hK
          go_simp
          refine (left_eq E5.out HP.out).mono ?_
          rintro e v2 ⟨rfl, hb6⟩
          have HKB := Lib.hid (HKA.out.past hb6)
          clear HKA hSS
          have HD2 := Lib.hid (HD.out.past hb6)
          clear HD
          have HD := HD2
          clear HD2
          clear hb6 HP
          have hSS : (v2.cell? ⟨xc, 1, none⟩ = some (.int .i64 f2) ∧ KeepB [(xd, s1, c2), (xc, f1, f2), (xa, s1, s2)] w v2) := ⟨(HKB.out.1 (xc, f1, f2) (by simp)).cell (i := 1) rfl, HKB.out⟩
          refine hK.out _ _ hSS ?_
          clear hK K
          try simp only [Act.put, List.setIfInBounds_toArray, List.set_cons_zero, List.set_cons_succ]
          refine take_first (i := 6) (v := ?_) rfl (by kernel_rfl) (by kernel_rfl) (by kernel_rfl) (fun _ _ _ h => h) (by rfl) (by assumption) ?_ ?_
          rotate_left 1
          · intro X hSX
            (try dsimp only at hSX)
            first | (go_simp; done) | (go_simp; with_reducible rfl)
          try simp only [Act.put, List.setIfInBounds_toArray, List.set_cons_zero, List.set_cons_succ]
          refine take_first (i := 7) (v := ?_) rfl (by kernel_rfl) (by kernel_rfl) (by kernel_rfl) (fun _ _ _ h => h) (by rfl) (by assumption) ?_ ?_
          rotate_left 1
          · intro X hSX
            (try dsimp only at hSX)
            first | (go_simp; done) | (go_simp; with_reducible rfl)
          try simp only [Act.put, List.setIfInBounds_toArray, List.set_cons_zero, List.set_cons_succ]
          refine take_first (i := 8) (v := ?_) rfl (by kernel_rfl) (by kernel_rfl) (by kernel_rfl) (fun _ _ _ h => h) (by rfl) (by assumption) ?_ ?_
          rotate_left 1
          · intro X hSX
            (try dsimp only at hSX)
            first | (go_simp; done) | (go_simp; with_reducible rfl)
          try simp only [Act.put, List.setIfInBounds_toArray, List.set_cons_zero, List.set_cons_succ]
          have q0 := HD.out.cell (i := 0) (v := .int .i64 0) rfl
          have q1 := HD.out.cell (i := 1) (v := .int .i64 0) rfl
          have df := HD.out.fr (i := 0)
          have dg := HD.out.fr (i := 1)
          refine only_one (i := 10) (by kernel_rfl) rfl (by rfl) ?_
          intro K hK
          go_simp
          have HKD := Lib.hid (HKB.out.store HD.out HNE.out HLE.out d1 s2)
          clear hSS q0 q1 df dg
          have hSS : (World.cell? _ ⟨xc, 1, none⟩ = some (.int .i64 f2) ∧ KeepB [(xd, s1, c2), (xc, f1, f2), (xa, s1, s2)] w _) := ⟨(HKD.out.tail.1 (xc, f1, f2) (by simp)).cell (i := 1) rfl, HKD.out.tail⟩
          refine hK.out _ _ hSS ?_
          clear hK K
          try simp only [Act.put, List.setIfInBounds_toArray, List.set_cons_zero, List.set_cons_succ]
          refine take_first (i := 11) (v := ?_) rfl (by kernel_rfl) (by kernel_rfl) (by kernel_rfl) (fun _ _ _ h => h) (by rfl) (by assumption) ?_ ?_
          rotate_left 1
          · intro X hSX
            (try dsimp only at hSX)
            first | (go_simp; done) | (go_simp; with_reducible rfl)
          try simp only [Act.put, List.setIfInBounds_toArray, List.set_cons_zero, List.set_cons_succ]
          refine wpAnyH_done (by kernel_rfl) ?_ _
          go_wp2_with fail
          go_meet
          exact ⟨_, rfl, rfl, HKD⟩
      case rest =>
        obtain ⟨xe, rfl, rfl, HKE⟩ := hcut
        clear HKD0 E4 E5 E2 E3
        have x0 := (HKE.out.1 (xa, s1, s2) (by simp)).cell (i := 0) (v := .int .i64 s1) rfl
        have x1 := (HKE.out.1 (xa, s1, s2) (by simp)).cell (i := 1) (v := .int .i64 s2) rfl
        have y0 := (HKE.out.1 (xd, s1, c2) (by simp)).cell (i := 0) (v := .int .i64 s1) rfl
        have z1 := (HKE.out.1 (xe, d1, s2) (by simp)).cell (i := 1) (v := .int .i64 s2) rfl
        go_wp2_with fail
        refine (stages_eq HLN.out (HSRC.out.past HKE.out.2) (by omega)).mono ?_
        rintro e t1 ⟨a6, c6, rfl, hp6, hb6⟩
        have HP := Lib.hid hp6
        have HKF := Lib.hid (HKE.out.past hb6).2
        clear hp6 hb6 HKE x0 x1 y0 z1
        go_wp2_with fail
        refine (need_any m _ _ _ HP.out).mono ?_
        rintro e t2 ⟨⟨r1, r2⟩, hr, rfl, hb7⟩
        have HKG := Lib.hid (HKF.out.trans (hb7.mono HKF.out.size))
        clear hb7 HKF HP
        rcases HN.out _ hr with ⟨z1, z2, e1, hz, hrr⟩ | ⟨k, z1, z2, hrr, h1, h2, h3, e1, hz, hk0, hkn⟩
        · simp only [Prod.mk.injEq] at hrr
          obtain ⟨rfl, rfl⟩ := hrr
          have EZ := Lib.hid e1
          clear e1 hr HN
          go_wp2_with fail
          refine (stages_eq HLN.out (HSRC.out.past HKG.out) (by omega)).mono ?_
          rintro e t3 ⟨a7, c7, rfl, hp8, hb8⟩
          have HP := Lib.hid hp8
          have HB := Lib.hid (HKG.out.trans (hb8.mono HKG.out.size))
          clear hp8 hb8 HKG
          go_wp2_with fail
          refine (left_eq EZ.out HP.out).mono ?_
          rintro e t4 ⟨rfl, hb9⟩
          obtain ⟨xg, hxg⟩ : ∃ xa, t4.heap.size = xa := ⟨_, rfl⟩
          obtain ⟨X, _, BB⟩ := pair_new (u := .int .i64 z1) (v := .int .i64 z2) HB.out hb9 hxg
          obtain ⟨t5, ht5⟩ : ∃ u3, t4.alloc (.cells #[.int .i64 z1, .int .i64 z2] 23) = u3 := ⟨_, rfl⟩
          rw [ht5] at X BB
          have HBB := Lib.hid BB
          have x0 := X.cell (i := 0) (v := .int .i64 z1) rfl
          clear X BB hb9 HP HB
          go_wp2_with fail
          refine (HK.out _).mono ?_
          rintro e t6 ⟨rfl, hb4⟩
          have HB4 := Lib.hid (HBB.out.trans (hb4.mono HBB.out.size))
          clear hb4
          go_wp2
          go_ret
          exact ⟨rfl, HB4.out⟩
        · simp only [Prod.mk.injEq] at hrr
          obtain ⟨rfl, rfl⟩ := hrr
          have EZ := Lib.hid e1
          have HK0 := Lib.hid hk0
          have HKN := Lib.hid hkn
          clear e1 hr HN hk0 hkn
          go_wp2_with fail
          refine (stages_eq HLN.out (HSRC.out.past HKG.out) (by omega)).mono ?_
          rintro e t3 ⟨a7, c7, rfl, hp8, hb8⟩
          have HP := Lib.hid hp8
          have HB := Lib.hid (HKG.out.trans (hb8.mono HKG.out.size))
          clear hp8 hb8 HKG
          go_wp2_with fail
          refine (left_eq EZ.out HP.out).mono ?_
          rintro e t4 ⟨rfl, hb9⟩
          obtain ⟨xg, hxg⟩ : ∃ xa, t4.heap.size = xa := ⟨_, rfl⟩
          obtain ⟨X, hp, BB⟩ := pair_new (u := .int .i64 z1) (v := .int .i64 z2) HB.out hb9 hxg
          have hxw : w.heap.size ≤ xg := by have := HB.out.size; have := hb9.size; omega
          have HXW := Lib.hid hxw
          obtain ⟨t5, ht5⟩ : ∃ u3, t4.alloc (.cells #[.int .i64 z1, .int .i64 z2] 23) = u3 := ⟨_, rfl⟩
          rw [ht5] at X BB
          have HX := Lib.hid X
          have HBB := Lib.hid BB
          have x0 := X.cell (i := 0) (v := .int .i64 z1) rfl
          clear X BB hb9 hp HP HB hxw
          by_cases hk : r1 = 0
          · subst hk
            obtain rfl : m = 0 := HK0.out rfl
            go_wp2_with fail
            refine (HK.out _).mono ?_
            rintro e t6 ⟨rfl, hb4⟩
            have HB4 := Lib.hid (HBB.out.trans (hb4.mono HBB.out.size))
            clear hb4
            go_wp2
            go_ret
            exact ⟨rfl, HB4.out⟩
          · obtain ⟨y1, y2, e2, hy⟩ := HKN.out hk
            have EY := Lib.hid e2
            have w4 : IntKind.i64.wrap (r1 - 1) = r1 - 1 := wrap_id (by omega) (by omega)
            have hne := (fun (x : Int) (h : x ≠ 0) => (by simpa using h : (x != 0) = true)) _ hk
            have hne2 := (fun (x : Int) (h : x ≠ 0) => (by simpa using h : (x == 0) = false)) _ hk
            clear e2 HK0 HKN
            go_wp2_with fail
            clear ht5 x0
            refine (stages_eq HLN.out (HSRC.out.past HBB.out) (by omega)).mono ?_
            rintro e t6 ⟨a8, c8, rfl, hp8, hb8⟩
            have HP := Lib.hid hp8
            have HB := Lib.hid (HBB.out.trans (hb8.mono HBB.out.size))
            have HX2 := Lib.hid (HX.out.past hb8)
            clear hp8 hb8 HBB HX
            go_wp2_with fail
            refine (left_eq EY.out HP.out).mono ?_
            rintro e t7 ⟨rfl, hb9⟩
            have HBB := Lib.hid (HB.out.trans (hb9.mono HB.out.size))
            have X := HX2.out.past hb9
            have x0 := X.cell (i := 0) (v := .int .i64 z1) rfl
            have x1 := X.cell (i := 1) (v := .int .i64 z2) rfl
            have xf := X.fr (i := 0)
            have xh := X.fr (i := 1)
            obtain ⟨d0, d1', d2, hg, _⟩ := blk_after X (.int .i64 y1) (.int .i64 y2) rfl rfl
            have HBC := Lib.hid ((HBB.out.setCell (p := ⟨xg, 0, none⟩) HXW.out (.int .i64 y1)).setCell (p := ⟨xg, 1, none⟩) HXW.out (.int .i64 y2))
            clear hg X hb9 HP HB HX2 HBB
            go_wp2_with fail
            refine (HK.out _).mono ?_
            rintro e t8 ⟨rfl, hb4⟩
            have HB4 := Lib.hid (HBC.out.trans (hb4.mono HBC.out.size))
            clear hb4
            go_wp2
            go_ret
            exact ⟨rfl, HB4.out⟩
  · have E1 := Lib.hid (leftF_bad (n := m) (by rw [HLN.out]; exact hN9) hs)
    clear hs
    go_enter Try.func9, Try.ntmps9
    go_wp2_with fail
    refine (stages_eq HLN.out HSRC.out (by omega)).mono ?_
    rintro e u1 ⟨a1, c1, rfl, hp1, hb1⟩
    have HP := Lib.hid hp1
    have HB := Lib.hid hb1
    clear hp1 hb1
    go_wp2_with fail
    refine (left_eq E1.out HP.out).mono ?_
    rintro e u2 ⟨rfl, hb2⟩
    obtain ⟨xa, hxa⟩ : ∃ xa, u2.heap.size = xa := ⟨_, rfl⟩
    obtain ⟨X, _, BB⟩ := pair_new (u := .int .i64 0) (v := .int .i64 0) HB.out hb2 hxa
    have HBB := Lib.hid BB
    clear X BB hb2 HP HB
    go_wp2_with fail
    refine (HK.out _).mono ?_
    rintro e u4 ⟨rfl, hb4⟩
    have HB4 := Lib.hid (HBB.out.trans (hb4.mono HBB.out.size))
    clear hb4
    go_wp2
    go_ret
    exact ⟨rfl, HB4.out⟩
end Go.Proofs.Ytopnlcjbklmicaa
