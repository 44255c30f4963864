import Derived.Test.YtopnlcjbklmicaaK52
import Derived.Test.YtopnlcjbklmicaaK25
import Derived.Test.YtopnlcjbklmicaaL2
import Derived.WalkKit
import Derived.WalkSpells
import Derived.WalkLawsBesides
import Derived.Deep.QuietTactic
import Derived.BigQuiet
import Derived.Lib.Hide
import Derived.WalkSmall
import Derived.Maps.OwnSet
import Derived.Maps.RangeWalk
import Derived.Deep.RegionWith
import Derived.Deep.RegionHeld3
import Derived.Deep.DrawnRows
import Derived.Deep.DeepCutAuto
import Derived.OneCell
import Derived.KernelRfl
import Derived.Laws.StructEq
import Derived.StillTailTactics
import Derived.Laws.Externs
import Derived.RangeFuncBox
import Derived.Outline
import Derived.RangeFuncNested
import Derived.RangeFuncBound
import Derived.RangeFuncCalls
import Derived.RangeFuncLeaves
import Derived.Shelf.RegionOpen
import Derived.OwnWalkIn
import Derived.TacticsInMore
import Derived.LoopNIn
import Derived.LoopIn
import Derived.Test.YtopnlcjbklmicaaProg
namespace Go.Proofs.Ytopnlcjbklmicaa
open Go.RowKit Go.Maps Go.Shelf
set_option linter.unusedVariables false
set_option linter.unusedSimpArgs false
theorem IntsR.grownTo {w w' : World} {base : Nat} {v : Value} {l : List Int} {row : Option Nat} (h : IntsR w base v l) (hg : w.grownBy w' row) (hrow : ∀ k, v.ownBlock = some k → row ≠ some k) : IntsR w' base v l := h.kept hg hrow
/-- One copy is under way. -/
structure OneC (wr W : World) (base : Nat) (u : Value) (m : List Int) : Prop where
  b : Below wr.heap.size wr W
  r : IntsR W base u m
  g : ∀ k, u.ownBlock = some k → wr.heap.size ≤ k
/-- Two copies are. -/
structure TwoC (wr W : World) (base : Nat) (u : Value) (m : List Int) (u' : Value) (m' : List Int) : Prop where
  b : Below wr.heap.size wr W
  r : IntsR W base u m
  g : ∀ k, u.ownBlock = some k → wr.heap.size ≤ k
  r' : IntsR W base u' m'
  g' : ∀ k, u'.ownBlock = some k → wr.heap.size ≤ k
  ne : ∀ k, u.ownBlock = some k → u'.ownBlock ≠ some k
theorem OneC.start {wr W : World} {base b : Nat} (hb : Below wr.heap.size wr W) (hk : W.heap.size = b) (h : base ≤ wr.heap.size) : OneC wr (W.alloc (.cells #[] 3)) base (.slice (some ⟨b, 0, none⟩) 0 0) [] := by
  have hs := hb.size
  exact ⟨hb.alloc hb.size _, IntsR.empty W base b hk (by omega), fun k e => by simp [Value.ownBlock] at e; omega⟩
theorem OneC.app {wr W W' : World} {base b kb : Nat} {v : Value} {l : List Int} (h : OneC wr W base (.slice (some ⟨b, 0, none⟩) 0 0) []) (hr : IntsR W' base v l) (hkb : W.heap.size = kb) (hk : ∀ k, v.ownBlock = some k → k = b ∨ k = kb) (hg : W.grownBy W' (some b)) : OneC wr W' base v l := by
  have h1 := h.g b rfl
  have hs := h.b.size
  exact ⟨h.b.grown hg h.b.size (fun j hj => by simp at hj; omega), hr, fun k e => by rcases hk k e with rfl | rfl <;> omega⟩
theorem OneC.second {wr W : World} {base b : Nat} {u : Value} {m : List Int} (h : OneC wr W base u m) (hk : W.heap.size = b) (hb : base ≤ wr.heap.size) : TwoC wr (W.alloc (.cells #[] 3)) base u m (.slice (some ⟨b, 0, none⟩) 0 0) [] := by
  have hs := h.b.size
  exact ⟨h.b.alloc h.b.size _, h.r.kept (World.grownBy_alloc W _ none) (fun _ _ e => by cases e), h.g, IntsR.empty W base b hk (by omega), fun k e => by simp [Value.ownBlock] at e; omega, fun k e e' => by
    have := (h.r.lt k e).2.1
    simp [Value.ownBlock] at e'
    omega⟩
theorem TwoC.swap {wr W : World} {base : Nat} {u u' : Value} {m m' : List Int} (h : TwoC wr W base u m u' m') : TwoC wr W base u' m' u m := ⟨h.b, h.r', h.g', h.r, h.g, fun k e e' => h.ne k e' e⟩
theorem TwoC.app {wr W W' : World} {base b kb : Nat} {u v : Value} {m l : List Int} (h : TwoC wr W base u m (.slice (some ⟨b, 0, none⟩) 0 0) []) (hr : IntsR W' base v l) (hkb : W.heap.size = kb) (hk : ∀ k, v.ownBlock = some k → k = b ∨ k = kb) (hg : W.grownBy W' (some b)) : TwoC wr W' base u m v l := by
  have h1 := h.g' b rfl
  have hs := h.b.size
  have hne : ∀ k, u.ownBlock = some k → k ≠ b := fun k e e' => h.ne k e (by rw [e']; rfl)
  exact ⟨h.b.grown hg h.b.size (fun j hj => by simp at hj; omega), h.r.kept hg (fun k e e' => hne k e (Option.some.inj e').symm), h.g, hr, fun k e => by rcases hk k e with rfl | rfl <;> omega, fun k e e' => by
    have h2 := (h.r.lt k e).2.1
    have h3 := hne k e
    rcases hk k e' with h4 | h4 <;> omega⟩
theorem OwnT.setB {w : World} {base b i : Nat} {u v : Value} {ts : List (List Int × List Int)} {vals : List (Value × Value)} (h : OwnT w base v ts vals) (hb : b < base) : OwnT (w.setCell ⟨b, i, none⟩ u) base v ts vals := by
  have hg := grownBy_setCell w ⟨b, i, none⟩ u
  refine ⟨h.len, h.row.kept hg ?_, fun j hj => ⟨(h.ins j hj).1.kept hg (fun k hk e => ?_), (h.ins j hj).2.kept hg (fun k hk e => ?_)⟩⟩
  · cases hv : v.ownBlock with
    | none => exact .inl rfl
    | some k => exact .inr fun e => by have h1 := (h.lt k hv).1; have h2 := Option.some.inj e; dsimp only at h2; omega
  · have := ((h.ins j hj).1.lt k hk).1; have := Option.some.inj e; simp at this; omega
  · have := ((h.ins j hj).2.lt k hk).1; have := Option.some.inj e; simp at this; omega
theorem via5 {C T : World → Nat → Nat → Value → Value → Prop} {G : Prop} (h : (∀ W b1 b2 u v, C W b1 b2 u v → T W b1 b2 u v) → G) (k : ∀ W b1 b2 u v, C W b1 b2 u v → T W b1 b2 u v) : G := h k
/-- Two operations may come up. -/
theorem one_of_twoT {P : Program} {md : Region.Mode} {ops : Array Oper} {Q : Exit → Act → World → Prop} {S : World → Prop} {i j : Nat} {o o' : Oper} {fuel : Nat} {L : Array Bool} {a : Act} {w : World} (hr : Region.ready md ops L = [i, j]) (hi : ops.toList[i]? = some o) (hj : ops.toList[j]? = some o')
    (hw : Region.wanted o (yielded ops a.tmps) = true) (hw' : Region.wanted o' (yielded ops a.tmps) = true) (h : ∀ K : Act → World → Prop, Hid (∀ a' w', S w' → wpAnyH P md ops Q S fuel (L.setIfInBounds i true) a' w' → K a' w') → o.wp P a w K Q)
    (h' : ∀ K : Act → World → Prop, Hid (∀ a' w', S w' → wpAnyH P md ops Q S fuel (L.setIfInBounds j true) a' w' → K a' w') → o'.wp P a w K Q) : wpAnyH P md ops Q S (fuel + 1) L a w :=
  wpAnyH_all hr (by simp) fun k hk => by
    rcases List.mem_cons.1 hk with rfl | hk
    · unfold wpOp
      rw [show ops[k]? = some o from by rw [← Array.getElem?_toList]; exact hi]
      simp only [hw, if_true]
      exact .inl (h _ (Lib.hid fun a' w' h1 h2 => ⟨h1, h2⟩))
    · rw [List.mem_singleton.1 hk]
      unfold wpOp
      rw [show ops[j]? = some o' from by rw [← Array.getElem?_toList]; exact hj]
      simp only [hw', if_true]
      exact .inl (h' _ (Lib.hid fun a' w' h1 h2 => ⟨h1, h2⟩))
set_option maxRecDepth 100000 in
set_option maxHeartbeats 4000000 in
theorem own_any (W H : Int) (tv : Value) (ts : List (List Int × List Int)) (w : World) (h : SrcT w tv ts) (hts : ts.length ≤ 1000) (hss : ∀ i, i < ts.length → (ts[i]?.getD ([], [])).1.length ≤ 1000 ∧ (ts[i]?.getD ([], [])).2.length ≤ 1000) :
    Calls Try.prog 31 #[.agg #[.int .i64 W, .int .i64 H, tv]] w fun e w' => ∃ p c, e = .returned (.agg #[.int .i64 W, .int .i64 H, .slice p ts.length c]) ∧ TiersAt w'.heap.size w' (.slice p ts.length c) ts ∧ Below w.heap.size w w' := by
  obtain ⟨a, cap, rfl, hl, hp⟩ := h
  have A1 := ((Blk.new w #[.int .i64 W, .int .i64 H, .slice a ts.length cap] 69).alloc (.cells #[.int .i64 0, .int .i64 0, .slice none 0 0] 69)).alloc (.cells #[] 85)
  have A2 := (Blk.newI (w.alloc (.cells #[.int .i64 W, .int .i64 H, .slice a ts.length cap] 69)) (w.heap.size + 1) #[.int .i64 0, .int .i64 0, .slice none 0 0] 69 (by simp)).alloc (.cells #[] 85)
  have O3 := OwnT.empty ((w.alloc (.cells #[.int .i64 W, .int .i64 H, .slice a ts.length cap] 69)).alloc (.cells #[.int .i64 0, .int .i64 0, .slice none 0 0] 69)) (w.heap.size + 1 + 1) (w.heap.size + 1 + 1) (by simp) (Nat.le_refl _)
  have BB := (((Below.refl _ w).alloc (Nat.le_refl _) (.cells #[.int .i64 W, .int .i64 H, .slice a ts.length cap] 69)).alloc (by simp) (.cells #[.int .i64 0, .int .i64 0, .slice none 0 0] 69)).alloc (by simp; omega) (.cells #[] 85)
  have HA1 := Lib.hid A1
  have HA2 := Lib.hid A2
  have HO3 := Lib.hid O3
  have HBB := Lib.hid BB
  have HP := Lib.hid hp
  have HSS := Lib.hid hss
  clear A1 A2 O3 BB hp hss
  go_enter Try.func31, Try.ntmps31
  go_wp2
  obtain ⟨base, hbase⟩ : ∃ base, w.heap.size + 1 + 1 = base := ⟨_, rfl⟩
  go_loopw [3, 4] (fun lv i wr => ∃ (k : Nat) (vals : List (Value × Value)), k ≤ ts.length ∧ i = .int .i64 k ∧ Hid (OwnT wr base lv (ts.take k) vals) ∧ Hid (Blk wr w.heap.size #[.int .i64 W, .int .i64 H, .slice a ts.length cap] 69) ∧ Hid (Blk wr (w.heap.size + 1) #[.int .i64 0, .int .i64 0, .slice none 0 0] 69) ∧ Hid (Below w.heap.size w wr) ∧ Hid (base ≤ wr.heap.size)) (fun _ i _ => ts.length - (intOf i).toNat)
  case atStart => exact ⟨0, [], Nat.zero_le _, rfl, by rw [← hbase]; exact HO3, HA1, HA2, HBB, Lib.hid (by rw [← hbase]; simp)⟩
  case round =>
    obtain ⟨k, vals, hk, rfl, HO, HX, HR, HB, HZ⟩ := hrel
    clear HA1 HA2 HO3 HBB
    obtain ⟨p, c, hsh⟩ := own_shape2 HO.out.row
    have hkk : (ts.take k).length = k := by rw [List.length_take]; omega
    rw [hkk] at hsh
    subst hsh
    clear hkk
    have HBE := Lib.hid hbase
    clear hbase
    by_cases hlt : k < ts.length
    · obtain ⟨b, off, rfl, hbb, vc, vw, c1, c2, s1, s2⟩ := HP.out k hlt
      obtain ⟨⟨l1, l2⟩, hel⟩ : ∃ t, ts[k]?.getD ([], []) = t := ⟨_, rfl⟩
      have htk : ts.take (k + 1) = ts.take k ++ [(l1, l2)] := by rw [List.take_succ_eq_append_getElem hlt]; rw [List.getElem?_eq_getElem hlt] at hel; rw [show ts[k] = (l1, l2) from by simpa using hel]
      have hle := HSS.out k hlt
      rw [hel] at s1 s2 hle
      have HS1 := Lib.hid (And.intro s1 s2)
      have HLE := Lib.hid hle
      have HTK := Lib.hid htk
      have hS : ∀ Wx, Below base wr Wx → (Wx.cell? ⟨w.heap.size, 2, none⟩ = some (.slice (some ⟨b, off, none⟩) ts.length cap) ∧ Wx.cell? ⟨b, off + k * 2, none⟩ = some vc ∧ Wx.cell? ⟨b, off + k * 2 + 1, none⟩ = some vw) := fun Wx hx => by
        have h0 := HBE.out
        have h1 := HB.out.size
        exact ⟨(hx.cell (p := ⟨w.heap.size, 2, none⟩) (show w.heap.size < base by omega)).trans (HX.out.cell (i := 2) rfl), (hx.cell (p := ⟨b, _, none⟩) (show b < base by omega)).trans ((HB.out.cell (p := ⟨b, _, none⟩) hbb).trans c1), (hx.cell (p := ⟨b, _, none⟩) (show b < base by omega)).trans ((HB.out.cell (p := ⟨b, _, none⟩) hbb).trans c2)⟩
      have x0 := (hS wr (Below.refl _ _)).1
      have HSC := Lib.hid hS
      have hki : (0 : Int) ≤ (k : Int) := by omega
      have hkl : (k : Int) < (ts.length : Int) := by omega
      clear hel htk hle s1 s2 c1 c2 hS
      go_wp2_with fail
      refine region_plain (fun Wx => Wx.cell? ⟨w.heap.size, 2, none⟩ = some (.slice (some ⟨b, off, none⟩) ts.length cap) ∧ Wx.cell? ⟨b, off + k * 2, none⟩ = some vc ∧ Wx.cell? ⟨b, off + k * 2 + 1, none⟩ = some vw) 21 #[false, false, false, false, false, false, false, false, false, false, false, false, false, false, false, false, false, false, false, false, false] rfl rfl (by kernel_rfl) ?_
      obtain ⟨wx, hwx⟩ : ∃ x, wr.drew = x := ⟨_, rfl⟩
      have hB0 : Below wr.heap.size wr wx := by rw [← hwx]; exact (Below.refl _ _).drew
      rw [hwx]
      clear hwx x0
      have HB0 := Lib.hid hB0
      have hSS := HSC.out wx (hB0.mono HZ.out)
      clear hB0
      refine take_first (i := 0) (v := ?_) rfl (by kernel_rfl) (by kernel_rfl) (by kernel_rfl) (fun _ _ _ h => h) (by rfl) (by assumption) ?_ ?_
      rotate_left 1
      · intro X hSX
        (try dsimp only at hSX)
        first | (go_simp; done) | (go_simp; with_reducible rfl)
      try simp only [Act.put, List.setIfInBounds_toArray, List.set_cons_zero, List.set_cons_succ]
      refine take_first (i := 2) (v := ?_) rfl (by kernel_rfl) (by kernel_rfl) (by kernel_rfl) (fun _ _ _ h => h) (by rfl) (by assumption) ?_ ?_
      rotate_left 1
      · intro X hSX
        (try dsimp only at hSX)
        first | (go_simp; done) | (go_simp; with_reducible rfl)
      try simp only [Act.put, List.setIfInBounds_toArray, List.set_cons_zero, List.set_cons_succ]
      refine take_first (i := 3) (v := ?_) rfl (by kernel_rfl) (by kernel_rfl) (by kernel_rfl) (fun _ _ _ h => h) (by rfl) (by assumption) ?_ ?_
      rotate_left 1
      · intro X hSX
        (try dsimp only at hSX)
        first | (go_simp; done) | (go_simp; with_reducible rfl)
      try simp only [Act.put, List.setIfInBounds_toArray, List.set_cons_zero, List.set_cons_succ]
      refine take_first (i := 4) (v := ?_) rfl (by kernel_rfl) (by kernel_rfl) (by kernel_rfl) (fun _ _ _ h => h) (by rfl) (by assumption) ?_ ?_
      rotate_left 1
      · intro X hSX
        (try dsimp only at hSX)
        first | (go_simp; done) | (go_simp; with_reducible rfl)
      try simp only [Act.put, List.setIfInBounds_toArray, List.set_cons_zero, List.set_cons_succ]
      refine take_first (i := 5) (v := ?_) rfl (by kernel_rfl) (by kernel_rfl) (by kernel_rfl) (fun _ _ _ h => h) (by rfl) (by assumption) ?_ ?_
      rotate_left 1
      · intro X hSX
        (try dsimp only at hSX)
        first | (go_simp; done) | (go_simp; with_reducible rfl)
      try simp only [Act.put, List.setIfInBounds_toArray, List.set_cons_zero, List.set_cons_succ]
      refine take_first (i := 6) (v := ?_) rfl (by kernel_rfl) (by kernel_rfl) (by kernel_rfl) (fun _ _ _ h => h) (by rfl) (by assumption) ?_ ?_
      rotate_left 1
      · intro X hSX
        (try dsimp only at hSX)
        first | (go_simp; done) | (go_simp; with_reducible rfl)
      try simp only [Act.put, List.setIfInBounds_toArray, List.set_cons_zero, List.set_cons_succ]
      refine take_first (i := 7) (v := ?_) rfl (by kernel_rfl) (by kernel_rfl) (by kernel_rfl) (fun _ _ _ h => h) (by rfl) (by assumption) ?_ ?_
      rotate_left 1
      · intro X hSX
        (try dsimp only at hSX)
        first | (go_simp; done) | (go_simp; with_reducible rfl)
      try simp only [Act.put, List.setIfInBounds_toArray, List.set_cons_zero, List.set_cons_succ]
      refine take_first (i := 10) (v := ?_) rfl (by kernel_rfl) (by kernel_rfl) (by kernel_rfl) (fun _ _ _ h => h) (by rfl) (by assumption) ?_ ?_
      rotate_left 1
      · intro X hSX
        (try dsimp only at hSX)
        first | (go_simp; done) | (go_simp; with_reducible rfl)
      try simp only [Act.put, List.setIfInBounds_toArray, List.set_cons_zero, List.set_cons_succ]
      refine take_first (i := 11) (v := ?_) rfl (by kernel_rfl) (by kernel_rfl) (by kernel_rfl) (fun _ _ _ h => h) (by rfl) (by assumption) ?_ ?_
      rotate_left 1
      · intro X hSX
        (try dsimp only at hSX)
        first | (go_simp; done) | (go_simp; with_reducible rfl)
      try simp only [Act.put, List.setIfInBounds_toArray, List.set_cons_zero, List.set_cons_succ]
      refine take_first (i := 12) (v := ?_) rfl (by kernel_rfl) (by kernel_rfl) (by kernel_rfl) (fun _ _ _ h => h) (by rfl) (by assumption) ?_ ?_
      rotate_left 1
      · intro X hSX
        (try dsimp only at hSX)
        first | (go_simp; done) | (go_simp; with_reducible rfl)
      try simp only [Act.put, List.setIfInBounds_toArray, List.set_cons_zero, List.set_cons_succ]
      refine take_first (i := 13) (v := ?_) rfl (by kernel_rfl) (by kernel_rfl) (by kernel_rfl) (fun _ _ _ h => h) (by rfl) (by assumption) ?_ ?_
      rotate_left 1
      · intro X hSX
        (try dsimp only at hSX)
        first | (go_simp; done) | (go_simp; with_reducible rfl)
      try simp only [Act.put, List.setIfInBounds_toArray, List.set_cons_zero, List.set_cons_succ]
      refine take_first (i := 14) (v := ?_) rfl (by kernel_rfl) (by kernel_rfl) (by kernel_rfl) (fun _ _ _ h => h) (by rfl) (by assumption) ?_ ?_
      rotate_left 1
      · intro X hSX
        (try dsimp only at hSX)
        first | (go_simp; done) | (go_simp; with_reducible rfl)
      try simp only [Act.put, List.setIfInBounds_toArray, List.set_cons_zero, List.set_cons_succ]
      refine take_first (i := 15) (v := ?_) rfl (by kernel_rfl) (by kernel_rfl) (by kernel_rfl) (fun _ _ _ h => h) (by rfl) (by assumption) ?_ ?_
      rotate_left 1
      · intro X hSX
        (try dsimp only at hSX)
        first | (go_simp; done) | (go_simp; with_reducible rfl)
      try simp only [Act.put, List.setIfInBounds_toArray, List.set_cons_zero, List.set_cons_succ]
      clear hSS
      apply via5 (C := fun W4 b1 b2 u v => TwoC wr W4 base u l1 v l2)
      · intro HV
        have HVV := Lib.hid HV
        clear HV
        refine one_of_twoT (i := 1) (j := 9) (by kernel_rfl) rfl rfl (by rfl) (by rfl) ?_ ?_
        · intro K hK
          go_simp
          obtain ⟨b1, hb1⟩ : ∃ x, wx.heap.size = x := ⟨_, rfl⟩
          have hC := OneC.start (base := base) HB0.out hb1 HZ.out
          rw [hb1]
          obtain ⟨y0, hwy0⟩ : ∃ x, wx.alloc (.cells #[] 3) = x := ⟨_, rfl⟩
          rw [hwy0] at hC ⊢
          clear hwy0 hb1
          have hSS := HSC.out y0 (hC.b.mono HZ.out)
          have HC := Lib.hid hC
          clear hC
          refine hK.out _ _ hSS ?_
          clear hK K
          try simp only [Act.put, List.setIfInBounds_toArray, List.set_cons_zero, List.set_cons_succ]
          refine one_of_twoT (i := 8) (j := 9) (by kernel_rfl) rfl rfl (by rfl) (by rfl) ?_ ?_
          · intro K hK
            refine wp_copyI (.tmp 14) (.tmp 20) rfl base b1 (by rfl) HC.out.r l1 _ (by rfl) (HS1.out.1.past (HB.out.trans (HC.out.b.mono HB.out.size))) HLE.out.1 (by have h1 := HZ.out; have h2 := HC.out.b.size; omega) _ rfl ?_
            intro v1 y1 r1 k1 g1
            have hC := OneC.app HC.out r1 rfl k1 g1
            clear r1 k1 g1 hSS
            clear HC
            have hSS := HSC.out y1 (hC.b.mono HZ.out)
            have HC := Lib.hid hC
            clear hC
            refine hK.out _ _ hSS ?_
            clear hK K
            try simp only [Act.put, List.setIfInBounds_toArray, List.set_cons_zero, List.set_cons_succ]
            refine only_one (i := 9) (by kernel_rfl) rfl (by rfl) ?_
            intro K hK
            go_simp
            obtain ⟨b2, hb2⟩ : ∃ x, y1.heap.size = x := ⟨_, rfl⟩
            have hC := HC.out.second hb2 HZ.out
            rw [hb2]
            obtain ⟨y2, hwy2⟩ : ∃ x, y1.alloc (.cells #[] 3) = x := ⟨_, rfl⟩
            rw [hwy2] at hC ⊢
            clear hwy2 hb2 hSS
            clear HC
            have hSS := HSC.out y2 (hC.b.mono HZ.out)
            have HC := Lib.hid hC
            clear hC
            refine hK.out _ _ hSS ?_
            clear hK K
            try simp only [Act.put, List.setIfInBounds_toArray, List.set_cons_zero, List.set_cons_succ]
            refine only_one (i := 16) (by kernel_rfl) rfl (by rfl) ?_
            intro K hK
            refine wp_copyI (.tmp 22) (.tmp 28) rfl base b2 (by rfl) HC.out.r' l2 _ (by rfl) (HS1.out.2.past (HB.out.trans (HC.out.b.mono HB.out.size))) HLE.out.2 (by have h1 := HZ.out; have h2 := HC.out.b.size; omega) _ rfl ?_
            intro v2 y3 r2 k2 g2
            have hC := TwoC.app HC.out r2 rfl k2 g2
            clear r2 k2 g2 hSS
            clear HC
            have hSS := HSC.out y3 (hC.b.mono HZ.out)
            have HC := Lib.hid hC
            clear hC
            refine hK.out _ _ hSS ?_
            clear hK K
            try simp only [Act.put, List.setIfInBounds_toArray, List.set_cons_zero, List.set_cons_succ]
            exact HVV.out y3 b1 b2 v1 v2 (HC.out)
          · intro K hK
            go_simp
            obtain ⟨b2, hb2⟩ : ∃ x, y0.heap.size = x := ⟨_, rfl⟩
            have hC := HC.out.second hb2 HZ.out
            rw [hb2]
            obtain ⟨y1, hwy1⟩ : ∃ x, y0.alloc (.cells #[] 3) = x := ⟨_, rfl⟩
            rw [hwy1] at hC ⊢
            clear hwy1 hb2 hSS
            clear HC
            have hSS := HSC.out y1 (hC.b.mono HZ.out)
            have HC := Lib.hid hC
            clear hC
            refine hK.out _ _ hSS ?_
            clear hK K
            try simp only [Act.put, List.setIfInBounds_toArray, List.set_cons_zero, List.set_cons_succ]
            refine only_one (i := 8) (by kernel_rfl) rfl (by rfl) ?_
            intro K hK
            refine wp_copyI (.tmp 14) (.tmp 20) rfl base b1 (by rfl) HC.out.r l1 _ (by rfl) (HS1.out.1.past (HB.out.trans (HC.out.b.mono HB.out.size))) HLE.out.1 (by have h1 := HZ.out; have h2 := HC.out.b.size; omega) _ rfl ?_
            intro v1 y2 r1 k1 g1
            have hC := (TwoC.app HC.out.swap r1 rfl k1 g1).swap
            clear r1 k1 g1 hSS
            clear HC
            have hSS := HSC.out y2 (hC.b.mono HZ.out)
            have HC := Lib.hid hC
            clear hC
            refine hK.out _ _ hSS ?_
            clear hK K
            try simp only [Act.put, List.setIfInBounds_toArray, List.set_cons_zero, List.set_cons_succ]
            refine only_one (i := 16) (by kernel_rfl) rfl (by rfl) ?_
            intro K hK
            refine wp_copyI (.tmp 22) (.tmp 28) rfl base b2 (by rfl) HC.out.r' l2 _ (by rfl) (HS1.out.2.past (HB.out.trans (HC.out.b.mono HB.out.size))) HLE.out.2 (by have h1 := HZ.out; have h2 := HC.out.b.size; omega) _ rfl ?_
            intro v2 y3 r2 k2 g2
            have hC := TwoC.app HC.out r2 rfl k2 g2
            clear r2 k2 g2 hSS
            clear HC
            have hSS := HSC.out y3 (hC.b.mono HZ.out)
            have HC := Lib.hid hC
            clear hC
            refine hK.out _ _ hSS ?_
            clear hK K
            try simp only [Act.put, List.setIfInBounds_toArray, List.set_cons_zero, List.set_cons_succ]
            exact HVV.out y3 b1 b2 v1 v2 (HC.out)
        · intro K hK
          go_simp
          obtain ⟨b2, hb2⟩ : ∃ x, wx.heap.size = x := ⟨_, rfl⟩
          have hC := OneC.start (base := base) HB0.out hb2 HZ.out
          rw [hb2]
          obtain ⟨y0, hwy0⟩ : ∃ x, wx.alloc (.cells #[] 3) = x := ⟨_, rfl⟩
          rw [hwy0] at hC ⊢
          clear hwy0 hb2
          have hSS := HSC.out y0 (hC.b.mono HZ.out)
          have HC := Lib.hid hC
          clear hC
          refine hK.out _ _ hSS ?_
          clear hK K
          try simp only [Act.put, List.setIfInBounds_toArray, List.set_cons_zero, List.set_cons_succ]
          refine only_one (i := 1) (by kernel_rfl) rfl (by rfl) ?_
          intro K hK
          go_simp
          obtain ⟨b1, hb1⟩ : ∃ x, y0.heap.size = x := ⟨_, rfl⟩
          have hC := HC.out.second hb1 HZ.out
          rw [hb1]
          obtain ⟨y1, hwy1⟩ : ∃ x, y0.alloc (.cells #[] 3) = x := ⟨_, rfl⟩
          rw [hwy1] at hC ⊢
          clear hwy1 hb1 hSS
          clear HC
          have hSS := HSC.out y1 (hC.b.mono HZ.out)
          have HC := Lib.hid hC
          clear hC
          refine hK.out _ _ hSS ?_
          clear hK K
          try simp only [Act.put, List.setIfInBounds_toArray, List.set_cons_zero, List.set_cons_succ]
          refine only_one (i := 8) (by kernel_rfl) rfl (by rfl) ?_
          intro K hK
          refine wp_copyI (.tmp 14) (.tmp 20) rfl base b1 (by rfl) HC.out.r' l1 _ (by rfl) (HS1.out.1.past (HB.out.trans (HC.out.b.mono HB.out.size))) HLE.out.1 (by have h1 := HZ.out; have h2 := HC.out.b.size; omega) _ rfl ?_
          intro v1 y2 r1 k1 g1
          have hC := TwoC.app HC.out r1 rfl k1 g1
          clear r1 k1 g1 hSS
          clear HC
          have hSS := HSC.out y2 (hC.b.mono HZ.out)
          have HC := Lib.hid hC
          clear hC
          refine hK.out _ _ hSS ?_
          clear hK K
          try simp only [Act.put, List.setIfInBounds_toArray, List.set_cons_zero, List.set_cons_succ]
          refine only_one (i := 16) (by kernel_rfl) rfl (by rfl) ?_
          intro K hK
          refine wp_copyI (.tmp 22) (.tmp 28) rfl base b2 (by rfl) HC.out.r l2 _ (by rfl) (HS1.out.2.past (HB.out.trans (HC.out.b.mono HB.out.size))) HLE.out.2 (by have h1 := HZ.out; have h2 := HC.out.b.size; omega) _ rfl ?_
          intro v2 y3 r2 k2 g2
          have hC := (TwoC.app HC.out.swap r2 rfl k2 g2).swap
          clear r2 k2 g2 hSS
          clear HC
          have hSS := HSC.out y3 (hC.b.mono HZ.out)
          have HC := Lib.hid hC
          clear hC
          refine hK.out _ _ hSS ?_
          clear hK K
          try simp only [Act.put, List.setIfInBounds_toArray, List.set_cons_zero, List.set_cons_succ]
          exact HVV.out y3 b1 b2 v1 v2 (HC.out.swap)
      · intro W4 b1 b2 v1 v2 hC
        have HC := Lib.hid hC
        clear hC
        obtain ⟨p1, q1, rfl⟩ := HC.out.r.shape
        obtain ⟨p2, q2, rfl⟩ := HC.out.r'.shape
        have hSS := HSC.out W4 (HC.out.b.mono HZ.out)
        refine take_first (i := 17) (v := ?_) rfl (by kernel_rfl) (by kernel_rfl) (by kernel_rfl) (fun _ _ _ h => h) (by rfl) (by assumption) ?_ ?_
        rotate_left 1
        · intro X hSX
          (try dsimp only at hSX)
          first | (go_simp; done) | (go_simp; with_reducible rfl)
        try simp only [Act.put, List.setIfInBounds_toArray, List.set_cons_zero, List.set_cons_succ]
        refine only_one (i := 18) (by kernel_rfl) rfl (by rfl) ?_
        intro K hK
        go_simp
        obtain ⟨bx, hbx⟩ : ∃ x, W4.heap.size = x := ⟨_, rfl⟩
        have hX := Blk.newI W4 bx #[.slice p1 l1.length q1, .slice p2 l2.length q2] 85 hbx
        have hB5 := (Below.refl _ W4).alloc (Nat.le_refl _) (.cells #[.slice p1 l1.length q1, .slice p2 l2.length q2] 85)
        rw [hbx]
        obtain ⟨W5, hW5⟩ : ∃ x, W4.alloc (.cells #[.slice p1 l1.length q1, .slice p2 l2.length q2] 85) = x := ⟨_, rfl⟩
        rw [hW5] at hX hB5 ⊢
        clear hW5 hSS
        have hB6 := HC.out.b.trans (hB5.mono HC.out.b.size)
        have hO5 := HO.out.past hB6
        have h1 := HC.out.r.kept ⟨hB5.os, hB5.tape, hB5.output, hB5.size, fun j hj _ => hB5.block j hj⟩ (row := none) (fun _ _ e => by cases e)
        have h2 := HC.out.r'.kept ⟨hB5.os, hB5.tape, hB5.output, hB5.size, fun j hj _ => hB5.block j hj⟩ (row := none) (fun _ _ e => by cases e)
        have hne : (Value.slice p k c).ownBlock ≠ some bx := fun e => by
          have h3 := (HO.out.lt bx e).2.1
          have h4 := HC.out.b.size
          omega
        have hSS := HSC.out W5 (hB6.mono HZ.out)
        have HF := Lib.hid (And.intro hX (And.intro hB6 (And.intro hO5 (And.intro h1 (And.intro h2 hne)))))
        clear hX hB5 hB6 hO5 h1 h2 hne hbx
        refine hK.out _ _ hSS ?_
        clear hK K
        try simp only [Act.put, List.setIfInBounds_toArray, List.set_cons_zero, List.set_cons_succ]
        refine only_one (i := 19) (by kernel_rfl) rfl (by rfl) ?_
        intro K hK
        refine wp_appT (.tmp 13) (.tmp 31) rfl base (.slice p k c) (ts.take k) vals (by rfl) HF.out.2.2.1 bx (.slice p1 l1.length q1) (.slice p2 l2.length q2) l1 l2 (by rfl) HF.out.1 HF.out.2.2.2.2.2 HF.out.2.2.2.1 HF.out.2.2.2.2.1 (by rw [List.length_take]; omega) (by have h1 := HZ.out; have h2 := HF.out.2.1.size; omega) ?_
        intro v' W6 hO6 hg6
        have hB7 : Below base wr W6 := (HF.out.2.1.mono HZ.out).grown hg6 (by have h1 := HZ.out; have h2 := HF.out.2.1.size; omega) (fun j hj => (HF.out.2.2.1.lt j hj).1)
        rw [← HTK.out] at hO6
        have HO6 := Lib.hid hO6
        have HB7 := Lib.hid hB7
        clear hO6 hg6 hSS
        have hSS := HSC.out W6 HB7.out
        clear hB7
        refine hK.out _ _ hSS ?_
        clear hK K
        try simp only [Act.put, List.setIfInBounds_toArray, List.set_cons_zero, List.set_cons_succ]
        refine take_first (i := 20) (v := ?_) rfl (by kernel_rfl) (by kernel_rfl) (by kernel_rfl) (fun _ _ _ h => h) (by rfl) (by assumption) ?_ ?_
        rotate_left 1
        · intro X hSX
          (try dsimp only at hSX)
          first | (go_simp; done) | (go_simp; with_reducible rfl)
        try simp only [Act.put, List.setIfInBounds_toArray, List.set_cons_zero, List.set_cons_succ]
        refine wpAnyH_done (by kernel_rfl) ?_ _
        clear hSS
        have hsz7 := HB7.out.size
        have hsr : base ≤ wr.heap.size := HZ.out
        have HZ7 : Hid (base ≤ W6.heap.size) := Lib.hid (by first | omega | exact Nat.le_trans hsr hsz7)
        have HX7 := Lib.hid (HX.out.below HB7.out (by have h1 := HBE.out; omega))
        have HR7 := Lib.hid (HR.out.below HB7.out (by have h1 := HBE.out; omega))
        have HB8 := Lib.hid (HB.out.trans (HB7.out.mono (by have h1 := HBE.out; omega)))
        clear hsz7 hsr
        go_wp2
        go_roundw
        case rel => exact ⟨k + 1, _, by omega, by go_num, HO6, HX7, HR7, HB8, HZ7⟩
        case measure => simp [intOf]; omega
    · have hke : k = ts.length := by omega
      subst hke
      have x0 := HX.out.cell (i := 0) (v := .int .i64 W) rfl
      have x1 := HX.out.cell (i := 1) (v := .int .i64 H) rfl
      have x2 := HX.out.cell (i := 2) (v := .slice a ts.length cap) rfl
      have f2 := HX.out.fr (i := 2)
      have r0 := HR.out.cell (i := 0) (v := .int .i64 0) rfl
      have r1 := HR.out.cell (i := 1) (v := .int .i64 0) rfl
      have r2 := HR.out.cell (i := 2) (v := .slice none 0 0) rfl
      have g0 := HR.out.fr (i := 0)
      have g1 := HR.out.fr (i := 1)
      have g2 := HR.out.fr (i := 2)
      have R3 := (((HR.out.far (b' := w.heap.size) (i := 2) (u := .slice p ts.length c) (by omega)).set 0 (by simp) (.int .i64 W) rfl).set 1 (by simp) (.int .i64 H) rfl).set 2 (by simp) (.slice p ts.length c) rfl
      have q0 := R3.cell (i := 0) (v := .int .i64 W) rfl
      have q1 := R3.cell (i := 1) (v := .int .i64 H) rfl
      have q2 := R3.cell (i := 2) (v := .slice p ts.length c) rfl
      have O3 := (((HO.out.setB (b := w.heap.size) (i := 2) (u := .slice p ts.length c) (by have := HBE.out; omega)).setB (b := w.heap.size + 1) (i := 0) (u := .int .i64 W) (by have := HBE.out; omega)).setB (b := w.heap.size + 1) (i := 1) (u := .int .i64 H) (by have := HBE.out; omega)).setB (b := w.heap.size + 1) (i := 2) (u := .slice p ts.length c) (by have := HBE.out; omega)
      rw [List.take_length] at O3
      have HT := Lib.hid (O3.tiers hts HSS.out)
      have HB3 := Lib.hid ((((HB.out.setCell (p := ⟨w.heap.size, 2, none⟩) (Nat.le_refl _) (.slice p ts.length c)).setCell (p := ⟨w.heap.size + 1, 0, none⟩) (show w.heap.size ≤ w.heap.size + 1 by omega) (.int .i64 W)).setCell (p := ⟨w.heap.size + 1, 1, none⟩) (show w.heap.size ≤ w.heap.size + 1 by omega) (.int .i64 H)).setCell (p := ⟨w.heap.size + 1, 2, none⟩) (show w.heap.size ≤ w.heap.size + 1 by omega) (.slice p ts.length c))
      clear HP HSS O3 R3
      go_wp2
      refine bodyPost_ret (v := .agg #[.int .i64 W, .int .i64 H, .slice p ts.length c]) ?_ rfl ⟨p, c, rfl, HT.out, HB3.out⟩
      simp [results, Try.results31, go_sem, q0, q1, q2]
end Go.Proofs.Ytopnlcjbklmicaa
