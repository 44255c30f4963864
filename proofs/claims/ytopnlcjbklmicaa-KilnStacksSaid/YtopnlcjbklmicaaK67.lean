import Derived.Test.YtopnlcjbklmicaaK66
import Derived.WalkKit
import Derived.WalkSpells
import Derived.WalkLawsBesides
import Derived.Deep.QuietTactic
import Derived.BigQuiet
import Derived.Lib.Hide
import Derived.WalkSmall
import Derived.Maps.OwnSet
import Derived.Maps.RangeWalk
import Derived.Deep.RegionWith
import Derived.Deep.RegionHeld3
import Derived.Deep.DrawnRows
import Derived.Deep.DeepCutAuto
import Derived.OneCell
import Derived.KernelRfl
import Derived.Laws.StructEq
import Derived.StillTailTactics
import Derived.Laws.Externs
import Derived.RangeFuncBox
import Derived.Outline
import Derived.RangeFuncNested
import Derived.RangeFuncBound
import Derived.RangeFuncCalls
import Derived.RangeFuncLeaves
import Derived.Shelf.RegionOpen
import Derived.OwnWalkIn
import Derived.TacticsInMore
import Derived.LoopNIn
import Derived.LoopIn
import Derived.Test.YtopnlcjbklmicaaProg
namespace Go.Proofs.Ytopnlcjbklmicaa
open Go.RowKit Go.Maps Go.Shelf
set_option linter.unusedVariables false
set_option linter.unusedSimpArgs false
theorem RowsY.slot {W : World} {base gb k Bo : Nat} {rows : List (List (Nat × Nat))} (h : RowsY W base gb k Bo rows) (hk : k < rows.length) : ∃ vk, W.cell? ⟨gb, k, none⟩ = some vk ∧ W.frozen? ⟨gb, k, none⟩ = false := by
  obtain ⟨vals, h1, h2, h3⟩ := h
  exact ⟨vals[k]?.getD undef, h2.cell (by simp [show k < vals.length by omega]), h2.fr⟩
theorem via6 {C T : World → Nat → Int → Int → Prop} {G : Prop} (h : (∀ W a x y, C W a x y → T W a x y) → G) (k : ∀ W a x y, C W a x y → T W a x y) : G := h k
/-- What stands ahead of a tier. -/
structure LO (w : World) (Sv : Array Value) (N len gp gb : Nat) (pr : List (Nat × Nat)) (rows : List (List (Nat × Nat))) (wr : World) : Prop where
  s : Blk wr w.heap.size Sv 69
  p : LoadsB wr gp pr
  pl : pr.length = N
  po : ∀ i, i < N → LoadOk (pr[i]?.getD (0, 1))
  r : RowsAt wr w.heap.size gb rows
  rl : rows.length = len
  b : Below w.heap.size w wr
  h1 : w.heap.size < gp
  h2 : w.heap.size < gb
  h3 : gp ≠ gb
set_option maxRecDepth 100000 in
set_option maxHeartbeats 16000000 in
theorem refLoads_any (W H : Int) (tv : Value) (ts : List (List Int × List Int)) (N : Nat) (w : World) (hs : SrcT w tv ts) (hc : checkF W H ts = 0) (hf : FirstB ts (hangP ts) none) (hv : StackV W H ts N) :
    Calls Try.prog 40 #[.agg #[.int .i64 W, .int .i64 H, tv]] w fun e w' => Below w.heap.size w w' ∧
      (((loadsF ts N).2.2 ≠ 0 ∧ e = .returned (.tuple #[.slice none 0 0, .slice none 0 0, .bool false])) ∨
       ((loadsF ts N).2.2 = 0 ∧ ∃ gb g, e = .returned (.tuple #[.slice (some ⟨gb, 0, none⟩) ts.length ts.length, .slice (some ⟨g, 0, none⟩) N N, .bool true]) ∧ RowsAt w' w.heap.size gb (loadsF ts N).1 ∧ LoadsB w' g (loadsF ts N).2.1)) := by
  have HSRC := Lib.hid hs
  obtain ⟨a, cap, rfl, hl, hp⟩ := hs
  have HTV := Lib.hid (tierV_of hc hf)
  have HTI := Lib.hid (check_parts hc).2.2.2.2
  have ht10 := hv.t10
  have hn144 := hv.n1
  have hwh : W * H = (N : Int) := by
    obtain ⟨k1, k2, _⟩ := check_parts hc
    have h1 := prod_range k1 k2
    have h2 := hv.n
    omega
  have HOK := Lib.hid fun t (ht : t < ts.length) => ((check_parts hc).2.2.2.2 t ht).ok hf ht
  have hww : IntKind.i64.wrap (N : Int) = N := wrap_id (by omega) (by omega)
  obtain ⟨LF, hLF⟩ : ∃ q, loadsF ts N = q := ⟨_, rfl⟩
  have HLF := Lib.hid hLF
  rw [hLF]
  have A := Blk.new w #[.int .i64 W, .int .i64 H, .slice a ts.length cap] 69
  have B0 := (Below.refl _ w).alloc (Nat.le_refl _) (.cells #[.int .i64 W, .int .i64 H, .slice a ts.length cap] 69)
  have hmk := make_loads N (w.alloc (.cells #[.int .i64 W, .int .i64 H, .slice a ts.length cap] 69)) (by omega)
  have hsz : (w.alloc (.cells #[.int .i64 W, .int .i64 H, .slice a ts.length cap] 69)).heap.size = w.heap.size + 1 := by simp
  rw [hsz] at hmk
  have x0 := A.cell (i := 0) (v := .int .i64 W) rfl
  have x1 := A.cell (i := 1) (v := .int .i64 H) rfl
  have hB1 := (Below.refl _ (w.alloc (.cells #[.int .i64 W, .int .i64 H, .slice a ts.length cap] 69))).alloc (Nat.le_refl _) (.cells (flatL (List.replicate N (0, 0))).toArray 116)
  have HA := Lib.hid (A.past hB1)
  have HB := Lib.hid (B0.trans (hB1.mono B0.size))
  have HG0 : Hid (LoadsB ((w.alloc (.cells #[.int .i64 W, .int .i64 H, .slice a ts.length cap] 69)).alloc (.cells (flatL (List.replicate N (0, 0))).toArray 116)) (w.heap.size + 1) (zl 0 N)) := Lib.hid (by rw [zl_zero]; exact Blk.newI _ _ _ _ hsz)
  have HP := Lib.hid hp
  have HV := Lib.hid hv
  clear A B0 hsz hB1 hp hv hc hf hLF
  go_enter Try.func40, Try.ntmps40
  go_wp2_with fail
  clear hmk x0 x1
  obtain ⟨w1, hw1⟩ : ∃ x, (w.alloc (.cells #[.int .i64 W, .int .i64 H, .slice a ts.length cap] 69)).alloc (.cells (flatL (List.replicate N (0, 0))).toArray 116) = x := ⟨_, rfl⟩
  rw [hw1] at HA HB HG0 ⊢
  clear hw1 hwh
  go_loopw [6] (fun i wr => ∃ j : Nat, j ≤ N ∧ i = .int .i64 j ∧ Hid (LoadsB wr (w.heap.size + 1) (zl j N)) ∧ Hid (Blk wr w.heap.size #[.int .i64 W, .int .i64 H, .slice a ts.length cap] 69 ∧ Below w.heap.size w wr)) (fun i _ => N - (intOf i).toNat)
  case atStart => exact ⟨0, Nat.zero_le _, rfl, HG0, Lib.hid ⟨HA.out, HB.out⟩⟩
  case round =>
    obtain ⟨j, hj, rfl, HG, HW⟩ := hrel
    rename World => v
    clear HA HB HG0
    by_cases hjl : j < N
    · have hji : (0 : Int) ≤ (j : Int) := by omega
      have hjli : (j : Int) < (N : Int) := by omega
      have hlz : (zl j N).length = N := zl_len (by omega)
      obtain ⟨g0, g1⟩ := LoadsB.cell HG.out (i := j) (by omega)
      have f0 := Blk.fr HG.out (i := j * 2)
      have f1 := Blk.fr HG.out (i := j * 2 + 1)
      have hset := HG.out.set (i := j) (by omega) (0, 1)
      rw [zl_set hjl] at hset
      have HG2 := Lib.hid hset
      have HW2 := Lib.hid (And.intro ((HW.out.1.far (b' := w.heap.size + 1) (i := j * 2) (u := .int .i64 ((0 : Nat) : Int)) (by omega)).far (b' := w.heap.size + 1) (i := j * 2 + 1) (u := .int .i64 ((1 : Nat) : Int)) (by omega)) ((HW.out.2.setCell (p := ⟨w.heap.size + 1, j * 2, none⟩) (show w.heap.size ≤ w.heap.size + 1 by omega) (.int .i64 ((0 : Nat) : Int))).setCell (p := ⟨w.heap.size + 1, j * 2 + 1, none⟩) (show w.heap.size ≤ w.heap.size + 1 by omega) (.int .i64 ((1 : Nat) : Int))))
      clear hset hlz
      go_wp2
      go_roundw
      case rel => exact ⟨j + 1, by omega, by go_num, HG2, HW2⟩
      case measure => simp [intOf]; omega
    · have hje : j = N := by omega
      subst hje
      have hG := HG.out
      rw [zl_all] at hG
      have x2 := HW.out.1.cell (i := 2) (v := .slice a ts.length cap) rfl
      obtain ⟨gb, hgb⟩ : ∃ x, v.heap.size = x := ⟨_, rfl⟩
      have hmk := make_rows ts.length v (by omega)
      rw [hgb] at hmk
      have hBr := (Below.refl _ v).alloc (Nat.le_refl _) (.cells (Array.replicate ts.length (.slice none 0 0)) 78)
      have x3 := (HW.out.1.past hBr).cell (i := 2) (v := .slice a ts.length cap) rfl
      have hgl := Blk.lt hG
      have HLO : Hid (LO w #[.int .i64 W, .int .i64 H, .slice a ts.length cap] j ts.length (w.heap.size + 1) gb (List.replicate j (0, 1)) (List.replicate ts.length []) (v.alloc (.cells (Array.replicate ts.length (.slice none 0 0)) 78))) := Lib.hid ⟨HW.out.1.past hBr, Blk.past hG hBr, by simp, fun i hi => by simp [hi, LoadOk], RowsAt.nils (Blk.newI _ _ _ _ hgb), by simp, HW.out.2.trans (hBr.mono HW.out.2.size), by omega, by omega, by omega⟩
      have hw1 : IntKind.i64.wrap ((ts.length : Int) - 1) = (ts.length : Int) - 1 := wrap_id (by omega) (by omega)
      clear hG hBr hgl
      go_wp2_with fail
      clear hmk x2 x3 HW HG hgb
      obtain ⟨w2, hw2⟩ : ∃ x, v.alloc (.cells (Array.replicate ts.length (.slice none 0 0)) 78) = x := ⟨_, rfl⟩
      rw [hw2] at HLO ⊢
      clear hw2
      go_loopw [5, 8] (fun s5 s8 wr => ∃ (k : Nat) (z : Int) (gp : Nat) (pre : List Nat) (rows : List (List (Nat × Nat))) (pr : List (Nat × Nat)), k ≤ ts.length ∧ s8 = .int .i64 z ∧ Hid (z = (k : Int) - 1) ∧ s5 = .slice (some ⟨gp, 0, none⟩) j j ∧ Hid (pre ++ (List.range k).reverse = (List.range ts.length).reverse ∧ loadsS ts j pre (List.replicate ts.length []) (List.replicate j (0, 1)) = (rows, pr, 0)) ∧ Hid (LO w #[.int .i64 W, .int .i64 H, .slice a ts.length cap] j ts.length gp gb pr rows wr)) (fun _ s8 _ => (intOf s8 + 1).toNat)
      case atStart => exact ⟨ts.length, _, w.heap.size + 1, [], _, _, Nat.le_refl _, rfl, Lib.hid rfl, rfl, Lib.hid ⟨by simp, rfl⟩, HLO⟩
      case round =>
        obtain ⟨k, z, gp, pre, rows, pr, hk, rfl, HZ, rfl, HPRE, HO⟩ := hrel
        rename World => v2
        clear HLO
        cases k with
        | zero =>
          have hz : z = -1 := by have := HZ.out; omega
          subst hz
          have HRES : Hid (LF = (rows, pr, 0)) := Lib.hid (by
            have h1 := HPRE.out.1
            simp only [List.range_zero, List.reverse_nil, List.append_nil] at h1
            have h2 := HPRE.out.2
            rw [h1] at h2
            rw [← HLF.out]; exact h2)
          clear HZ
          go_wp2
          refine bodyPost_ret (v := .tuple #[.slice (some ⟨gb, 0, none⟩) ts.length ts.length, .slice (some ⟨gp, 0, none⟩) j j, .bool true]) (by simp [results, Try.results40, go_sem]) rfl ?_
          refine ⟨HO.out.b, .inr ⟨by rw [HRES.out], gb, gp, rfl, ?_, ?_⟩⟩
          · rw [HRES.out]; exact HO.out.r
          · rw [HRES.out]; exact HO.out.p
        | succ k =>
          have hz : z = (k : Int) := by have := HZ.out; omega
          subst hz
          clear HZ
          have hki : (0 : Int) ≤ (k : Int) := by omega
          have hkl : (k : Int) < (ts.length : Int) := by omega
          have hwk : IntKind.i64.wrap ((k : Int) - 1) = (k : Int) - 1 := wrap_id (by omega) (by omega)
          have HBAD : Hid ((passF ts k j pr).2.2 ≠ 0 → LF.2.2 ≠ 0) := Lib.hid fun h => by rw [← HLF.out]; exact bad_pass HPRE.out.2 h HPRE.out.1
          obtain ⟨b, off, rfl, hbb, vc, vw, c1, c2, s1, s2⟩ := HP.out k (by omega)
          obtain ⟨ac, cc, rfl, hlc, hpc⟩ := s1.ints.placed
          obtain ⟨aw, cw, rfl, hlw, hpw⟩ := s2.ints.placed
          rw [HV.out.len k (by omega)] at c1
          obtain ⟨nb, hnb⟩ : ∃ nb, (ts[k]?.getD ([], [])).2.length = nb := ⟨_, rfl⟩
          rw [hnb] at c2
          have hnb144 : nb ≤ 144 := by rw [← hnb]; exact HV.out.few k (by omega)
          have HNB := Lib.hid hnb
          have HPC := Lib.hid hpc
          have HPW := Lib.hid hpw
          have c1 := (HO.out.b.cell (p := ⟨b, _, none⟩) hbb).trans c1
          have c2 := (HO.out.b.cell (p := ⟨b, _, none⟩) hbb).trans c2
          have x2 := HO.out.s.cell (i := 2) (v := .slice (some ⟨b, off, none⟩) ts.length cap) rfl
          clear s1 s2 hlc hpc hlw hpw hnb
          go_wp2_with fail
          refine region_plain (fun X => X.cell? ⟨w.heap.size, 2, none⟩ = some (.slice (some ⟨b, off, none⟩) ts.length cap) ∧ X.cell? ⟨b, off + k * 2, none⟩ = some (.slice ac j cc) ∧ X.cell? ⟨b, off + k * 2 + 1, none⟩ = some (.slice aw nb cw)) 11 #[false, false, false, false, false, false, false, false, false, false, false] rfl rfl (by kernel_rfl) ?_
          obtain ⟨z0, hz0⟩ : ∃ x, v2.drew = x := ⟨_, rfl⟩
          have hO : LO w #[.int .i64 W, .int .i64 H, .slice (some ⟨b, off, none⟩) ts.length cap] j ts.length gp gb pr rows z0 := by
            rw [← hz0]
            have h := HO.out
            exact ⟨h.s.drew, Blk.drew h.p, h.pl, h.po, h.r.past (Below.refl _ _).drew, h.rl, h.b.drew, h.h1, h.h2, h.h3⟩
          have hSS : (z0.cell? ⟨w.heap.size, 2, none⟩ = some (.slice (some ⟨b, off, none⟩) ts.length cap) ∧ z0.cell? ⟨b, off + k * 2, none⟩ = some (.slice ac j cc) ∧ z0.cell? ⟨b, off + k * 2 + 1, none⟩ = some (.slice aw nb cw)) := by rw [← hz0]; exact ⟨x2, c1, c2⟩
          rw [hz0]
          clear hz0 HO x2 c1 c2
          have HO := Lib.hid hO
          clear hO
          have HSK : Hid (∀ X, Below z0.heap.size z0 X → (X.cell? ⟨w.heap.size, 2, none⟩ = some (.slice (some ⟨b, off, none⟩) ts.length cap) ∧ X.cell? ⟨b, off + k * 2, none⟩ = some (.slice ac j cc) ∧ X.cell? ⟨b, off + k * 2 + 1, none⟩ = some (.slice aw nb cw))) := Lib.hid fun X hX => by
            have h0 := HO.out.b.size
            have h1 := HO.out.s.lt
            exact ⟨(hX.cell (p := ⟨w.heap.size, 2, none⟩) h1).trans hSS.1, (hX.cell (p := ⟨b, _, none⟩) (show b < z0.heap.size by omega)).trans hSS.2.1, (hX.cell (p := ⟨b, _, none⟩) (show b < z0.heap.size by omega)).trans hSS.2.2⟩
          refine take_first (i := 0) (v := ?_) rfl (by kernel_rfl) (by kernel_rfl) (by kernel_rfl) (fun _ _ _ h => h) (by rfl) (by assumption) ?_ ?_
          rotate_left 1
          · intro X hSX
            (try dsimp only at hSX)
            first | (go_simp; done) | (go_simp; with_reducible rfl)
          try simp only [Act.put, List.setIfInBounds_toArray, List.set_cons_zero, List.set_cons_succ]
          refine take_first (i := 1) (v := ?_) rfl (by kernel_rfl) (by kernel_rfl) (by kernel_rfl) (fun _ _ _ h => h) (by rfl) (by assumption) ?_ ?_
          rotate_left 1
          · intro X hSX
            (try dsimp only at hSX)
            first | (go_simp; done) | (go_simp; with_reducible rfl)
          try simp only [Act.put, List.setIfInBounds_toArray, List.set_cons_zero, List.set_cons_succ]
          refine take_first (i := 2) (v := ?_) rfl (by kernel_rfl) (by kernel_rfl) (by kernel_rfl) (fun _ _ _ h => h) (by rfl) (by assumption) ?_ ?_
          rotate_left 1
          · intro X hSX
            (try dsimp only at hSX)
            first | (go_simp; done) | (go_simp; with_reducible rfl)
          try simp only [Act.put, List.setIfInBounds_toArray, List.set_cons_zero, List.set_cons_succ]
          refine take_first (i := 3) (v := ?_) rfl (by kernel_rfl) (by kernel_rfl) (by kernel_rfl) (fun _ _ _ h => h) (by rfl) (by assumption) ?_ ?_
          rotate_left 1
          · intro X hSX
            (try dsimp only at hSX)
            first | (go_simp; done) | (go_simp; with_reducible rfl)
          try simp only [Act.put, List.setIfInBounds_toArray, List.set_cons_zero, List.set_cons_succ]
          refine take_first (i := 4) (v := ?_) rfl (by kernel_rfl) (by kernel_rfl) (by kernel_rfl) (fun _ _ _ h => h) (by rfl) (by assumption) ?_ ?_
          rotate_left 1
          · intro X hSX
            (try dsimp only at hSX)
            first | (go_simp; done) | (go_simp; with_reducible rfl)
          try simp only [Act.put, List.setIfInBounds_toArray, List.set_cons_zero, List.set_cons_succ]
          refine take_first (i := 5) (v := ?_) rfl (by kernel_rfl) (by kernel_rfl) (by kernel_rfl) (fun _ _ _ h => h) (by rfl) (by assumption) ?_ ?_
          rotate_left 1
          · intro X hSX
            (try dsimp only at hSX)
            first | (go_simp; done) | (go_simp; with_reducible rfl)
          try simp only [Act.put, List.setIfInBounds_toArray, List.set_cons_zero, List.set_cons_succ]
          refine take_first (i := 6) (v := ?_) rfl (by kernel_rfl) (by kernel_rfl) (by kernel_rfl) (fun _ _ _ h => h) (by rfl) (by assumption) ?_ ?_
          rotate_left 1
          · intro X hSX
            (try dsimp only at hSX)
            first | (go_simp; done) | (go_simp; with_reducible rfl)
          try simp only [Act.put, List.setIfInBounds_toArray, List.set_cons_zero, List.set_cons_succ]
          clear hSS
          apply via3 (C := fun X gn bt => Below z0.heap.size z0 X ∧ LoadsB X gn (zl 0 j) ∧ Blk X bt #[.slice ac j cc, .slice aw nb cw] 85 ∧ z0.heap.size ≤ gn ∧ z0.heap.size ≤ bt ∧ gn ≠ bt)
          · intro HV3
            have HVV := Lib.hid HV3
            clear HV3
            refine one_of_twoT (i := 7) (j := 8) (by kernel_rfl) rfl rfl (by rfl) (by rfl) ?_ ?_
            · have HB := Lib.hid (Below.refl z0.heap.size z0)
              have hmk := make_loads j z0 (by omega)
              obtain ⟨gn, hgn⟩ : ∃ x, z0.heap.size = x := ⟨_, rfl⟩
              rw [hgn] at hmk
              have N1 : LoadsB (z0.alloc (.cells (flatL (List.replicate j (0, 0))).toArray 116)) gn (zl 0 j) := by rw [zl_zero]; exact Blk.newI _ _ _ _ hgn
              have B1 := HB.out.alloc HB.out.size (.cells (flatL (List.replicate j (0, 0))).toArray 116)
              have hgz : z0.heap.size ≤ gn := by have := HB.out.size; omega
              have HGZ := Lib.hid hgz
              clear hgn hgz HB
              intro K hK
              go_simp
              obtain ⟨y1, hy⟩ : ∃ x, z0.alloc (.cells (flatL (List.replicate j (0, 0))).toArray 116) = x := ⟨_, rfl⟩
              rw [hy] at N1 B1 ⊢
              clear hy hmk
              have HB := Lib.hid B1
              have HN := Lib.hid N1
              clear B1 N1
              have hSS := HSK.out y1 HB.out
              refine hK.out _ _ hSS ?_
              clear hK K
              try simp only [Act.put, List.setIfInBounds_toArray, List.set_cons_zero, List.set_cons_succ]
              refine only_one (i := 8) (by kernel_rfl) rfl (by rfl) ?_
              intro K hK
              go_simp
              obtain ⟨bt, hbt⟩ : ∃ x, y1.heap.size = x := ⟨_, rfl⟩
              have B1 := HB.out.alloc HB.out.size (.cells #[.slice none 0 0, .slice none 0 0] 85)
              have T1 := Blk.newI y1 bt #[.slice none 0 0, .slice none 0 0] 85 hbt
              have htz : z0.heap.size ≤ bt := by have := HB.out.size; omega
              have hnt : gn ≠ bt := by have := Blk.lt HN.out; omega
              have HNT := Lib.hid hnt
              clear hnt
              have N1 := Blk.past HN.out ((Below.refl _ y1).alloc (Nat.le_refl _) (.cells #[.slice none 0 0, .slice none 0 0] 85))
              clear HN
              rw [hbt]
              obtain ⟨y2, hy⟩ : ∃ x, y1.alloc (.cells #[.slice none 0 0, .slice none 0 0] 85) = x := ⟨_, rfl⟩
              rw [hy] at B1 T1 N1 ⊢
              clear hy hbt HB
              have HB := Lib.hid B1
              have HT := Lib.hid T1
              have HTZ := Lib.hid htz
              clear B1 T1 htz
              have HN := Lib.hid N1
              clear N1
              clear hSS
              have hSS := HSK.out y2 HB.out
              refine hK.out _ _ hSS ?_
              clear hK K
              try simp only [Act.put, List.setIfInBounds_toArray, List.set_cons_zero, List.set_cons_succ]
              have t0 := HT.out.cell (i := 0) (v := .slice none 0 0) rfl
              have t1 := HT.out.cell (i := 1) (v := .slice none 0 0) rfl
              have f0 := HT.out.fr (i := 0)
              have f1 := HT.out.fr (i := 1)
              refine only_one (i := 9) (by kernel_rfl) rfl (by rfl) ?_
              intro K hK
              go_simp
              have T1 := (HT.out.set 0 (by simp) (.slice ac j cc) rfl).set 1 (by simp) (.slice aw nb cw) rfl
              have B1 := (HB.out.setCell (p := ⟨bt, 0, none⟩) HTZ.out (.slice ac j cc)).setCell (p := ⟨bt, 1, none⟩) HTZ.out (.slice aw nb cw)
              have N1 := (Blk.far HN.out (b' := bt) (i := 0) (u := .slice ac j cc) HNT.out).far (b' := bt) (i := 1) (u := .slice aw nb cw) HNT.out
              clear HN
              obtain ⟨y3, hy⟩ : ∃ x, (y2.setCell ⟨bt, 0, none⟩ (.slice ac j cc)).setCell ⟨bt, 1, none⟩ (.slice aw nb cw) = x := ⟨_, rfl⟩
              rw [hy] at T1 B1 N1 ⊢
              clear hy HB HT t0 t1 f0 f1
              have HB := Lib.hid B1
              have HT := Lib.hid T1
              clear B1 T1
              have HN := Lib.hid N1
              clear N1
              clear hSS
              have hSS := HSK.out y3 HB.out
              refine hK.out _ _ hSS ?_
              clear hK K
              try simp only [Act.put, List.setIfInBounds_toArray, List.set_cons_zero, List.set_cons_succ]
              exact HVV.out y3 gn bt ⟨HB.out, HN.out, HT.out, HGZ.out, HTZ.out, HNT.out⟩
            · have HB := Lib.hid (Below.refl z0.heap.size z0)
              intro K hK
              go_simp
              obtain ⟨bt, hbt⟩ : ∃ x, z0.heap.size = x := ⟨_, rfl⟩
              have B1 := HB.out.alloc HB.out.size (.cells #[.slice none 0 0, .slice none 0 0] 85)
              have T1 := Blk.newI z0 bt #[.slice none 0 0, .slice none 0 0] 85 hbt
              have htz : z0.heap.size ≤ bt := by have := HB.out.size; omega
              rw [hbt]
              obtain ⟨y1, hy⟩ : ∃ x, z0.alloc (.cells #[.slice none 0 0, .slice none 0 0] 85) = x := ⟨_, rfl⟩
              rw [hy] at B1 T1 ⊢
              clear hy hbt HB
              have HB := Lib.hid B1
              have HT := Lib.hid T1
              have HTZ := Lib.hid htz
              clear B1 T1 htz
              have hSS := HSK.out y1 HB.out
              refine hK.out _ _ hSS ?_
              clear hK K
              try simp only [Act.put, List.setIfInBounds_toArray, List.set_cons_zero, List.set_cons_succ]
              refine one_of_twoT (i := 7) (j := 9) (by kernel_rfl) rfl rfl (by rfl) (by rfl) ?_ ?_
              · have hmk := make_loads j y1 (by omega)
                obtain ⟨gn, hgn⟩ : ∃ x, y1.heap.size = x := ⟨_, rfl⟩
                rw [hgn] at hmk
                have N1 : LoadsB (y1.alloc (.cells (flatL (List.replicate j (0, 0))).toArray 116)) gn (zl 0 j) := by rw [zl_zero]; exact Blk.newI _ _ _ _ hgn
                have B1 := HB.out.alloc HB.out.size (.cells (flatL (List.replicate j (0, 0))).toArray 116)
                have hgz : z0.heap.size ≤ gn := by have := HB.out.size; omega
                have T1 := HT.out.alloc (.cells (flatL (List.replicate j (0, 0))).toArray 116)
                have hnt : gn ≠ bt := by have := HT.out.lt; omega
                have HNT := Lib.hid hnt
                clear hnt
                have HGZ := Lib.hid hgz
                clear hgn hgz HB HT
                intro K hK
                go_simp
                obtain ⟨y2, hy⟩ : ∃ x, y1.alloc (.cells (flatL (List.replicate j (0, 0))).toArray 116) = x := ⟨_, rfl⟩
                rw [hy] at N1 B1 T1 ⊢
                clear hy hmk
                have HB := Lib.hid B1
                have HN := Lib.hid N1
                have HT := Lib.hid T1
                clear B1 N1 T1
                clear hSS
                have hSS := HSK.out y2 HB.out
                refine hK.out _ _ hSS ?_
                clear hK K
                try simp only [Act.put, List.setIfInBounds_toArray, List.set_cons_zero, List.set_cons_succ]
                have t0 := HT.out.cell (i := 0) (v := .slice none 0 0) rfl
                have t1 := HT.out.cell (i := 1) (v := .slice none 0 0) rfl
                have f0 := HT.out.fr (i := 0)
                have f1 := HT.out.fr (i := 1)
                refine only_one (i := 9) (by kernel_rfl) rfl (by rfl) ?_
                intro K hK
                go_simp
                have T1 := (HT.out.set 0 (by simp) (.slice ac j cc) rfl).set 1 (by simp) (.slice aw nb cw) rfl
                have B1 := (HB.out.setCell (p := ⟨bt, 0, none⟩) HTZ.out (.slice ac j cc)).setCell (p := ⟨bt, 1, none⟩) HTZ.out (.slice aw nb cw)
                have N1 := (Blk.far HN.out (b' := bt) (i := 0) (u := .slice ac j cc) HNT.out).far (b' := bt) (i := 1) (u := .slice aw nb cw) HNT.out
                clear HN
                obtain ⟨y3, hy⟩ : ∃ x, (y2.setCell ⟨bt, 0, none⟩ (.slice ac j cc)).setCell ⟨bt, 1, none⟩ (.slice aw nb cw) = x := ⟨_, rfl⟩
                rw [hy] at T1 B1 N1 ⊢
                clear hy HB HT t0 t1 f0 f1
                have HB := Lib.hid B1
                have HT := Lib.hid T1
                clear B1 T1
                have HN := Lib.hid N1
                clear N1
                clear hSS
                have hSS := HSK.out y3 HB.out
                refine hK.out _ _ hSS ?_
                clear hK K
                try simp only [Act.put, List.setIfInBounds_toArray, List.set_cons_zero, List.set_cons_succ]
                exact HVV.out y3 gn bt ⟨HB.out, HN.out, HT.out, HGZ.out, HTZ.out, HNT.out⟩
              · have t0 := HT.out.cell (i := 0) (v := .slice none 0 0) rfl
                have t1 := HT.out.cell (i := 1) (v := .slice none 0 0) rfl
                have f0 := HT.out.fr (i := 0)
                have f1 := HT.out.fr (i := 1)
                intro K hK
                go_simp
                have T1 := (HT.out.set 0 (by simp) (.slice ac j cc) rfl).set 1 (by simp) (.slice aw nb cw) rfl
                have B1 := (HB.out.setCell (p := ⟨bt, 0, none⟩) HTZ.out (.slice ac j cc)).setCell (p := ⟨bt, 1, none⟩) HTZ.out (.slice aw nb cw)
                obtain ⟨y2, hy⟩ : ∃ x, (y1.setCell ⟨bt, 0, none⟩ (.slice ac j cc)).setCell ⟨bt, 1, none⟩ (.slice aw nb cw) = x := ⟨_, rfl⟩
                rw [hy] at T1 B1 ⊢
                clear hy HB HT t0 t1 f0 f1
                have HB := Lib.hid B1
                have HT := Lib.hid T1
                clear B1 T1
                clear hSS
                have hSS := HSK.out y2 HB.out
                refine hK.out _ _ hSS ?_
                clear hK K
                try simp only [Act.put, List.setIfInBounds_toArray, List.set_cons_zero, List.set_cons_succ]
                refine only_one (i := 7) (by kernel_rfl) rfl (by rfl) ?_
                have hmk := make_loads j y2 (by omega)
                obtain ⟨gn, hgn⟩ : ∃ x, y2.heap.size = x := ⟨_, rfl⟩
                rw [hgn] at hmk
                have N1 : LoadsB (y2.alloc (.cells (flatL (List.replicate j (0, 0))).toArray 116)) gn (zl 0 j) := by rw [zl_zero]; exact Blk.newI _ _ _ _ hgn
                have B1 := HB.out.alloc HB.out.size (.cells (flatL (List.replicate j (0, 0))).toArray 116)
                have hgz : z0.heap.size ≤ gn := by have := HB.out.size; omega
                have T1 := HT.out.alloc (.cells (flatL (List.replicate j (0, 0))).toArray 116)
                have hnt : gn ≠ bt := by have := HT.out.lt; omega
                have HNT := Lib.hid hnt
                clear hnt
                have HGZ := Lib.hid hgz
                clear hgn hgz HB HT
                intro K hK
                go_simp
                obtain ⟨y3, hy⟩ : ∃ x, y2.alloc (.cells (flatL (List.replicate j (0, 0))).toArray 116) = x := ⟨_, rfl⟩
                rw [hy] at N1 B1 T1 ⊢
                clear hy hmk
                have HB := Lib.hid B1
                have HN := Lib.hid N1
                have HT := Lib.hid T1
                clear B1 N1 T1
                clear hSS
                have hSS := HSK.out y3 HB.out
                refine hK.out _ _ hSS ?_
                clear hK K
                try simp only [Act.put, List.setIfInBounds_toArray, List.set_cons_zero, List.set_cons_succ]
                exact HVV.out y3 gn bt ⟨HB.out, HN.out, HT.out, HGZ.out, HTZ.out, HNT.out⟩
          · intro z1 gn bt hC
            have HC := Lib.hid hC
            clear hC
            have hSS := HSK.out z1 HC.out.1
            refine take_first (i := 10) (v := ?_) rfl (by kernel_rfl) (by kernel_rfl) (by kernel_rfl) (fun _ _ _ h => h) (by rfl) (by assumption) ?_ ?_
            rotate_left 1
            · intro X hSX
              (try dsimp only at hSX)
              first | (go_simp; done) | (go_simp; with_reducible rfl)
            try simp only [Act.put, List.setIfInBounds_toArray, List.set_cons_zero, List.set_cons_succ]
            refine wpAnyH_done (by kernel_rfl) ?_ _
            clear hSS
            have HLN : Hid (LN w gp gn bt gb z0.heap.size) := Lib.hid ⟨HO.out.h1, HO.out.h2, Blk.lt HO.out.p, by obtain ⟨vals, h1, h2, h3⟩ := HO.out.r; exact h2.lt, HC.out.2.2.2.1, HC.out.2.2.2.2.1, HC.out.2.2.2.2.2, HO.out.h3⟩
            have HZ1 : Hid (LZ w #[.int .i64 W, .int .i64 H, .slice (some ⟨b, off, none⟩) ts.length cap] gp gn bt gb k z0.heap.size #[.slice ac j cc, .slice aw nb cw] pr (zl 0 j) rows z1) := Lib.hid ⟨HO.out.s.past HC.out.1, Blk.past HO.out.p HC.out.1, HC.out.2.2.1, HC.out.2.1, (HO.out.r.toY k).past HC.out.1, HO.out.b.trans (HC.out.1.mono HO.out.b.size)⟩
            have HPL := Lib.hid (And.intro HO.out.pl (And.intro HO.out.po HO.out.rl))
            have HIN := Lib.hid (And.intro HC.out.1.size (And.intro (Blk.lt HC.out.2.1) HC.out.2.2.1.lt))
            clear HC HSK HO
            obtain ⟨Bo, hBo⟩ : ∃ x, z0.heap.size = x := ⟨_, rfl⟩
            rw [hBo] at HLN HZ1 HIN
            clear hBo
            go_wp2_with fail
            go_loopw [11] (fun i wr => ∃ q : Nat, q ≤ j ∧ i = .int .i64 q ∧ Hid (LZ w #[.int .i64 W, .int .i64 H, .slice (some ⟨b, off, none⟩) ts.length cap] gp gn bt gb k Bo #[.slice ac j cc, .slice aw nb cw] pr (zl q j) rows wr ∧ Bo ≤ wr.heap.size)) (fun i _ => j - (intOf i).toNat)
            case atStart => exact ⟨0, Nat.zero_le _, rfl, Lib.hid ⟨HZ1.out, HIN.out.1⟩⟩
            case round =>
              obtain ⟨q, hq, rfl, HZ⟩ := hrel
              rename World => v3
              clear HZ1 HIN
              by_cases hql : q < j
              · have hqi : (0 : Int) ≤ (q : Int) := by omega
                have hqli : (q : Int) < (j : Int) := by omega
                have hlz : (zl q j).length = j := zl_len (by omega)
                obtain ⟨g0, g1⟩ := LoadsB.cell HZ.out.1.n (i := q) (by omega)
                have f0 := Blk.fr HZ.out.1.n (i := q * 2)
                have f1 := Blk.fr HZ.out.1.n (i := q * 2 + 1)
                have hset := HZ.out.1.setN HLN.out (i := q) (by omega) (0, 1)
                rw [zl_set hql] at hset
                have HZ2 := Lib.hid (And.intro hset (show Bo ≤ ((v3.setCell ⟨gn, q * 2, none⟩ (.int .i64 ((0 : Nat) : Int))).setCell ⟨gn, q * 2 + 1, none⟩ (.int .i64 ((1 : Nat) : Int))).heap.size by rw [World.size_setCell, World.size_setCell]; exact HZ.out.2))
                clear hset hlz
                go_wp2
                go_roundw
                case rel => exact ⟨q + 1, by omega, by go_num, HZ2⟩
                case measure => simp [intOf]; omega
              · have hqe : q = j := by omega
                subst hqe
                have hZ := HZ.out.1
                rw [zl_all] at hZ
                obtain ⟨e, he⟩ : ∃ x, v3.heap.size = x := ⟨_, rfl⟩
                have hX := hZ.start HLN.out (by rw [HPL.out.2.2]; exact Nat.lt_of_succ_le hk) he
                obtain ⟨vk, hvk, hvf⟩ := (hZ.y.past ((Below.refl _ v3).alloc (Nat.le_refl _) (.cells #[] 116))).slot (by rw [HPL.out.2.2]; exact Nat.lt_of_succ_le hk)
                have HX0 := Lib.hid (And.intro hX (show e ≤ ((v3.alloc (.cells #[] 116)).setCell ⟨gb, k, none⟩ (.slice (some ⟨e, 0, none⟩) 0 0)).heap.size by rw [World.size_setCell]; simp; omega))
                have HNE : Hid (gn < e ∧ bt < e ∧ Bo ≤ e) := Lib.hid ⟨by rw [← he]; exact Blk.lt hZ.n, by rw [← he]; exact hZ.t.lt, by rw [← he]; exact HZ.out.2⟩
                clear hZ hX HZ
                go_wp2_with fail
                clear hvk hvf he
                obtain ⟨v4, hv4⟩ : ∃ x, (v3.alloc (.cells #[] 116)).setCell ⟨gb, k, none⟩ (.slice (some ⟨e, 0, none⟩) 0 0) = x := ⟨_, rfl⟩
                rw [hv4] at HX0 ⊢
                clear hv4
                go_loopw [12] (fun s12 wr => ∃ (bb : Nat) (ls bl : List (Nat × Nat)), bb ≤ nb ∧ s12 = .int .i64 bb ∧ Hid (passS ts k pr (List.range bb) [] (List.replicate q (0, 1)) = (ls, bl, 0)) ∧ Hid (LX w #[.int .i64 W, .int .i64 H, .slice (some ⟨b, off, none⟩) ts.length cap] gp gn bt gb k Bo e #[.slice ac q cc, .slice aw nb cw] pr bl rows ls wr ∧ bl.length = q ∧ ls.length = bb ∧ e ≤ wr.heap.size)) (fun s12 _ => nb - (intOf s12).toNat)
                case atStart => exact ⟨0, [], _, Nat.zero_le _, rfl, Lib.hid rfl, Lib.hid ⟨HX0.out.1, by simp, rfl, HX0.out.2⟩⟩
                case round =>
                  obtain ⟨bb, ls, bl, hbb2, rfl, HPS, HX⟩ := hrel
                  rename World => W0
                  clear HX0
                  have t1 := HX.out.1.t.cell (i := 1) (v := .slice aw nb cw) rfl
                  by_cases hbl : bb < nb
                  · have hbi : (0 : Int) ≤ (bb : Int) := by omega
                    have hbli : (bb : Int) < (nb : Int) := by omega
                    obtain ⟨b13, hb13⟩ : ∃ x, W0.heap.size = x := ⟨_, rfl⟩
                    have HBADB : Hid ((brickF ts k pr bb).2.2 ≠ 0 → LF.2.2 ≠ 0) := Lib.hid fun h => HBAD.out (bad_brick HPS.out h HNB.out hbl)
                    have HS0 := Lib.hid (And.intro (show Below b13 W0 (W0.alloc (.cells #[.int .i64 ((0 : Nat) : Int), .int .i64 ((1 : Nat) : Int)] 116)) by rw [← hb13]; exact (Below.refl _ W0).alloc (Nat.le_refl _) _) (Blk.newI W0 b13 #[.int .i64 ((0 : Nat) : Int), .int .i64 ((1 : Nat) : Int)] 116 hb13))
                    have HB13 := Lib.hid hb13
                    go_wp2_with fail
                    clear t1 hb13
                    obtain ⟨w13, hw13⟩ : ∃ x, W0.alloc (.cells #[.int .i64 ((0 : Nat) : Int), .int .i64 ((1 : Nat) : Int)] 116) = x := ⟨_, rfl⟩
                    rw [hw13] at HS0
                    rw [show (W0.alloc (.cells #[.int .i64 0, .int .i64 1] 116)) = w13 from hw13]
                    clear hw13
                    go_loopw [14, 15] (fun s14 s15 wr => ∃ (i : Nat) (acc : Nat × Nat), i ≤ q ∧ s15 = .int .i64 i ∧ s14 = .bool true ∧ Hid (sumF pr ((List.range i).filter fun c => decide (keyAt ts k c = (bb : Int))) (0, 1) = (acc, 0) ∧ LoadOk acc) ∧ Hid (Below b13 W0 wr ∧ Blk wr b13 #[.int .i64 acc.1, .int .i64 acc.2] 116)) (fun _ s15 _ => q - (intOf s15).toNat)
                    case atStart => exact ⟨0, (0, 1), Nat.zero_le _, rfl, rfl, Lib.hid ⟨rfl, by simp [LoadOk]⟩, HS0⟩
                    case round =>
                      obtain ⟨i, acc, hi, rfl, rfl, HSUM, HW5⟩ := hrel
                      rename World => w5
                      clear HS0
                      obtain ⟨a1, a2⟩ := acc
                      have HXW := Lib.hid (HX.out.1.past (by rw [HB13.out]; exact HW5.out.1))
                      by_cases hil : i < q
                      · have hii : (0 : Int) ≤ (i : Int) := by omega
                        have hili : (i : Int) < (q : Int) := by omega
                        have t0 := HXW.out.t.cell (i := 0) (v := .slice ac q cc) rfl
                        obtain ⟨cb', co, rfl, hcb, d1⟩ := HPC.out i (by rw [HV.out.len k (Nat.lt_of_succ_le hk)]; exact hil)
                        have d1 := (HXW.out.b.cell (p := ⟨cb', _, none⟩) hcb).trans d1
                        obtain ⟨x, hx⟩ : ∃ x, (ts[k]?.getD ([], [])).1[i]?.getD 0 = x := ⟨_, rfl⟩
                        rw [hx] at d1
                        have hkx : keyAt ts k i = x := hx
                        have hfs := filt_succ (fun c => decide (keyAt ts k c = (bb : Int))) i
                        rw [hkx] at hfs
                        have HFS := Lib.hid hfs
                        clear hx hkx hfs
                        by_cases hxb : x = (bb : Int)
                        · subst hxb
                          have hxx : ((bb : Int) != (bb : Int)) = false := by simp
                          have hpo := HPL.out.2.1 i hil
                          obtain ⟨⟨u1, u2⟩, hu⟩ : ∃ u, pr[i]?.getD (0, 1) = u := ⟨_, rfl⟩
                          obtain ⟨g0, g1⟩ := LoadsB.cell HXW.out.p (i := i) (by rw [HPL.out.1]; exact hil)
                          rw [load_d _ _ (by rw [HPL.out.1]; exact hil)] at g0 g1
                          rw [hu] at hpo g0 g1
                          obtain ⟨o1, o2, o3⟩ := hpo
                          have hso := HSUM.out.2
                          obtain ⟨q1, q2, q3⟩ := hso
                          dsimp only at o1 o2 o3 q1 q2 q3 g0 g1
                          have p1 := mul_bd q1 o3
                          have p2 := mul_bd o1 q3
                          have p3 := mul_bd q3 o3
                          have p4 := mul_bd q2 o2
                          obtain ⟨x, hx⟩ : ∃ x, a1 * u2 = x := ⟨_, rfl⟩
                          obtain ⟨y, hy⟩ : ∃ y, u1 * a2 = y := ⟨_, rfl⟩
                          obtain ⟨z, hz⟩ : ∃ z, a2 * u2 = z := ⟨_, rfl⟩
                          have hxi : (a1 : Int) * (u2 : Int) = (x : Int) := by rw [← hx]; simp
                          have hyi : (u1 : Int) * (a2 : Int) = (y : Int) := by rw [← hy]; simp
                          have hzi : (a2 : Int) * (u2 : Int) = (z : Int) := by rw [← hz]; simp
                          rw [hx] at p1
                          rw [hy] at p2
                          rw [hz] at p3 p4
                          obtain ⟨m, hm⟩ : ∃ m, x + y = m := ⟨_, rfl⟩
                          have hmi : (x : Int) + (y : Int) = (m : Int) := by omega
                          have hwx : IntKind.i64.wrap (x : Int) = x := wrap_id (by omega) (by omega)
                          have hwy : IntKind.i64.wrap (y : Int) = y := wrap_id (by omega) (by omega)
                          have hwz : IntKind.i64.wrap (z : Int) = z := wrap_id (by omega) (by omega)
                          have hwm : IntKind.i64.wrap (m : Int) = m := wrap_id (by omega) (by omega)
                          have HADD : Hid (addF (a1, a2) (u1, u2) = low m z) := Lib.hid (by unfold addF; rw [hx, hy, hz, hm])
                          have HLO := Lib.hid (fun w => refLowest_any m z w (by omega) (by omega) (by omega))
                          have hlok := lowestF_ok (n := m) (d := z) (by omega)
                          have HLOK := Lib.hid hlok
                          have HU := Lib.hid hu
                          clear hx hy hz hm hu hlok p1 p2 p3 p4
                          go_wp2_with fail
                          clear t0 d1
                          refine region_plain (fun X => X.cell? ⟨gp, i * 2, none⟩ = some (.int .i64 u1) ∧ X.cell? ⟨gp, i * 2 + 1, none⟩ = some (.int .i64 u2)) 31 #[false, false, false, false, false, false, false, false, false, false, false, false, false, false, false, false, false, false, false, false, false, false, false, false, false, false, false, false, false, false, false] rfl rfl (by kernel_rfl) ?_
                          obtain ⟨w6, hw6⟩ : ∃ x, w5.drew = x := ⟨_, rfl⟩
                          have hSS : (w6.cell? ⟨gp, i * 2, none⟩ = some (.int .i64 u1) ∧ w6.cell? ⟨gp, i * 2 + 1, none⟩ = some (.int .i64 u2)) := by rw [← hw6]; exact ⟨g0, g1⟩
                          have HW6 : Hid (Below b13 W0 w6 ∧ Blk w6 b13 #[.int .i64 a1, .int .i64 a2] 116) := Lib.hid (by rw [← hw6]; exact ⟨HW5.out.1.drew, HW5.out.2.drew⟩)
                          have HSP : Hid (∀ X, Below b13 W0 X → X.cell? ⟨gp, i * 2, none⟩ = some (.int .i64 u1) ∧ X.cell? ⟨gp, i * 2 + 1, none⟩ = some (.int .i64 u2)) := Lib.hid fun X hX => by
                            have h1 := HX.out.1.past (by rw [HB13.out]; exact hX)
                            obtain ⟨g0, g1⟩ := LoadsB.cell h1.p (i := i) (by rw [HPL.out.1]; exact hil)
                            rw [load_d _ _ (by rw [HPL.out.1]; exact hil), HU.out] at g0 g1
                            exact ⟨g0, g1⟩
                          rw [hw6]
                          clear hw6 HW5 HXW g0 g1
                          have r0 := HW6.out.2.cell (i := 0) (v := .int .i64 a1) rfl
                          have r1 := HW6.out.2.cell (i := 1) (v := .int .i64 a2) rfl
                          refine take_first (i := 0) (v := ?_) rfl (by kernel_rfl) (by kernel_rfl) (by kernel_rfl) (fun _ _ _ h => h) (by rfl) (by assumption) ?_ ?_
                          rotate_left 1
                          · intro X hSX
                            (try dsimp only at hSX)
                            first | (go_simp; done) | (go_simp; with_reducible rfl)
                          try simp only [Act.put, List.setIfInBounds_toArray, List.set_cons_zero, List.set_cons_succ]
                          refine take_first (i := 2) (v := ?_) rfl (by kernel_rfl) (by kernel_rfl) (by kernel_rfl) (fun _ _ _ h => h) (by rfl) (by assumption) ?_ ?_
                          rotate_left 1
                          · intro X hSX
                            (try dsimp only at hSX)
                            first | (go_simp; done) | (go_simp; with_reducible rfl)
                          try simp only [Act.put, List.setIfInBounds_toArray, List.set_cons_zero, List.set_cons_succ]
                          refine take_first (i := 3) (v := ?_) rfl (by kernel_rfl) (by kernel_rfl) (by kernel_rfl) (fun _ _ _ h => h) (by rfl) (by assumption) ?_ ?_
                          rotate_left 1
                          · intro X hSX
                            (try dsimp only at hSX)
                            first | (go_simp; done) | (go_simp; with_reducible rfl)
                          try simp only [Act.put, List.setIfInBounds_toArray, List.set_cons_zero, List.set_cons_succ]
                          refine take_first (i := 4) (v := ?_) rfl (by kernel_rfl) (by kernel_rfl) (by kernel_rfl) (fun _ _ _ h => h) (by rfl) (by assumption) ?_ ?_
                          rotate_left 1
                          · intro X hSX
                            (try dsimp only at hSX)
                            first | (go_simp; done) | (go_simp; with_reducible rfl)
                          try simp only [Act.put, List.setIfInBounds_toArray, List.set_cons_zero, List.set_cons_succ]
                          refine take_first (i := 5) (v := ?_) rfl (by kernel_rfl) (by kernel_rfl) (by kernel_rfl) (fun _ _ _ h => h) (by rfl) (by assumption) ?_ ?_
                          rotate_left 1
                          · intro X hSX
                            (try dsimp only at hSX)
                            first | (go_simp; done) | (go_simp; with_reducible rfl)
                          try simp only [Act.put, List.setIfInBounds_toArray, List.set_cons_zero, List.set_cons_succ]
                          refine take_first (i := 6) (v := ?_) rfl (by kernel_rfl) (by kernel_rfl) (by kernel_rfl) (fun _ _ _ h => h) (by rfl) (by assumption) ?_ ?_
                          rotate_left 1
                          · intro X hSX
                            (try dsimp only at hSX)
                            first | (go_simp; done) | (go_simp; with_reducible rfl)
                          try simp only [Act.put, List.setIfInBounds_toArray, List.set_cons_zero, List.set_cons_succ]
                          refine take_first (i := 8) (v := ?_) rfl (by kernel_rfl) (by kernel_rfl) (by kernel_rfl) (fun _ _ _ h => h) (by rfl) (by assumption) ?_ ?_
                          rotate_left 1
                          · intro X hSX
                            (try dsimp only at hSX)
                            first | (go_simp; done) | (go_simp; with_reducible rfl)
                          try simp only [Act.put, List.setIfInBounds_toArray, List.set_cons_zero, List.set_cons_succ]
                          refine take_first (i := 9) (v := ?_) rfl (by kernel_rfl) (by kernel_rfl) (by kernel_rfl) (fun _ _ _ h => h) (by rfl) (by assumption) ?_ ?_
                          rotate_left 1
                          · intro X hSX
                            (try dsimp only at hSX)
                            first | (go_simp; done) | (go_simp; with_reducible rfl)
                          try simp only [Act.put, List.setIfInBounds_toArray, List.set_cons_zero, List.set_cons_succ]
                          refine take_first (i := 10) (v := ?_) rfl (by kernel_rfl) (by kernel_rfl) (by kernel_rfl) (fun _ _ _ h => h) (by rfl) (by assumption) ?_ ?_
                          rotate_left 1
                          · intro X hSX
                            (try dsimp only at hSX)
                            first | (go_simp; done) | (go_simp; with_reducible rfl)
                          try simp only [Act.put, List.setIfInBounds_toArray, List.set_cons_zero, List.set_cons_succ]
                          refine take_first (i := 11) (v := ?_) rfl (by kernel_rfl) (by kernel_rfl) (by kernel_rfl) (fun _ _ _ h => h) (by rfl) (by assumption) ?_ ?_
                          rotate_left 1
                          · intro X hSX
                            (try dsimp only at hSX)
                            first | (go_simp; done) | (go_simp; with_reducible rfl)
                          try simp only [Act.put, List.setIfInBounds_toArray, List.set_cons_zero, List.set_cons_succ]
                          refine take_first (i := 12) (v := ?_) rfl (by kernel_rfl) (by kernel_rfl) (by kernel_rfl) (fun _ _ _ h => h) (by rfl) (by assumption) ?_ ?_
                          rotate_left 1
                          · intro X hSX
                            (try dsimp only at hSX)
                            first | (go_simp; done) | (go_simp; with_reducible rfl)
                          try simp only [Act.put, List.setIfInBounds_toArray, List.set_cons_zero, List.set_cons_succ]
                          refine take_first (i := 13) (v := ?_) rfl (by kernel_rfl) (by kernel_rfl) (by kernel_rfl) (fun _ _ _ h => h) (by rfl) (by assumption) ?_ ?_
                          rotate_left 1
                          · intro X hSX
                            (try dsimp only at hSX)
                            first | (go_simp; done) | (go_simp; with_reducible rfl)
                          try simp only [Act.put, List.setIfInBounds_toArray, List.set_cons_zero, List.set_cons_succ]
                          refine take_first (i := 17) (v := ?_) rfl (by kernel_rfl) (by kernel_rfl) (by kernel_rfl) (fun _ _ _ h => h) (by rfl) (by assumption) ?_ ?_
                          rotate_left 1
                          · intro X hSX
                            (try dsimp only at hSX)
                            first | (go_simp; done) | (go_simp; with_reducible rfl)
                          try simp only [Act.put, List.setIfInBounds_toArray, List.set_cons_zero, List.set_cons_succ]
                          refine take_first (i := 19) (v := ?_) rfl (by kernel_rfl) (by kernel_rfl) (by kernel_rfl) (fun _ _ _ h => h) (by rfl) (by assumption) ?_ ?_
                          rotate_left 1
                          · intro X hSX
                            (try dsimp only at hSX)
                            first | (go_simp; done) | (go_simp; with_reducible rfl)
                          try simp only [Act.put, List.setIfInBounds_toArray, List.set_cons_zero, List.set_cons_succ]
                          refine take_first (i := 20) (v := ?_) rfl (by kernel_rfl) (by kernel_rfl) (by kernel_rfl) (fun _ _ _ h => h) (by rfl) (by assumption) ?_ ?_
                          rotate_left 1
                          · intro X hSX
                            (try dsimp only at hSX)
                            first | (go_simp; done) | (go_simp; with_reducible rfl)
                          try simp only [Act.put, List.setIfInBounds_toArray, List.set_cons_zero, List.set_cons_succ]
                          refine take_first (i := 21) (v := ?_) rfl (by kernel_rfl) (by kernel_rfl) (by kernel_rfl) (fun _ _ _ h => h) (by rfl) (by assumption) ?_ ?_
                          rotate_left 1
                          · intro X hSX
                            (try dsimp only at hSX)
                            first | (go_simp; done) | (go_simp; with_reducible rfl)
                          try simp only [Act.put, List.setIfInBounds_toArray, List.set_cons_zero, List.set_cons_succ]
                          refine take_first (i := 22) (v := ?_) rfl (by kernel_rfl) (by kernel_rfl) (by kernel_rfl) (fun _ _ _ h => h) (by rfl) (by assumption) ?_ ?_
                          rotate_left 1
                          · intro X hSX
                            (try dsimp only at hSX)
                            first | (go_simp; done) | (go_simp; with_reducible rfl)
                          try simp only [Act.put, List.setIfInBounds_toArray, List.set_cons_zero, List.set_cons_succ]
                          refine take_first (i := 23) (v := ?_) rfl (by kernel_rfl) (by kernel_rfl) (by kernel_rfl) (fun _ _ _ h => h) (by rfl) (by assumption) ?_ ?_
                          rotate_left 1
                          · intro X hSX
                            (try dsimp only at hSX)
                            first | (go_simp; done) | (go_simp; with_reducible rfl)
                          try simp only [Act.put, List.setIfInBounds_toArray, List.set_cons_zero, List.set_cons_succ]
                          apply via0
                          · intro HT
                            refine one_of_three (i := 1) (j := 14) (k := 18) (by kernel_rfl) rfl rfl rfl (by rfl) (by rfl) (by rfl) ?_ ?_ ?_
                            · intro K hK
                              go_simp
                              refine hK.out _ _ hSS ?_
                              clear hK K
                              try simp only [Act.put, List.setIfInBounds_toArray, List.set_cons_zero, List.set_cons_succ]
                              refine take_first (i := 7) (v := ?_) rfl (by kernel_rfl) (by kernel_rfl) (by kernel_rfl) (fun _ _ _ h => h) (by rfl) (by assumption) ?_ ?_
                              rotate_left 1
                              · intro X hSX
                                (try dsimp only at hSX)
                                first | (go_simp; done) | (go_simp; with_reducible rfl)
                              try simp only [Act.put, List.setIfInBounds_toArray, List.set_cons_zero, List.set_cons_succ]
                              refine one_of_twoT (i := 14) (j := 18) (by kernel_rfl) rfl rfl (by rfl) (by rfl) ?_ ?_
                              · intro K hK
                                go_simp
                                refine hK.out _ _ hSS ?_
                                clear hK K
                                try simp only [Act.put, List.setIfInBounds_toArray, List.set_cons_zero, List.set_cons_succ]
                                refine take_first (i := 15) (v := ?_) rfl (by kernel_rfl) (by kernel_rfl) (by kernel_rfl) (fun _ _ _ h => h) (by rfl) (by assumption) ?_ ?_
                                rotate_left 1
                                · intro X hSX
                                  (try dsimp only at hSX)
                                  first | (go_simp; done) | (go_simp; with_reducible rfl)
                                try simp only [Act.put, List.setIfInBounds_toArray, List.set_cons_zero, List.set_cons_succ]
                                refine take_first (i := 16) (v := ?_) rfl (by kernel_rfl) (by kernel_rfl) (by kernel_rfl) (fun _ _ _ h => h) (by rfl) (by assumption) ?_ ?_
                                rotate_left 1
                                · intro X hSX
                                  (try dsimp only at hSX)
                                  first | (go_simp; done) | (go_simp; with_reducible rfl)
                                try simp only [Act.put, List.setIfInBounds_toArray, List.set_cons_zero, List.set_cons_succ]
                                refine only_one (i := 18) (by kernel_rfl) rfl (by rfl) ?_
                                intro K hK
                                go_simp
                                refine hK.out _ _ hSS ?_
                                clear hK K
                                try simp only [Act.put, List.setIfInBounds_toArray, List.set_cons_zero, List.set_cons_succ]
                                refine take_first (i := 24) (v := ?_) rfl (by kernel_rfl) (by kernel_rfl) (by kernel_rfl) (fun _ _ _ h => h) (by rfl) (by assumption) ?_ ?_
                                rotate_left 1
                                · intro X hSX
                                  (try dsimp only at hSX)
                                  first | (go_simp; done) | (go_simp; with_reducible rfl)
                                try simp only [Act.put, List.setIfInBounds_toArray, List.set_cons_zero, List.set_cons_succ]
                                exact HT trivial
                              · intro K hK
                                go_simp
                                refine hK.out _ _ hSS ?_
                                clear hK K
                                try simp only [Act.put, List.setIfInBounds_toArray, List.set_cons_zero, List.set_cons_succ]
                                refine take_first (i := 24) (v := ?_) rfl (by kernel_rfl) (by kernel_rfl) (by kernel_rfl) (fun _ _ _ h => h) (by rfl) (by assumption) ?_ ?_
                                rotate_left 1
                                · intro X hSX
                                  (try dsimp only at hSX)
                                  first | (go_simp; done) | (go_simp; with_reducible rfl)
                                try simp only [Act.put, List.setIfInBounds_toArray, List.set_cons_zero, List.set_cons_succ]
                                refine only_one (i := 14) (by kernel_rfl) rfl (by rfl) ?_
                                intro K hK
                                go_simp
                                refine hK.out _ _ hSS ?_
                                clear hK K
                                try simp only [Act.put, List.setIfInBounds_toArray, List.set_cons_zero, List.set_cons_succ]
                                refine take_first (i := 15) (v := ?_) rfl (by kernel_rfl) (by kernel_rfl) (by kernel_rfl) (fun _ _ _ h => h) (by rfl) (by assumption) ?_ ?_
                                rotate_left 1
                                · intro X hSX
                                  (try dsimp only at hSX)
                                  first | (go_simp; done) | (go_simp; with_reducible rfl)
                                try simp only [Act.put, List.setIfInBounds_toArray, List.set_cons_zero, List.set_cons_succ]
                                refine take_first (i := 16) (v := ?_) rfl (by kernel_rfl) (by kernel_rfl) (by kernel_rfl) (fun _ _ _ h => h) (by rfl) (by assumption) ?_ ?_
                                rotate_left 1
                                · intro X hSX
                                  (try dsimp only at hSX)
                                  first | (go_simp; done) | (go_simp; with_reducible rfl)
                                try simp only [Act.put, List.setIfInBounds_toArray, List.set_cons_zero, List.set_cons_succ]
                                exact HT trivial
                            · intro K hK
                              go_simp
                              refine hK.out _ _ hSS ?_
                              clear hK K
                              try simp only [Act.put, List.setIfInBounds_toArray, List.set_cons_zero, List.set_cons_succ]
                              refine take_first (i := 15) (v := ?_) rfl (by kernel_rfl) (by kernel_rfl) (by kernel_rfl) (fun _ _ _ h => h) (by rfl) (by assumption) ?_ ?_
                              rotate_left 1
                              · intro X hSX
                                (try dsimp only at hSX)
                                first | (go_simp; done) | (go_simp; with_reducible rfl)
                              try simp only [Act.put, List.setIfInBounds_toArray, List.set_cons_zero, List.set_cons_succ]
                              refine one_of_twoT (i := 1) (j := 18) (by kernel_rfl) rfl rfl (by rfl) (by rfl) ?_ ?_
                              · intro K hK
                                go_simp
                                refine hK.out _ _ hSS ?_
                                clear hK K
                                try simp only [Act.put, List.setIfInBounds_toArray, List.set_cons_zero, List.set_cons_succ]
                                refine take_first (i := 7) (v := ?_) rfl (by kernel_rfl) (by kernel_rfl) (by kernel_rfl) (fun _ _ _ h => h) (by rfl) (by assumption) ?_ ?_
                                rotate_left 1
                                · intro X hSX
                                  (try dsimp only at hSX)
                                  first | (go_simp; done) | (go_simp; with_reducible rfl)
                                try simp only [Act.put, List.setIfInBounds_toArray, List.set_cons_zero, List.set_cons_succ]
                                refine take_first (i := 16) (v := ?_) rfl (by kernel_rfl) (by kernel_rfl) (by kernel_rfl) (fun _ _ _ h => h) (by rfl) (by assumption) ?_ ?_
                                rotate_left 1
                                · intro X hSX
                                  (try dsimp only at hSX)
                                  first | (go_simp; done) | (go_simp; with_reducible rfl)
                                try simp only [Act.put, List.setIfInBounds_toArray, List.set_cons_zero, List.set_cons_succ]
                                refine only_one (i := 18) (by kernel_rfl) rfl (by rfl) ?_
                                intro K hK
                                go_simp
                                refine hK.out _ _ hSS ?_
                                clear hK K
                                try simp only [Act.put, List.setIfInBounds_toArray, List.set_cons_zero, List.set_cons_succ]
                                refine take_first (i := 24) (v := ?_) rfl (by kernel_rfl) (by kernel_rfl) (by kernel_rfl) (fun _ _ _ h => h) (by rfl) (by assumption) ?_ ?_
                                rotate_left 1
                                · intro X hSX
                                  (try dsimp only at hSX)
                                  first | (go_simp; done) | (go_simp; with_reducible rfl)
                                try simp only [Act.put, List.setIfInBounds_toArray, List.set_cons_zero, List.set_cons_succ]
                                exact HT trivial
                              · intro K hK
                                go_simp
                                refine hK.out _ _ hSS ?_
                                clear hK K
                                try simp only [Act.put, List.setIfInBounds_toArray, List.set_cons_zero, List.set_cons_succ]
                                refine take_first (i := 24) (v := ?_) rfl (by kernel_rfl) (by kernel_rfl) (by kernel_rfl) (fun _ _ _ h => h) (by rfl) (by assumption) ?_ ?_
                                rotate_left 1
                                · intro X hSX
                                  (try dsimp only at hSX)
                                  first | (go_simp; done) | (go_simp; with_reducible rfl)
                                try simp only [Act.put, List.setIfInBounds_toArray, List.set_cons_zero, List.set_cons_succ]
                                refine only_one (i := 1) (by kernel_rfl) rfl (by rfl) ?_
                                intro K hK
                                go_simp
                                refine hK.out _ _ hSS ?_
                                clear hK K
                                try simp only [Act.put, List.setIfInBounds_toArray, List.set_cons_zero, List.set_cons_succ]
                                refine take_first (i := 7) (v := ?_) rfl (by kernel_rfl) (by kernel_rfl) (by kernel_rfl) (fun _ _ _ h => h) (by rfl) (by assumption) ?_ ?_
                                rotate_left 1
                                · intro X hSX
                                  (try dsimp only at hSX)
                                  first | (go_simp; done) | (go_simp; with_reducible rfl)
                                try simp only [Act.put, List.setIfInBounds_toArray, List.set_cons_zero, List.set_cons_succ]
                                refine take_first (i := 16) (v := ?_) rfl (by kernel_rfl) (by kernel_rfl) (by kernel_rfl) (fun _ _ _ h => h) (by rfl) (by assumption) ?_ ?_
                                rotate_left 1
                                · intro X hSX
                                  (try dsimp only at hSX)
                                  first | (go_simp; done) | (go_simp; with_reducible rfl)
                                try simp only [Act.put, List.setIfInBounds_toArray, List.set_cons_zero, List.set_cons_succ]
                                exact HT trivial
                            · intro K hK
                              go_simp
                              refine hK.out _ _ hSS ?_
                              clear hK K
                              try simp only [Act.put, List.setIfInBounds_toArray, List.set_cons_zero, List.set_cons_succ]
                              refine take_first (i := 24) (v := ?_) rfl (by kernel_rfl) (by kernel_rfl) (by kernel_rfl) (fun _ _ _ h => h) (by rfl) (by assumption) ?_ ?_
                              rotate_left 1
                              · intro X hSX
                                (try dsimp only at hSX)
                                first | (go_simp; done) | (go_simp; with_reducible rfl)
                              try simp only [Act.put, List.setIfInBounds_toArray, List.set_cons_zero, List.set_cons_succ]
                              refine one_of_twoT (i := 1) (j := 14) (by kernel_rfl) rfl rfl (by rfl) (by rfl) ?_ ?_
                              · intro K hK
                                go_simp
                                refine hK.out _ _ hSS ?_
                                clear hK K
                                try simp only [Act.put, List.setIfInBounds_toArray, List.set_cons_zero, List.set_cons_succ]
                                refine take_first (i := 7) (v := ?_) rfl (by kernel_rfl) (by kernel_rfl) (by kernel_rfl) (fun _ _ _ h => h) (by rfl) (by assumption) ?_ ?_
                                rotate_left 1
                                · intro X hSX
                                  (try dsimp only at hSX)
                                  first | (go_simp; done) | (go_simp; with_reducible rfl)
                                try simp only [Act.put, List.setIfInBounds_toArray, List.set_cons_zero, List.set_cons_succ]
                                refine only_one (i := 14) (by kernel_rfl) rfl (by rfl) ?_
                                intro K hK
                                go_simp
                                refine hK.out _ _ hSS ?_
                                clear hK K
                                try simp only [Act.put, List.setIfInBounds_toArray, List.set_cons_zero, List.set_cons_succ]
                                refine take_first (i := 15) (v := ?_) rfl (by kernel_rfl) (by kernel_rfl) (by kernel_rfl) (fun _ _ _ h => h) (by rfl) (by assumption) ?_ ?_
                                rotate_left 1
                                · intro X hSX
                                  (try dsimp only at hSX)
                                  first | (go_simp; done) | (go_simp; with_reducible rfl)
                                try simp only [Act.put, List.setIfInBounds_toArray, List.set_cons_zero, List.set_cons_succ]
                                refine take_first (i := 16) (v := ?_) rfl (by kernel_rfl) (by kernel_rfl) (by kernel_rfl) (fun _ _ _ h => h) (by rfl) (by assumption) ?_ ?_
                                rotate_left 1
                                · intro X hSX
                                  (try dsimp only at hSX)
                                  first | (go_simp; done) | (go_simp; with_reducible rfl)
                                try simp only [Act.put, List.setIfInBounds_toArray, List.set_cons_zero, List.set_cons_succ]
                                exact HT trivial
                              · intro K hK
                                go_simp
                                refine hK.out _ _ hSS ?_
                                clear hK K
                                try simp only [Act.put, List.setIfInBounds_toArray, List.set_cons_zero, List.set_cons_succ]
                                refine take_first (i := 15) (v := ?_) rfl (by kernel_rfl) (by kernel_rfl) (by kernel_rfl) (fun _ _ _ h => h) (by rfl) (by assumption) ?_ ?_
                                rotate_left 1
                                · intro X hSX
                                  (try dsimp only at hSX)
                                  first | (go_simp; done) | (go_simp; with_reducible rfl)
                                try simp only [Act.put, List.setIfInBounds_toArray, List.set_cons_zero, List.set_cons_succ]
                                refine only_one (i := 1) (by kernel_rfl) rfl (by rfl) ?_
                                intro K hK
                                go_simp
                                refine hK.out _ _ hSS ?_
                                clear hK K
                                try simp only [Act.put, List.setIfInBounds_toArray, List.set_cons_zero, List.set_cons_succ]
                                refine take_first (i := 7) (v := ?_) rfl (by kernel_rfl) (by kernel_rfl) (by kernel_rfl) (fun _ _ _ h => h) (by rfl) (by assumption) ?_ ?_
                                rotate_left 1
                                · intro X hSX
                                  (try dsimp only at hSX)
                                  first | (go_simp; done) | (go_simp; with_reducible rfl)
                                try simp only [Act.put, List.setIfInBounds_toArray, List.set_cons_zero, List.set_cons_succ]
                                refine take_first (i := 16) (v := ?_) rfl (by kernel_rfl) (by kernel_rfl) (by kernel_rfl) (fun _ _ _ h => h) (by rfl) (by assumption) ?_ ?_
                                rotate_left 1
                                · intro X hSX
                                  (try dsimp only at hSX)
                                  first | (go_simp; done) | (go_simp; with_reducible rfl)
                                try simp only [Act.put, List.setIfInBounds_toArray, List.set_cons_zero, List.set_cons_succ]
                                exact HT trivial
                          · clear r0 r1
                            refine only_one (i := 25) (by kernel_rfl) rfl (by rfl) ?_
                            intro K hK
                            go_simp
                            refine (HLO.out _).mono ?_
                            rintro e' w7 ⟨⟨x', y', rfl, hxy⟩, hb7⟩
                            obtain ⟨ok, hok⟩ : ∃ r, decide ((lowestF m z).2.2 = 0) = r := ⟨_, rfl⟩
                            rw [hok]
                            have HOKB := Lib.hid hok
                            have HXY := Lib.hid hxy
                            have HB7 := Lib.hid (HW6.out.1.trans (hb7.mono (by have h1 := HW6.out.2.lt; omega)))
                            have HC7 := Lib.hid (HW6.out.2.past hb7)
                            clear hok hxy hb7 hSS HW6
                            have hSS := HSP.out w7 HB7.out
                            refine hK.out _ _ hSS ?_
                            clear hK K
                            try simp only [Act.put, List.setIfInBounds_toArray, List.set_cons_zero, List.set_cons_succ]
                            refine take_first (i := 26) (v := ?_) rfl (by kernel_rfl) (by kernel_rfl) (by kernel_rfl) (fun _ _ _ h => h) (by rfl) (by assumption) ?_ ?_
                            rotate_left 1
                            · intro X hSX
                              (try dsimp only at hSX)
                              first | (go_simp; done) | (go_simp; with_reducible rfl)
                            try simp only [Act.put, List.setIfInBounds_toArray, List.set_cons_zero, List.set_cons_succ]
                            refine take_first (i := 27) (v := ?_) rfl (by kernel_rfl) (by kernel_rfl) (by kernel_rfl) (fun _ _ _ h => h) (by rfl) (by assumption) ?_ ?_
                            rotate_left 1
                            · intro X hSX
                              (try dsimp only at hSX)
                              first | (go_simp; done) | (go_simp; with_reducible rfl)
                            try simp only [Act.put, List.setIfInBounds_toArray, List.set_cons_zero, List.set_cons_succ]
                            refine take_first (i := 28) (v := ?_) rfl (by kernel_rfl) (by kernel_rfl) (by kernel_rfl) (fun _ _ _ h => h) (by rfl) (by assumption) ?_ ?_
                            rotate_left 1
                            · intro X hSX
                              (try dsimp only at hSX)
                              first | (go_simp; done) | (go_simp; with_reducible rfl)
                            try simp only [Act.put, List.setIfInBounds_toArray, List.set_cons_zero, List.set_cons_succ]
                            have r0 := HC7.out.cell (i := 0) (v := .int .i64 a1) rfl
                            have r1 := HC7.out.cell (i := 1) (v := .int .i64 a2) rfl
                            have f0 := HC7.out.fr (i := 0)
                            have f1 := HC7.out.fr (i := 1)
                            refine only_one (i := 29) (by kernel_rfl) rfl (by rfl) ?_
                            intro K hK
                            go_simp
                            have C8 := (HC7.out.set 0 (by simp) (.int .i64 x') rfl).set 1 (by simp) (.int .i64 y') rfl
                            have B8 := (HB7.out.setCell (p := ⟨b13, 0, none⟩) (Nat.le_refl _) (.int .i64 x')).setCell (p := ⟨b13, 1, none⟩) (Nat.le_refl _) (.int .i64 y')
                            obtain ⟨w8, hw8⟩ : ∃ x, (w7.setCell ⟨b13, 0, none⟩ (.int .i64 x')).setCell ⟨b13, 1, none⟩ (.int .i64 y') = x := ⟨_, rfl⟩
                            rw [hw8] at C8 B8 ⊢
                            clear hw8 r0 r1 f0 f1 hSS HC7 HB7
                            have hSS := HSP.out w8 B8
                            have HC8 := Lib.hid C8
                            have HB8 := Lib.hid B8
                            clear C8 B8
                            refine hK.out _ _ hSS ?_
                            clear hK K
                            try simp only [Act.put, List.setIfInBounds_toArray, List.set_cons_zero, List.set_cons_succ]
                            refine take_first (i := 30) (v := ?_) rfl (by kernel_rfl) (by kernel_rfl) (by kernel_rfl) (fun _ _ _ h => h) (by rfl) (by assumption) ?_ ?_
                            rotate_left 1
                            · intro X hSX
                              (try dsimp only at hSX)
                              first | (go_simp; done) | (go_simp; with_reducible rfl)
                            try simp only [Act.put, List.setIfInBounds_toArray, List.set_cons_zero, List.set_cons_succ]
                            refine wpAnyH_done (by kernel_rfl) ?_ _
                            clear hSS
                            have hsn := sumF_snoc (pr := pr) i HSUM.out.1
                            rw [HU.out, HADD.out] at hsn
                            have hfs2 := HFS.out
                            simp only [decide_true, if_true] at hfs2
                            rw [← hfs2] at hsn
                            have HSN := Lib.hid hsn
                            clear hsn hfs2
                            cases ok
                            · have HN : Hid (LF.2.2 ≠ 0) := Lib.hid (HBADB.out (by
                                obtain ⟨rest, hr⟩ := filt_prefix (fun c => decide (keyAt ts k c = (bb : Int))) (show i + 1 ≤ q by omega)
                                refine bad_sum (pre := (List.range (i + 1)).filter fun c => decide (keyAt ts k c = (bb : Int))) (rest := rest) ?_ ?_
                                · rw [cellsL_eq (HV.out.len k (Nat.lt_of_succ_le hk)), hr]
                                · rw [HSN.out]; exact of_decide_eq_false HOKB.out))
                              have HBE := Lib.hid (HX.out.1.b.trans (HB8.out.mono (by have h1 := HX.out.1.b.size; have h2 := HB13.out; omega)))
                              go_wp2
                              refine bodyPost_ret (v := .tuple #[.slice none 0 0, .slice none 0 0, .bool false]) (by simp [results, Try.results40, go_sem]) rfl ?_
                              exact ⟨HBE.out, .inl ⟨HN.out, rfl⟩⟩
                            · have h22 : (lowestF m z).2.2 = 0 := of_decide_eq_true HOKB.out
                              obtain ⟨ex, ey⟩ := HXY.out h22
                              rcases HLOK.out with ⟨h10, _⟩ | ⟨_, a', b', hab, l1, l2, l3⟩
                              · rw [h10] at h22; cases h22
                              · rw [hab] at ex ey
                                dsimp only at ex ey
                                subst ex ey
                                have HSUM2 : Hid (sumF pr ((List.range (i + 1)).filter fun c => decide (keyAt ts k c = (bb : Int))) (0, 1) = ((a', b'), 0) ∧ LoadOk (a', b')) := Lib.hid ⟨by rw [HSN.out]; unfold low; rw [hab]; rfl, l1, l2, l3⟩
                                clear hab h22
                                go_wp2
                                go_roundw
                                case rel => exact ⟨i + 1, (a', b'), by omega, by go_num, rfl, HSUM2, Lib.hid ⟨HB8.out, HC8.out⟩⟩
                                case measure => simp [intOf] <;> omega
                        · have hxx : (x != (bb : Int)) = true := by simpa using hxb
                          have HSUM2 : Hid (sumF pr ((List.range (i + 1)).filter fun c => decide (keyAt ts k c = (bb : Int))) (0, 1) = ((a1, a2), 0) ∧ LoadOk (a1, a2)) := Lib.hid (by rw [HFS.out]; simpa [hxb] using HSUM.out)
                          go_wp2
                          go_roundw
                          case rel => exact ⟨i + 1, (a1, a2), by omega, by go_num, rfl, HSUM2, HW5⟩
                          case measure => simp [intOf]; omega
                      · have hie : i = q := by omega
                        subst hie
                        -- the load is known
                        have hfull := HSUM.out.1
                        have hlenk := HV.out.len k (Nat.lt_of_succ_le hk)
                        rw [← cellsL_eq hlenk] at hfull
                        have HL := Lib.hid (And.intro hfull HSUM.out.2)
                        obtain ⟨q1, q2, q3⟩ := HSUM.out.2
                        dsimp only at q1 q2 q3
                        obtain ⟨vk, hvk, hvo, hvf⟩ := HX.out.1.x.slot (by rw [HPL.out.2.2]; exact Nat.lt_of_succ_le hk)
                        have hgbl : gb < b13 := by have h1 := HLN.out.gbb; have h2 := HNE.out.2.2; have h3 := HXW.out.b.size; have h4 := HLN.out.n; have h5 := Blk.lt HX.out.1.n; have h6 := HB13.out; omega
                        have hvk6 := (HW5.out.1.cell (p := ⟨gb, k, none⟩) hgbl).trans hvk
                        have hvf6 : w5.frozen? ⟨gb, k, none⟩ = false := (World.frozen?_of_block (HW5.out.1.block gb hgbl)).trans hvf
                        have hvo6 := own_past hvo (by rw [HB13.out]; exact HW5.out.1)
                        have hvb : ∀ j, vk.ownBlock = some j → j < b13 := fun j hj => by have := (ownRow_lt hvo j hj).2.1; have h6 := HB13.out; omega
                        obtain ⟨pk, ck, rfl⟩ := own_shape2 hvo
                        obtain ⟨nl, hnl⟩ : ∃ n, ls.length = n := ⟨_, rfl⟩
                        rw [hnl] at hvk hvk6 hvo hvo6 hvb
                        have hnl144 : nl ≤ 144 := by have := HX.out.2.2.1; omega
                        have HNL := Lib.hid hnl
                        clear hfull hlenk hvk hvo hvf hnl
                        go_wp2_with fail
                        refine region_plain (fun X => X.cell? ⟨b13, 0, none⟩ = some (.int .i64 a1) ∧ X.cell? ⟨b13, 1, none⟩ = some (.int .i64 a2)) 11 #[false, false, false, false, false, false, false, false, false, false, false] rfl rfl (by kernel_rfl) ?_
                        obtain ⟨w6, hw6⟩ : ∃ x, w5.drew = x := ⟨_, rfl⟩
                        have hB6 : Below w5.heap.size w5 w6 := by rw [← hw6]; exact (Below.refl _ _).drew
                        have r0 : w6.cell? ⟨gb, k, none⟩ = some (.slice pk nl ck) := by rw [← hw6]; exact hvk6
                        have r1 : w6.frozen? ⟨gb, k, none⟩ = false := by rw [← hw6]; exact hvf6
                        have hvo7 := own_past hvo6 hB6
                        have hC6 := HW5.out.2.past hB6
                        have hX6 := HXW.out.past hB6
                        rw [hw6]
                        clear hw6 hvk6 hvf6 hvo6
                        have HC6 := Lib.hid hC6
                        have HX6 := Lib.hid hX6
                        have HVO := Lib.hid hvo7
                        have HVB := Lib.hid hvb
                        have HGBL := Lib.hid hgbl
                        have HB6 := Lib.hid (HW5.out.1.trans (hB6.mono (by have := HW5.out.2.lt; omega)))
                        clear hC6 hX6 hvo7 hB6 HW5 HXW hvb hgbl
                        have hSS : (w6.cell? ⟨b13, 0, none⟩ = some (.int .i64 a1) ∧ w6.cell? ⟨b13, 1, none⟩ = some (.int .i64 a2)) := ⟨HC6.out.cell (i := 0) rfl, HC6.out.cell (i := 1) rfl⟩
                        obtain ⟨bx, hbx⟩ : ∃ x, w6.heap.size = x := ⟨_, rfl⟩
                        have hb13x : b13 < bx := by have := HC6.out.lt; omega
                        have hB7 := (Below.refl _ w6).alloc (Nat.le_refl _) (.cells #[.int .i64 a1, .int .i64 a2] 116)
                        have HX7 := Lib.hid (HX6.out.past hB7)
                        have HC7 := Lib.hid (HC6.out.past hB7)
                        have HVO7 := Lib.hid (own_past HVO.out hB7)
                        have HBX := Lib.hid (Blk.newI w6 bx #[.int .i64 a1, .int .i64 a2] 116 hbx)
                        have HB7 := Lib.hid (HB6.out.trans (hB7.mono (by omega)))
                        have r2 := (hB7.cell (p := ⟨gb, k, none⟩) (show gb < w6.heap.size by have := HGBL.out; omega)).trans r0
                        have HR2 := Lib.hid r2
                        have HR3 : Hid ((w6.alloc (.cells #[.int .i64 a1, .int .i64 a2] 116)).frozen? ⟨gb, k, none⟩ = false) := Lib.hid ((World.frozen?_of_block (hB7.block gb (show gb < w6.heap.size by have := HGBL.out; omega))).trans r1)
                        have hS7 : (World.cell? (w6.alloc (.cells #[.int .i64 a1, .int .i64 a2] 116)) ⟨b13, 0, none⟩ = some (.int .i64 a1) ∧ World.cell? (w6.alloc (.cells #[.int .i64 a1, .int .i64 a2] 116)) ⟨b13, 1, none⟩ = some (.int .i64 a2)) := ⟨HC7.out.cell (i := 0) rfl, HC7.out.cell (i := 1) rfl⟩
                        clear hB7
                        refine take_first (i := 0) (v := ?_) rfl (by kernel_rfl) (by kernel_rfl) (by kernel_rfl) (fun _ _ _ h => h) (by rfl) (by assumption) ?_ ?_
                        rotate_left 1
                        · intro X hSX
                          (try dsimp only at hSX)
                          first | (go_simp; done) | (go_simp; with_reducible rfl)
                        try simp only [Act.put, List.setIfInBounds_toArray, List.set_cons_zero, List.set_cons_succ]
                        refine take_first (i := 1) (v := ?_) rfl (by kernel_rfl) (by kernel_rfl) (by kernel_rfl) (fun _ _ _ h => h) (by rfl) (by assumption) ?_ ?_
                        rotate_left 1
                        · intro X hSX
                          (try dsimp only at hSX)
                          first | (go_simp; done) | (go_simp; with_reducible rfl)
                        try simp only [Act.put, List.setIfInBounds_toArray, List.set_cons_zero, List.set_cons_succ]
                        refine take_first (i := 2) (v := ?_) rfl (by kernel_rfl) (by kernel_rfl) (by kernel_rfl) (fun _ _ _ h => h) (by rfl) (by assumption) ?_ ?_
                        rotate_left 1
                        · intro X hSX
                          (try dsimp only at hSX)
                          first | (go_simp; done) | (go_simp; with_reducible rfl)
                        try simp only [Act.put, List.setIfInBounds_toArray, List.set_cons_zero, List.set_cons_succ]
                        refine take_first (i := 3) (v := ?_) rfl (by kernel_rfl) (by kernel_rfl) (by kernel_rfl) (fun _ _ _ h => h) (by rfl) (by assumption) ?_ ?_
                        rotate_left 1
                        · intro X hSX
                          (try dsimp only at hSX)
                          first | (go_simp; done) | (go_simp; with_reducible rfl)
                        try simp only [Act.put, List.setIfInBounds_toArray, List.set_cons_zero, List.set_cons_succ]
                        refine take_first (i := 4) (v := ?_) rfl (by kernel_rfl) (by kernel_rfl) (by kernel_rfl) (fun _ _ _ h => h) (by rfl) (by assumption) ?_ ?_
                        rotate_left 1
                        · intro X hSX
                          (try dsimp only at hSX)
                          first | (go_simp; done) | (go_simp; with_reducible rfl)
                        try simp only [Act.put, List.setIfInBounds_toArray, List.set_cons_zero, List.set_cons_succ]
                        refine take_first (i := 6) (v := ?_) rfl (by kernel_rfl) (by kernel_rfl) (by kernel_rfl) (fun _ _ _ h => h) (by rfl) (by assumption) ?_ ?_
                        rotate_left 1
                        · intro X hSX
                          (try dsimp only at hSX)
                          first | (go_simp; done) | (go_simp; with_reducible rfl)
                        try simp only [Act.put, List.setIfInBounds_toArray, List.set_cons_zero, List.set_cons_succ]
                        apply via0
                        · intro HT
                          refine one_of_twoT (i := 5) (j := 7) (by kernel_rfl) rfl rfl (by rfl) (by rfl) ?_ ?_
                          · intro K hK
                            go_simp
                            refine hK.out _ _ hSS ?_
                            clear hK K
                            try simp only [Act.put, List.setIfInBounds_toArray, List.set_cons_zero, List.set_cons_succ]
                            refine only_one (i := 7) (by kernel_rfl) rfl (by rfl) ?_
                            intro K hK
                            go_simp
                            refine hK.out _ _ hS7 ?_
                            clear hK K
                            try simp only [Act.put, List.setIfInBounds_toArray, List.set_cons_zero, List.set_cons_succ]
                            exact HT trivial
                          · intro K hK
                            go_simp
                            refine hK.out _ _ hS7 ?_
                            clear hK K
                            try simp only [Act.put, List.setIfInBounds_toArray, List.set_cons_zero, List.set_cons_succ]
                            refine only_one (i := 5) (by kernel_rfl) rfl (by rfl) ?_
                            intro K hK
                            go_simp
                            refine hK.out _ _ hS7 ?_
                            clear hK K
                            try simp only [Act.put, List.setIfInBounds_toArray, List.set_cons_zero, List.set_cons_succ]
                            exact HT trivial
                        · clear hSS r0 r1 r2 HX6 HC6 HVO HB6 hS7
                          obtain ⟨w7, hw7⟩ : ∃ x, w6.alloc (.cells #[.int .i64 a1, .int .i64 a2] 116) = x := ⟨_, rfl⟩
                          rw [hw7] at HX7 HC7 HVO7 HBX HB7 HR2 HR3 ⊢
                          clear hw7 hbx
                          refine only_one (i := 8) (by kernel_rfl) rfl (by rfl) ?_
                          intro K hK
                          refine wp_appL (.tmp 127) (.tmp 129) (by rfl) e (.slice pk nl ck) ls (by rfl) (by rw [HNL.out]; exact HVO7.out) bx a1 a2 (by rfl) HBX.out (by rw [HNL.out]; omega) (by have h1 := HX.out.2.2.2; have h2 := HB13.out; have h3 := HBX.out.lt; have h4 := HC7.out.lt; omega) ?_
                          intro v' w8 h1 h2
                          have hrow : ∀ x, b13 ≤ x → some x ≠ (Value.slice pk nl ck).ownBlock := fun x hx e' => by have := HVB.out x e'.symm; omega
                          have hC8 := HC7.out.kept h2 (hrow _ (Nat.le_refl _))
                          have hgbr : some gb ≠ (Value.slice pk nl ck).ownBlock := fun e' => by have h3 := (ownRow_lt HVO7.out gb e'.symm).1; have h4 := HNE.out.2.2; have h5 := HLN.out.gbb; omega
                          have r0 : w8.cell? ⟨gb, k, none⟩ = some (.slice pk nl ck) := (h2.cell (a := ⟨gb, k, none⟩) HR2.out hgbr)
                          have r1 : w8.frozen? ⟨gb, k, none⟩ = false := (World.frozen?_of_block (h2.block gb (by have := HGBL.out; have h3 := HC7.out.lt; omega) hgbr)).trans HR3.out
                          have hX8 := HX7.out.grow HLN.out HNE.out.1 HNE.out.2.1 (by rw [HPL.out.2.2]; exact Nat.lt_of_succ_le hk) HR2.out (by rw [HNL.out]; exact HVO7.out) h1 h2
                          obtain ⟨p', c', hsh⟩ := own_shape2 h1
                          obtain ⟨m1, hm1⟩ : ∃ n, (ls ++ [(a1, a2)]).length = n := ⟨_, rfl⟩
                          rw [hm1] at hsh
                          subst hsh
                          have HX8 := Lib.hid hX8
                          have HC8 := Lib.hid hC8
                          clear hm1 hrow hgbr h1 h2 hX8 hC8 HX7 HC7 HVO7 HBX HB7 HR2 HR3
                          have hSS : (w8.cell? ⟨b13, 0, none⟩ = some (.int .i64 a1) ∧ w8.cell? ⟨b13, 1, none⟩ = some (.int .i64 a2)) := ⟨HC8.out.cell (i := 0) rfl, HC8.out.cell (i := 1) rfl⟩
                          refine hK.out _ _ hSS ?_
                          clear hK K
                          try simp only [Act.put, List.setIfInBounds_toArray, List.set_cons_zero, List.set_cons_succ]
                          refine take_first (i := 9) (v := ?_) rfl (by kernel_rfl) (by kernel_rfl) (by kernel_rfl) (fun _ _ _ h => h) (by rfl) (by assumption) ?_ ?_
                          rotate_left 1
                          · intro X hSX
                            (try dsimp only at hSX)
                            first | (go_simp; done) | (go_simp; with_reducible rfl)
                          try simp only [Act.put, List.setIfInBounds_toArray, List.set_cons_zero, List.set_cons_succ]
                          refine only_one (i := 10) (by kernel_rfl) rfl (by rfl) ?_
                          intro K hK
                          go_simp
                          have hC9 := HC8.out.far (b' := gb) (i := k) (u := .slice p' m1 c') (by have := HGBL.out; omega)
                          obtain ⟨w9, hw9⟩ : ∃ x, w8.setCell ⟨gb, k, none⟩ (.slice p' m1 c') = x := ⟨_, rfl⟩
                          rw [hw9] at HX8 hC9 ⊢
                          clear hw9 r0 r1 hSS
                          have hSS : (w9.cell? ⟨b13, 0, none⟩ = some (.int .i64 a1) ∧ w9.cell? ⟨b13, 1, none⟩ = some (.int .i64 a2)) := ⟨hC9.cell (i := 0) rfl, hC9.cell (i := 1) rfl⟩
                          have HC9 := Lib.hid hC9
                          have HX9 := HX8
                          clear hC9 HC8 HX8
                          refine hK.out _ _ hSS ?_
                          clear hK K
                          try simp only [Act.put, List.setIfInBounds_toArray, List.set_cons_zero, List.set_cons_succ]
                          refine wpAnyH_done (by kernel_rfl) ?_ _
                          clear hSS
                          obtain ⟨wb, wo, rfl, hwb, d1⟩ := HPW.out bb (by rw [HNB.out]; exact hbl)
                          obtain ⟨wi, hwi⟩ : ∃ x, (ts[k]?.getD ([], [])).2[bb]?.getD 0 = x := ⟨_, rfl⟩
                          have hwt := (HOK.out k (Nat.lt_of_succ_le hk)).wt bb (by rw [HNB.out]; exact hbl)
                          rw [hwi] at hwt d1
                          obtain ⟨wn, rfl⟩ := Int.eq_ofNat_of_zero_le hwt.1
                          have hwn : wn ≤ 1000 := by omega
                          have HWI := Lib.hid hwi
                          have p1 := mul_bd hwn q3
                          obtain ⟨x, hx⟩ : ∃ x, wn * a2 = x := ⟨_, rfl⟩
                          have hxi : (wn : Int) * (a2 : Int) = (x : Int) := by rw [← hx]; simp
                          rw [hx] at p1
                          obtain ⟨m, hm⟩ : ∃ m, a1 + x = m := ⟨_, rfl⟩
                          have hmi : (a1 : Int) + (x : Int) = (m : Int) := by omega
                          have hwx : IntKind.i64.wrap (x : Int) = x := wrap_id (by omega) (by omega)
                          have hwm : IntKind.i64.wrap (m : Int) = m := wrap_id (by omega) (by omega)
                          have HM : Hid (a1 * 1 + wn * a2 = m ∧ a2 * 1 = a2) := Lib.hid ⟨by rw [hx]; omega, by omega⟩
                          have hbfe : ∃ E, pressF a1 a2 wn (restsL ts k bb).length = E := ⟨_, rfl⟩
                          obtain ⟨⟨E1, E2, E3⟩, hE⟩ := hbfe
                          have HE := Lib.hid hE
                          have HBF : Hid (brickF ts k pr bb = ((a1, a2), (E1.toNat, E2.toNat), E3)) := Lib.hid (by
                            unfold brickF
                            dsimp only
                            rw [HL.out.1]
                            dsimp only
                            rw [if_pos rfl, hwi, Int.toNat_natCast, hE])
                          have HLO := Lib.hid (fun w => refLowest_any m a2 w (by omega) q2 (by omega))
                          have hlok := lowestF_ok (n := m) (d := a2) q2
                          have HLOK := Lib.hid hlok
                          have HRS := Lib.hid ((HOK.out k (Nat.lt_of_succ_le hk)).rs bb (by rw [HNB.out]; exact hbl))
                          obtain ⟨r1, r2, r3, hr123⟩ : ∃ r1 r2 r3, lowestF m a2 = (r1, r2, r3) := ⟨_, _, _, rfl⟩
                          rw [hr123] at HLO HLOK
                          have HR123 := Lib.hid hr123
                          clear hx hm hE hlok hwi hwt p1 hr123
                          have t1 := HX9.out.t.cell (i := 1) (v := .slice (some ⟨wb, wo, none⟩) nb cw) rfl
                          have d1 := (HX9.out.b.cell (p := ⟨wb, _, none⟩) hwb).trans d1
                          go_wp2_with fail
                          refine region_plain (fun X => X.cell? ⟨b13, 0, none⟩ = some (.int .i64 a1) ∧ X.cell? ⟨b13, 1, none⟩ = some (.int .i64 a2) ∧ X.cell? ⟨bt, 1, none⟩ = some (.slice (some ⟨wb, wo, none⟩) nb cw) ∧ X.cell? ⟨wb, wo + bb, none⟩ = some (.int .i64 wn)) 20 #[false, false, false, false, false, false, false, false, false, false, false, false, false, false, false, false, false, false, false, false] rfl rfl (by kernel_rfl) ?_
                          obtain ⟨u0, hu0⟩ : ∃ x, w9.drew = x := ⟨_, rfl⟩
                          have hBu : Below w9.heap.size w9 u0 := by rw [← hu0]; exact (Below.refl _ _).drew
                          have hCu := HC9.out.past hBu
                          have hXu := HX9.out.past hBu
                          have e1 := (hBu.cell (p := ⟨wb, _, none⟩) (show wb < w9.heap.size by have := HX9.out.b.size; omega)).trans d1
                          rw [hu0]
                          clear hu0 hBu t1 d1
                          have HXU := Lib.hid hXu
                          have HSU : Hid (∀ X, Below u0.heap.size u0 X → X.cell? ⟨b13, 0, none⟩ = some (.int .i64 a1) ∧ X.cell? ⟨b13, 1, none⟩ = some (.int .i64 a2) ∧ X.cell? ⟨bt, 1, none⟩ = some (.slice (some ⟨wb, wo, none⟩) nb cw) ∧ X.cell? ⟨wb, wo + bb, none⟩ = some (.int .i64 wn)) := Lib.hid fun X hX => ⟨(hCu.past hX).cell (i := 0) rfl, (hCu.past hX).cell (i := 1) rfl, (HXU.out.t.past hX).cell (i := 1) rfl, (hX.cell (p := ⟨wb, _, none⟩) (show wb < u0.heap.size by have := HXU.out.b.size; omega)).trans e1⟩
                          have hSS := HSU.out u0 (Below.refl _ _)
                          have HU0 : Hid (b13 < u0.heap.size) := Lib.hid hCu.lt
                          clear hCu hXu e1 HX9 HC9
                          refine take_first (i := 0) (v := ?_) rfl (by kernel_rfl) (by kernel_rfl) (by kernel_rfl) (fun _ _ _ h => h) (by rfl) (by assumption) ?_ ?_
                          rotate_left 1
                          · intro X hSX
                            (try dsimp only at hSX)
                            first | (go_simp; done) | (go_simp; with_reducible rfl)
                          try simp only [Act.put, List.setIfInBounds_toArray, List.set_cons_zero, List.set_cons_succ]
                          refine take_first (i := 1) (v := ?_) rfl (by kernel_rfl) (by kernel_rfl) (by kernel_rfl) (fun _ _ _ h => h) (by rfl) (by assumption) ?_ ?_
                          rotate_left 1
                          · intro X hSX
                            (try dsimp only at hSX)
                            first | (go_simp; done) | (go_simp; with_reducible rfl)
                          try simp only [Act.put, List.setIfInBounds_toArray, List.set_cons_zero, List.set_cons_succ]
                          refine take_first (i := 2) (v := ?_) rfl (by kernel_rfl) (by kernel_rfl) (by kernel_rfl) (fun _ _ _ h => h) (by rfl) (by assumption) ?_ ?_
                          rotate_left 1
                          · intro X hSX
                            (try dsimp only at hSX)
                            first | (go_simp; done) | (go_simp; with_reducible rfl)
                          try simp only [Act.put, List.setIfInBounds_toArray, List.set_cons_zero, List.set_cons_succ]
                          refine take_first (i := 3) (v := ?_) rfl (by kernel_rfl) (by kernel_rfl) (by kernel_rfl) (fun _ _ _ h => h) (by rfl) (by assumption) ?_ ?_
                          rotate_left 1
                          · intro X hSX
                            (try dsimp only at hSX)
                            first | (go_simp; done) | (go_simp; with_reducible rfl)
                          try simp only [Act.put, List.setIfInBounds_toArray, List.set_cons_zero, List.set_cons_succ]
                          refine take_first (i := 4) (v := ?_) rfl (by kernel_rfl) (by kernel_rfl) (by kernel_rfl) (fun _ _ _ h => h) (by rfl) (by assumption) ?_ ?_
                          rotate_left 1
                          · intro X hSX
                            (try dsimp only at hSX)
                            first | (go_simp; done) | (go_simp; with_reducible rfl)
                          try simp only [Act.put, List.setIfInBounds_toArray, List.set_cons_zero, List.set_cons_succ]
                          refine take_first (i := 5) (v := ?_) rfl (by kernel_rfl) (by kernel_rfl) (by kernel_rfl) (fun _ _ _ h => h) (by rfl) (by assumption) ?_ ?_
                          rotate_left 1
                          · intro X hSX
                            (try dsimp only at hSX)
                            first | (go_simp; done) | (go_simp; with_reducible rfl)
                          try simp only [Act.put, List.setIfInBounds_toArray, List.set_cons_zero, List.set_cons_succ]
                          refine take_first (i := 6) (v := ?_) rfl (by kernel_rfl) (by kernel_rfl) (by kernel_rfl) (fun _ _ _ h => h) (by rfl) (by assumption) ?_ ?_
                          rotate_left 1
                          · intro X hSX
                            (try dsimp only at hSX)
                            first | (go_simp; done) | (go_simp; with_reducible rfl)
                          try simp only [Act.put, List.setIfInBounds_toArray, List.set_cons_zero, List.set_cons_succ]
                          refine take_first (i := 7) (v := ?_) rfl (by kernel_rfl) (by kernel_rfl) (by kernel_rfl) (fun _ _ _ h => h) (by rfl) (by assumption) ?_ ?_
                          rotate_left 1
                          · intro X hSX
                            (try dsimp only at hSX)
                            first | (go_simp; done) | (go_simp; with_reducible rfl)
                          try simp only [Act.put, List.setIfInBounds_toArray, List.set_cons_zero, List.set_cons_succ]
                          refine take_first (i := 8) (v := ?_) rfl (by kernel_rfl) (by kernel_rfl) (by kernel_rfl) (fun _ _ _ h => h) (by rfl) (by assumption) ?_ ?_
                          rotate_left 1
                          · intro X hSX
                            (try dsimp only at hSX)
                            first | (go_simp; done) | (go_simp; with_reducible rfl)
                          try simp only [Act.put, List.setIfInBounds_toArray, List.set_cons_zero, List.set_cons_succ]
                          refine take_first (i := 9) (v := ?_) rfl (by kernel_rfl) (by kernel_rfl) (by kernel_rfl) (fun _ _ _ h => h) (by rfl) (by assumption) ?_ ?_
                          rotate_left 1
                          · intro X hSX
                            (try dsimp only at hSX)
                            first | (go_simp; done) | (go_simp; with_reducible rfl)
                          try simp only [Act.put, List.setIfInBounds_toArray, List.set_cons_zero, List.set_cons_succ]
                          refine take_first (i := 10) (v := ?_) rfl (by kernel_rfl) (by kernel_rfl) (by kernel_rfl) (fun _ _ _ h => h) (by rfl) (by assumption) ?_ ?_
                          rotate_left 1
                          · intro X hSX
                            (try dsimp only at hSX)
                            first | (go_simp; done) | (go_simp; with_reducible rfl)
                          try simp only [Act.put, List.setIfInBounds_toArray, List.set_cons_zero, List.set_cons_succ]
                          refine take_first (i := 11) (v := ?_) rfl (by kernel_rfl) (by kernel_rfl) (by kernel_rfl) (fun _ _ _ h => h) (by rfl) (by assumption) ?_ ?_
                          rotate_left 1
                          · intro X hSX
                            (try dsimp only at hSX)
                            first | (go_simp; done) | (go_simp; with_reducible rfl)
                          try simp only [Act.put, List.setIfInBounds_toArray, List.set_cons_zero, List.set_cons_succ]
                          refine take_first (i := 12) (v := ?_) rfl (by kernel_rfl) (by kernel_rfl) (by kernel_rfl) (fun _ _ _ h => h) (by rfl) (by assumption) ?_ ?_
                          rotate_left 1
                          · intro X hSX
                            (try dsimp only at hSX)
                            first | (go_simp; done) | (go_simp; with_reducible rfl)
                          try simp only [Act.put, List.setIfInBounds_toArray, List.set_cons_zero, List.set_cons_succ]
                          clear hSS
                          apply via6 (C := fun X b16 x y => Below u0.heap.size u0 X ∧ Blk X b16 #[.int .i64 x, .int .i64 y] 116 ∧ u0.heap.size ≤ b16 ∧ (r3 = 0 → x = r1 ∧ y = r2))
                          · intro HV6
                            refine one_of_twoT (i := 13) (j := 17) (by kernel_rfl) rfl rfl (by rfl) (by rfl) ?_ ?_
                            · intro K hK
                              go_simp
                              refine (HLO.out _).mono ?_
                              rintro e' y1 ⟨⟨x', y', rfl, hxy⟩, hb1⟩
                              have hSS := HSU.out y1 hb1
                              refine hK.out _ _ hSS ?_
                              clear hK K
                              try simp only [Act.put, List.setIfInBounds_toArray, List.set_cons_zero, List.set_cons_succ]
                              refine take_first (i := 14) (v := ?_) rfl (by kernel_rfl) (by kernel_rfl) (by kernel_rfl) (fun _ _ _ h => h) (by rfl) (by assumption) ?_ ?_
                              rotate_left 1
                              · intro X hSX
                                (try dsimp only at hSX)
                                first | (go_simp; done) | (go_simp; with_reducible rfl)
                              try simp only [Act.put, List.setIfInBounds_toArray, List.set_cons_zero, List.set_cons_succ]
                              refine take_first (i := 15) (v := ?_) rfl (by kernel_rfl) (by kernel_rfl) (by kernel_rfl) (fun _ _ _ h => h) (by rfl) (by assumption) ?_ ?_
                              rotate_left 1
                              · intro X hSX
                                (try dsimp only at hSX)
                                first | (go_simp; done) | (go_simp; with_reducible rfl)
                              try simp only [Act.put, List.setIfInBounds_toArray, List.set_cons_zero, List.set_cons_succ]
                              refine take_first (i := 16) (v := ?_) rfl (by kernel_rfl) (by kernel_rfl) (by kernel_rfl) (fun _ _ _ h => h) (by rfl) (by assumption) ?_ ?_
                              rotate_left 1
                              · intro X hSX
                                (try dsimp only at hSX)
                                first | (go_simp; done) | (go_simp; with_reducible rfl)
                              try simp only [Act.put, List.setIfInBounds_toArray, List.set_cons_zero, List.set_cons_succ]
                              refine only_one (i := 17) (by kernel_rfl) rfl (by rfl) ?_
                              intro K hK
                              go_simp
                              obtain ⟨b16, hb16⟩ : ∃ x, y1.heap.size = x := ⟨_, rfl⟩
                              have B2 := hb1.alloc hb1.size (.cells #[.int .i64 0, .int .i64 0] 116)
                              have N2 := Blk.newI y1 b16 #[.int .i64 0, .int .i64 0] 116 hb16
                              have hub : u0.heap.size ≤ b16 := by have := hb1.size; omega
                              rw [hb16]
                              obtain ⟨y2, hy2⟩ : ∃ x, y1.alloc (.cells #[.int .i64 0, .int .i64 0] 116) = x := ⟨_, rfl⟩
                              rw [hy2] at B2 N2 ⊢
                              clear hy2 hb16 hSS
                              have hSS := HSU.out y2 B2
                              refine hK.out _ _ hSS ?_
                              clear hK K
                              try simp only [Act.put, List.setIfInBounds_toArray, List.set_cons_zero, List.set_cons_succ]
                              have n0 := N2.cell (i := 0) (v := .int .i64 0) rfl
                              have n1 := N2.cell (i := 1) (v := .int .i64 0) rfl
                              have f0 := N2.fr (i := 0)
                              have f1 := N2.fr (i := 1)
                              refine only_one (i := 18) (by kernel_rfl) rfl (by rfl) ?_
                              intro K hK
                              go_simp
                              have N3 := (N2.set 0 (by simp) (.int .i64 x') rfl).set 1 (by simp) (.int .i64 y') rfl
                              have B3 := (B2.setCell (p := ⟨b16, 0, none⟩) hub (.int .i64 x')).setCell (p := ⟨b16, 1, none⟩) hub (.int .i64 y')
                              obtain ⟨y3, hy3⟩ : ∃ x, (y2.setCell ⟨b16, 0, none⟩ (.int .i64 x')).setCell ⟨b16, 1, none⟩ (.int .i64 y') = x := ⟨_, rfl⟩
                              rw [hy3] at N3 B3 ⊢
                              clear hy3 hSS n0 n1 f0 f1
                              have hSS := HSU.out y3 B3
                              refine hK.out _ _ hSS ?_
                              clear hK K
                              try simp only [Act.put, List.setIfInBounds_toArray, List.set_cons_zero, List.set_cons_succ]
                              exact HV6 y3 b16 x' y' ⟨B3, N3, hub, hxy⟩
                            · intro K hK
                              go_simp
                              obtain ⟨b16, hb16⟩ : ∃ x, u0.heap.size = x := ⟨_, rfl⟩
                              have B2 := (Below.refl _ u0).alloc (Nat.le_refl _) (.cells #[.int .i64 0, .int .i64 0] 116)
                              have N2 := Blk.newI u0 b16 #[.int .i64 0, .int .i64 0] 116 hb16
                              have hub : u0.heap.size ≤ b16 := by omega
                              rw [hb16]
                              obtain ⟨y2, hy2⟩ : ∃ x, u0.alloc (.cells #[.int .i64 0, .int .i64 0] 116) = x := ⟨_, rfl⟩
                              rw [hy2] at B2 N2 ⊢
                              clear hy2 hb16
                              have hSS := HSU.out y2 B2
                              refine hK.out _ _ hSS ?_
                              clear hK K
                              try simp only [Act.put, List.setIfInBounds_toArray, List.set_cons_zero, List.set_cons_succ]
                              refine only_one (i := 13) (by kernel_rfl) rfl (by rfl) ?_
                              intro K hK
                              go_simp
                              refine (HLO.out _).mono ?_
                              rintro e' y1 ⟨⟨x', y', rfl, hxy⟩, hb1⟩
                              have B4 := B2.trans (hb1.mono B2.size)
                              have N4 := N2.past hb1
                              clear hSS
                              have hSS := HSU.out y1 B4
                              refine hK.out _ _ hSS ?_
                              clear hK K
                              try simp only [Act.put, List.setIfInBounds_toArray, List.set_cons_zero, List.set_cons_succ]
                              refine take_first (i := 14) (v := ?_) rfl (by kernel_rfl) (by kernel_rfl) (by kernel_rfl) (fun _ _ _ h => h) (by rfl) (by assumption) ?_ ?_
                              rotate_left 1
                              · intro X hSX
                                (try dsimp only at hSX)
                                first | (go_simp; done) | (go_simp; with_reducible rfl)
                              try simp only [Act.put, List.setIfInBounds_toArray, List.set_cons_zero, List.set_cons_succ]
                              refine take_first (i := 15) (v := ?_) rfl (by kernel_rfl) (by kernel_rfl) (by kernel_rfl) (fun _ _ _ h => h) (by rfl) (by assumption) ?_ ?_
                              rotate_left 1
                              · intro X hSX
                                (try dsimp only at hSX)
                                first | (go_simp; done) | (go_simp; with_reducible rfl)
                              try simp only [Act.put, List.setIfInBounds_toArray, List.set_cons_zero, List.set_cons_succ]
                              refine take_first (i := 16) (v := ?_) rfl (by kernel_rfl) (by kernel_rfl) (by kernel_rfl) (fun _ _ _ h => h) (by rfl) (by assumption) ?_ ?_
                              rotate_left 1
                              · intro X hSX
                                (try dsimp only at hSX)
                                first | (go_simp; done) | (go_simp; with_reducible rfl)
                              try simp only [Act.put, List.setIfInBounds_toArray, List.set_cons_zero, List.set_cons_succ]
                              have n0 := N4.cell (i := 0) (v := .int .i64 0) rfl
                              have n1 := N4.cell (i := 1) (v := .int .i64 0) rfl
                              have f0 := N4.fr (i := 0)
                              have f1 := N4.fr (i := 1)
                              refine only_one (i := 18) (by kernel_rfl) rfl (by rfl) ?_
                              intro K hK
                              go_simp
                              have N3 := (N4.set 0 (by simp) (.int .i64 x') rfl).set 1 (by simp) (.int .i64 y') rfl
                              have B3 := (B4.setCell (p := ⟨b16, 0, none⟩) hub (.int .i64 x')).setCell (p := ⟨b16, 1, none⟩) hub (.int .i64 y')
                              obtain ⟨y3, hy3⟩ : ∃ x, (y1.setCell ⟨b16, 0, none⟩ (.int .i64 x')).setCell ⟨b16, 1, none⟩ (.int .i64 y') = x := ⟨_, rfl⟩
                              rw [hy3] at N3 B3 ⊢
                              clear hy3 hSS n0 n1 f0 f1
                              have hSS := HSU.out y3 B3
                              refine hK.out _ _ hSS ?_
                              clear hK K
                              try simp only [Act.put, List.setIfInBounds_toArray, List.set_cons_zero, List.set_cons_succ]
                              exact HV6 y3 b16 x' y' ⟨B3, N3, hub, hxy⟩
                          · intro z2 b16 x' y' hC
                            obtain ⟨hB2, hN2, hub, hxy⟩ := hC
                            have hSS := HSU.out z2 hB2
                            refine take_first (i := 19) (v := ?_) rfl (by kernel_rfl) (by kernel_rfl) (by kernel_rfl) (fun _ _ _ h => h) (by rfl) (by assumption) ?_ ?_
                            rotate_left 1
                            · intro X hSX
                              (try dsimp only at hSX)
                              first | (go_simp; done) | (go_simp; with_reducible rfl)
                            try simp only [Act.put, List.setIfInBounds_toArray, List.set_cons_zero, List.set_cons_succ]
                            refine wpAnyH_done (by kernel_rfl) ?_ _
                            clear hSS
                            have HX2 := Lib.hid (HXU.out.past hB2)
                            have HN2 := Lib.hid hN2
                            have HUB := Lib.hid hub
                            have HB16L := Lib.hid hN2.lt
                            have HXY := Lib.hid hxy
                            have HXUS : Hid (gn < b16 ∧ e ≤ b16) := Lib.hid ⟨by have := Blk.lt HXU.out.n; omega, by have h1 := HX.out.2.2.2; have h2 := HB13.out; have h4 := HU0.out; omega⟩
                            clear hB2 hN2 hub hxy HSU HXU
                            obtain ⟨okb, hok⟩ : ∃ r, decide (r3 = 0) = r := ⟨_, rfl⟩
                            rw [hok]
                            have HOKB := Lib.hid hok
                            clear hok
                            cases okb
                            · have HN : Hid (LF.2.2 ≠ 0) := Lib.hid (HBADB.out (by
                                rw [HBF.out]
                                have h1 := HE.out
                                unfold pressF at h1
                                rw [HM.out.1, HM.out.2, HR123.out, if_pos (show (r1, r2, r3).2.2 ≠ 0 from of_decide_eq_false HOKB.out)] at h1
                                simp only [Prod.mk.injEq] at h1
                                show E3 ≠ 0
                                rw [← h1.2.2]; exact of_decide_eq_false HOKB.out))
                              have HBE := Lib.hid HX2.out.b
                              go_wp2
                              refine bodyPost_ret (v := .tuple #[.slice none 0 0, .slice none 0 0, .bool false]) (by simp [results, Try.results40, go_sem]) rfl ?_
                              exact ⟨HBE.out, .inl ⟨HN.out, rfl⟩⟩
                            · have h33 : r3 = 0 := of_decide_eq_true HOKB.out
                              obtain ⟨ex, ey⟩ := HXY.out h33
                              have hab0 : ∃ a' b' : Nat, r1 = (a' : Int) ∧ r2 = (b' : Int) ∧ a' ≤ 1000000000 ∧ 1 ≤ b' ∧ b' ≤ 1000000000 := by
                                rcases HLOK.out with ⟨h10, _⟩ | ⟨_, a', b', hab, l1, l2, l3⟩
                                · exact absurd (h10.symm.trans h33) (by decide)
                                · simp only [Prod.mk.injEq] at hab
                                  exact ⟨a', b', hab.1, hab.2.1, l1, l2, l3⟩
                              obtain ⟨a', b', rfl, rfl, l1, l2, l3⟩ := hab0
                              subst ex ey h33
                              clear HXY HLOK HLO
                              have HPE : Hid (lowestF a' (b' * (restsL ts k bb).length) = (E1, E2, E3)) := Lib.hid (by
                                have h1 := HE.out
                                unfold pressF at h1
                                rw [HM.out.1, HM.out.2, HR123.out, if_neg (by simp)] at h1
                                simpa using h1)
                              have x0 := HX2.out.s.cell (i := 0) (v := .int .i64 W) rfl
                              have x1 := HX2.out.s.cell (i := 1) (v := .int .i64 H) rfl
                              have x2 := HX2.out.s.cell (i := 2) (v := .slice (some ⟨b, off, none⟩) ts.length cap) rfl
                              have HCR := Lib.hid (refRests_any W H _ ts i k bb z2 (HSRC.out.past HX2.out.b) HV.out (Nat.lt_of_succ_le hk))
                              go_wp2_with fail
                              refine HCR.out.mono ?_
                              rintro e' z3 ⟨v', rfl, hr, hb3⟩
                              obtain ⟨pc, cr, hsh⟩ := hr.shape
                              rw [List.length_map] at hsh
                              obtain ⟨nr, hnr⟩ : ∃ n, (restsL ts k bb).length = n := ⟨_, rfl⟩
                              rw [hnr] at hsh HPE HRS
                              subst hsh
                              have hnr144 : nr ≤ 144 := by
                                rw [← hnr, restsL_filt (HV.out.len k (Nat.lt_of_succ_le hk))]
                                have h1 := List.length_filter_le (restP ts k bb) (List.range i)
                                rw [List.length_range] at h1; omega
                              have HNR := Lib.hid hnr
                              have hrs := HRS.out
                              have HX3 := Lib.hid (HX2.out.past hb3)
                              have HN3 := Lib.hid (HN2.out.past hb3)
                              have HRI := Lib.hid hr
                              clear x0 x1 x2 HCR HX2 HN2 hr hnr
                              have hz23 := hb3.size
                              have HZS : Hid (b16 < z2.heap.size ∧ z2.heap.size ≤ z3.heap.size) := Lib.hid ⟨HB16L.out, hz23⟩
                              clear hb3 hz23
                              have n0 := HN3.out.cell (i := 0) (v := .int .i64 a') rfl
                              have n1 := HN3.out.cell (i := 1) (v := .int .i64 b') rfl
                              have p5 : b' * nr ≤ 1000000000 * 144 := mul_bd l3 hnr144
                              have p6 : 1 * 1 ≤ b' * nr := mul_bd l2 hrs
                              obtain ⟨y, hy⟩ : ∃ y, b' * nr = y := ⟨_, rfl⟩
                              have hyi : (b' : Int) * (nr : Int) = (y : Int) := by rw [← hy]; simp
                              rw [hy] at p5 p6 HPE
                              have hwy : IntKind.i64.wrap (y : Int) = y := wrap_id (by omega) (by omega)
                              have hlo2 := refLowest_any a' y z3 (by omega) (by omega) (by omega)
                              have hlok := lowestF_ok (n := a') (d := y) (by omega)
                              rw [HPE.out] at hlo2 hlok
                              have HLO2 := Lib.hid hlo2
                              have HLOK2 := Lib.hid hlok
                              clear hy hlo2 hlok
                              go_wp2_with fail
                              refine HLO2.out.mono ?_
                              rintro e' z4 ⟨⟨x', y', rfl, hxy⟩, hb4⟩
                              obtain ⟨okb, hok⟩ : ∃ r, decide (E3 = 0) = r := ⟨_, rfl⟩
                              rw [hok]
                              have HOK2 := Lib.hid hok
                              have HXY := Lib.hid hxy
                              have HX4 := Lib.hid (HX3.out.past hb4)
                              have HRI4 : Hid (IntsR z4 z2.heap.size (.slice pc nr cr) ((restsL ts k bb).map fun c : Nat => (c : Int))) := Lib.hid (own_past HRI.out hb4)
                              obtain ⟨b18, hb18⟩ : ∃ x, z4.heap.size = x := ⟨_, rfl⟩
                              have HZS4 : Hid (gn < b18 ∧ z2.heap.size ≤ b18) := Lib.hid (by have h1 := HXUS.out.1; have h2 := HZS.out; have h3 := hb4.size; omega)
                              have hB5 := (Below.refl _ z4).alloc (Nat.le_refl _) (.cells #[.int .i64 x', .int .i64 y'] 116)
                              have HX5 := Lib.hid (HX4.out.past hB5)
                              have HN5 := Lib.hid (Blk.newI z4 b18 #[.int .i64 x', .int .i64 y'] 116 hb18)
                              have HRI5 : Hid (IntsR (z4.alloc (.cells #[.int .i64 x', .int .i64 y'] 116)) z2.heap.size (.slice pc nr cr) ((restsL ts k bb).map fun c : Nat => (c : Int))) := Lib.hid (own_past HRI4.out hB5)
                              clear n0 n1 hok hxy hb4 hB5 HLO2 HX3 HN3 HRI HX4 HRI4
                              cases okb
                              · have HN : Hid (LF.2.2 ≠ 0) := Lib.hid (HBADB.out (by rw [HBF.out]; exact of_decide_eq_false HOK2.out))
                                have HBE := Lib.hid HX5.out.b
                                go_wp2
                                refine bodyPost_ret (v := .tuple #[.slice none 0 0, .slice none 0 0, .bool false]) (by simp [results, Try.results40, go_sem]) rfl ?_
                                exact ⟨HBE.out, .inl ⟨HN.out, rfl⟩⟩
                              · have h33 : E3 = 0 := of_decide_eq_true HOK2.out
                                obtain ⟨ex, ey⟩ := HXY.out h33
                                have hab0 : ∃ a' b' : Nat, E1 = (a' : Int) ∧ E2 = (b' : Int) := by
                                  rcases HLOK2.out with ⟨h10, _⟩ | ⟨_, a', b', hab, l1, l2, l3⟩
                                  · exact absurd (h10.symm.trans h33) (by decide)
                                  · simp only [Prod.mk.injEq] at hab
                                    exact ⟨a', b', hab.1, hab.2.1⟩
                                obtain ⟨g1, g2, rfl, rfl⟩ := hab0
                                (try dsimp only at ex ey)
                                subst ex ey h33
                                clear HXY HLOK2
                                have HBF2 : Hid (brickF ts k pr bb = ((a1, a2), (g1, g2), 0)) := Lib.hid (by rw [HBF.out]; simp)
                                go_wp2_with fail
                                clear hb18
                                obtain ⟨z5, hz5⟩ : ∃ x, z4.alloc (.cells #[.int .i64 g1, .int .i64 g2] 116) = x := ⟨_, rfl⟩
                                rw [hz5] at HX5 HN5 HRI5 ⊢
                                clear hz5
                                go_loopw [19] (fun s19 wr => ∃ r : Nat, r ≤ nr ∧ s19 = .int .i64 r ∧ Hid (LX w #[.int .i64 W, .int .i64 H, .slice (some ⟨b, off, none⟩) ts.length cap] gp gn bt gb k Bo e #[.slice ac i cc, .slice (some ⟨wb, wo, none⟩) nb cw] pr (setAll bl ((restsL ts k bb).take r) (g1, g2)) rows (ls ++ [(a1, a2)]) wr) ∧ Hid (Blk wr b18 #[.int .i64 g1, .int .i64 g2] 116 ∧ IntsR wr z2.heap.size (.slice pc nr cr) ((restsL ts k bb).map fun c : Nat => (c : Int)) ∧ e ≤ wr.heap.size)) (fun s19 _ => nr - (intOf s19).toNat)
                                case atStart => exact ⟨0, Nat.zero_le _, rfl, HX5, Lib.hid ⟨HN5.out, HRI5.out, by have h1 := HXUS.out.2; have h2 := HZS.out; have h3 := HN5.out.lt; have h4 := HZS4.out.2; omega⟩⟩
                                case round =>
                                  obtain ⟨r, hr, rfl, HXR, HNR5⟩ := hrel
                                  rename World => v6
                                  clear HX5 HN5 HRI5
                                  by_cases hrl : r < nr
                                  · have hri : (0 : Int) ≤ (r : Int) := by omega
                                    have hrli : (r : Int) < (nr : Int) := by omega
                                    obtain ⟨c, hc⟩ : ∃ c, (restsL ts k bb)[r]? = some c := ⟨_, List.getElem?_eq_getElem (by rw [HNR.out]; exact hrl)⟩
                                    have hcm : c ∈ restsL ts k bb := List.mem_of_getElem? hc
                                    have hci : c < i := ((mem_rests (HV.out.len k (Nat.lt_of_succ_le hk))).1 hcm).1
                                    have htk : (restsL ts k bb).take (r + 1) = (restsL ts k bb).take r ++ [c] := by
                                      rw [List.take_succ_eq_append_getElem (by rw [HNR.out]; exact hrl)]
                                      rw [List.getElem?_eq_getElem (by rw [HNR.out]; exact hrl)] at hc
                                      rw [Option.some.inj hc]
                                    have hiR := HNR5.out.2.1
                                    obtain ⟨a0, c0, hsh, _, hpl⟩ := (hiR.ints (by rw [List.length_map, HNR.out]; omega)).placed
                                    obtain ⟨rfl, hjunk, rfl⟩ : pc = a0 ∧ nr = _ ∧ cr = c0 := by simpa only [Value.slice.injEq] using hsh
                                    clear hjunk
                                    obtain ⟨cb', co0, rfl, hcb, d1⟩ := hpl r (by rw [List.length_map, HNR.out]; exact hrl)
                                    have hgd : ((restsL ts k bb).map fun c : Nat => (c : Int))[r]?.getD 0 = (c : Int) := by rw [List.getElem?_map, hc]; rfl
                                    rw [hgd] at d1
                                    obtain ⟨co, hco⟩ : ∃ x, co0 + r = x := ⟨_, rfl⟩
                                    have hcbz : z2.heap.size ≤ cb' := (ownRow_lt hiR cb' rfl).1
                                    have hgnc : gn ≠ cb' := by have h1 := HXUS.out.1; have h2 := HZS.out; omega
                                    have hgnb : gn ≠ b18 := by have h1 := HZS4.out.1; omega
                                    have hsl : (setAll bl ((restsL ts k bb).take r) (g1, g2)).length = i := by rw [setAll_len]; exact HX.out.2.1
                                    have e0 := HNR5.out.1.cell (i := 0) (v := .int .i64 g1) rfl
                                    have e1 := HNR5.out.1.cell (i := 1) (v := .int .i64 g2) rfl
                                    have hcc : (0 : Int) ≤ (c : Int) := by omega
                                    have hcl : (c : Int) < (i : Int) := by omega
                                    have HF6 := Lib.hid (And.intro htk (And.intro hgnc (And.intro hgnb (And.intro hsl hci))))
                                    clear hsh hpl hgd hc hcm htk hcbz hgnc hgnb hsl hiR
                                    rw [hco] at d1
                                    go_wp2_with fail
                                    refine region_plain (fun X => X.cell? ⟨cb', co, none⟩ = some (.int .i64 (c : Int)) ∧ X.cell? ⟨b18, 0, none⟩ = some (.int .i64 g1) ∧ X.cell? ⟨b18, 1, none⟩ = some (.int .i64 g2)) 8 #[false, false, false, false, false, false, false, false] rfl rfl (by kernel_rfl) ?_
                                    obtain ⟨v7, hv7⟩ : ∃ x, v6.drew = x := ⟨_, rfl⟩
                                    have hB7 : Below v6.heap.size v6 v7 := by rw [← hv7]; exact (Below.refl _ _).drew
                                    have hSS : (v7.cell? ⟨cb', co, none⟩ = some (.int .i64 (c : Int)) ∧ v7.cell? ⟨b18, 0, none⟩ = some (.int .i64 g1) ∧ v7.cell? ⟨b18, 1, none⟩ = some (.int .i64 g2)) := by rw [← hv7]; exact ⟨d1, e0, e1⟩
                                    have hX7 := HXR.out.past hB7
                                    have hN7 := HNR5.out.1.past hB7
                                    have hI7 := own_past HNR5.out.2.1 hB7
                                    have hE7 : e ≤ v7.heap.size := Nat.le_trans HNR5.out.2.2 hB7.size
                                    rw [hv7]
                                    clear hv7 hB7 d1 e0 e1 HXR HNR5
                                    obtain ⟨g0, g1'⟩ := LoadsB.cell hX7.n (i := c) (by rw [HF6.out.2.2.2.1]; exact hci)
                                    have f0 := Blk.fr hX7.n (i := c * 2)
                                    have f1 := Blk.fr hX7.n (i := c * 2 + 1)
                                    have HX7 := Lib.hid hX7
                                    have HN7 := Lib.hid (And.intro hN7 (And.intro hI7 hE7))
                                    clear hX7 hN7 hI7 hE7
                                    refine take_first (i := 0) (v := ?_) rfl (by kernel_rfl) (by kernel_rfl) (by kernel_rfl) (fun _ _ _ h => h) (by rfl) (by assumption) ?_ ?_
                                    rotate_left 1
                                    · intro X hSX
                                      (try dsimp only at hSX)
                                      first | (go_simp; done) | (go_simp; with_reducible rfl)
                                    try simp only [Act.put, List.setIfInBounds_toArray, List.set_cons_zero, List.set_cons_succ]
                                    refine take_first (i := 1) (v := ?_) rfl (by kernel_rfl) (by kernel_rfl) (by kernel_rfl) (fun _ _ _ h => h) (by rfl) (by assumption) ?_ ?_
                                    rotate_left 1
                                    · intro X hSX
                                      (try dsimp only at hSX)
                                      first | (go_simp; done) | (go_simp; with_reducible rfl)
                                    try simp only [Act.put, List.setIfInBounds_toArray, List.set_cons_zero, List.set_cons_succ]
                                    refine take_first (i := 2) (v := ?_) rfl (by kernel_rfl) (by kernel_rfl) (by kernel_rfl) (fun _ _ _ h => h) (by rfl) (by assumption) ?_ ?_
                                    rotate_left 1
                                    · intro X hSX
                                      (try dsimp only at hSX)
                                      first | (go_simp; done) | (go_simp; with_reducible rfl)
                                    try simp only [Act.put, List.setIfInBounds_toArray, List.set_cons_zero, List.set_cons_succ]
                                    refine take_first (i := 3) (v := ?_) rfl (by kernel_rfl) (by kernel_rfl) (by kernel_rfl) (fun _ _ _ h => h) (by rfl) (by assumption) ?_ ?_
                                    rotate_left 1
                                    · intro X hSX
                                      (try dsimp only at hSX)
                                      first | (go_simp; done) | (go_simp; with_reducible rfl)
                                    try simp only [Act.put, List.setIfInBounds_toArray, List.set_cons_zero, List.set_cons_succ]
                                    refine take_first (i := 4) (v := ?_) rfl (by kernel_rfl) (by kernel_rfl) (by kernel_rfl) (fun _ _ _ h => h) (by rfl) (by assumption) ?_ ?_
                                    rotate_left 1
                                    · intro X hSX
                                      (try dsimp only at hSX)
                                      first | (go_simp; done) | (go_simp; with_reducible rfl)
                                    try simp only [Act.put, List.setIfInBounds_toArray, List.set_cons_zero, List.set_cons_succ]
                                    refine take_first (i := 5) (v := ?_) rfl (by kernel_rfl) (by kernel_rfl) (by kernel_rfl) (fun _ _ _ h => h) (by rfl) (by assumption) ?_ ?_
                                    rotate_left 1
                                    · intro X hSX
                                      (try dsimp only at hSX)
                                      first | (go_simp; done) | (go_simp; with_reducible rfl)
                                    try simp only [Act.put, List.setIfInBounds_toArray, List.set_cons_zero, List.set_cons_succ]
                                    refine take_first (i := 6) (v := ?_) rfl (by kernel_rfl) (by kernel_rfl) (by kernel_rfl) (fun _ _ _ h => h) (by rfl) (by assumption) ?_ ?_
                                    rotate_left 1
                                    · intro X hSX
                                      (try dsimp only at hSX)
                                      first | (go_simp; done) | (go_simp; with_reducible rfl)
                                    try simp only [Act.put, List.setIfInBounds_toArray, List.set_cons_zero, List.set_cons_succ]
                                    refine only_one (i := 7) (by kernel_rfl) rfl (by rfl) ?_
                                    intro K hK
                                    go_simp
                                    have hX8 := HX7.out.setN HLN.out HNE.out.1 (i := c) (by rw [HF6.out.2.2.2.1]; exact hci) (g1, g2)
                                    rw [← setAll_snoc, ← HF6.out.1] at hX8
                                    have hN8 := (HN7.out.1.far (b' := gn) (i := c * 2) (u := .int .i64 g1) (Ne.symm HF6.out.2.2.1)).far (b' := gn) (i := c * 2 + 1) (u := .int .i64 g2) (Ne.symm HF6.out.2.2.1)
                                    have hI8 := own_kept (own_kept HN7.out.2.1 (grownBy_setCell v7 ⟨gn, c * 2, none⟩ (.int .i64 g1)) (fun y hy e' => by have h1 := Option.some.inj e'; simp [Value.ownBlock] at hy; dsimp only at h1; exact HF6.out.2.1 (h1.trans hy.symm))) (grownBy_setCell (v7.setCell ⟨gn, c * 2, none⟩ (.int .i64 g1)) ⟨gn, c * 2 + 1, none⟩ (.int .i64 g2)) (fun y hy e' => by have h1 := Option.some.inj e'; simp [Value.ownBlock] at hy; dsimp only at h1; exact HF6.out.2.1 (h1.trans hy.symm))
                                    have hE8 : e ≤ ((v7.setCell ⟨gn, c * 2, none⟩ (.int .i64 g1)).setCell ⟨gn, c * 2 + 1, none⟩ (.int .i64 g2)).heap.size := by rw [World.size_setCell, World.size_setCell]; exact HN7.out.2.2
                                    have c0' : World.cell? ((v7.setCell ⟨gn, c * 2, none⟩ (.int .i64 g1)).setCell ⟨gn, c * 2 + 1, none⟩ (.int .i64 g2)) ⟨cb', co, none⟩ = some (.int .i64 (c : Int)) := by
                                      rw [World.cell?_of_block (Below.heap_setCell _ ⟨gn, c * 2 + 1, none⟩ _ cb' (fun e' => HF6.out.2.1 e'.symm)), World.cell?_of_block (Below.heap_setCell _ ⟨gn, c * 2, none⟩ _ cb' (fun e' => HF6.out.2.1 e'.symm))]
                                      exact hSS.1
                                    obtain ⟨v8, hv8⟩ : ∃ x, (v7.setCell ⟨gn, c * 2, none⟩ (.int .i64 g1)).setCell ⟨gn, c * 2 + 1, none⟩ (.int .i64 g2) = x := ⟨_, rfl⟩
                                    rw [hv8] at hX8 hN8 hI8 hE8 c0' ⊢
                                    clear hv8 g0 g1' f0 f1 HX7 HN7 hSS
                                    have HX8 := Lib.hid hX8
                                    have HN8 := Lib.hid (And.intro hN8 (And.intro hI8 hE8))
                                    have hSS : (v8.cell? ⟨cb', co, none⟩ = some (.int .i64 (c : Int)) ∧ v8.cell? ⟨b18, 0, none⟩ = some (.int .i64 g1) ∧ v8.cell? ⟨b18, 1, none⟩ = some (.int .i64 g2)) := ⟨c0', hN8.cell (i := 0) rfl, hN8.cell (i := 1) rfl⟩
                                    clear hX8 hN8 hI8 hE8 c0'
                                    refine hK.out _ _ hSS ?_
                                    clear hK K
                                    try simp only [Act.put, List.setIfInBounds_toArray, List.set_cons_zero, List.set_cons_succ]
                                    refine wpAnyH_done (by kernel_rfl) ?_ _
                                    clear hSS
                                    go_wp2
                                    go_roundw
                                    case rel => exact ⟨r + 1, hrl, by go_num, HX8, HN8⟩
                                    case measure => simp [intOf] <;> omega
                                  · have hre : r = nr := by omega
                                    subst hre
                                    have hps := passS_snoc bb HPS.out
                                    rw [HBF2.out, if_pos rfl, ← List.range_succ] at hps
                                    have HPS2 := Lib.hid hps
                                    have hX := HXR.out
                                    rw [← HNR.out, List.take_length] at hX
                                    have HXF := Lib.hid (And.intro hX (And.intro (show (setAll bl (restsL ts k bb) (g1, g2)).length = i by rw [setAll_len]; exact HX.out.2.1) (And.intro (show (ls ++ [(a1, a2)]).length = bb + 1 by rw [List.length_append, HX.out.2.2.1]; rfl) HNR5.out.2.2)))
                                    clear hps hX
                                    go_wp2
                                    go_roundw
                                    case rel => exact ⟨bb + 1, ls ++ [(a1, a2)], setAll bl (restsL ts k bb) (g1, g2), by omega, by go_num, HPS2, HXF⟩
                                    case measure => simp [intOf] <;> omega
                  · have hbe : bb = nb := by omega
                    subst hbe
                    have HPF : Hid (passF ts k q pr = (ls, bl, 0)) := Lib.hid (by unfold passF; rw [HNB.out]; exact HPS.out)
                    have hok := passF_ok HPL.out.1 (fun i hi => HPL.out.2.1 i (by rw [← HPL.out.1]; exact hi)) (HV.out.len k (Nat.lt_of_succ_le hk)) (HOK.out k (Nat.lt_of_succ_le hk)) (by rw [HPF.out])
                    rw [HPF.out] at hok
                    have HO2 : Hid (LO w #[.int .i64 W, .int .i64 H, .slice (some ⟨b, off, none⟩) ts.length cap] q ts.length gn gb bl (rows.set k ls) W0) := Lib.hid ⟨HX.out.1.s, HX.out.1.n, HX.out.2.1, hok.2.2.1, HX.out.1.x.done (by rw [HPL.out.2.2]; exact Nat.lt_of_succ_le hk) (by have h1 := HNE.out.1; have h2 := HLN.out.n; have h3 := HLN.out.pb; have h4 := HLN.out.p; omega), by rw [List.length_set]; exact HPL.out.2.2, HX.out.1.b, by have h2 := HLN.out.n; have h3 := HLN.out.pb; have h4 := HLN.out.p; omega, HLN.out.g, by have h2 := HLN.out.n; have h3 := HLN.out.gbb; omega⟩
                    have HPRE2 : Hid ((pre ++ [k]) ++ (List.range k).reverse = (List.range ts.length).reverse ∧ loadsS ts q (pre ++ [k]) (List.replicate ts.length []) (List.replicate q (0, 1)) = (rows.set k ls, bl, 0)) := Lib.hid ⟨by have h1 := HPRE.out.1; rw [range_rev_succ] at h1; rw [List.append_assoc]; exact h1, by rw [loadsS_snoc k HPRE.out.2, HPF.out]; rfl⟩
                    clear hok
                    go_wp2
                    go_roundw
                    case rel => exact ⟨k, _, gn, pre ++ [k], _, _, Nat.le_of_succ_le hk, rfl, Lib.hid rfl, rfl, HPRE2, HO2⟩
                    case measure => simp [intOf] <;> omega
end Go.Proofs.Ytopnlcjbklmicaa
