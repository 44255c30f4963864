import Derived.Test.YtopnlcjbklmicaaMB8
import Derived.WalkKit
import Derived.WalkSpells
import Derived.WalkLawsBesides
import Derived.Deep.QuietTactic
import Derived.BigQuiet
import Derived.Lib.Hide
import Derived.WalkSmall
import Derived.Maps.OwnSet
import Derived.Maps.RangeWalk
import Derived.Deep.RegionWith
import Derived.Deep.RegionHeld3
import Derived.Deep.DrawnRows
import Derived.Deep.DeepCutAuto
import Derived.OneCell
import Derived.KernelRfl
import Derived.Laws.StructEq
import Derived.StillTailTactics
import Derived.Laws.Externs
import Derived.RangeFuncBox
import Derived.Outline
import Derived.RangeFuncNested
import Derived.RangeFuncBound
import Derived.RangeFuncCalls
import Derived.RangeFuncLeaves
import Derived.Shelf.RegionOpen
import Derived.OwnWalkIn
import Derived.TacticsInMore
import Derived.LoopNIn
import Derived.LoopIn
import Derived.Test.YtopnlcjbklmicaaProg
namespace Go.Proofs.Ytopnlcjbklmicaa
open Go.RowKit Go.Maps Go.Shelf
set_option linter.unusedVariables false
set_option linter.unusedSimpArgs false
/-- A row of wares of which nothing is moulded yet. -/
theorem made_wares (l : List St) (h : ∀ s ∈ l, s.wares = List.replicate 7 (.int .i64 0)) : (madeCells #[.int .i64 0, .int .i64 0, .int .i64 0, .int .i64 0, .int .i64 0, .int .i64 0, .int .i64 0] (l.length * 7)).toList = wl l := by
  apply List.ext_getElem?
  intro i
  by_cases hi : i < l.length * 7
  · have h1 : i / 7 < l.length := by omega
    have h2 : i % 7 < 7 := Nat.mod_lt _ (by omega)
    have h3 := wl_get l (i / 7) (i % 7) h1 h2
    rw [show i / 7 * 7 + i % 7 = i by omega] at h3
    have h4 : (l[i / 7]?.getD St.zero).wares = List.replicate 7 (.int .i64 0) := by
      rw [List.getElem?_eq_getElem h1]; exact h _ (List.getElem_mem _)
    rw [h3, h4, List.getElem?_replicate, if_pos h2]
    have hj : ∀ j, j < 7 → (#[.int .i64 0, .int .i64 0, .int .i64 0, .int .i64 0, .int .i64 0, .int .i64 0, .int .i64 0] : Array Value)[j]! = .int .i64 0 := by
      intro j hj
      obtain rfl | rfl | rfl | rfl | rfl | rfl | rfl : j = 0 ∨ j = 1 ∨ j = 2 ∨ j = 3 ∨ j = 4 ∨ j = 5 ∨ j = 6 := by omega
      all_goals rfl
    have h5 := hj _ h2
    rw [Array.getElem?_toList]
    unfold madeCells
    rw [Array.getElem?_map, show (Array.range (l.length * 7))[i]? = some i by simp [hi]]
    simpa using h5
  · rw [List.getElem?_eq_none (by simp [size_madeCells]; omega), List.getElem?_eq_none (by rw [wl_len]; omega)]
theorem make_wares (l : List Int) (hl : l.length ≤ 1000) (base : Nat) (w : World) (hb : base ≤ w.heap.size) :
    ∃ w', (Instr.makeSlice 54 (.int .i64 (l.length : Int)) (.int .i64 (l.length : Int))).run Try.prog w = .ok (.slice (some ⟨w.heap.size, 0, none⟩) l.length l.length) w' ∧ WarR w' base (.slice (some ⟨w.heap.size, 0, none⟩) l.length l.length) (l.map mkSt) ∧ w.grownBy w' none := by
  obtain ⟨i0, hi, hz0, hz1, hz2⟩ := info_parts infoWares
  obtain ⟨w', h1, h2, h3⟩ := run_makeSlice_full (P := Try.prog) w base 54 63 i0 _ 7 undWares hi hz0 hz1 .i64 .i64 l.length (by omega) (by rw [hz2]; omega) (by unfold maxLen; omega) hb
  refine ⟨w', h1, ?_, h3⟩
  unfold WarR
  rw [List.length_map]
  rw [show (Value.agg #[.int .i64 0, .int .i64 0, .int .i64 0, .int .i64 0, .int .i64 0, .int .i64 0, .int .i64 0]).cells = #[.int .i64 0, .int .i64 0, .int .i64 0, .int .i64 0, .int .i64 0, .int .i64 0, .int .i64 0] from rfl, show l.length * 7 = (l.map mkSt).length * 7 by simp, made_wares _ (fun s hs => by obtain ⟨n, _, rfl⟩ := List.mem_map.1 hs; rfl)] at h2
  exact h2
/-- What the reference's New hands back. -/
def RefNew (w : World) (space : List Int) (room : Int) (e : Ending) (w' : World) : Prop :=
  Below w.heap.size w w' ∧ ((newF space room = false ∧ e = .returned (.tuple #[.agg #[.bool false, .slice none 0 0, .int .i64 0, .slice none 0 0, .slice none 0 0], .bool false])) ∨
    (newF space room = true ∧ ∃ ps cs gw cw, e = .returned (.tuple #[.agg #[.bool false, .slice ps space.length cs, .int .i64 room, .slice (some ⟨gw, 0, none⟩) (space.map mkSt).length cw, .slice none 0 0], .bool true]) ∧ RefAt w' w.heap.size space (space.map mkSt) [] ps cs gw cw none 0))
set_option maxRecDepth 100000 in
set_option maxHeartbeats 4000000 in
theorem refNew_any (v : Value) (space : List Int) (room : Int) (w : World) (hs : SrcI w v space) (hl : space.length ≤ 1000) :
    Calls Try.prog 26 #[v, .int .i64 room] w (RefNew w space room) := by
  obtain ⟨av, capv, rfl⟩ := hs.shape
  obtain ⟨xb, hxb⟩ : ∃ x, w.heap.size = x := ⟨_, rfl⟩
  have B1 := (Below.refl w.heap.size w).alloc (Nat.le_refl _) (.cells #[.bool false, .slice none 0 0, .int .i64 0, .slice none 0 0, .slice none 0 0] 56)
  have HX := Lib.hid (Blk.newI w xb #[.bool false, .slice none 0 0, .int .i64 0, .slice none 0 0, .slice none 0 0] 56 hxb)
  have HS := Lib.hid (hs.past B1)
  have HB := Lib.hid B1
  obtain ⟨w1, hw1⟩ : ∃ Z, w.alloc (.cells #[.bool false, .slice none 0 0, .int .i64 0, .slice none 0 0, .slice none 0 0] 56) = Z := ⟨_, rfl⟩
  have hsz : w1.heap.size = xb + 1 := by rw [← hw1]; simp [hxb]
  have HSZ := Lib.hid hsz
  have HXB := Lib.hid hxb
  rw [hw1] at HX HS HB
  have HN : Hid (newF space room = (inB (space.length : Int) 1 20 && space.all (fun n => inB n 1 1000) && inB room 0 1000000000)) := Lib.hid rfl
  obtain ⟨F, hF⟩ : ∃ F, newF space room = F := ⟨_, rfl⟩
  have HF := Lib.hid hF
  rw [hF] at HN
  have hxw : w.heap.size ≤ xb := Nat.le_of_eq hxb
  clear B1 hs hsz hF
  go_enter Try.func26, Try.ntmps26
  go_wp2_with fail
  try rw [hw1]
  clear hw1
  go_loopw [6] (fun i wr => wr = w1 ∧ ∃ k : Nat, k ≤ space.length ∧ i = .int .i64 k ∧ Hid ((space.take k).all (fun n => inB n 1 1000) = true)) (fun i _ => space.length - (intOf i).toNat)
  case atStart => exact ⟨rfl, 0, Nat.zero_le _, rfl, Lib.hid (by simp)⟩
  case round =>
    obtain ⟨hwr, k, hk, rfl, HA⟩ := hrel
    subst wr
    have z0 := HX.out.cell (i := 0) (v := .bool false) rfl
    have y0 := HX.out.fr (i := 0)
    have z1 := HX.out.cell (i := 1) (v := .slice none 0 0) rfl
    have y1 := HX.out.fr (i := 1)
    have z2 := HX.out.cell (i := 2) (v := .int .i64 0) rfl
    have y2 := HX.out.fr (i := 2)
    have z3 := HX.out.cell (i := 3) (v := .slice none 0 0) rfl
    have y3 := HX.out.fr (i := 3)
    have z4 := HX.out.cell (i := 4) (v := .slice none 0 0) rfl
    have y4 := HX.out.fr (i := 4)
    by_cases hlt : k < space.length
    · obtain ⟨a9, c9', he9, _, hp9⟩ := HS.out.ints.placed
      obtain ⟨b9, off9, e9, hb9, c9⟩ := hp9 k hlt
      obtain rfl : av = some ⟨b9, off9, none⟩ := by simp only [Value.slice.injEq] at he9; exact he9.1.trans e9
      have has := allN_take_succ 0 (fun n => inB n 1 1000) space k hlt
      have hno := allN_not 0 (fun n => inB n 1 1000) space k hlt
      obtain ⟨x, hx⟩ : ∃ x, space[k]?.getD 0 = x := ⟨_, rfl⟩
      rw [hx] at c9 has hno
      obtain ⟨p, hp⟩ : ∃ p, inB x 1 1000 = p := ⟨_, rfl⟩
      rw [hp] at has hno
      have HIN := Lib.hid fun w => refInB_any x 1 1000 w
      rw [hp] at HIN
      have HAS := Lib.hid has
      have HNO := Lib.hid hno
      have hi0 : (0 : Int) ≤ (k : Int) := by omega
      have hi1 : (k : Int) < (space.length : Int) := by omega
      clear has hno hx hp he9 hp9 hb9
      go_wp2_with fail
      refine (HIN.out _).mono ?_
      rintro e w99 ⟨rfl, hw99⟩
      subst w99
      cases p
      · have HV : Hid (F = false) := Lib.hid (by rw [HN.out, HNO.out rfl]; simp)
        clear HN HNO HAS HA
        have HZ8 := Lib.hid (blk_set5 HX.out (.bool false) (.slice none 0 0) (.int .i64 0) (.slice none 0 0) (.slice none 0 0) rfl rfl rfl rfl rfl)
        have HB8 := Lib.hid (below_set5 (b := xb) HB.out (by omega) (.bool false) (.slice none 0 0) (.int .i64 0) (.slice none 0 0) (.slice none 0 0))
        go_wp2
        obtain ⟨w8, hw8⟩ : ∃ Z, ((((w1.setCell ⟨xb, 0, none⟩ (.bool false)).setCell ⟨xb, 1, none⟩ (.slice none 0 0)).setCell ⟨xb, 2, none⟩ (.int .i64 0)).setCell ⟨xb, 3, none⟩ (.slice none 0 0)).setCell ⟨xb, 4, none⟩ (.slice none 0 0) = Z := ⟨_, rfl⟩
        rw [hw8] at HZ8 HB8
        try rw [hw8]
        have g0 := HZ8.out.cell (i := 0) (v := .bool false) rfl
        have g1 := HZ8.out.cell (i := 1) (v := .slice none 0 0) rfl
        have g2 := HZ8.out.cell (i := 2) (v := .int .i64 0) rfl
        have g3 := HZ8.out.cell (i := 3) (v := .slice none 0 0) rfl
        have g4 := HZ8.out.cell (i := 4) (v := .slice none 0 0) rfl
        refine bodyPost_ret (v := .tuple #[.agg #[.bool false, .slice none 0 0, .int .i64 0, .slice none 0 0, .slice none 0 0], .bool false]) (by simp [results, Try.results26, go_sem, g0, g1, g2, g3, g4]) rfl ⟨HB8.out, .inl ⟨HF.out.trans HV.out, rfl⟩⟩
      · have HA2 : Hid ((space.take (k + 1)).all (fun n => inB n 1 1000) = true) := Lib.hid (by rw [HAS.out, HA.out]; rfl)
        go_wp2
        go_roundw
        case rel => exact ⟨trivial, k + 1, by omega, by go_num, HA2⟩
        case measure => simp [intOf]; omega
    · have hke : k = space.length := by omega
      subst hke
      have hall := HA.out
      rw [List.take_length] at hall
      rw [hall, Bool.and_true] at HN
      clear hall hlt hk HA
      obtain ⟨f1, hf1⟩ : ∃ f, inB (space.length : Int) 1 20 = f := ⟨_, rfl⟩
      obtain ⟨f2, hf2⟩ : ∃ f, inB room 0 1000000000 = f := ⟨_, rfl⟩
      have HIN1 := Lib.hid fun w => refInB_any (space.length : Int) 1 20 w
      have HIN2 := Lib.hid fun w => refInB_any room 0 1000000000 w
      rw [hf1] at HIN1 HN
      rw [hf2] at HIN2 HN
      clear hf1 hf2
      go_wp2_with fail
      refine (HIN1.out _).mono ?_
      rintro e w99 ⟨rfl, hw99⟩
      subst w99
      cases f1
      · have HV : Hid (F = false) := Lib.hid (by rw [HN.out]; rfl)
        have HZ8 := Lib.hid (blk_set5 HX.out (.bool false) (.slice none 0 0) (.int .i64 0) (.slice none 0 0) (.slice none 0 0) rfl rfl rfl rfl rfl)
        have HB8 := Lib.hid (below_set5 (b := xb) HB.out (by omega) (.bool false) (.slice none 0 0) (.int .i64 0) (.slice none 0 0) (.slice none 0 0))
        go_wp2
        obtain ⟨w8, hw8⟩ : ∃ Z, ((((w1.setCell ⟨xb, 0, none⟩ (.bool false)).setCell ⟨xb, 1, none⟩ (.slice none 0 0)).setCell ⟨xb, 2, none⟩ (.int .i64 0)).setCell ⟨xb, 3, none⟩ (.slice none 0 0)).setCell ⟨xb, 4, none⟩ (.slice none 0 0) = Z := ⟨_, rfl⟩
        rw [hw8] at HZ8 HB8
        try rw [hw8]
        have g0 := HZ8.out.cell (i := 0) (v := .bool false) rfl
        have g1 := HZ8.out.cell (i := 1) (v := .slice none 0 0) rfl
        have g2 := HZ8.out.cell (i := 2) (v := .int .i64 0) rfl
        have g3 := HZ8.out.cell (i := 3) (v := .slice none 0 0) rfl
        have g4 := HZ8.out.cell (i := 4) (v := .slice none 0 0) rfl
        refine bodyPost_ret (v := .tuple #[.agg #[.bool false, .slice none 0 0, .int .i64 0, .slice none 0 0, .slice none 0 0], .bool false]) (by simp [results, Try.results26, go_sem, g0, g1, g2, g3, g4]) rfl ⟨HB8.out, .inl ⟨HF.out.trans HV.out, rfl⟩⟩
      go_wp2_with fail
      refine (HIN2.out _).mono ?_
      rintro e w99 ⟨rfl, hw99⟩
      subst w99
      cases f2
      · have HV : Hid (F = false) := Lib.hid (by rw [HN.out]; rfl)
        have HZ8 := Lib.hid (blk_set5 HX.out (.bool false) (.slice none 0 0) (.int .i64 0) (.slice none 0 0) (.slice none 0 0) rfl rfl rfl rfl rfl)
        have HB8 := Lib.hid (below_set5 (b := xb) HB.out (by omega) (.bool false) (.slice none 0 0) (.int .i64 0) (.slice none 0 0) (.slice none 0 0))
        go_wp2
        obtain ⟨w8, hw8⟩ : ∃ Z, ((((w1.setCell ⟨xb, 0, none⟩ (.bool false)).setCell ⟨xb, 1, none⟩ (.slice none 0 0)).setCell ⟨xb, 2, none⟩ (.int .i64 0)).setCell ⟨xb, 3, none⟩ (.slice none 0 0)).setCell ⟨xb, 4, none⟩ (.slice none 0 0) = Z := ⟨_, rfl⟩
        rw [hw8] at HZ8 HB8
        try rw [hw8]
        have g0 := HZ8.out.cell (i := 0) (v := .bool false) rfl
        have g1 := HZ8.out.cell (i := 1) (v := .slice none 0 0) rfl
        have g2 := HZ8.out.cell (i := 2) (v := .int .i64 0) rfl
        have g3 := HZ8.out.cell (i := 3) (v := .slice none 0 0) rfl
        have g4 := HZ8.out.cell (i := 4) (v := .slice none 0 0) rfl
        refine bodyPost_ret (v := .tuple #[.agg #[.bool false, .slice none 0 0, .int .i64 0, .slice none 0 0, .slice none 0 0], .bool false]) (by simp [results, Try.results26, go_sem, g0, g1, g2, g3, g4]) rfl ⟨HB8.out, .inl ⟨HF.out.trans HV.out, rfl⟩⟩
      have HV : Hid (F = true) := Lib.hid (by rw [HN.out]; rfl)
      clear HN
      go_upto_region 8 with fail
      refine region_plain (fun _ => True) 10 #[false, false, false, false, false, false, false, false, false, false] rfl rfl (by kernel_rfl) ?_
      have hSS : True := trivial
      obtain ⟨wd, hwd⟩ : ∃ Z, w1.drew = Z := ⟨_, rfl⟩
      have HBD : Hid (Below w.heap.size w wd) := Lib.hid (by rw [← hwd]; exact HB.out.drew)
      have HXD : Hid (Blk wd xb #[.bool false, .slice none 0 0, .int .i64 0, .slice none 0 0, .slice none 0 0] 56) := Lib.hid (by rw [← hwd]; exact HX.out.drew)
      have HSD : Hid (SrcI wd (.slice av space.length capv) space) := Lib.hid (HS.out.past (by rw [← hwd]; exact (Below.refl _ _).drew))
      have HSZD : Hid (wd.heap.size = xb + 1) := Lib.hid (by rw [← hwd]; exact HSZ.out)
      rw [hwd]
      clear hwd
      have hbd : w.heap.size ≤ wd.heap.size := HBD.out.size
      refine take_first (i := 1) (v := ?_) rfl (by kernel_rfl) (by kernel_rfl) (by kernel_rfl) (fun _ _ _ h => h) (by rfl) (by assumption) ?_ ?_
      rotate_left 1
      · intro X hSX
        (try dsimp only at hSX)
        first | (go_simp; done) | (go_simp; with_reducible rfl)
      try simp only [Act.put, List.setIfInBounds_toArray, List.set_cons_zero, List.set_cons_succ]
      refine take_first (i := 3) (v := ?_) rfl (by kernel_rfl) (by kernel_rfl) (by kernel_rfl) (fun _ _ _ h => h) (by rfl) (by assumption) ?_ ?_
      rotate_left 1
      · intro X hSX
        (try dsimp only at hSX)
        first | (go_simp; done) | (go_simp; with_reducible rfl)
      try simp only [Act.put, List.setIfInBounds_toArray, List.set_cons_zero, List.set_cons_succ]
      refine take_first (i := 4) (v := ?_) rfl (by kernel_rfl) (by kernel_rfl) (by kernel_rfl) (fun _ _ _ h => h) (by rfl) (by assumption) ?_ ?_
      rotate_left 1
      · intro X hSX
        (try dsimp only at hSX)
        first | (go_simp; done) | (go_simp; with_reducible rfl)
      try simp only [Act.put, List.setIfInBounds_toArray, List.set_cons_zero, List.set_cons_succ]
      refine take_first (i := 5) (v := ?_) rfl (by kernel_rfl) (by kernel_rfl) (by kernel_rfl) (fun _ _ _ h => h) (by rfl) (by assumption) ?_ ?_
      rotate_left 1
      · intro X hSX
        (try dsimp only at hSX)
        first | (go_simp; done) | (go_simp; with_reducible rfl)
      try simp only [Act.put, List.setIfInBounds_toArray, List.set_cons_zero, List.set_cons_succ]
      refine oneB_of_two (i := 0) (j := 6) (by kernel_rfl) rfl rfl (by rfl) (by rfl) ?_ ?_
      · skip
        obtain ⟨eb, heb⟩ : ∃ x, wd.heap.size = x := ⟨_, rfl⟩
        have B0 := (Below.refl wd.heap.size wd).alloc (Nat.le_refl _) (.cells #[] 3)
        have hble : w.heap.size ≤ wd.heap.size := HBD.out.size
        have HEE := Lib.hid (IntsR.empty wd w.heap.size eb heb (by omega))
        have HXE := Lib.hid (HXD.out.past B0)
        have HSE := Lib.hid (HSD.out.past B0)
        have HBE := Lib.hid (HBD.out.alloc HBD.out.size (.cells #[] 3))
        have HEBE : Hid (w.heap.size ≤ eb) := Lib.hid (by omega)
        have hneE : xb ≠ eb := by have := HXD.out.lt; omega
        intro K hK
        go_simp
        obtain ⟨wE, hwwE⟩ : ∃ Z, wd.alloc (.cells #[] 3) = Z := ⟨_, rfl⟩
        rw [hwwE] at HEE HXE HSE HBE
        try rw [hwwE]
        clear hwwE
        clear B0 heb
        refine hK.out _ _ hSS ?_
        clear hK K
        try simp only [Act.put, List.setIfInBounds_toArray, List.set_cons_zero, List.set_cons_succ]
        refine oneB_of_two (i := 2) (j := 6) (by kernel_rfl) rfl rfl (by rfl) (by rfl) ?_ ?_
        · skip
          intro K hK
          refine wp_copyI (.tmp 30) (.tmp 31) (by rfl) w.heap.size eb (by rfl) HEE.out space _ (by rfl) HSE.out hl HBE.out.size _ rfl ?_
          intro v2 wI hint hblk hgrow
          obtain ⟨ps, cs, rfl⟩ := hint.shape
          have HII := Lib.hid hint
          have HXI := Lib.hid (HXE.out.kept hgrow (by intro e; exact hneE (Option.some.inj e)))
          have HBI := Lib.hid (HBE.out.grown hgrow HBE.out.size (by intro j hj; cases hj; exact HEBE.out))
          clear hint hblk hgrow
          refine hK.out _ _ hSS ?_
          clear hK K
          try simp only [Act.put, List.setIfInBounds_toArray, List.set_cons_zero, List.set_cons_succ]
          obtain ⟨gb, hgb⟩ : ∃ x, wI.heap.size = x := ⟨_, rfl⟩
          obtain ⟨wM, hmk, hwar, hgm⟩ := make_wares space hl w.heap.size wI HBI.out.size
          rw [hgb] at hmk hwar
          have HMM := Lib.hid hwar
          have HXM := Lib.hid (HXI.out.kept hgm (by intro e; cases e))
          have HBM := Lib.hid (HBI.out.grown hgm HBI.out.size (by intro j hj; cases hj))
          have HIM := Lib.hid (HII.out.kept hgm (by intro k hk e; cases e))
          refine only_one (i := 6) (by kernel_rfl) rfl (by rfl) ?_
          intro K hK
          go_simp
          clear hmk hwar hgm hgb
          refine hK.out _ _ hSS ?_
          clear hK K
          try simp only [Act.put, List.setIfInBounds_toArray, List.set_cons_zero, List.set_cons_succ]
          refine only_one (i := 7) (by kernel_rfl) rfl (by rfl) ?_
          intro K hK
          go_simp
          refine hK.out _ _ hSS ?_
          clear hK K
          try simp only [Act.put, List.setIfInBounds_toArray, List.set_cons_zero, List.set_cons_succ]
          have m0 := HXM.out.cell (i := 0) (v := .bool false) rfl
          have m1 := HXM.out.cell (i := 1) (v := .slice none 0 0) rfl
          have m2 := HXM.out.cell (i := 2) (v := .int .i64 0) rfl
          have m3 := HXM.out.cell (i := 3) (v := .slice none 0 0) rfl
          have m4 := HXM.out.cell (i := 4) (v := .slice none 0 0) rfl
          have p0 := HXM.out.fr (i := 0)
          have p1 := HXM.out.fr (i := 1)
          have p2 := HXM.out.fr (i := 2)
          have p3 := HXM.out.fr (i := 3)
          have p4 := HXM.out.fr (i := 4)
          have HX9 := Lib.hid (blk_set5 HXM.out (.bool false) (.slice ps space.length cs) (.int .i64 room) (.slice (some ⟨gb, 0, none⟩) space.length space.length) (.slice none 0 0) rfl rfl rfl rfl rfl)
          have HB9 := Lib.hid (below_set5 (b := xb) HBM.out (by omega) (.bool false) (.slice ps space.length cs) (.int .i64 room) (.slice (some ⟨gb, 0, none⟩) space.length space.length) (.slice none 0 0))
          have HI9 := Lib.hid (own_set5 HIM.out (own_ne HIM.out ⟨_, HXM.out⟩ (by decide)) (.bool false) (.slice ps space.length cs) (.int .i64 room) (.slice (some ⟨gb, 0, none⟩) space.length space.length) (.slice none 0 0))
          have HM9 := Lib.hid (own_set5 HMM.out (own_ne HMM.out ⟨_, HXM.out⟩ (by decide)) (.bool false) (.slice ps space.length cs) (.int .i64 room) (.slice (some ⟨gb, 0, none⟩) space.length space.length) (.slice none 0 0))
          refine only_one (i := 8) (by kernel_rfl) rfl (by rfl) ?_
          intro K hK
          go_simp
          obtain ⟨w8, hww8⟩ : ∃ Z, ((((wM.setCell ⟨xb, 0, none⟩ (.bool false)).setCell ⟨xb, 1, none⟩ (.slice ps space.length cs)).setCell ⟨xb, 2, none⟩ (.int .i64 room)).setCell ⟨xb, 3, none⟩ (.slice (some ⟨gb, 0, none⟩) space.length space.length)).setCell ⟨xb, 4, none⟩ (.slice none 0 0) = Z := ⟨_, rfl⟩
          rw [hww8] at HX9 HB9 HI9 HM9
          try rw [hww8]
          clear hww8
          refine hK.out _ _ hSS ?_
          clear hK K
          try simp only [Act.put, List.setIfInBounds_toArray, List.set_cons_zero, List.set_cons_succ]
          refine take_first (i := 9) (v := ?_) rfl (by kernel_rfl) (by kernel_rfl) (by kernel_rfl) (fun _ _ _ h => h) (by rfl) (by assumption) ?_ ?_
          rotate_left 1
          · intro X hSX
            (try dsimp only at hSX)
            first | (go_simp; done) | (go_simp; with_reducible rfl)
          try simp only [Act.put, List.setIfInBounds_toArray, List.set_cons_zero, List.set_cons_succ]
          refine wpAnyH_done (by kernel_rfl) ?_ _
          clear m0 p0 m1 p1 m2 p2 m3 p3 m4 p4
          have g0 := HX9.out.cell (i := 0) (v := .bool false) rfl
          have g1 := HX9.out.cell (i := 1) (v := .slice ps space.length cs) rfl
          have g2 := HX9.out.cell (i := 2) (v := .int .i64 room) rfl
          have g3 := HX9.out.cell (i := 3) (v := .slice (some ⟨gb, 0, none⟩) space.length space.length) rfl
          have g4 := HX9.out.cell (i := 4) (v := .slice none 0 0) rfl
          go_wp2
          refine bodyPost_ret (v := .tuple #[.agg #[.bool false, .slice ps space.length cs, .int .i64 room, .slice (some ⟨gb, 0, none⟩) space.length space.length, .slice none 0 0], .bool true]) (by simp [results, Try.results26, go_sem, g0, g1, g2, g3, g4]) rfl ⟨HB9.out, .inr ⟨HF.out.trans HV.out, ps, cs, gb, space.length, by rw [List.length_map], ⟨HI9.out, by rw [List.length_map]; exact HM9.out, InsAt.nil _ _⟩⟩⟩
        · skip
          obtain ⟨gb, hgb⟩ : ∃ x, wE.heap.size = x := ⟨_, rfl⟩
          obtain ⟨wM, hmk, hwar, hgm⟩ := make_wares space hl w.heap.size wE HBE.out.size
          rw [hgb] at hmk hwar
          have HMM := Lib.hid hwar
          have HXM := Lib.hid (HXE.out.kept hgm (by intro e; cases e))
          have HBM := Lib.hid (HBE.out.grown hgm HBE.out.size (by intro j hj; cases hj))
          have HSM := Lib.hid (HSE.out.past ((Below.refl _ _).grown hgm (Nat.le_refl _) (by intro j hj; cases hj)))
          have HEM := Lib.hid (HEE.out.kept hgm (by intro k hk e; cases e))
          have HGE : Hid (gb ≠ eb) := Lib.hid (by have := (HEE.out.lt eb rfl).2.1; omega)
          intro K hK
          go_simp
          clear hmk hwar hgm hgb
          refine hK.out _ _ hSS ?_
          clear hK K
          try simp only [Act.put, List.setIfInBounds_toArray, List.set_cons_zero, List.set_cons_succ]
          refine only_one (i := 2) (by kernel_rfl) rfl (by rfl) ?_
          intro K hK
          refine wp_copyI (.tmp 30) (.tmp 31) (by rfl) w.heap.size eb (by rfl) HEM.out space _ (by rfl) HSM.out hl HBM.out.size _ rfl ?_
          intro v2 wI hint hblk hgrow
          obtain ⟨ps, cs, rfl⟩ := hint.shape
          have HII := Lib.hid hint
          have HXI := Lib.hid (HXM.out.kept hgrow (by intro e; exact hneE (Option.some.inj e)))
          have HBI := Lib.hid (HBM.out.grown hgrow HBM.out.size (by intro j hj; cases hj; exact HEBE.out))
          have HMI : Hid (WarR wI w.heap.size (.slice (some ⟨gb, 0, none⟩) space.length space.length) (space.map mkSt)) := Lib.hid (World.ownsRow.kept HMM.out hgrow (.inr (by intro e; exact HGE.out (by simpa [Value.ownBlock] using e))))
          clear hint hblk hgrow
          refine hK.out _ _ hSS ?_
          clear hK K
          try simp only [Act.put, List.setIfInBounds_toArray, List.set_cons_zero, List.set_cons_succ]
          refine only_one (i := 7) (by kernel_rfl) rfl (by rfl) ?_
          intro K hK
          go_simp
          refine hK.out _ _ hSS ?_
          clear hK K
          try simp only [Act.put, List.setIfInBounds_toArray, List.set_cons_zero, List.set_cons_succ]
          have m0 := HXI.out.cell (i := 0) (v := .bool false) rfl
          have m1 := HXI.out.cell (i := 1) (v := .slice none 0 0) rfl
          have m2 := HXI.out.cell (i := 2) (v := .int .i64 0) rfl
          have m3 := HXI.out.cell (i := 3) (v := .slice none 0 0) rfl
          have m4 := HXI.out.cell (i := 4) (v := .slice none 0 0) rfl
          have p0 := HXI.out.fr (i := 0)
          have p1 := HXI.out.fr (i := 1)
          have p2 := HXI.out.fr (i := 2)
          have p3 := HXI.out.fr (i := 3)
          have p4 := HXI.out.fr (i := 4)
          have HX9 := Lib.hid (blk_set5 HXI.out (.bool false) (.slice ps space.length cs) (.int .i64 room) (.slice (some ⟨gb, 0, none⟩) space.length space.length) (.slice none 0 0) rfl rfl rfl rfl rfl)
          have HB9 := Lib.hid (below_set5 (b := xb) HBI.out (by omega) (.bool false) (.slice ps space.length cs) (.int .i64 room) (.slice (some ⟨gb, 0, none⟩) space.length space.length) (.slice none 0 0))
          have HI9 := Lib.hid (own_set5 HII.out (own_ne HII.out ⟨_, HXI.out⟩ (by decide)) (.bool false) (.slice ps space.length cs) (.int .i64 room) (.slice (some ⟨gb, 0, none⟩) space.length space.length) (.slice none 0 0))
          have HM9 := Lib.hid (own_set5 HMI.out (own_ne HMI.out ⟨_, HXI.out⟩ (by decide)) (.bool false) (.slice ps space.length cs) (.int .i64 room) (.slice (some ⟨gb, 0, none⟩) space.length space.length) (.slice none 0 0))
          refine only_one (i := 8) (by kernel_rfl) rfl (by rfl) ?_
          intro K hK
          go_simp
          obtain ⟨w8, hww8⟩ : ∃ Z, ((((wI.setCell ⟨xb, 0, none⟩ (.bool false)).setCell ⟨xb, 1, none⟩ (.slice ps space.length cs)).setCell ⟨xb, 2, none⟩ (.int .i64 room)).setCell ⟨xb, 3, none⟩ (.slice (some ⟨gb, 0, none⟩) space.length space.length)).setCell ⟨xb, 4, none⟩ (.slice none 0 0) = Z := ⟨_, rfl⟩
          rw [hww8] at HX9 HB9 HI9 HM9
          try rw [hww8]
          clear hww8
          refine hK.out _ _ hSS ?_
          clear hK K
          try simp only [Act.put, List.setIfInBounds_toArray, List.set_cons_zero, List.set_cons_succ]
          refine take_first (i := 9) (v := ?_) rfl (by kernel_rfl) (by kernel_rfl) (by kernel_rfl) (fun _ _ _ h => h) (by rfl) (by assumption) ?_ ?_
          rotate_left 1
          · intro X hSX
            (try dsimp only at hSX)
            first | (go_simp; done) | (go_simp; with_reducible rfl)
          try simp only [Act.put, List.setIfInBounds_toArray, List.set_cons_zero, List.set_cons_succ]
          refine wpAnyH_done (by kernel_rfl) ?_ _
          clear m0 p0 m1 p1 m2 p2 m3 p3 m4 p4
          have g0 := HX9.out.cell (i := 0) (v := .bool false) rfl
          have g1 := HX9.out.cell (i := 1) (v := .slice ps space.length cs) rfl
          have g2 := HX9.out.cell (i := 2) (v := .int .i64 room) rfl
          have g3 := HX9.out.cell (i := 3) (v := .slice (some ⟨gb, 0, none⟩) space.length space.length) rfl
          have g4 := HX9.out.cell (i := 4) (v := .slice none 0 0) rfl
          go_wp2
          refine bodyPost_ret (v := .tuple #[.agg #[.bool false, .slice ps space.length cs, .int .i64 room, .slice (some ⟨gb, 0, none⟩) space.length space.length, .slice none 0 0], .bool true]) (by simp [results, Try.results26, go_sem, g0, g1, g2, g3, g4]) rfl ⟨HB9.out, .inr ⟨HF.out.trans HV.out, ps, cs, gb, space.length, by rw [List.length_map], ⟨HI9.out, by rw [List.length_map]; exact HM9.out, InsAt.nil _ _⟩⟩⟩
      · skip
        obtain ⟨gb, hgb⟩ : ∃ x, wd.heap.size = x := ⟨_, rfl⟩
        obtain ⟨wM, hmk, hwar, hgm⟩ := make_wares space hl w.heap.size wd HBD.out.size
        rw [hgb] at hmk hwar
        have HMM := Lib.hid hwar
        have HXM := Lib.hid (HXD.out.kept hgm (by intro e; cases e))
        have HBM := Lib.hid (HBD.out.grown hgm HBD.out.size (by intro j hj; cases hj))
        have HSM := Lib.hid (HSD.out.past ((Below.refl _ _).grown hgm (Nat.le_refl _) (by intro j hj; cases hj)))
        have HGB : Hid (gb < wM.heap.size) := Lib.hid (by have h3 := HMM.out; unfold WarR at h3; have h4 := h3.lt gb rfl; omega)
        intro K hK
        go_simp
        clear hmk hwar hgm hgb
        refine hK.out _ _ hSS ?_
        clear hK K
        try simp only [Act.put, List.setIfInBounds_toArray, List.set_cons_zero, List.set_cons_succ]
        obtain ⟨eb, heb⟩ : ∃ x, wM.heap.size = x := ⟨_, rfl⟩
        have B0 := (Below.refl wM.heap.size wM).alloc (Nat.le_refl _) (.cells #[] 3)
        have hble : w.heap.size ≤ wM.heap.size := HBM.out.size
        have HEE := Lib.hid (IntsR.empty wM w.heap.size eb heb (by omega))
        have HXE := Lib.hid (HXM.out.past B0)
        have HSE := Lib.hid (HSM.out.past B0)
        have HBE := Lib.hid (HBM.out.alloc HBM.out.size (.cells #[] 3))
        have HEBE : Hid (w.heap.size ≤ eb) := Lib.hid (by omega)
        have HME := Lib.hid (own_past HMM.out B0)
        have HGE : Hid (gb ≠ eb) := Lib.hid (by have := HGB.out; omega)
        have hneE : xb ≠ eb := by have := HXM.out.lt; omega
        refine only_one (i := 0) (by kernel_rfl) rfl (by rfl) ?_
        intro K hK
        go_simp
        obtain ⟨wE, hwwE⟩ : ∃ Z, wM.alloc (.cells #[] 3) = Z := ⟨_, rfl⟩
        rw [hwwE] at HEE HXE HSE HBE HME
        try rw [hwwE]
        clear hwwE
        clear B0 heb
        refine hK.out _ _ hSS ?_
        clear hK K
        try simp only [Act.put, List.setIfInBounds_toArray, List.set_cons_zero, List.set_cons_succ]
        refine only_one (i := 2) (by kernel_rfl) rfl (by rfl) ?_
        intro K hK
        refine wp_copyI (.tmp 30) (.tmp 31) (by rfl) w.heap.size eb (by rfl) HEE.out space _ (by rfl) HSE.out hl HBE.out.size _ rfl ?_
        intro v2 wI hint hblk hgrow
        obtain ⟨ps, cs, rfl⟩ := hint.shape
        have HII := Lib.hid hint
        have HXI := Lib.hid (HXE.out.kept hgrow (by intro e; exact hneE (Option.some.inj e)))
        have HBI := Lib.hid (HBE.out.grown hgrow HBE.out.size (by intro j hj; cases hj; exact HEBE.out))
        have HMI : Hid (WarR wI w.heap.size (.slice (some ⟨gb, 0, none⟩) space.length space.length) (space.map mkSt)) := Lib.hid (World.ownsRow.kept HME.out hgrow (.inr (by intro e; exact HGE.out (by simpa [Value.ownBlock] using e))))
        clear hint hblk hgrow
        refine hK.out _ _ hSS ?_
        clear hK K
        try simp only [Act.put, List.setIfInBounds_toArray, List.set_cons_zero, List.set_cons_succ]
        refine only_one (i := 7) (by kernel_rfl) rfl (by rfl) ?_
        intro K hK
        go_simp
        refine hK.out _ _ hSS ?_
        clear hK K
        try simp only [Act.put, List.setIfInBounds_toArray, List.set_cons_zero, List.set_cons_succ]
        have m0 := HXI.out.cell (i := 0) (v := .bool false) rfl
        have m1 := HXI.out.cell (i := 1) (v := .slice none 0 0) rfl
        have m2 := HXI.out.cell (i := 2) (v := .int .i64 0) rfl
        have m3 := HXI.out.cell (i := 3) (v := .slice none 0 0) rfl
        have m4 := HXI.out.cell (i := 4) (v := .slice none 0 0) rfl
        have p0 := HXI.out.fr (i := 0)
        have p1 := HXI.out.fr (i := 1)
        have p2 := HXI.out.fr (i := 2)
        have p3 := HXI.out.fr (i := 3)
        have p4 := HXI.out.fr (i := 4)
        have HX9 := Lib.hid (blk_set5 HXI.out (.bool false) (.slice ps space.length cs) (.int .i64 room) (.slice (some ⟨gb, 0, none⟩) space.length space.length) (.slice none 0 0) rfl rfl rfl rfl rfl)
        have HB9 := Lib.hid (below_set5 (b := xb) HBI.out (by omega) (.bool false) (.slice ps space.length cs) (.int .i64 room) (.slice (some ⟨gb, 0, none⟩) space.length space.length) (.slice none 0 0))
        have HI9 := Lib.hid (own_set5 HII.out (own_ne HII.out ⟨_, HXI.out⟩ (by decide)) (.bool false) (.slice ps space.length cs) (.int .i64 room) (.slice (some ⟨gb, 0, none⟩) space.length space.length) (.slice none 0 0))
        have HM9 := Lib.hid (own_set5 HMI.out (own_ne HMI.out ⟨_, HXI.out⟩ (by decide)) (.bool false) (.slice ps space.length cs) (.int .i64 room) (.slice (some ⟨gb, 0, none⟩) space.length space.length) (.slice none 0 0))
        refine only_one (i := 8) (by kernel_rfl) rfl (by rfl) ?_
        intro K hK
        go_simp
        obtain ⟨w8, hww8⟩ : ∃ Z, ((((wI.setCell ⟨xb, 0, none⟩ (.bool false)).setCell ⟨xb, 1, none⟩ (.slice ps space.length cs)).setCell ⟨xb, 2, none⟩ (.int .i64 room)).setCell ⟨xb, 3, none⟩ (.slice (some ⟨gb, 0, none⟩) space.length space.length)).setCell ⟨xb, 4, none⟩ (.slice none 0 0) = Z := ⟨_, rfl⟩
        rw [hww8] at HX9 HB9 HI9 HM9
        try rw [hww8]
        clear hww8
        refine hK.out _ _ hSS ?_
        clear hK K
        try simp only [Act.put, List.setIfInBounds_toArray, List.set_cons_zero, List.set_cons_succ]
        refine take_first (i := 9) (v := ?_) rfl (by kernel_rfl) (by kernel_rfl) (by kernel_rfl) (fun _ _ _ h => h) (by rfl) (by assumption) ?_ ?_
        rotate_left 1
        · intro X hSX
          (try dsimp only at hSX)
          first | (go_simp; done) | (go_simp; with_reducible rfl)
        try simp only [Act.put, List.setIfInBounds_toArray, List.set_cons_zero, List.set_cons_succ]
        refine wpAnyH_done (by kernel_rfl) ?_ _
        clear m0 p0 m1 p1 m2 p2 m3 p3 m4 p4
        have g0 := HX9.out.cell (i := 0) (v := .bool false) rfl
        have g1 := HX9.out.cell (i := 1) (v := .slice ps space.length cs) rfl
        have g2 := HX9.out.cell (i := 2) (v := .int .i64 room) rfl
        have g3 := HX9.out.cell (i := 3) (v := .slice (some ⟨gb, 0, none⟩) space.length space.length) rfl
        have g4 := HX9.out.cell (i := 4) (v := .slice none 0 0) rfl
        go_wp2
        refine bodyPost_ret (v := .tuple #[.agg #[.bool false, .slice ps space.length cs, .int .i64 room, .slice (some ⟨gb, 0, none⟩) space.length space.length, .slice none 0 0], .bool true]) (by simp [results, Try.results26, go_sem, g0, g1, g2, g3, g4]) rfl ⟨HB9.out, .inr ⟨HF.out.trans HV.out, ps, cs, gb, space.length, by rw [List.length_map], ⟨HI9.out, by rw [List.length_map]; exact HM9.out, InsAt.nil _ _⟩⟩⟩
theorem coF_bad7 {l : List St} {k n : Int} (g : St → Int × St) (h : inB k 0 ((l.length : Int) - 1) = false) : coF l k n g = (7, l) := by unfold coF; rw [if_pos h]
theorem coF_bad3 {l : List St} {k n : Int} (g : St → Int × St) (h : inB k 0 ((l.length : Int) - 1) = true) (h2 : inB n 0 1000000000 = false) : coF l k n g = (3, l) := by unfold coF; rw [if_neg (by simp [h]), if_pos h2]
theorem coF_of {l : List St} {kk : Nat} {n : Int} {g : St → Int × St} {s' : St} {e : Int} (h : inB (kk : Int) 0 ((l.length : Int) - 1) = true) (h2 : inB n 0 1000000000 = true) (hc : chF (g (l[kk]?.getD St.zero)) = (s', e)) : coF l (kk : Int) n g = if e ≠ 0 then (e, l) else (0, l.set kk s') := by
  unfold coF
  rw [if_neg (by simp [h]), if_neg (by simp [h2])]
  simp only [Int.toNat_natCast]
  rw [hc]
theorem step7 {room : Int} {l : List St} {L : BatL} {m k n b : Int} {bs : BatL} {br : List Int} (h3 : m ≠ 3) (h4 : m ≠ 4) (h : inB k 0 ((l.length : Int) - 1) = false) : stepF room l L m k n b bs br = (7, l, L) := by
  unfold stepF
  rw [coF_bad7 _ h, coF_bad7 _ h, coF_bad7 _ h, coF_bad7 _ h, coF_bad7 _ h, if_neg h3, if_neg h4]
  simp
theorem step3 {room : Int} {l : List St} {L : BatL} {m k n b : Int} {bs : BatL} {br : List Int} (h3 : m ≠ 3) (h4 : m ≠ 4) (h : inB k 0 ((l.length : Int) - 1) = true) (h2 : inB n 0 1000000000 = false) : stepF room l L m k n b bs br = (3, l, L) := by
  unfold stepF
  rw [coF_bad3 _ h h2, coF_bad3 _ h h2, coF_bad3 _ h h2, coF_bad3 _ h h2, coF_bad3 _ h h2, if_neg h3, if_neg h4]
  simp
theorem mould_few {n : Int} {y0 y1 y2 y3 y4 y5 y6 y7 : Int} (hg : St.Good ⟨y0, y1, y2, y3, y4, y5, y6, y7⟩) (hn : 0 ≤ n) : chF (mouldF n ⟨y0, y1, y2, y3, y4, y5, y6, y7⟩) = if y0 + y1 + y2 + y3 + y4 + y5 + n > 1000000000 then (St.zero, 8) else (⟨y0 + n, y1, y2, y3, y4, y5, y6, y7⟩, 0) := by
  simp only [St.Good, St.Ok] at hg
  unfold mouldF
  by_cases h : y0 + y1 + y2 + y3 + y4 + y5 + n > 1000000000
  · rw [if_pos h, if_pos (show St.all ⟨y0, y1, y2, y3, y4, y5, y6, y7⟩ + n > 1000000000 from h)]
    unfold chF; rw [if_pos (by simp)]
  · rw [if_neg h, if_neg (show ¬ St.all ⟨y0, y1, y2, y3, y4, y5, y6, y7⟩ + n > 1000000000 from h)]
    unfold chF; rw [if_neg (by simp)]; dsimp only; rw [if_neg (by omega)]
theorem dry_few {n b : Int} {y0 y1 y2 y3 y4 y5 y6 y7 : Int} (hg : St.Good ⟨y0, y1, y2, y3, y4, y5, y6, y7⟩) (hn : 0 ≤ n) : chF (dryF n b ⟨y0, y1, y2, y3, y4, y5, y6, y7⟩) = if inB b 0 n = false then (St.zero, 2) else if y0 < n then (St.zero, 9) else (⟨y0 - n, y1 + n - b, y2, y3, y4, y5 + b, y6, y7⟩, 0) := by
  simp only [St.Good, St.Ok] at hg
  unfold dryF
  by_cases h : inB b 0 n = true
  · have := inB_parts h
    rw [if_pos h, if_neg (by simp [h])]
    unfold chF
    rw [if_neg (by simp)]
    dsimp only
    by_cases h2 : y0 < n
    · rw [if_pos (by omega), if_pos h2]
    · rw [if_neg (by omega), if_neg h2, show y1 + (n - b) = y1 + n - b by omega]
  · rw [if_neg h, if_pos (by simpa using h)]
    unfold chF; rw [if_pos (by simp)]
theorem lay_few {n : Int} {y0 y1 y2 y3 y4 y5 y6 y7 : Int} (hg : St.Good ⟨y0, y1, y2, y3, y4, y5, y6, y7⟩) (hn : 0 ≤ n) : chF (layF n ⟨y0, y1, y2, y3, y4, y5, y6, y7⟩) = if y3 < n then (St.zero, 9) else (⟨y0, y1, y2, y3 - n, y4 + n, y5, y6, y7⟩, 0) := by
  simp only [St.Good, St.Ok] at hg
  unfold layF chF
  dsimp only
  rw [if_neg (by simp)]
  by_cases h2 : y3 < n
  · rw [if_pos (by omega), if_pos h2]
  · rw [if_neg (by omega), if_neg h2]
theorem break_few {n : Int} {y0 y1 y2 y3 y4 y5 y6 y7 : Int} (hg : St.Good ⟨y0, y1, y2, y3, y4, y5, y6, y7⟩) (hn : 0 ≤ n) : chF (breakF n ⟨y0, y1, y2, y3, y4, y5, y6, y7⟩) = if y4 < n then (St.zero, 9) else (⟨y0, y1, y2, y3, y4 - n, y5 + n, y6 + n, y7⟩, 0) := by
  simp only [St.Good, St.Ok] at hg
  unfold breakF chF
  dsimp only
  rw [if_neg (by simp)]
  by_cases h2 : y4 < n
  · rw [if_pos (by omega), if_pos h2]
  · rw [if_neg (by omega), if_neg h2]
theorem replace_few {n : Int} {y0 y1 y2 y3 y4 y5 y6 y7 : Int} (hg : St.Good ⟨y0, y1, y2, y3, y4, y5, y6, y7⟩) (hn : 0 ≤ n) : chF (replaceF n ⟨y0, y1, y2, y3, y4, y5, y6, y7⟩) = if y3 < n ∨ y6 < n then (St.zero, 9) else (⟨y0, y1, y2, y3 - n, y4 + n, y5, y6 - n, y7⟩, 0) := by
  simp only [St.Good, St.Ok] at hg
  unfold replaceF chF
  dsimp only
  rw [if_neg (by simp)]
  by_cases h2 : y3 < n ∨ y6 < n
  · rw [if_pos (by omega), if_pos h2]
  · rw [if_neg (by omega), if_neg h2]
set_option maxRecDepth 100000 in
set_option maxHeartbeats 16000000 in
theorem refDo_any (ps : Option Addr) (cs gw cw : Nat) (pb : Option Addr) (cb base : Nat) (sp : List Int) (room : Int) (l : List St) (L : BatL) (m k n b : Int) (vb vl : Value) (bs : BatL) (br : List Int) (w : World) (hb : RefAt w base sp l L ps cs gw cw pb cb) (hbase : base ≤ w.heap.size)
    (hsb : SrcB w vb bs) (hsl : SrcI w vl br) (hbr : br.length ≤ 1000) (hLl : L.length ≤ 1000) (hl : l.length ≤ 1000) (hl0 : 0 < l.length) (hinv : BInv l L) (hroom : 0 ≤ room ∧ room ≤ 1000000000) (hsp : sp = l.map St.space) :
    Calls Try.prog 27 #[.agg #[.bool false, .slice ps sp.length cs, .int .i64 room, .slice (some ⟨gw, 0, none⟩) l.length cw, .slice pb L.length cb], .agg #[.int .i64 m, .int .i64 k, .int .i64 n, .int .i64 b, vb, vl]] w (RefTo w base sp room ps cs (stepF room l L m k n b bs br)) := by
  obtain ⟨av, capb, rfl⟩ := hsb.shape
  obtain ⟨aw, capl, rfl⟩ := hsl.shape
  obtain ⟨xb, hxb⟩ : ∃ x, w.heap.size = x := ⟨_, rfl⟩
  have B1 := (Below.refl w.heap.size w).alloc (Nat.le_refl _) (.cells #[.bool false, .slice ps sp.length cs, .int .i64 room, .slice (some ⟨gw, 0, none⟩) l.length cw, .slice pb L.length cb] 56)
  have X1 := Blk.newI w xb #[.bool false, .slice ps sp.length cs, .int .i64 room, .slice (some ⟨gw, 0, none⟩) l.length cw, .slice pb L.length cb] 56 hxb
  have B2 := B1.alloc B1.size (.cells #[.int .i64 m, .int .i64 k, .int .i64 n, .int .i64 b, .slice av bs.length capb, .slice aw br.length capl] 50)
  have C2 := Blk.newI (w.alloc (.cells #[.bool false, .slice ps sp.length cs, .int .i64 room, .slice (some ⟨gw, 0, none⟩) l.length cw, .slice pb L.length cb] 56)) (xb + 1) #[.int .i64 m, .int .i64 k, .int .i64 n, .int .i64 b, .slice av bs.length capb, .slice aw br.length capl] 50 (by simp [hxb])
  have B3 := B2.alloc B2.size (.cells #[.bool false, .slice none 0 0, .int .i64 0, .slice none 0 0, .slice none 0 0] 56)
  have Z3 := Blk.newI ((w.alloc (.cells #[.bool false, .slice ps sp.length cs, .int .i64 room, .slice (some ⟨gw, 0, none⟩) l.length cw, .slice pb L.length cb] 56)).alloc (.cells #[.int .i64 m, .int .i64 k, .int .i64 n, .int .i64 b, .slice av bs.length capb, .slice aw br.length capl] 50)) (xb + 2) #[.bool false, .slice none 0 0, .int .i64 0, .slice none 0 0, .slice none 0 0] 56 (by simp [hxb])
  have X3 := (X1.alloc (.cells #[.int .i64 m, .int .i64 k, .int .i64 n, .int .i64 b, .slice av bs.length capb, .slice aw br.length capl] 50)).alloc (.cells #[.bool false, .slice none 0 0, .int .i64 0, .slice none 0 0, .slice none 0 0] 56)
  have C3 := C2.alloc (.cells #[.bool false, .slice none 0 0, .int .i64 0, .slice none 0 0, .slice none 0 0] 56)
  have HRF2 := Lib.hid (hb.past B3)
  have HW2 := Lib.hid B3
  have HSB2 := Lib.hid (hsb.past B3)
  have HSL2 := Lib.hid (hsl.past B3)
  have HINV := Lib.hid hinv
  have HSP := Lib.hid hsp
  obtain ⟨w2, hw2⟩ : ∃ Z, ((w.alloc (.cells #[.bool false, .slice ps sp.length cs, .int .i64 room, .slice (some ⟨gw, 0, none⟩) l.length cw, .slice pb L.length cb] 56)).alloc (.cells #[.int .i64 m, .int .i64 k, .int .i64 n, .int .i64 b, .slice av bs.length capb, .slice aw br.length capl] 50)).alloc (.cells #[.bool false, .slice none 0 0, .int .i64 0, .slice none 0 0, .slice none 0 0] 56) = Z := ⟨_, rfl⟩
  rw [hw2] at HRF2 HW2 HSB2 HSL2 X3 C3 Z3
  have HX2 := Lib.hid X3
  have HC2 := Lib.hid C3
  have HZ2 := Lib.hid Z3
  have x0 := X3.cell (i := 0) (v := .bool false) rfl
  have d0 := C3.cell (i := 0) (v := .int .i64 m) rfl
  obtain ⟨R, hR⟩ : ∃ R, stepF room l L m k n b bs br = R := ⟨_, rfl⟩
  have HR := Lib.hid hR
  rw [hR]
  have hxw : w.heap.size ≤ xb := Nat.le_of_eq hxb
  have hble2 : base ≤ w2.heap.size := Nat.le_trans hbase HW2.out.size
  clear X1 X3 C2 C3 Z3 B1 B2 B3 hb hsb hsl hinv hR hsp
  go_enter Try.func27, Try.ntmps27
  go_upto_region 3 with fail
  try rw [hw2]
  clear hw2
  by_cases h3 : m = 3
  · subst m
    obtain ⟨er, l2, L2⟩ := R
    have HE : Hid (fireF room l L bs = (er, l2, L2)) := Lib.hid (by rw [← HR.out]; rfl)
    have HF := Lib.hid (refFire_any ps cs gw cw pb cb base sp room l L _ bs w2 HRF2.out hble2 HSB2.out hl hl0 HINV.out hroom HSP.out)
    rw [HE.out] at HF
    have x0 := HX2.out.cell (i := 0) (v := .bool false) rfl
    have x1 := HX2.out.cell (i := 1) (v := .slice ps sp.length cs) rfl
    have x2 := HX2.out.cell (i := 2) (v := .int .i64 room) rfl
    have x3 := HX2.out.cell (i := 3) (v := .slice (some ⟨gw, 0, none⟩) l.length cw) rfl
    have x4 := HX2.out.cell (i := 4) (v := .slice pb L.length cb) rfl
    have d4 := HC2.out.cell (i := 4) (v := .slice av bs.length capb) rfl
    go_wp2_with fail
    refine HF.out.mono ?_
    rintro e w9 ⟨hb9, gz, cz, p1, c2, rfl, hrf⟩
    dsimp only at hrf
    have HZ9 := Lib.hid (HZ2.out.past hb9)
    have HW9 := Lib.hid (HW2.out.trans (hb9.mono HW2.out.size))
    have HR9 := Lib.hid hrf
    clear hrf hb9 HF x0 x1 x2 x3 x4 d0 d4
    have z0 := HZ9.out.cell (i := 0) (v := .bool false) rfl
    have z1 := HZ9.out.cell (i := 1) (v := .slice none 0 0) rfl
    have z2 := HZ9.out.cell (i := 2) (v := .int .i64 0) rfl
    have z3 := HZ9.out.cell (i := 3) (v := .slice none 0 0) rfl
    have z4 := HZ9.out.cell (i := 4) (v := .slice none 0 0) rfl
    have y0z := HZ9.out.fr (i := 0)
    have y1z := HZ9.out.fr (i := 1)
    have y2z := HZ9.out.fr (i := 2)
    have y3z := HZ9.out.fr (i := 3)
    have y4z := HZ9.out.fr (i := 4)
    have HZ8 := Lib.hid (blk_set5 HZ9.out (.bool false) (.slice ps sp.length cs) (.int .i64 room) (.slice (some ⟨gz, 0, none⟩) l2.length cz) (.slice p1 L2.length c2) rfl rfl rfl rfl rfl)
    have HB8 := Lib.hid (below_set5 (b := xb + 2) HW9.out (by omega) (.bool false) (.slice ps sp.length cs) (.int .i64 room) (.slice (some ⟨gz, 0, none⟩) l2.length cz) (.slice p1 L2.length c2))
    have HR8 := Lib.hid (HR9.out.set5 HZ9.out (.bool false) (.slice ps sp.length cs) (.int .i64 room) (.slice (some ⟨gz, 0, none⟩) l2.length cz) (.slice p1 L2.length c2))
    go_wp2
    obtain ⟨w8, hw8⟩ : ∃ Z, ((((w9.setCell ⟨xb + 2, 0, none⟩ (.bool false)).setCell ⟨xb + 2, 1, none⟩ (.slice ps sp.length cs)).setCell ⟨xb + 2, 2, none⟩ (.int .i64 room)).setCell ⟨xb + 2, 3, none⟩ (.slice (some ⟨gz, 0, none⟩) l2.length cz)).setCell ⟨xb + 2, 4, none⟩ (.slice p1 L2.length c2) = Z := ⟨_, rfl⟩
    rw [hw8] at HZ8 HB8 HR8
    try rw [hw8]
    have g0 := HZ8.out.cell (i := 0) (v := .bool false) rfl
    have g1 := HZ8.out.cell (i := 1) (v := .slice ps sp.length cs) rfl
    have g2 := HZ8.out.cell (i := 2) (v := .int .i64 room) rfl
    have g3 := HZ8.out.cell (i := 3) (v := .slice (some ⟨gz, 0, none⟩) l2.length cz) rfl
    have g4 := HZ8.out.cell (i := 4) (v := .slice p1 L2.length c2) rfl
    refine bodyPost_ret (v := .tuple #[.agg #[.bool false, .slice ps sp.length cs, .int .i64 room, .slice (some ⟨gz, 0, none⟩) l2.length cz, .slice p1 L2.length c2], .int .i64 er]) (by simp [results, Try.results27, go_sem, g0, g1, g2, g3, g4]) rfl ⟨HB8.out, _, _, _, _, rfl, HR8.out⟩
  by_cases h4 : m = 4
  · subst m
    obtain ⟨er, l2, L2⟩ := R
    have HE : Hid (drawF l L br = (er, l2, L2)) := Lib.hid (by rw [← HR.out]; rfl)
    have HF := Lib.hid (refDraw_any ps cs gw cw pb cb base sp room l L _ br w2 HRF2.out hble2 HSL2.out hbr hLl hl hl0 HINV.out)
    rw [HE.out] at HF
    have x0 := HX2.out.cell (i := 0) (v := .bool false) rfl
    have x1 := HX2.out.cell (i := 1) (v := .slice ps sp.length cs) rfl
    have x2 := HX2.out.cell (i := 2) (v := .int .i64 room) rfl
    have x3 := HX2.out.cell (i := 3) (v := .slice (some ⟨gw, 0, none⟩) l.length cw) rfl
    have x4 := HX2.out.cell (i := 4) (v := .slice pb L.length cb) rfl
    have d5 := HC2.out.cell (i := 5) (v := .slice aw br.length capl) rfl
    go_wp2_with fail
    refine HF.out.mono ?_
    rintro e w9 ⟨hb9, gz, cz, p1, c2, rfl, hrf⟩
    dsimp only at hrf
    have HZ9 := Lib.hid (HZ2.out.past hb9)
    have HW9 := Lib.hid (HW2.out.trans (hb9.mono HW2.out.size))
    have HR9 := Lib.hid hrf
    clear hrf hb9 HF x0 x1 x2 x3 x4 d0 d5
    have z0 := HZ9.out.cell (i := 0) (v := .bool false) rfl
    have z1 := HZ9.out.cell (i := 1) (v := .slice none 0 0) rfl
    have z2 := HZ9.out.cell (i := 2) (v := .int .i64 0) rfl
    have z3 := HZ9.out.cell (i := 3) (v := .slice none 0 0) rfl
    have z4 := HZ9.out.cell (i := 4) (v := .slice none 0 0) rfl
    have y0z := HZ9.out.fr (i := 0)
    have y1z := HZ9.out.fr (i := 1)
    have y2z := HZ9.out.fr (i := 2)
    have y3z := HZ9.out.fr (i := 3)
    have y4z := HZ9.out.fr (i := 4)
    have HZ8 := Lib.hid (blk_set5 HZ9.out (.bool false) (.slice ps sp.length cs) (.int .i64 room) (.slice (some ⟨gz, 0, none⟩) l2.length cz) (.slice p1 L2.length c2) rfl rfl rfl rfl rfl)
    have HB8 := Lib.hid (below_set5 (b := xb + 2) HW9.out (by omega) (.bool false) (.slice ps sp.length cs) (.int .i64 room) (.slice (some ⟨gz, 0, none⟩) l2.length cz) (.slice p1 L2.length c2))
    have HR8 := Lib.hid (HR9.out.set5 HZ9.out (.bool false) (.slice ps sp.length cs) (.int .i64 room) (.slice (some ⟨gz, 0, none⟩) l2.length cz) (.slice p1 L2.length c2))
    go_wp2
    obtain ⟨w8, hw8⟩ : ∃ Z, ((((w9.setCell ⟨xb + 2, 0, none⟩ (.bool false)).setCell ⟨xb + 2, 1, none⟩ (.slice ps sp.length cs)).setCell ⟨xb + 2, 2, none⟩ (.int .i64 room)).setCell ⟨xb + 2, 3, none⟩ (.slice (some ⟨gz, 0, none⟩) l2.length cz)).setCell ⟨xb + 2, 4, none⟩ (.slice p1 L2.length c2) = Z := ⟨_, rfl⟩
    rw [hw8] at HZ8 HB8 HR8
    try rw [hw8]
    have g0 := HZ8.out.cell (i := 0) (v := .bool false) rfl
    have g1 := HZ8.out.cell (i := 1) (v := .slice ps sp.length cs) rfl
    have g2 := HZ8.out.cell (i := 2) (v := .int .i64 room) rfl
    have g3 := HZ8.out.cell (i := 3) (v := .slice (some ⟨gz, 0, none⟩) l2.length cz) rfl
    have g4 := HZ8.out.cell (i := 4) (v := .slice p1 L2.length c2) rfl
    refine bodyPost_ret (v := .tuple #[.agg #[.bool false, .slice ps sp.length cs, .int .i64 room, .slice (some ⟨gz, 0, none⟩) l2.length cz, .slice p1 L2.length c2], .int .i64 er]) (by simp [results, Try.results27, go_sem, g0, g1, g2, g3, g4]) rfl ⟨HB8.out, _, _, _, _, rfl, HR8.out⟩
  have x3 := HX2.out.cell (i := 3) (v := .slice (some ⟨gw, 0, none⟩) l.length cw) rfl
  have d1 := HC2.out.cell (i := 1) (v := .int .i64 k) rfl
  have d2 := HC2.out.cell (i := 2) (v := .int .i64 n) rfl
  have hlw : IntKind.i64.wrap ((l.length : Int) - 1) = (l.length : Int) - 1 := wrap_id (by omega) (by omega)
  obtain ⟨q, hq⟩ : ∃ q, inB k 0 ((l.length : Int) - 1) = q := ⟨_, rfl⟩
  have HQQ := Lib.hid hq
  have HIN := Lib.hid (refInB_any k 0 ((l.length : Int) - 1) w2)
  rw [hq] at HIN
  clear hq
  go_upto_region 8 with fail
  go_wp2_with fail
  refine HIN.out.mono ?_
  rintro e w99 ⟨rfl, hw99⟩
  subst w99
  cases q
  · skip
    go_upto_region 9 with fail
    have HV : Hid (R = (7, l, L)) := Lib.hid (by rw [← HR.out]; exact step7 h3 h4 HQQ.out)
    have e0z := HX2.out.cell (i := 0) (v := (.bool false)) rfl
    have e1z := HX2.out.cell (i := 1) (v := (.slice ps sp.length cs)) rfl
    have e2z := HX2.out.cell (i := 2) (v := (.int .i64 room)) rfl
    have e3z := HX2.out.cell (i := 3) (v := (.slice (some ⟨gw, 0, none⟩) l.length cw)) rfl
    have e4z := HX2.out.cell (i := 4) (v := (.slice pb L.length cb)) rfl
    have z0z := HZ2.out.cell (i := 0) (v := (.bool false)) rfl
    have y0z := HZ2.out.fr (i := 0)
    have z1z := HZ2.out.cell (i := 1) (v := (.slice none 0 0)) rfl
    have y1z := HZ2.out.fr (i := 1)
    have z2z := HZ2.out.cell (i := 2) (v := (.int .i64 0)) rfl
    have y2z := HZ2.out.fr (i := 2)
    have z3z := HZ2.out.cell (i := 3) (v := (.slice none 0 0)) rfl
    have y3z := HZ2.out.fr (i := 3)
    have z4z := HZ2.out.cell (i := 4) (v := (.slice none 0 0)) rfl
    have y4z := HZ2.out.fr (i := 4)
    have HZ8 := Lib.hid (blk_set5 HZ2.out (.bool false) (.slice ps sp.length cs) (.int .i64 room) (.slice (some ⟨gw, 0, none⟩) l.length cw) (.slice pb L.length cb) rfl rfl rfl rfl rfl)
    have HB8 := Lib.hid (below_set5 (b := xb + 2) HW2.out (by omega) (.bool false) (.slice ps sp.length cs) (.int .i64 room) (.slice (some ⟨gw, 0, none⟩) l.length cw) (.slice pb L.length cb))
    have HR8 := Lib.hid (HRF2.out.set5 HZ2.out (.bool false) (.slice ps sp.length cs) (.int .i64 room) (.slice (some ⟨gw, 0, none⟩) l.length cw) (.slice pb L.length cb))
    go_wp2
    obtain ⟨w8, hw8⟩ : ∃ Z, ((((w2.setCell ⟨xb + 2, 0, none⟩ (.bool false)).setCell ⟨xb + 2, 1, none⟩ (.slice ps sp.length cs)).setCell ⟨xb + 2, 2, none⟩ (.int .i64 room)).setCell ⟨xb + 2, 3, none⟩ (.slice (some ⟨gw, 0, none⟩) l.length cw)).setCell ⟨xb + 2, 4, none⟩ (.slice pb L.length cb) = Z := ⟨_, rfl⟩
    rw [hw8] at HZ8 HB8 HR8
    try rw [hw8]
    have g0 := HZ8.out.cell (i := 0) (v := (.bool false)) rfl
    have g1 := HZ8.out.cell (i := 1) (v := (.slice ps sp.length cs)) rfl
    have g2 := HZ8.out.cell (i := 2) (v := (.int .i64 room)) rfl
    have g3 := HZ8.out.cell (i := 3) (v := (.slice (some ⟨gw, 0, none⟩) l.length cw)) rfl
    have g4 := HZ8.out.cell (i := 4) (v := (.slice pb L.length cb)) rfl
    refine bodyPost_ret (v := .tuple #[.agg #[.bool false, .slice ps sp.length cs, .int .i64 room, .slice (some ⟨gw, 0, none⟩) l.length cw, .slice pb L.length cb], .int .i64 7]) (by simp [results, Try.results27, go_sem, g0, g1, g2, g3, g4]) rfl ⟨HB8.out, _, _, _, _, by rw [HV.out], by rw [HV.out]; exact HR8.out⟩
  obtain ⟨q3, hq3⟩ : ∃ q, inB n 0 1000000000 = q := ⟨_, rfl⟩
  have HQ3 := Lib.hid hq3
  have HIN3 := Lib.hid (refInB_any n 0 1000000000 w2)
  rw [hq3] at HIN3
  clear hq3 hlw
  go_wp2_with fail
  refine HIN3.out.mono ?_
  rintro e w99 ⟨rfl, hw99⟩
  subst w99
  cases q3
  · skip
    go_upto_region 11 with fail
    have HV : Hid (R = (3, l, L)) := Lib.hid (by rw [← HR.out]; exact step3 h3 h4 HQQ.out HQ3.out)
    have e0z := HX2.out.cell (i := 0) (v := (.bool false)) rfl
    have e1z := HX2.out.cell (i := 1) (v := (.slice ps sp.length cs)) rfl
    have e2z := HX2.out.cell (i := 2) (v := (.int .i64 room)) rfl
    have e3z := HX2.out.cell (i := 3) (v := (.slice (some ⟨gw, 0, none⟩) l.length cw)) rfl
    have e4z := HX2.out.cell (i := 4) (v := (.slice pb L.length cb)) rfl
    have z0z := HZ2.out.cell (i := 0) (v := (.bool false)) rfl
    have y0z := HZ2.out.fr (i := 0)
    have z1z := HZ2.out.cell (i := 1) (v := (.slice none 0 0)) rfl
    have y1z := HZ2.out.fr (i := 1)
    have z2z := HZ2.out.cell (i := 2) (v := (.int .i64 0)) rfl
    have y2z := HZ2.out.fr (i := 2)
    have z3z := HZ2.out.cell (i := 3) (v := (.slice none 0 0)) rfl
    have y3z := HZ2.out.fr (i := 3)
    have z4z := HZ2.out.cell (i := 4) (v := (.slice none 0 0)) rfl
    have y4z := HZ2.out.fr (i := 4)
    have HZ8 := Lib.hid (blk_set5 HZ2.out (.bool false) (.slice ps sp.length cs) (.int .i64 room) (.slice (some ⟨gw, 0, none⟩) l.length cw) (.slice pb L.length cb) rfl rfl rfl rfl rfl)
    have HB8 := Lib.hid (below_set5 (b := xb + 2) HW2.out (by omega) (.bool false) (.slice ps sp.length cs) (.int .i64 room) (.slice (some ⟨gw, 0, none⟩) l.length cw) (.slice pb L.length cb))
    have HR8 := Lib.hid (HRF2.out.set5 HZ2.out (.bool false) (.slice ps sp.length cs) (.int .i64 room) (.slice (some ⟨gw, 0, none⟩) l.length cw) (.slice pb L.length cb))
    go_wp2
    obtain ⟨w8, hw8⟩ : ∃ Z, ((((w2.setCell ⟨xb + 2, 0, none⟩ (.bool false)).setCell ⟨xb + 2, 1, none⟩ (.slice ps sp.length cs)).setCell ⟨xb + 2, 2, none⟩ (.int .i64 room)).setCell ⟨xb + 2, 3, none⟩ (.slice (some ⟨gw, 0, none⟩) l.length cw)).setCell ⟨xb + 2, 4, none⟩ (.slice pb L.length cb) = Z := ⟨_, rfl⟩
    rw [hw8] at HZ8 HB8 HR8
    try rw [hw8]
    have g0 := HZ8.out.cell (i := 0) (v := (.bool false)) rfl
    have g1 := HZ8.out.cell (i := 1) (v := (.slice ps sp.length cs)) rfl
    have g2 := HZ8.out.cell (i := 2) (v := (.int .i64 room)) rfl
    have g3 := HZ8.out.cell (i := 3) (v := (.slice (some ⟨gw, 0, none⟩) l.length cw)) rfl
    have g4 := HZ8.out.cell (i := 4) (v := (.slice pb L.length cb)) rfl
    refine bodyPost_ret (v := .tuple #[.agg #[.bool false, .slice ps sp.length cs, .int .i64 room, .slice (some ⟨gw, 0, none⟩) l.length cw, .slice pb L.length cb], .int .i64 3]) (by simp [results, Try.results27, go_sem, g0, g1, g2, g3, g4]) rfl ⟨HB8.out, _, _, _, _, by rw [HV.out], by rw [HV.out]; exact HR8.out⟩
  have hkd := kind_nat HQQ.out
  obtain ⟨kk, rfl⟩ : ∃ kk : Nat, k = kk := ⟨k.toNat, by omega⟩
  have hkl : kk < l.length := by simpa using hkd.1
  have hk0 : (0 : Int) ≤ (kk : Int) := by omega
  have hk1 : (kk : Int) < (l.length : Int) := by omega
  clear hkd HIN HIN3
  obtain ⟨s0, hs0⟩ : ∃ s0, l[kk]?.getD St.zero = s0 := ⟨_, rfl⟩
  have hok := (HINV.out.good kk hkl)
  rw [hs0] at hok
  obtain ⟨y0, y1, y2, y3, y4, y5, y6, y7⟩ := s0
  have HS0 := Lib.hid hs0
  have HOK := Lib.hid hok
  clear hs0 hok
  have HWQ := HRF2.out.war
  unfold WarR at HWQ
  have q0 : w2.cell? ⟨gw, kk * 7, none⟩ = some (.int .i64 y0) := (World.ownsRow.cellAt HWQ (kk * 7 + 0) (by omega)).trans ((wl_get l kk 0 hkl (by omega)).trans (by rw [HS0.out]; rfl))
  have q1 : w2.cell? ⟨gw, kk * 7 + 1, none⟩ = some (.int .i64 y1) := (World.ownsRow.cellAt HWQ (kk * 7 + 1) (by omega)).trans ((wl_get l kk 1 hkl (by omega)).trans (by rw [HS0.out]; rfl))
  have q2 : w2.cell? ⟨gw, kk * 7 + 2, none⟩ = some (.int .i64 y2) := (World.ownsRow.cellAt HWQ (kk * 7 + 2) (by omega)).trans ((wl_get l kk 2 hkl (by omega)).trans (by rw [HS0.out]; rfl))
  have q3 : w2.cell? ⟨gw, kk * 7 + 3, none⟩ = some (.int .i64 y3) := (World.ownsRow.cellAt HWQ (kk * 7 + 3) (by omega)).trans ((wl_get l kk 3 hkl (by omega)).trans (by rw [HS0.out]; rfl))
  have q4 : w2.cell? ⟨gw, kk * 7 + 4, none⟩ = some (.int .i64 y4) := (World.ownsRow.cellAt HWQ (kk * 7 + 4) (by omega)).trans ((wl_get l kk 4 hkl (by omega)).trans (by rw [HS0.out]; rfl))
  have q5 : w2.cell? ⟨gw, kk * 7 + 5, none⟩ = some (.int .i64 y5) := (World.ownsRow.cellAt HWQ (kk * 7 + 5) (by omega)).trans ((wl_get l kk 5 hkl (by omega)).trans (by rw [HS0.out]; rfl))
  have q6 : w2.cell? ⟨gw, kk * 7 + 6, none⟩ = some (.int .i64 y6) := (World.ownsRow.cellAt HWQ (kk * 7 + 6) (by omega)).trans ((wl_get l kk 6 hkl (by omega)).trans (by rw [HS0.out]; rfl))
  obtain ⟨ub, hub⟩ : ∃ ub, w2.heap.size = ub := ⟨_, rfl⟩
  have BU := (Below.refl w2.heap.size w2).alloc (Nat.le_refl _) (.cells #[.int .i64 y0, .int .i64 y1, .int .i64 y2, .int .i64 y3, .int .i64 y4, .int .i64 y5, .int .i64 y6] 63)
  have HUu := Lib.hid (Blk.newI w2 ub #[.int .i64 y0, .int .i64 y1, .int .i64 y2, .int .i64 y3, .int .i64 y4, .int .i64 y5, .int .i64 y6] 63 hub)
  have HBu := Lib.hid BU
  have HXu := Lib.hid (HX2.out.past (BU))
  have HCu := Lib.hid (HC2.out.past (BU))
  have HZu := Lib.hid (HZ2.out.past (BU))
  have HRFu := Lib.hid (HRF2.out.past (BU))
  have HWu := Lib.hid (HW2.out.trans ((BU).mono HW2.out.size))
  have hxu : xb + 2 < ub := by have := HZ2.out.lt; omega
  clear BU HWQ
  go_upto_region 13 with fail
  obtain ⟨wu, hwwu⟩ : ∃ Z, w2.alloc (.cells #[.int .i64 y0, .int .i64 y1, .int .i64 y2, .int .i64 y3, .int .i64 y4, .int .i64 y5, .int .i64 y6] 63) = Z := ⟨_, rfl⟩
  rw [hwwu] at HUu HBu HXu HCu HZu HRFu HWu
  try rw [hwwu]
  clear hwwu
  clear q0 q1 q2 q3 q4 q5 q6 x0 x3 d0 d1 d2
  have d0 := HCu.out.cell (i := 0) (v := .int .i64 m) rfl
  have hn3 := inB_parts HQ3.out
  by_cases h1 : m = 1
  · subst m
    have hok := HOK.out
    simp only [St.Good, St.Ok] at hok
    have hoks := HOK.out.1
    have w1 : IntKind.i64.wrap (y0 + y1 + y2 + y3 + y4 + y5 + n) = y0 + y1 + y2 + y3 + y4 + y5 + n := wrap_id (by simp only [St.all] at hok; omega) (by simp only [St.all] at hok; omega)
    have w3v : IntKind.i64.wrap (y0 + n) = y0 + n := wrap_id (by omega) (by omega)
    clear hok
    go_upto_region 18 with fail
    have HUv : Hid (Blk wu.drew ub #[.int .i64 y0, .int .i64 y1, .int .i64 y2, .int .i64 y3, .int .i64 y4, .int .i64 y5, .int .i64 y6] 63) := Lib.hid HUu.out.drew
    have HBv : Hid (Below w2.heap.size w2 wu.drew) := Lib.hid HBu.out.drew
    refine region_plain (fun W => W.cell? ⟨ub, 0, none⟩ = some (.int .i64 y0) ∧ W.cell? ⟨ub, 1, none⟩ = some (.int .i64 y1) ∧ W.cell? ⟨ub, 2, none⟩ = some (.int .i64 y2) ∧ W.cell? ⟨ub, 3, none⟩ = some (.int .i64 y3) ∧ W.cell? ⟨ub, 4, none⟩ = some (.int .i64 y4) ∧ W.cell? ⟨ub, 5, none⟩ = some (.int .i64 y5) ∧ W.cell? ⟨ub, 6, none⟩ = some (.int .i64 y6) ∧ W.cell? ⟨xb + 1, 2, none⟩ = some (.int .i64 n)) 6 #[false, false, false, false, false, false] rfl rfl (by kernel_rfl) ?_
    obtain ⟨wv, hwwv⟩ : ∃ Z, wu.drew = Z := ⟨_, rfl⟩
    rw [hwwv] at HUv HBv
    try rw [hwwv]
    clear hwwv
    have hSS : wv.cell? ⟨ub, 0, none⟩ = some (.int .i64 y0) ∧ wv.cell? ⟨ub, 1, none⟩ = some (.int .i64 y1) ∧ wv.cell? ⟨ub, 2, none⟩ = some (.int .i64 y2) ∧ wv.cell? ⟨ub, 3, none⟩ = some (.int .i64 y3) ∧ wv.cell? ⟨ub, 4, none⟩ = some (.int .i64 y4) ∧ wv.cell? ⟨ub, 5, none⟩ = some (.int .i64 y5) ∧ wv.cell? ⟨ub, 6, none⟩ = some (.int .i64 y6) ∧ wv.cell? ⟨xb + 1, 2, none⟩ = some (.int .i64 n) := ⟨HUv.out.cell (i := 0) rfl, HUv.out.cell (i := 1) rfl, HUv.out.cell (i := 2) rfl, HUv.out.cell (i := 3) rfl, HUv.out.cell (i := 4) rfl, HUv.out.cell (i := 5) rfl, HUv.out.cell (i := 6) rfl, (HC2.out.past HBv.out).cell (i := 2) rfl⟩
    refine take_first (i := 0) (v := ?_) rfl (by kernel_rfl) (by kernel_rfl) (by kernel_rfl) (fun _ _ _ h => h) (by rfl) (by assumption) ?_ ?_
    rotate_left 1
    · intro X hSX
      (try dsimp only at hSX)
      first | (go_simp; done) | (go_simp; with_reducible rfl)
    try simp only [Act.put, List.setIfInBounds_toArray, List.set_cons_zero, List.set_cons_succ]
    refine take_first (i := 2) (v := ?_) rfl (by kernel_rfl) (by kernel_rfl) (by kernel_rfl) (fun _ _ _ h => h) (by rfl) (by assumption) ?_ ?_
    rotate_left 1
    · intro X hSX
      (try dsimp only at hSX)
      first | (go_simp; done) | (go_simp; with_reducible rfl)
    try simp only [Act.put, List.setIfInBounds_toArray, List.set_cons_zero, List.set_cons_succ]
    refine take_first (i := 3) (v := ?_) rfl (by kernel_rfl) (by kernel_rfl) (by kernel_rfl) (fun _ _ _ h => h) (by rfl) (by assumption) ?_ ?_
    rotate_left 1
    · intro X hSX
      (try dsimp only at hSX)
      first | (go_simp; done) | (go_simp; with_reducible rfl)
    try simp only [Act.put, List.setIfInBounds_toArray, List.set_cons_zero, List.set_cons_succ]
    have hall := refAll_any ⟨y0, y1, y2, y3, y4, y5, y6, y7⟩ hoks wv
    dsimp only [St.wares, St.all] at hall
    have HALL := Lib.hid hall
    clear hall
    have HUa : Hid (Blk (wv.alloc (.cells #[.int .i64 y0, .int .i64 y1, .int .i64 y2, .int .i64 y3, .int .i64 y4, .int .i64 y5, .int .i64 y6] 63)) ub #[.int .i64 y0, .int .i64 y1, .int .i64 y2, .int .i64 y3, .int .i64 y4, .int .i64 y5, .int .i64 y6] 63) := Lib.hid (HUv.out.alloc _)
    have HBa : Hid (Below w2.heap.size w2 (wv.alloc (.cells #[.int .i64 y0, .int .i64 y1, .int .i64 y2, .int .i64 y3, .int .i64 y4, .int .i64 y5, .int .i64 y6] 63))) := Lib.hid (HBv.out.alloc HBv.out.size _)
    refine only_one (i := 1) (by kernel_rfl) rfl (by rfl) ?_
    intro K hK
    go_simp
    refine HALL.out.mono ?_
    rintro e w99 ⟨rfl, hw99⟩
    subst w99
    obtain ⟨wa, hwwa⟩ : ∃ Z, wv.alloc (.cells #[.int .i64 y0, .int .i64 y1, .int .i64 y2, .int .i64 y3, .int .i64 y4, .int .i64 y5, .int .i64 y6] 63) = Z := ⟨_, rfl⟩
    rw [hwwa] at HUa HBa
    try rw [hwwa]
    clear hwwa
    have HXa := Lib.hid (HX2.out.past (HBa.out))
    have HCa := Lib.hid (HC2.out.past (HBa.out))
    have HZa := Lib.hid (HZ2.out.past (HBa.out))
    have HRFa := Lib.hid (HRF2.out.past (HBa.out))
    have HWa := Lib.hid (HW2.out.trans ((HBa.out).mono HW2.out.size))
    clear hSS
    have hSS : wa.cell? ⟨ub, 0, none⟩ = some (.int .i64 y0) ∧ wa.cell? ⟨ub, 1, none⟩ = some (.int .i64 y1) ∧ wa.cell? ⟨ub, 2, none⟩ = some (.int .i64 y2) ∧ wa.cell? ⟨ub, 3, none⟩ = some (.int .i64 y3) ∧ wa.cell? ⟨ub, 4, none⟩ = some (.int .i64 y4) ∧ wa.cell? ⟨ub, 5, none⟩ = some (.int .i64 y5) ∧ wa.cell? ⟨ub, 6, none⟩ = some (.int .i64 y6) ∧ wa.cell? ⟨xb + 1, 2, none⟩ = some (.int .i64 n) := ⟨HUa.out.cell (i := 0) rfl, HUa.out.cell (i := 1) rfl, HUa.out.cell (i := 2) rfl, HUa.out.cell (i := 3) rfl, HUa.out.cell (i := 4) rfl, HUa.out.cell (i := 5) rfl, HUa.out.cell (i := 6) rfl, HCa.out.cell (i := 2) rfl⟩
    refine hK.out _ _ hSS ?_
    clear hK K
    try simp only [Act.put, List.setIfInBounds_toArray, List.set_cons_zero, List.set_cons_succ]
    refine take_first (i := 4) (v := ?_) rfl (by kernel_rfl) (by kernel_rfl) (by kernel_rfl) (fun _ _ _ h => h) (by rfl) (by assumption) ?_ ?_
    rotate_left 1
    · intro X hSX
      (try dsimp only at hSX)
      first | (go_simp; done) | (go_simp; with_reducible rfl)
    try simp only [Act.put, List.setIfInBounds_toArray, List.set_cons_zero, List.set_cons_succ]
    refine take_first (i := 5) (v := ?_) rfl (by kernel_rfl) (by kernel_rfl) (by kernel_rfl) (fun _ _ _ h => h) (by rfl) (by assumption) ?_ ?_
    rotate_left 1
    · intro X hSX
      (try dsimp only at hSX)
      first | (go_simp; done) | (go_simp; with_reducible rfl)
    try simp only [Act.put, List.setIfInBounds_toArray, List.set_cons_zero, List.set_cons_succ]
    refine wpAnyH_done (by kernel_rfl) ?_ _
    clear hSS HALL
    by_cases hbig : 1000000000 < y0 + y1 + y2 + y3 + y4 + y5 + n
    · skip
      go_upto_region 19 with fail
      have HV : Hid (R = (8, l, L)) := Lib.hid (by
        have hc : chF (mouldF n ⟨y0, y1, y2, y3, y4, y5, y6, y7⟩) = (St.zero, 8) := by rw [mould_few HOK.out (inB_parts HQ3.out).1]; simp [hbig]
        have h := coF_of (n := n) (g := mouldF n) (s' := St.zero) (e := 8) HQQ.out HQ3.out (by rw [HS0.out]; exact hc)
        rw [← HR.out]
        have e : stepF room l L 1 (kk : Int) n b bs br = ((coF l (kk : Int) n (mouldF n)).1, (coF l (kk : Int) n (mouldF n)).2, L) := rfl
        rw [e, h]
        simp)
      have e0z := HXa.out.cell (i := 0) (v := (.bool false)) rfl
      have e1z := HXa.out.cell (i := 1) (v := (.slice ps sp.length cs)) rfl
      have e2z := HXa.out.cell (i := 2) (v := (.int .i64 room)) rfl
      have e3z := HXa.out.cell (i := 3) (v := (.slice (some ⟨gw, 0, none⟩) l.length cw)) rfl
      have e4z := HXa.out.cell (i := 4) (v := (.slice pb L.length cb)) rfl
      have z0z := HZa.out.cell (i := 0) (v := (.bool false)) rfl
      have y0z := HZa.out.fr (i := 0)
      have z1z := HZa.out.cell (i := 1) (v := (.slice none 0 0)) rfl
      have y1z := HZa.out.fr (i := 1)
      have z2z := HZa.out.cell (i := 2) (v := (.int .i64 0)) rfl
      have y2z := HZa.out.fr (i := 2)
      have z3z := HZa.out.cell (i := 3) (v := (.slice none 0 0)) rfl
      have y3z := HZa.out.fr (i := 3)
      have z4z := HZa.out.cell (i := 4) (v := (.slice none 0 0)) rfl
      have y4z := HZa.out.fr (i := 4)
      have HZ8 := Lib.hid (blk_set5 HZa.out (.bool false) (.slice ps sp.length cs) (.int .i64 room) (.slice (some ⟨gw, 0, none⟩) l.length cw) (.slice pb L.length cb) rfl rfl rfl rfl rfl)
      have HB8 := Lib.hid (below_set5 (b := xb + 2) HWa.out (by omega) (.bool false) (.slice ps sp.length cs) (.int .i64 room) (.slice (some ⟨gw, 0, none⟩) l.length cw) (.slice pb L.length cb))
      have HR8 := Lib.hid (HRFa.out.set5 HZa.out (.bool false) (.slice ps sp.length cs) (.int .i64 room) (.slice (some ⟨gw, 0, none⟩) l.length cw) (.slice pb L.length cb))
      go_wp2
      obtain ⟨w8, hw8⟩ : ∃ Z, ((((wa.setCell ⟨xb + 2, 0, none⟩ (.bool false)).setCell ⟨xb + 2, 1, none⟩ (.slice ps sp.length cs)).setCell ⟨xb + 2, 2, none⟩ (.int .i64 room)).setCell ⟨xb + 2, 3, none⟩ (.slice (some ⟨gw, 0, none⟩) l.length cw)).setCell ⟨xb + 2, 4, none⟩ (.slice pb L.length cb) = Z := ⟨_, rfl⟩
      rw [hw8] at HZ8 HB8 HR8
      try rw [hw8]
      have g0 := HZ8.out.cell (i := 0) (v := (.bool false)) rfl
      have g1 := HZ8.out.cell (i := 1) (v := (.slice ps sp.length cs)) rfl
      have g2 := HZ8.out.cell (i := 2) (v := (.int .i64 room)) rfl
      have g3 := HZ8.out.cell (i := 3) (v := (.slice (some ⟨gw, 0, none⟩) l.length cw)) rfl
      have g4 := HZ8.out.cell (i := 4) (v := (.slice pb L.length cb)) rfl
      refine bodyPost_ret (v := .tuple #[.agg #[.bool false, .slice ps sp.length cs, .int .i64 room, .slice (some ⟨gw, 0, none⟩) l.length cw, .slice pb L.length cb], .int .i64 8]) (by simp [results, Try.results27, go_sem, g0, g1, g2, g3, g4]) rfl ⟨HB8.out, _, _, _, _, by rw [HV.out], by rw [HV.out]; exact HR8.out⟩
    have HV : Hid (R = (0, l.set kk ⟨y0 + n, y1, y2, y3, y4, y5, y6, y7⟩, L)) := Lib.hid (by
      have hc : chF (mouldF n ⟨y0, y1, y2, y3, y4, y5, y6, y7⟩) = (⟨y0 + n, y1, y2, y3, y4, y5, y6, y7⟩, 0) := by rw [mould_few HOK.out (inB_parts HQ3.out).1]; simp [hbig]
      have h := coF_of (n := n) (g := mouldF n) (s' := ⟨y0 + n, y1, y2, y3, y4, y5, y6, y7⟩) (e := 0) HQQ.out HQ3.out (by rw [HS0.out]; exact hc)
      rw [← HR.out]
      have e : stepF room l L 1 (kk : Int) n b bs br = ((coF l (kk : Int) n (mouldF n)).1, (coF l (kk : Int) n (mouldF n)).2, L) := rfl
      rw [e, h]
      simp)
    go_upto_region 20 with fail
    clear hbig w1
    have u0 := HUa.out.cell (i := 0) (v := .int .i64 y0) rfl
    have v0 := HUa.out.fr (i := 0)
    have d2 := HCa.out.cell (i := 2) (v := .int .i64 n) rfl
    have HUb : Hid (Blk (wa.setCell ⟨ub, 0, none⟩ (.int .i64 (y0 + n))) ub #[.int .i64 (y0 + n), .int .i64 y1, .int .i64 y2, .int .i64 y3, .int .i64 y4, .int .i64 y5, .int .i64 y6] 63) := Lib.hid (by simpa using HUa.out.set 0 (by simp) (.int .i64 (y0 + n)) rfl)
    have HBb := Lib.hid (HBa.out.setCell (p := ⟨ub, 0, none⟩) (Nat.le_of_eq hub) (.int .i64 (y0 + n)))
    have HXb := Lib.hid (HX2.out.past (HBb.out))
    have HCb := Lib.hid (HC2.out.past (HBb.out))
    have HZb := Lib.hid (HZ2.out.past (HBb.out))
    have HRFb := Lib.hid (HRF2.out.past (HBb.out))
    have HWb := Lib.hid (HW2.out.trans ((HBb.out).mono HW2.out.size))
    go_upto_region 35 with fail
    obtain ⟨wb, hwwb⟩ : ∃ Z, wa.setCell ⟨ub, 0, none⟩ (.int .i64 (y0 + n)) = Z := ⟨_, rfl⟩
    rw [hwwb] at HUb HBb HXb HCb HZb HRFb HWb
    try rw [hwwb]
    clear hwwb
    clear u0 v0 d2 w3v
    have x0 := HXb.out.cell (i := 0) (v := .bool false) rfl
    have x1 := HXb.out.cell (i := 1) (v := .slice ps sp.length cs) rfl
    have x2 := HXb.out.cell (i := 2) (v := .int .i64 room) rfl
    have x3 := HXb.out.cell (i := 3) (v := .slice (some ⟨gw, 0, none⟩) l.length cw) rfl
    have x4 := HXb.out.cell (i := 4) (v := .slice pb L.length cb) rfl
    have g0 := HUb.out.cell (i := 0) (v := .int .i64 (y0 + n)) rfl
    have g1 := HUb.out.cell (i := 1) (v := .int .i64 y1) rfl
    have g2 := HUb.out.cell (i := 2) (v := .int .i64 y2) rfl
    have g3 := HUb.out.cell (i := 3) (v := .int .i64 y3) rfl
    have g4 := HUb.out.cell (i := 4) (v := .int .i64 y4) rfl
    have g5 := HUb.out.cell (i := 5) (v := .int .i64 y5) rfl
    have g6 := HUb.out.cell (i := 6) (v := .int .i64 y6) rfl
    have d1 := HCb.out.cell (i := 1) (v := .int .i64 (kk : Int)) rfl
    have HWI := Lib.hid (with_any false ps pb sp.length cs L.length cb room base gw cw l kk (y0 + n) y1 y2 y3 y4 y5 y6 y7 wb HRFb.out.war hkl hl)
    go_wp2_with fail
    refine HWI.out.mono ?_
    rintro e w9 ⟨hb9', vw, rfl, hwar⟩
    obtain ⟨gk2, ck2, rfl⟩ : ∃ gk2 ck2, vw = .slice (some ⟨gk2, 0, none⟩) l.length ck2 := by
      unfold WarR at hwar
      rw [List.length_set] at hwar
      rcases hwar.2 with ⟨_, h⟩ | ⟨gn, cn, cur, rfl, _⟩
      · omega
      · exact ⟨gn, cn, rfl⟩
    have HZ9 := Lib.hid (HZb.out.past hb9')
    have HW9 := Lib.hid (HWb.out.trans (hb9'.mono HWb.out.size))
    have HRF9 := Lib.hid (HRFb.out.past hb9')
    have hle : base ≤ wb.heap.size := Nat.le_trans hbase HWb.out.size
    have HR9 : Hid (RefAt w9 base sp (l.set kk ⟨(y0 + n), y1, y2, y3, y4, y5, y6, y7⟩) L ps cs gk2 ck2 pb cb) := Lib.hid ⟨HRF9.out.sp, by rw [List.length_set]; exact own_low hwar hle, HRF9.out.bat⟩
    clear hwar hb9' hle HWI x0 x1 x2 x3 x4 g0 g1 g2 g3 g4 g5 g6 d1
    have z0 := HZ9.out.cell (i := 0) (v := .bool false) rfl
    have z1 := HZ9.out.cell (i := 1) (v := .slice none 0 0) rfl
    have z2 := HZ9.out.cell (i := 2) (v := .int .i64 0) rfl
    have z3 := HZ9.out.cell (i := 3) (v := .slice none 0 0) rfl
    have z4 := HZ9.out.cell (i := 4) (v := .slice none 0 0) rfl
    have y0z := HZ9.out.fr (i := 0)
    have y1z := HZ9.out.fr (i := 1)
    have y2z := HZ9.out.fr (i := 2)
    have y3z := HZ9.out.fr (i := 3)
    have y4z := HZ9.out.fr (i := 4)
    have HZ8 := Lib.hid (blk_set5 HZ9.out (.bool false) (.slice ps sp.length cs) (.int .i64 room) (.slice (some ⟨gk2, 0, none⟩) l.length ck2) (.slice pb L.length cb) rfl rfl rfl rfl rfl)
    have HB8 := Lib.hid (below_set5 (b := xb + 2) HW9.out (by omega) (.bool false) (.slice ps sp.length cs) (.int .i64 room) (.slice (some ⟨gk2, 0, none⟩) l.length ck2) (.slice pb L.length cb))
    have HR8 := Lib.hid (HR9.out.set5 HZ9.out (.bool false) (.slice ps sp.length cs) (.int .i64 room) (.slice (some ⟨gk2, 0, none⟩) l.length ck2) (.slice pb L.length cb))
    go_wp2
    obtain ⟨w8, hw8⟩ : ∃ Z, ((((w9.setCell ⟨xb + 2, 0, none⟩ (.bool false)).setCell ⟨xb + 2, 1, none⟩ (.slice ps sp.length cs)).setCell ⟨xb + 2, 2, none⟩ (.int .i64 room)).setCell ⟨xb + 2, 3, none⟩ (.slice (some ⟨gk2, 0, none⟩) l.length ck2)).setCell ⟨xb + 2, 4, none⟩ (.slice pb L.length cb) = Z := ⟨_, rfl⟩
    rw [hw8] at HZ8 HB8 HR8
    try rw [hw8]
    have g0 := HZ8.out.cell (i := 0) (v := .bool false) rfl
    have g1 := HZ8.out.cell (i := 1) (v := .slice ps sp.length cs) rfl
    have g2 := HZ8.out.cell (i := 2) (v := .int .i64 room) rfl
    have g3 := HZ8.out.cell (i := 3) (v := .slice (some ⟨gk2, 0, none⟩) l.length ck2) rfl
    have g4 := HZ8.out.cell (i := 4) (v := .slice pb L.length cb) rfl
    refine bodyPost_ret (v := .tuple #[.agg #[.bool false, .slice ps sp.length cs, .int .i64 room, .slice (some ⟨gk2, 0, none⟩) l.length ck2, .slice pb L.length cb], .int .i64 0]) (by simp [results, Try.results27, go_sem, g0, g1, g2, g3, g4]) rfl ⟨HB8.out, gk2, ck2, pb, cb, by rw [HV.out]; simp, by rw [HV.out]; exact HR8.out⟩
  by_cases h2 : m = 2
  · subst m
    have d2 := HCu.out.cell (i := 2) (v := .int .i64 n) rfl
    have d3 := HCu.out.cell (i := 3) (v := .int .i64 b) rfl
    obtain ⟨q5, hq5⟩ : ∃ q, inB b 0 n = q := ⟨_, rfl⟩
    have HQ5 := Lib.hid hq5
    have HIN5 := Lib.hid (refInB_any b 0 n wu)
    rw [hq5] at HIN5
    clear hq5
    go_upto_region 22 with fail
    go_wp2_with fail
    refine HIN5.out.mono ?_
    rintro e w99 ⟨rfl, hw99⟩
    subst w99
    cases q5
    · skip
      go_upto_region 23 with fail
      have HV : Hid (R = (2, l, L)) := Lib.hid (by
        have hc : chF (dryF n b ⟨y0, y1, y2, y3, y4, y5, y6, y7⟩) = (St.zero, 2) := by rw [dry_few HOK.out (inB_parts HQ3.out).1]; simp [HQ5.out]
        have h := coF_of (n := n) (g := dryF n b) (s' := St.zero) (e := 2) HQQ.out HQ3.out (by rw [HS0.out]; exact hc)
        rw [← HR.out]
        have e : stepF room l L 2 (kk : Int) n b bs br = ((coF l (kk : Int) n (dryF n b)).1, (coF l (kk : Int) n (dryF n b)).2, L) := rfl
        rw [e, h]
        simp)
      have e0z := HXu.out.cell (i := 0) (v := (.bool false)) rfl
      have e1z := HXu.out.cell (i := 1) (v := (.slice ps sp.length cs)) rfl
      have e2z := HXu.out.cell (i := 2) (v := (.int .i64 room)) rfl
      have e3z := HXu.out.cell (i := 3) (v := (.slice (some ⟨gw, 0, none⟩) l.length cw)) rfl
      have e4z := HXu.out.cell (i := 4) (v := (.slice pb L.length cb)) rfl
      have z0z := HZu.out.cell (i := 0) (v := (.bool false)) rfl
      have y0z := HZu.out.fr (i := 0)
      have z1z := HZu.out.cell (i := 1) (v := (.slice none 0 0)) rfl
      have y1z := HZu.out.fr (i := 1)
      have z2z := HZu.out.cell (i := 2) (v := (.int .i64 0)) rfl
      have y2z := HZu.out.fr (i := 2)
      have z3z := HZu.out.cell (i := 3) (v := (.slice none 0 0)) rfl
      have y3z := HZu.out.fr (i := 3)
      have z4z := HZu.out.cell (i := 4) (v := (.slice none 0 0)) rfl
      have y4z := HZu.out.fr (i := 4)
      have HZ8 := Lib.hid (blk_set5 HZu.out (.bool false) (.slice ps sp.length cs) (.int .i64 room) (.slice (some ⟨gw, 0, none⟩) l.length cw) (.slice pb L.length cb) rfl rfl rfl rfl rfl)
      have HB8 := Lib.hid (below_set5 (b := xb + 2) HWu.out (by omega) (.bool false) (.slice ps sp.length cs) (.int .i64 room) (.slice (some ⟨gw, 0, none⟩) l.length cw) (.slice pb L.length cb))
      have HR8 := Lib.hid (HRFu.out.set5 HZu.out (.bool false) (.slice ps sp.length cs) (.int .i64 room) (.slice (some ⟨gw, 0, none⟩) l.length cw) (.slice pb L.length cb))
      go_wp2
      obtain ⟨w8, hw8⟩ : ∃ Z, ((((wu.setCell ⟨xb + 2, 0, none⟩ (.bool false)).setCell ⟨xb + 2, 1, none⟩ (.slice ps sp.length cs)).setCell ⟨xb + 2, 2, none⟩ (.int .i64 room)).setCell ⟨xb + 2, 3, none⟩ (.slice (some ⟨gw, 0, none⟩) l.length cw)).setCell ⟨xb + 2, 4, none⟩ (.slice pb L.length cb) = Z := ⟨_, rfl⟩
      rw [hw8] at HZ8 HB8 HR8
      try rw [hw8]
      have g0 := HZ8.out.cell (i := 0) (v := (.bool false)) rfl
      have g1 := HZ8.out.cell (i := 1) (v := (.slice ps sp.length cs)) rfl
      have g2 := HZ8.out.cell (i := 2) (v := (.int .i64 room)) rfl
      have g3 := HZ8.out.cell (i := 3) (v := (.slice (some ⟨gw, 0, none⟩) l.length cw)) rfl
      have g4 := HZ8.out.cell (i := 4) (v := (.slice pb L.length cb)) rfl
      refine bodyPost_ret (v := .tuple #[.agg #[.bool false, .slice ps sp.length cs, .int .i64 room, .slice (some ⟨gw, 0, none⟩) l.length cw, .slice pb L.length cb], .int .i64 2]) (by simp [results, Try.results27, go_sem, g0, g1, g2, g3, g4]) rfl ⟨HB8.out, _, _, _, _, by rw [HV.out], by rw [HV.out]; exact HR8.out⟩
    have u0 := HUu.out.cell (i := 0) (v := .int .i64 y0) rfl
    by_cases hlow : y0 < n
    · skip
      go_upto_region 25 with fail
      have HV : Hid (R = (9, l, L)) := Lib.hid (by
        have hc : chF (dryF n b ⟨y0, y1, y2, y3, y4, y5, y6, y7⟩) = (St.zero, 9) := by rw [dry_few HOK.out (inB_parts HQ3.out).1]; simp [HQ5.out, hlow]
        have h := coF_of (n := n) (g := dryF n b) (s' := St.zero) (e := 9) HQQ.out HQ3.out (by rw [HS0.out]; exact hc)
        rw [← HR.out]
        have e : stepF room l L 2 (kk : Int) n b bs br = ((coF l (kk : Int) n (dryF n b)).1, (coF l (kk : Int) n (dryF n b)).2, L) := rfl
        rw [e, h]
        simp)
      have e0z := HXu.out.cell (i := 0) (v := (.bool false)) rfl
      have e1z := HXu.out.cell (i := 1) (v := (.slice ps sp.length cs)) rfl
      have e2z := HXu.out.cell (i := 2) (v := (.int .i64 room)) rfl
      have e3z := HXu.out.cell (i := 3) (v := (.slice (some ⟨gw, 0, none⟩) l.length cw)) rfl
      have e4z := HXu.out.cell (i := 4) (v := (.slice pb L.length cb)) rfl
      have z0z := HZu.out.cell (i := 0) (v := (.bool false)) rfl
      have y0z := HZu.out.fr (i := 0)
      have z1z := HZu.out.cell (i := 1) (v := (.slice none 0 0)) rfl
      have y1z := HZu.out.fr (i := 1)
      have z2z := HZu.out.cell (i := 2) (v := (.int .i64 0)) rfl
      have y2z := HZu.out.fr (i := 2)
      have z3z := HZu.out.cell (i := 3) (v := (.slice none 0 0)) rfl
      have y3z := HZu.out.fr (i := 3)
      have z4z := HZu.out.cell (i := 4) (v := (.slice none 0 0)) rfl
      have y4z := HZu.out.fr (i := 4)
      have HZ8 := Lib.hid (blk_set5 HZu.out (.bool false) (.slice ps sp.length cs) (.int .i64 room) (.slice (some ⟨gw, 0, none⟩) l.length cw) (.slice pb L.length cb) rfl rfl rfl rfl rfl)
      have HB8 := Lib.hid (below_set5 (b := xb + 2) HWu.out (by omega) (.bool false) (.slice ps sp.length cs) (.int .i64 room) (.slice (some ⟨gw, 0, none⟩) l.length cw) (.slice pb L.length cb))
      have HR8 := Lib.hid (HRFu.out.set5 HZu.out (.bool false) (.slice ps sp.length cs) (.int .i64 room) (.slice (some ⟨gw, 0, none⟩) l.length cw) (.slice pb L.length cb))
      go_wp2
      obtain ⟨w8, hw8⟩ : ∃ Z, ((((wu.setCell ⟨xb + 2, 0, none⟩ (.bool false)).setCell ⟨xb + 2, 1, none⟩ (.slice ps sp.length cs)).setCell ⟨xb + 2, 2, none⟩ (.int .i64 room)).setCell ⟨xb + 2, 3, none⟩ (.slice (some ⟨gw, 0, none⟩) l.length cw)).setCell ⟨xb + 2, 4, none⟩ (.slice pb L.length cb) = Z := ⟨_, rfl⟩
      rw [hw8] at HZ8 HB8 HR8
      try rw [hw8]
      have g0 := HZ8.out.cell (i := 0) (v := (.bool false)) rfl
      have g1 := HZ8.out.cell (i := 1) (v := (.slice ps sp.length cs)) rfl
      have g2 := HZ8.out.cell (i := 2) (v := (.int .i64 room)) rfl
      have g3 := HZ8.out.cell (i := 3) (v := (.slice (some ⟨gw, 0, none⟩) l.length cw)) rfl
      have g4 := HZ8.out.cell (i := 4) (v := (.slice pb L.length cb)) rfl
      refine bodyPost_ret (v := .tuple #[.agg #[.bool false, .slice ps sp.length cs, .int .i64 room, .slice (some ⟨gw, 0, none⟩) l.length cw, .slice pb L.length cb], .int .i64 9]) (by simp [results, Try.results27, go_sem, g0, g1, g2, g3, g4]) rfl ⟨HB8.out, _, _, _, _, by rw [HV.out], by rw [HV.out]; exact HR8.out⟩
    have HV : Hid (R = (0, l.set kk ⟨y0 - n, y1 + n - b, y2, y3, y4, y5 + b, y6, y7⟩, L)) := Lib.hid (by
      have hc : chF (dryF n b ⟨y0, y1, y2, y3, y4, y5, y6, y7⟩) = (⟨y0 - n, y1 + n - b, y2, y3, y4, y5 + b, y6, y7⟩, 0) := by rw [dry_few HOK.out (inB_parts HQ3.out).1]; simp [HQ5.out, hlow]
      have h := coF_of (n := n) (g := dryF n b) (s' := ⟨y0 - n, y1 + n - b, y2, y3, y4, y5 + b, y6, y7⟩) (e := 0) HQQ.out HQ3.out (by rw [HS0.out]; exact hc)
      rw [← HR.out]
      have e : stepF room l L 2 (kk : Int) n b bs br = ((coF l (kk : Int) n (dryF n b)).1, (coF l (kk : Int) n (dryF n b)).2, L) := rfl
      rw [e, h]
      simp)
    have hb5 := inB_parts HQ5.out
    have hok := HOK.out
    simp only [St.Good, St.Ok] at hok
    have w1 : IntKind.i64.wrap (y0 - n) = y0 - n := wrap_id (by omega) (by omega)
    have w3v : IntKind.i64.wrap (y1 + n) = y1 + n := wrap_id (by omega) (by omega)
    have w4v : IntKind.i64.wrap (y1 + n - b) = y1 + n - b := wrap_id (by omega) (by omega)
    have w5v : IntKind.i64.wrap (y5 + b) = y5 + b := wrap_id (by omega) (by omega)
    clear hok
    go_upto_region 26 with fail
    clear u0 d2 d3 hlow
    have HUz : Hid (Blk wu.drew ub #[.int .i64 y0, .int .i64 y1, .int .i64 y2, .int .i64 y3, .int .i64 y4, .int .i64 y5, .int .i64 y6] 63) := Lib.hid HUu.out.drew
    have HBz : Hid (Below w2.heap.size w2 wu.drew) := Lib.hid HBu.out.drew
    have hdz := And.intro ((HC2.out.past HBz.out).cell (i := 2) (v := .int .i64 n) rfl) ((HC2.out.past HBz.out).cell (i := 3) (v := .int .i64 b) rfl)
    refine region_T [(19, ⟨ub, 0, none⟩, .int .i64 y0), (21, ⟨ub, 1, none⟩, .int .i64 y1), (23, ⟨ub, 5, none⟩, .int .i64 y5)] (fun W => W.cell? ⟨xb + 1, 2, none⟩ = some (.int .i64 n) ∧ W.cell? ⟨xb + 1, 3, none⟩ = some (.int .i64 b)) 24 #[false, false, false, false, false, false, false, false, false, false, false, false, false, false, false, false, false, false, false, false, false, false, false, false] rfl rfl (by kernel_rfl) (TS.holds (HUz.out.cell (i := 0) rfl) (TS.holds (HUz.out.cell (i := 1) rfl) (TS.holds (HUz.out.cell (i := 5) rfl) (TS.nil hdz)))) ?_
    intro hTS
    obtain ⟨wz, hwwz⟩ : ∃ Z, wu.drew = Z := ⟨_, rfl⟩
    rw [hwwz] at HUz HBz hdz hTS
    try rw [hwwz]
    clear hwwz
    have hcu : xb + 1 ≠ ub := by omega
    refine takeT (i := 0) (v := ?_) rfl (by kernel_rfl) (by kernel_rfl) (by kernel_rfl) (fun _ _ _ h => h) (by rfl) (by rfl) hTS ?_ ?_
    rotate_left 1
    · intro X hSX
      (try dsimp only at hSX)
      first | (go_simp; done) | (go_simp; with_reducible rfl)
    clear hTS
    intro hTS
    try simp only [Act.put, List.setIfInBounds_toArray, List.set_cons_zero, List.set_cons_succ]
    refine loadT 19 0 (i := 1) (v := ?_) rfl (by kernel_rfl) (by kernel_rfl) rfl (by kernel_rfl) (by kernel_rfl) (by kernel_rfl) (fun _ _ _ h => h) (by rfl) (by rfl) hTS ?_ ?_
    rotate_left 1
    · intro X hSX hSC
      (try dsimp only at hSX)
      first | (go_simp; done) | (go_simp; with_reducible rfl)
    clear hTS
    intro hTS
    try simp only [Act.put, List.setIfInBounds_toArray, List.set_cons_zero, List.set_cons_succ]
    refine takeT (i := 2) (v := ?_) rfl (by kernel_rfl) (by kernel_rfl) (by kernel_rfl) (fun _ _ _ h => h) (by rfl) (by rfl) hTS ?_ ?_
    rotate_left 1
    · intro X hSX
      (try dsimp only at hSX)
      first | (go_simp; done) | (go_simp; with_reducible rfl)
    clear hTS
    intro hTS
    try simp only [Act.put, List.setIfInBounds_toArray, List.set_cons_zero, List.set_cons_succ]
    refine takeT (i := 3) (v := ?_) rfl (by kernel_rfl) (by kernel_rfl) (by kernel_rfl) (fun _ _ _ h => h) (by rfl) (by rfl) hTS ?_ ?_
    rotate_left 1
    · intro X hSX
      (try dsimp only at hSX)
      first | (go_simp; done) | (go_simp; with_reducible rfl)
    clear hTS
    intro hTS
    try simp only [Act.put, List.setIfInBounds_toArray, List.set_cons_zero, List.set_cons_succ]
    refine takeT (i := 4) (v := ?_) rfl (by kernel_rfl) (by kernel_rfl) (by kernel_rfl) (fun _ _ _ h => h) (by rfl) (by rfl) hTS ?_ ?_
    rotate_left 1
    · intro X hSX
      (try dsimp only at hSX)
      first | (go_simp; done) | (go_simp; with_reducible rfl)
    clear hTS
    intro hTS
    try simp only [Act.put, List.setIfInBounds_toArray, List.set_cons_zero, List.set_cons_succ]
    refine takeT (i := 5) (v := ?_) rfl (by kernel_rfl) (by kernel_rfl) (by kernel_rfl) (fun _ _ _ h => h) (by rfl) (by rfl) hTS ?_ ?_
    rotate_left 1
    · intro X hSX
      (try dsimp only at hSX)
      first | (go_simp; done) | (go_simp; with_reducible rfl)
    clear hTS
    intro hTS
    try simp only [Act.put, List.setIfInBounds_toArray, List.set_cons_zero, List.set_cons_succ]
    refine loadT 21 1 (i := 6) (v := ?_) rfl (by kernel_rfl) (by kernel_rfl) rfl (by kernel_rfl) (by kernel_rfl) (by kernel_rfl) (fun _ _ _ h => h) (by rfl) (by rfl) hTS ?_ ?_
    rotate_left 1
    · intro X hSX hSC
      (try dsimp only at hSX)
      first | (go_simp; done) | (go_simp; with_reducible rfl)
    clear hTS
    intro hTS
    try simp only [Act.put, List.setIfInBounds_toArray, List.set_cons_zero, List.set_cons_succ]
    refine takeT (i := 7) (v := ?_) rfl (by kernel_rfl) (by kernel_rfl) (by kernel_rfl) (fun _ _ _ h => h) (by rfl) (by rfl) hTS ?_ ?_
    rotate_left 1
    · intro X hSX
      (try dsimp only at hSX)
      first | (go_simp; done) | (go_simp; with_reducible rfl)
    clear hTS
    intro hTS
    try simp only [Act.put, List.setIfInBounds_toArray, List.set_cons_zero, List.set_cons_succ]
    refine takeT (i := 8) (v := ?_) rfl (by kernel_rfl) (by kernel_rfl) (by kernel_rfl) (fun _ _ _ h => h) (by rfl) (by rfl) hTS ?_ ?_
    rotate_left 1
    · intro X hSX
      (try dsimp only at hSX)
      first | (go_simp; done) | (go_simp; with_reducible rfl)
    clear hTS
    intro hTS
    try simp only [Act.put, List.setIfInBounds_toArray, List.set_cons_zero, List.set_cons_succ]
    refine takeT (i := 9) (v := ?_) rfl (by kernel_rfl) (by kernel_rfl) (by kernel_rfl) (fun _ _ _ h => h) (by rfl) (by rfl) hTS ?_ ?_
    rotate_left 1
    · intro X hSX
      (try dsimp only at hSX)
      first | (go_simp; done) | (go_simp; with_reducible rfl)
    clear hTS
    intro hTS
    try simp only [Act.put, List.setIfInBounds_toArray, List.set_cons_zero, List.set_cons_succ]
    refine takeT (i := 10) (v := ?_) rfl (by kernel_rfl) (by kernel_rfl) (by kernel_rfl) (fun _ _ _ h => h) (by rfl) (by rfl) hTS ?_ ?_
    rotate_left 1
    · intro X hSX
      (try dsimp only at hSX)
      first | (go_simp; done) | (go_simp; with_reducible rfl)
    clear hTS
    intro hTS
    try simp only [Act.put, List.setIfInBounds_toArray, List.set_cons_zero, List.set_cons_succ]
    refine takeT (i := 11) (v := ?_) rfl (by kernel_rfl) (by kernel_rfl) (by kernel_rfl) (fun _ _ _ h => h) (by rfl) (by rfl) hTS ?_ ?_
    rotate_left 1
    · intro X hSX
      (try dsimp only at hSX)
      first | (go_simp; done) | (go_simp; with_reducible rfl)
    clear hTS
    intro hTS
    try simp only [Act.put, List.setIfInBounds_toArray, List.set_cons_zero, List.set_cons_succ]
    refine takeT (i := 12) (v := ?_) rfl (by kernel_rfl) (by kernel_rfl) (by kernel_rfl) (fun _ _ _ h => h) (by rfl) (by rfl) hTS ?_ ?_
    rotate_left 1
    · intro X hSX
      (try dsimp only at hSX)
      first | (go_simp; done) | (go_simp; with_reducible rfl)
    clear hTS
    intro hTS
    try simp only [Act.put, List.setIfInBounds_toArray, List.set_cons_zero, List.set_cons_succ]
    refine takeT (i := 13) (v := ?_) rfl (by kernel_rfl) (by kernel_rfl) (by kernel_rfl) (fun _ _ _ h => h) (by rfl) (by rfl) hTS ?_ ?_
    rotate_left 1
    · intro X hSX
      (try dsimp only at hSX)
      first | (go_simp; done) | (go_simp; with_reducible rfl)
    clear hTS
    intro hTS
    try simp only [Act.put, List.setIfInBounds_toArray, List.set_cons_zero, List.set_cons_succ]
    refine loadT 23 2 (i := 14) (v := ?_) rfl (by kernel_rfl) (by kernel_rfl) rfl (by kernel_rfl) (by kernel_rfl) (by kernel_rfl) (fun _ _ _ h => h) (by rfl) (by rfl) hTS ?_ ?_
    rotate_left 1
    · intro X hSX hSC
      (try dsimp only at hSX)
      first | (go_simp; done) | (go_simp; with_reducible rfl)
    clear hTS
    intro hTS
    try simp only [Act.put, List.setIfInBounds_toArray, List.set_cons_zero, List.set_cons_succ]
    refine takeT (i := 15) (v := ?_) rfl (by kernel_rfl) (by kernel_rfl) (by kernel_rfl) (fun _ _ _ h => h) (by rfl) (by rfl) hTS ?_ ?_
    rotate_left 1
    · intro X hSX
      (try dsimp only at hSX)
      first | (go_simp; done) | (go_simp; with_reducible rfl)
    clear hTS
    intro hTS
    try simp only [Act.put, List.setIfInBounds_toArray, List.set_cons_zero, List.set_cons_succ]
    refine takeT (i := 16) (v := ?_) rfl (by kernel_rfl) (by kernel_rfl) (by kernel_rfl) (fun _ _ _ h => h) (by rfl) (by rfl) hTS ?_ ?_
    rotate_left 1
    · intro X hSX
      (try dsimp only at hSX)
      first | (go_simp; done) | (go_simp; with_reducible rfl)
    clear hTS
    intro hTS
    try simp only [Act.put, List.setIfInBounds_toArray, List.set_cons_zero, List.set_cons_succ]
    refine takeT (i := 17) (v := ?_) rfl (by kernel_rfl) (by kernel_rfl) (by kernel_rfl) (fun _ _ _ h => h) (by rfl) (by rfl) hTS ?_ ?_
    rotate_left 1
    · intro X hSX
      (try dsimp only at hSX)
      first | (go_simp; done) | (go_simp; with_reducible rfl)
    clear hTS
    intro hTS
    try simp only [Act.put, List.setIfInBounds_toArray, List.set_cons_zero, List.set_cons_succ]
    refine takeT (i := 18) (v := ?_) rfl (by kernel_rfl) (by kernel_rfl) (by kernel_rfl) (fun _ _ _ h => h) (by rfl) (by rfl) hTS ?_ ?_
    rotate_left 1
    · intro X hSX
      (try dsimp only at hSX)
      first | (go_simp; done) | (go_simp; with_reducible rfl)
    clear hTS
    intro hTS
    try simp only [Act.put, List.setIfInBounds_toArray, List.set_cons_zero, List.set_cons_succ]
    have u0 := HUz.out.cell (i := 0) (v := .int .i64 y0) rfl
    have v0 := HUz.out.fr (i := 0)
    have HU0 := Lib.hid (HUz.out.set 0 (by simp) (.int .i64 (y0 - n)) rfl)
    have hd0 := And.intro ((cell_far (b := ub) (i := 0) (u := .int .i64 (y0 - n)) hcu).trans hdz.1) ((cell_far (b := ub) (i := 0) (u := .int .i64 (y0 - n)) hcu).trans hdz.2)
    refine only_oneT (i := 19) (by kernel_rfl) rfl (by rfl) ?_
    intro K hK
    go_simp
    refine hK.out _ _ (TS.gone (by kernel_rfl) (TS.holds (HU0.out.cell (i := 1) rfl) (TS.holds (HU0.out.cell (i := 5) rfl) (TS.nil hd0)))) ?_
    clear hK K hTS
    intro hTS
    try simp only [Act.put, List.setIfInBounds_toArray, List.set_cons_zero, List.set_cons_succ]
    clear u0 v0
    refine takeT (i := 20) (v := ?_) rfl (by kernel_rfl) (by kernel_rfl) (by kernel_rfl) (fun _ _ _ h => h) (by rfl) (by rfl) hTS ?_ ?_
    rotate_left 1
    · intro X hSX
      (try dsimp only at hSX)
      first | (go_simp; done) | (go_simp; with_reducible rfl)
    clear hTS
    intro hTS
    try simp only [Act.put, List.setIfInBounds_toArray, List.set_cons_zero, List.set_cons_succ]
    have u1 := HU0.out.cell (i := 1) (v := .int .i64 y1) rfl
    have v1 := HU0.out.fr (i := 1)
    have HU1 := Lib.hid (HU0.out.set 1 (by simp) (.int .i64 (y1 + n - b)) rfl)
    have hd1 := And.intro ((cell_far (b := ub) (i := 1) (u := .int .i64 (y1 + n - b)) hcu).trans hd0.1) ((cell_far (b := ub) (i := 1) (u := .int .i64 (y1 + n - b)) hcu).trans hd0.2)
    refine only_oneT (i := 21) (by kernel_rfl) rfl (by rfl) ?_
    intro K hK
    go_simp
    refine hK.out _ _ (TS.gone (by kernel_rfl) (TS.gone (by kernel_rfl) (TS.holds (HU1.out.cell (i := 5) rfl) (TS.nil hd1)))) ?_
    clear hK K hTS
    intro hTS
    try simp only [Act.put, List.setIfInBounds_toArray, List.set_cons_zero, List.set_cons_succ]
    clear u1 v1
    refine takeT (i := 22) (v := ?_) rfl (by kernel_rfl) (by kernel_rfl) (by kernel_rfl) (fun _ _ _ h => h) (by rfl) (by rfl) hTS ?_ ?_
    rotate_left 1
    · intro X hSX
      (try dsimp only at hSX)
      first | (go_simp; done) | (go_simp; with_reducible rfl)
    clear hTS
    intro hTS
    try simp only [Act.put, List.setIfInBounds_toArray, List.set_cons_zero, List.set_cons_succ]
    have u2 := HU1.out.cell (i := 5) (v := .int .i64 y5) rfl
    have v2 := HU1.out.fr (i := 5)
    have HU2 := Lib.hid (HU1.out.set 5 (by simp) (.int .i64 (y5 + b)) rfl)
    have hd2 := And.intro ((cell_far (b := ub) (i := 5) (u := .int .i64 (y5 + b)) hcu).trans hd1.1) ((cell_far (b := ub) (i := 5) (u := .int .i64 (y5 + b)) hcu).trans hd1.2)
    refine only_oneT (i := 23) (by kernel_rfl) rfl (by rfl) ?_
    intro K hK
    go_simp
    refine hK.out _ _ (TS.gone (by kernel_rfl) (TS.gone (by kernel_rfl) (TS.gone (by kernel_rfl) (TS.nil hd2)))) ?_
    clear hK K hTS
    intro hTS
    try simp only [Act.put, List.setIfInBounds_toArray, List.set_cons_zero, List.set_cons_succ]
    clear u2 v2
    have HBa := Lib.hid (((HBz.out.setCell (p := ⟨ub, 0, none⟩) (Nat.le_of_eq hub) (.int .i64 (y0 - n))).setCell (p := ⟨ub, 1, none⟩) (Nat.le_of_eq hub) (.int .i64 (y1 + n - b))).setCell (p := ⟨ub, 5, none⟩) (Nat.le_of_eq hub) (.int .i64 (y5 + b)))
    have HXa := Lib.hid (HX2.out.past (HBa.out))
    have HCa := Lib.hid (HC2.out.past (HBa.out))
    have HZa := Lib.hid (HZ2.out.past (HBa.out))
    have HRFa := Lib.hid (HRF2.out.past (HBa.out))
    have HWa := Lib.hid (HW2.out.trans ((HBa.out).mono HW2.out.size))
    refine wpAnyT_done (by kernel_rfl) ?_ _
    clear hTS hdz hd0 hd1 hd2
    obtain ⟨wa, hwwa⟩ : ∃ Z, ((wz.setCell ⟨ub, 0, none⟩ (.int .i64 (y0 - n))).setCell ⟨ub, 1, none⟩ (.int .i64 (y1 + n - b))).setCell ⟨ub, 5, none⟩ (.int .i64 (y5 + b)) = Z := ⟨_, rfl⟩
    rw [hwwa] at HU2 HBa HXa HCa HZa HRFa HWa
    try rw [hwwa]
    clear hwwa
    have HUa : Hid (Blk wa ub #[.int .i64 (y0 - n), .int .i64 (y1 + n - b), .int .i64 y2, .int .i64 y3, .int .i64 y4, .int .i64 (y5 + b), .int .i64 y6] 63) := Lib.hid (by simpa using HU2.out)
    clear HUz HU0 HU1 HU2
    clear w1 w3v w4v w5v
    go_upto_region 35 with fail
    have x0 := HXa.out.cell (i := 0) (v := .bool false) rfl
    have x1 := HXa.out.cell (i := 1) (v := .slice ps sp.length cs) rfl
    have x2 := HXa.out.cell (i := 2) (v := .int .i64 room) rfl
    have x3 := HXa.out.cell (i := 3) (v := .slice (some ⟨gw, 0, none⟩) l.length cw) rfl
    have x4 := HXa.out.cell (i := 4) (v := .slice pb L.length cb) rfl
    have g0 := HUa.out.cell (i := 0) (v := .int .i64 (y0 - n)) rfl
    have g1 := HUa.out.cell (i := 1) (v := .int .i64 (y1 + n - b)) rfl
    have g2 := HUa.out.cell (i := 2) (v := .int .i64 y2) rfl
    have g3 := HUa.out.cell (i := 3) (v := .int .i64 y3) rfl
    have g4 := HUa.out.cell (i := 4) (v := .int .i64 y4) rfl
    have g5 := HUa.out.cell (i := 5) (v := .int .i64 (y5 + b)) rfl
    have g6 := HUa.out.cell (i := 6) (v := .int .i64 y6) rfl
    have d1 := HCa.out.cell (i := 1) (v := .int .i64 (kk : Int)) rfl
    have HWI := Lib.hid (with_any false ps pb sp.length cs L.length cb room base gw cw l kk (y0 - n) (y1 + n - b) y2 y3 y4 (y5 + b) y6 y7 wa HRFa.out.war hkl hl)
    go_wp2_with fail
    refine HWI.out.mono ?_
    rintro e w9 ⟨hb9', vw, rfl, hwar⟩
    obtain ⟨gk2, ck2, rfl⟩ : ∃ gk2 ck2, vw = .slice (some ⟨gk2, 0, none⟩) l.length ck2 := by
      unfold WarR at hwar
      rw [List.length_set] at hwar
      rcases hwar.2 with ⟨_, h⟩ | ⟨gn, cn, cur, rfl, _⟩
      · omega
      · exact ⟨gn, cn, rfl⟩
    have HZ9 := Lib.hid (HZa.out.past hb9')
    have HW9 := Lib.hid (HWa.out.trans (hb9'.mono HWa.out.size))
    have HRF9 := Lib.hid (HRFa.out.past hb9')
    have hle : base ≤ wa.heap.size := Nat.le_trans hbase HWa.out.size
    have HR9 : Hid (RefAt w9 base sp (l.set kk ⟨(y0 - n), (y1 + n - b), y2, y3, y4, (y5 + b), y6, y7⟩) L ps cs gk2 ck2 pb cb) := Lib.hid ⟨HRF9.out.sp, by rw [List.length_set]; exact own_low hwar hle, HRF9.out.bat⟩
    clear hwar hb9' hle HWI x0 x1 x2 x3 x4 g0 g1 g2 g3 g4 g5 g6 d1
    have z0 := HZ9.out.cell (i := 0) (v := .bool false) rfl
    have z1 := HZ9.out.cell (i := 1) (v := .slice none 0 0) rfl
    have z2 := HZ9.out.cell (i := 2) (v := .int .i64 0) rfl
    have z3 := HZ9.out.cell (i := 3) (v := .slice none 0 0) rfl
    have z4 := HZ9.out.cell (i := 4) (v := .slice none 0 0) rfl
    have y0z := HZ9.out.fr (i := 0)
    have y1z := HZ9.out.fr (i := 1)
    have y2z := HZ9.out.fr (i := 2)
    have y3z := HZ9.out.fr (i := 3)
    have y4z := HZ9.out.fr (i := 4)
    have HZ8 := Lib.hid (blk_set5 HZ9.out (.bool false) (.slice ps sp.length cs) (.int .i64 room) (.slice (some ⟨gk2, 0, none⟩) l.length ck2) (.slice pb L.length cb) rfl rfl rfl rfl rfl)
    have HB8 := Lib.hid (below_set5 (b := xb + 2) HW9.out (by omega) (.bool false) (.slice ps sp.length cs) (.int .i64 room) (.slice (some ⟨gk2, 0, none⟩) l.length ck2) (.slice pb L.length cb))
    have HR8 := Lib.hid (HR9.out.set5 HZ9.out (.bool false) (.slice ps sp.length cs) (.int .i64 room) (.slice (some ⟨gk2, 0, none⟩) l.length ck2) (.slice pb L.length cb))
    go_wp2
    obtain ⟨w8, hw8⟩ : ∃ Z, ((((w9.setCell ⟨xb + 2, 0, none⟩ (.bool false)).setCell ⟨xb + 2, 1, none⟩ (.slice ps sp.length cs)).setCell ⟨xb + 2, 2, none⟩ (.int .i64 room)).setCell ⟨xb + 2, 3, none⟩ (.slice (some ⟨gk2, 0, none⟩) l.length ck2)).setCell ⟨xb + 2, 4, none⟩ (.slice pb L.length cb) = Z := ⟨_, rfl⟩
    rw [hw8] at HZ8 HB8 HR8
    try rw [hw8]
    have g0 := HZ8.out.cell (i := 0) (v := .bool false) rfl
    have g1 := HZ8.out.cell (i := 1) (v := .slice ps sp.length cs) rfl
    have g2 := HZ8.out.cell (i := 2) (v := .int .i64 room) rfl
    have g3 := HZ8.out.cell (i := 3) (v := .slice (some ⟨gk2, 0, none⟩) l.length ck2) rfl
    have g4 := HZ8.out.cell (i := 4) (v := .slice pb L.length cb) rfl
    refine bodyPost_ret (v := .tuple #[.agg #[.bool false, .slice ps sp.length cs, .int .i64 room, .slice (some ⟨gk2, 0, none⟩) l.length ck2, .slice pb L.length cb], .int .i64 0]) (by simp [results, Try.results27, go_sem, g0, g1, g2, g3, g4]) rfl ⟨HB8.out, gk2, ck2, pb, cb, by rw [HV.out]; simp, by rw [HV.out]; exact HR8.out⟩
  by_cases h5 : m = 5
  · subst m
    have d2 := HCu.out.cell (i := 2) (v := .int .i64 n) rfl
    have u0 := HUu.out.cell (i := 3) (v := .int .i64 y3) rfl
    by_cases hlow : y3 < n
    · skip
      go_upto_region 29 with fail
      have HV : Hid (R = (9, l, L)) := Lib.hid (by
        have hc : chF (layF n ⟨y0, y1, y2, y3, y4, y5, y6, y7⟩) = (St.zero, 9) := by rw [lay_few HOK.out (inB_parts HQ3.out).1]; simp [hlow]
        have h := coF_of (n := n) (g := layF n) (s' := St.zero) (e := 9) HQQ.out HQ3.out (by rw [HS0.out]; exact hc)
        rw [← HR.out]
        have e : stepF room l L 5 (kk : Int) n b bs br = ((coF l (kk : Int) n (layF n)).1, (coF l (kk : Int) n (layF n)).2, L) := rfl
        rw [e, h]
        simp)
      have e0z := HXu.out.cell (i := 0) (v := (.bool false)) rfl
      have e1z := HXu.out.cell (i := 1) (v := (.slice ps sp.length cs)) rfl
      have e2z := HXu.out.cell (i := 2) (v := (.int .i64 room)) rfl
      have e3z := HXu.out.cell (i := 3) (v := (.slice (some ⟨gw, 0, none⟩) l.length cw)) rfl
      have e4z := HXu.out.cell (i := 4) (v := (.slice pb L.length cb)) rfl
      have z0z := HZu.out.cell (i := 0) (v := (.bool false)) rfl
      have y0z := HZu.out.fr (i := 0)
      have z1z := HZu.out.cell (i := 1) (v := (.slice none 0 0)) rfl
      have y1z := HZu.out.fr (i := 1)
      have z2z := HZu.out.cell (i := 2) (v := (.int .i64 0)) rfl
      have y2z := HZu.out.fr (i := 2)
      have z3z := HZu.out.cell (i := 3) (v := (.slice none 0 0)) rfl
      have y3z := HZu.out.fr (i := 3)
      have z4z := HZu.out.cell (i := 4) (v := (.slice none 0 0)) rfl
      have y4z := HZu.out.fr (i := 4)
      have HZ8 := Lib.hid (blk_set5 HZu.out (.bool false) (.slice ps sp.length cs) (.int .i64 room) (.slice (some ⟨gw, 0, none⟩) l.length cw) (.slice pb L.length cb) rfl rfl rfl rfl rfl)
      have HB8 := Lib.hid (below_set5 (b := xb + 2) HWu.out (by omega) (.bool false) (.slice ps sp.length cs) (.int .i64 room) (.slice (some ⟨gw, 0, none⟩) l.length cw) (.slice pb L.length cb))
      have HR8 := Lib.hid (HRFu.out.set5 HZu.out (.bool false) (.slice ps sp.length cs) (.int .i64 room) (.slice (some ⟨gw, 0, none⟩) l.length cw) (.slice pb L.length cb))
      go_wp2
      obtain ⟨w8, hw8⟩ : ∃ Z, ((((wu.setCell ⟨xb + 2, 0, none⟩ (.bool false)).setCell ⟨xb + 2, 1, none⟩ (.slice ps sp.length cs)).setCell ⟨xb + 2, 2, none⟩ (.int .i64 room)).setCell ⟨xb + 2, 3, none⟩ (.slice (some ⟨gw, 0, none⟩) l.length cw)).setCell ⟨xb + 2, 4, none⟩ (.slice pb L.length cb) = Z := ⟨_, rfl⟩
      rw [hw8] at HZ8 HB8 HR8
      try rw [hw8]
      have g0 := HZ8.out.cell (i := 0) (v := (.bool false)) rfl
      have g1 := HZ8.out.cell (i := 1) (v := (.slice ps sp.length cs)) rfl
      have g2 := HZ8.out.cell (i := 2) (v := (.int .i64 room)) rfl
      have g3 := HZ8.out.cell (i := 3) (v := (.slice (some ⟨gw, 0, none⟩) l.length cw)) rfl
      have g4 := HZ8.out.cell (i := 4) (v := (.slice pb L.length cb)) rfl
      refine bodyPost_ret (v := .tuple #[.agg #[.bool false, .slice ps sp.length cs, .int .i64 room, .slice (some ⟨gw, 0, none⟩) l.length cw, .slice pb L.length cb], .int .i64 9]) (by simp [results, Try.results27, go_sem, g0, g1, g2, g3, g4]) rfl ⟨HB8.out, _, _, _, _, by rw [HV.out], by rw [HV.out]; exact HR8.out⟩
    have HV : Hid (R = (0, l.set kk ⟨y0, y1, y2, y3 - n, y4 + n, y5, y6, y7⟩, L)) := Lib.hid (by
      have hc : chF (layF n ⟨y0, y1, y2, y3, y4, y5, y6, y7⟩) = (⟨y0, y1, y2, y3 - n, y4 + n, y5, y6, y7⟩, 0) := by rw [lay_few HOK.out (inB_parts HQ3.out).1]; simp [hlow]
      have h := coF_of (n := n) (g := layF n) (s' := ⟨y0, y1, y2, y3 - n, y4 + n, y5, y6, y7⟩) (e := 0) HQQ.out HQ3.out (by rw [HS0.out]; exact hc)
      rw [← HR.out]
      have e : stepF room l L 5 (kk : Int) n b bs br = ((coF l (kk : Int) n (layF n)).1, (coF l (kk : Int) n (layF n)).2, L) := rfl
      rw [e, h]
      simp)
    have hok := HOK.out
    simp only [St.Good, St.Ok] at hok
    have wr0 : IntKind.i64.wrap (y3 - n) = y3 - n := wrap_id (by omega) (by omega)
    have wr1 : IntKind.i64.wrap (y4 + n) = y4 + n := wrap_id (by omega) (by omega)
    clear hok
    go_upto_region 30 with fail
    clear u0 d2 hlow
    have HUz : Hid (Blk wu.drew ub #[.int .i64 y0, .int .i64 y1, .int .i64 y2, .int .i64 y3, .int .i64 y4, .int .i64 y5, .int .i64 y6] 63) := Lib.hid HUu.out.drew
    have HBz : Hid (Below w2.heap.size w2 wu.drew) := Lib.hid HBu.out.drew
    have hdz := And.intro ((HC2.out.past HBz.out).cell (i := 2) (v := .int .i64 n) rfl) ((HC2.out.past HBz.out).cell (i := 3) (v := .int .i64 b) rfl)
    refine region_T [(11, ⟨ub, 3, none⟩, .int .i64 y3), (13, ⟨ub, 4, none⟩, .int .i64 y4)] (fun W => W.cell? ⟨xb + 1, 2, none⟩ = some (.int .i64 n) ∧ W.cell? ⟨xb + 1, 3, none⟩ = some (.int .i64 b)) 14 #[false, false, false, false, false, false, false, false, false, false, false, false, false, false] rfl rfl (by kernel_rfl) (TS.holds (HUz.out.cell (i := 3) rfl) (TS.holds (HUz.out.cell (i := 4) rfl) (TS.nil hdz))) ?_
    intro hTS
    obtain ⟨wz, hwwz⟩ : ∃ Z, wu.drew = Z := ⟨_, rfl⟩
    rw [hwwz] at HUz HBz hdz hTS
    try rw [hwwz]
    clear hwwz
    have hcu : xb + 1 ≠ ub := by omega
    refine takeT (i := 0) (v := ?_) rfl (by kernel_rfl) (by kernel_rfl) (by kernel_rfl) (fun _ _ _ h => h) (by rfl) (by rfl) hTS ?_ ?_
    rotate_left 1
    · intro X hSX
      (try dsimp only at hSX)
      first | (go_simp; done) | (go_simp; with_reducible rfl)
    clear hTS
    intro hTS
    try simp only [Act.put, List.setIfInBounds_toArray, List.set_cons_zero, List.set_cons_succ]
    refine loadT 11 0 (i := 1) (v := ?_) rfl (by kernel_rfl) (by kernel_rfl) rfl (by kernel_rfl) (by kernel_rfl) (by kernel_rfl) (fun _ _ _ h => h) (by rfl) (by rfl) hTS ?_ ?_
    rotate_left 1
    · intro X hSX hSC
      (try dsimp only at hSX)
      first | (go_simp; done) | (go_simp; with_reducible rfl)
    clear hTS
    intro hTS
    try simp only [Act.put, List.setIfInBounds_toArray, List.set_cons_zero, List.set_cons_succ]
    refine takeT (i := 2) (v := ?_) rfl (by kernel_rfl) (by kernel_rfl) (by kernel_rfl) (fun _ _ _ h => h) (by rfl) (by rfl) hTS ?_ ?_
    rotate_left 1
    · intro X hSX
      (try dsimp only at hSX)
      first | (go_simp; done) | (go_simp; with_reducible rfl)
    clear hTS
    intro hTS
    try simp only [Act.put, List.setIfInBounds_toArray, List.set_cons_zero, List.set_cons_succ]
    refine takeT (i := 3) (v := ?_) rfl (by kernel_rfl) (by kernel_rfl) (by kernel_rfl) (fun _ _ _ h => h) (by rfl) (by rfl) hTS ?_ ?_
    rotate_left 1
    · intro X hSX
      (try dsimp only at hSX)
      first | (go_simp; done) | (go_simp; with_reducible rfl)
    clear hTS
    intro hTS
    try simp only [Act.put, List.setIfInBounds_toArray, List.set_cons_zero, List.set_cons_succ]
    refine takeT (i := 4) (v := ?_) rfl (by kernel_rfl) (by kernel_rfl) (by kernel_rfl) (fun _ _ _ h => h) (by rfl) (by rfl) hTS ?_ ?_
    rotate_left 1
    · intro X hSX
      (try dsimp only at hSX)
      first | (go_simp; done) | (go_simp; with_reducible rfl)
    clear hTS
    intro hTS
    try simp only [Act.put, List.setIfInBounds_toArray, List.set_cons_zero, List.set_cons_succ]
    refine takeT (i := 5) (v := ?_) rfl (by kernel_rfl) (by kernel_rfl) (by kernel_rfl) (fun _ _ _ h => h) (by rfl) (by rfl) hTS ?_ ?_
    rotate_left 1
    · intro X hSX
      (try dsimp only at hSX)
      first | (go_simp; done) | (go_simp; with_reducible rfl)
    clear hTS
    intro hTS
    try simp only [Act.put, List.setIfInBounds_toArray, List.set_cons_zero, List.set_cons_succ]
    refine loadT 13 1 (i := 6) (v := ?_) rfl (by kernel_rfl) (by kernel_rfl) rfl (by kernel_rfl) (by kernel_rfl) (by kernel_rfl) (fun _ _ _ h => h) (by rfl) (by rfl) hTS ?_ ?_
    rotate_left 1
    · intro X hSX hSC
      (try dsimp only at hSX)
      first | (go_simp; done) | (go_simp; with_reducible rfl)
    clear hTS
    intro hTS
    try simp only [Act.put, List.setIfInBounds_toArray, List.set_cons_zero, List.set_cons_succ]
    refine takeT (i := 7) (v := ?_) rfl (by kernel_rfl) (by kernel_rfl) (by kernel_rfl) (fun _ _ _ h => h) (by rfl) (by rfl) hTS ?_ ?_
    rotate_left 1
    · intro X hSX
      (try dsimp only at hSX)
      first | (go_simp; done) | (go_simp; with_reducible rfl)
    clear hTS
    intro hTS
    try simp only [Act.put, List.setIfInBounds_toArray, List.set_cons_zero, List.set_cons_succ]
    refine takeT (i := 8) (v := ?_) rfl (by kernel_rfl) (by kernel_rfl) (by kernel_rfl) (fun _ _ _ h => h) (by rfl) (by rfl) hTS ?_ ?_
    rotate_left 1
    · intro X hSX
      (try dsimp only at hSX)
      first | (go_simp; done) | (go_simp; with_reducible rfl)
    clear hTS
    intro hTS
    try simp only [Act.put, List.setIfInBounds_toArray, List.set_cons_zero, List.set_cons_succ]
    refine takeT (i := 9) (v := ?_) rfl (by kernel_rfl) (by kernel_rfl) (by kernel_rfl) (fun _ _ _ h => h) (by rfl) (by rfl) hTS ?_ ?_
    rotate_left 1
    · intro X hSX
      (try dsimp only at hSX)
      first | (go_simp; done) | (go_simp; with_reducible rfl)
    clear hTS
    intro hTS
    try simp only [Act.put, List.setIfInBounds_toArray, List.set_cons_zero, List.set_cons_succ]
    refine takeT (i := 10) (v := ?_) rfl (by kernel_rfl) (by kernel_rfl) (by kernel_rfl) (fun _ _ _ h => h) (by rfl) (by rfl) hTS ?_ ?_
    rotate_left 1
    · intro X hSX
      (try dsimp only at hSX)
      first | (go_simp; done) | (go_simp; with_reducible rfl)
    clear hTS
    intro hTS
    try simp only [Act.put, List.setIfInBounds_toArray, List.set_cons_zero, List.set_cons_succ]
    have u0 := HUz.out.cell (i := 3) (v := .int .i64 y3) rfl
    have v0 := HUz.out.fr (i := 3)
    have HU0 := Lib.hid (HUz.out.set 3 (by simp) (.int .i64 (y3 - n)) rfl)
    have hd0 := And.intro ((cell_far (b := ub) (i := 3) (u := .int .i64 (y3 - n)) hcu).trans hdz.1) ((cell_far (b := ub) (i := 3) (u := .int .i64 (y3 - n)) hcu).trans hdz.2)
    refine only_oneT (i := 11) (by kernel_rfl) rfl (by rfl) ?_
    intro K hK
    go_simp
    refine hK.out _ _ (TS.gone (by kernel_rfl) (TS.holds (HU0.out.cell (i := 4) rfl) (TS.nil hd0))) ?_
    clear hK K hTS
    intro hTS
    try simp only [Act.put, List.setIfInBounds_toArray, List.set_cons_zero, List.set_cons_succ]
    clear u0 v0
    refine takeT (i := 12) (v := ?_) rfl (by kernel_rfl) (by kernel_rfl) (by kernel_rfl) (fun _ _ _ h => h) (by rfl) (by rfl) hTS ?_ ?_
    rotate_left 1
    · intro X hSX
      (try dsimp only at hSX)
      first | (go_simp; done) | (go_simp; with_reducible rfl)
    clear hTS
    intro hTS
    try simp only [Act.put, List.setIfInBounds_toArray, List.set_cons_zero, List.set_cons_succ]
    have u1 := HU0.out.cell (i := 4) (v := .int .i64 y4) rfl
    have v1 := HU0.out.fr (i := 4)
    have HU1 := Lib.hid (HU0.out.set 4 (by simp) (.int .i64 (y4 + n)) rfl)
    have hd1 := And.intro ((cell_far (b := ub) (i := 4) (u := .int .i64 (y4 + n)) hcu).trans hd0.1) ((cell_far (b := ub) (i := 4) (u := .int .i64 (y4 + n)) hcu).trans hd0.2)
    refine only_oneT (i := 13) (by kernel_rfl) rfl (by rfl) ?_
    intro K hK
    go_simp
    refine hK.out _ _ (TS.gone (by kernel_rfl) (TS.gone (by kernel_rfl) (TS.nil hd1))) ?_
    clear hK K hTS
    intro hTS
    try simp only [Act.put, List.setIfInBounds_toArray, List.set_cons_zero, List.set_cons_succ]
    clear u1 v1
    have HBa := Lib.hid ((HBz.out.setCell (p := ⟨ub, 3, none⟩) (Nat.le_of_eq hub) (.int .i64 (y3 - n))).setCell (p := ⟨ub, 4, none⟩) (Nat.le_of_eq hub) (.int .i64 (y4 + n)))
    have HXa := Lib.hid (HX2.out.past (HBa.out))
    have HCa := Lib.hid (HC2.out.past (HBa.out))
    have HZa := Lib.hid (HZ2.out.past (HBa.out))
    have HRFa := Lib.hid (HRF2.out.past (HBa.out))
    have HWa := Lib.hid (HW2.out.trans ((HBa.out).mono HW2.out.size))
    refine wpAnyT_done (by kernel_rfl) ?_ _
    clear hTS hdz hd0 hd1
    obtain ⟨wa, hwwa⟩ : ∃ Z, (wz.setCell ⟨ub, 3, none⟩ (.int .i64 (y3 - n))).setCell ⟨ub, 4, none⟩ (.int .i64 (y4 + n)) = Z := ⟨_, rfl⟩
    rw [hwwa] at HU1 HBa HXa HCa HZa HRFa HWa
    try rw [hwwa]
    clear hwwa
    have HUa : Hid (Blk wa ub #[.int .i64 y0, .int .i64 y1, .int .i64 y2, .int .i64 (y3 - n), .int .i64 (y4 + n), .int .i64 y5, .int .i64 y6] 63) := Lib.hid (by simpa using HU1.out)
    clear HUz HU0 HU1
    clear wr0 wr1
    go_upto_region 35 with fail
    have x0 := HXa.out.cell (i := 0) (v := .bool false) rfl
    have x1 := HXa.out.cell (i := 1) (v := .slice ps sp.length cs) rfl
    have x2 := HXa.out.cell (i := 2) (v := .int .i64 room) rfl
    have x3 := HXa.out.cell (i := 3) (v := .slice (some ⟨gw, 0, none⟩) l.length cw) rfl
    have x4 := HXa.out.cell (i := 4) (v := .slice pb L.length cb) rfl
    have g0 := HUa.out.cell (i := 0) (v := .int .i64 y0) rfl
    have g1 := HUa.out.cell (i := 1) (v := .int .i64 y1) rfl
    have g2 := HUa.out.cell (i := 2) (v := .int .i64 y2) rfl
    have g3 := HUa.out.cell (i := 3) (v := .int .i64 (y3 - n)) rfl
    have g4 := HUa.out.cell (i := 4) (v := .int .i64 (y4 + n)) rfl
    have g5 := HUa.out.cell (i := 5) (v := .int .i64 y5) rfl
    have g6 := HUa.out.cell (i := 6) (v := .int .i64 y6) rfl
    have d1 := HCa.out.cell (i := 1) (v := .int .i64 (kk : Int)) rfl
    have HWI := Lib.hid (with_any false ps pb sp.length cs L.length cb room base gw cw l kk y0 y1 y2 (y3 - n) (y4 + n) y5 y6 y7 wa HRFa.out.war hkl hl)
    go_wp2_with fail
    refine HWI.out.mono ?_
    rintro e w9 ⟨hb9', vw, rfl, hwar⟩
    obtain ⟨gk2, ck2, rfl⟩ : ∃ gk2 ck2, vw = .slice (some ⟨gk2, 0, none⟩) l.length ck2 := by
      unfold WarR at hwar
      rw [List.length_set] at hwar
      rcases hwar.2 with ⟨_, h⟩ | ⟨gn, cn, cur, rfl, _⟩
      · omega
      · exact ⟨gn, cn, rfl⟩
    have HZ9 := Lib.hid (HZa.out.past hb9')
    have HW9 := Lib.hid (HWa.out.trans (hb9'.mono HWa.out.size))
    have HRF9 := Lib.hid (HRFa.out.past hb9')
    have hle : base ≤ wa.heap.size := Nat.le_trans hbase HWa.out.size
    have HR9 : Hid (RefAt w9 base sp (l.set kk ⟨y0, y1, y2, (y3 - n), (y4 + n), y5, y6, y7⟩) L ps cs gk2 ck2 pb cb) := Lib.hid ⟨HRF9.out.sp, by rw [List.length_set]; exact own_low hwar hle, HRF9.out.bat⟩
    clear hwar hb9' hle HWI x0 x1 x2 x3 x4 g0 g1 g2 g3 g4 g5 g6 d1
    have z0 := HZ9.out.cell (i := 0) (v := .bool false) rfl
    have z1 := HZ9.out.cell (i := 1) (v := .slice none 0 0) rfl
    have z2 := HZ9.out.cell (i := 2) (v := .int .i64 0) rfl
    have z3 := HZ9.out.cell (i := 3) (v := .slice none 0 0) rfl
    have z4 := HZ9.out.cell (i := 4) (v := .slice none 0 0) rfl
    have y0z := HZ9.out.fr (i := 0)
    have y1z := HZ9.out.fr (i := 1)
    have y2z := HZ9.out.fr (i := 2)
    have y3z := HZ9.out.fr (i := 3)
    have y4z := HZ9.out.fr (i := 4)
    have HZ8 := Lib.hid (blk_set5 HZ9.out (.bool false) (.slice ps sp.length cs) (.int .i64 room) (.slice (some ⟨gk2, 0, none⟩) l.length ck2) (.slice pb L.length cb) rfl rfl rfl rfl rfl)
    have HB8 := Lib.hid (below_set5 (b := xb + 2) HW9.out (by omega) (.bool false) (.slice ps sp.length cs) (.int .i64 room) (.slice (some ⟨gk2, 0, none⟩) l.length ck2) (.slice pb L.length cb))
    have HR8 := Lib.hid (HR9.out.set5 HZ9.out (.bool false) (.slice ps sp.length cs) (.int .i64 room) (.slice (some ⟨gk2, 0, none⟩) l.length ck2) (.slice pb L.length cb))
    go_wp2
    obtain ⟨w8, hw8⟩ : ∃ Z, ((((w9.setCell ⟨xb + 2, 0, none⟩ (.bool false)).setCell ⟨xb + 2, 1, none⟩ (.slice ps sp.length cs)).setCell ⟨xb + 2, 2, none⟩ (.int .i64 room)).setCell ⟨xb + 2, 3, none⟩ (.slice (some ⟨gk2, 0, none⟩) l.length ck2)).setCell ⟨xb + 2, 4, none⟩ (.slice pb L.length cb) = Z := ⟨_, rfl⟩
    rw [hw8] at HZ8 HB8 HR8
    try rw [hw8]
    have g0 := HZ8.out.cell (i := 0) (v := .bool false) rfl
    have g1 := HZ8.out.cell (i := 1) (v := .slice ps sp.length cs) rfl
    have g2 := HZ8.out.cell (i := 2) (v := .int .i64 room) rfl
    have g3 := HZ8.out.cell (i := 3) (v := .slice (some ⟨gk2, 0, none⟩) l.length ck2) rfl
    have g4 := HZ8.out.cell (i := 4) (v := .slice pb L.length cb) rfl
    refine bodyPost_ret (v := .tuple #[.agg #[.bool false, .slice ps sp.length cs, .int .i64 room, .slice (some ⟨gk2, 0, none⟩) l.length ck2, .slice pb L.length cb], .int .i64 0]) (by simp [results, Try.results27, go_sem, g0, g1, g2, g3, g4]) rfl ⟨HB8.out, gk2, ck2, pb, cb, by rw [HV.out]; simp, by rw [HV.out]; exact HR8.out⟩
  by_cases h6 : m = 6
  · subst m
    have d2 := HCu.out.cell (i := 2) (v := .int .i64 n) rfl
    have u0 := HUu.out.cell (i := 4) (v := .int .i64 y4) rfl
    by_cases hlow : y4 < n
    · skip
      go_upto_region 33 with fail
      have HV : Hid (R = (9, l, L)) := Lib.hid (by
        have hc : chF (breakF n ⟨y0, y1, y2, y3, y4, y5, y6, y7⟩) = (St.zero, 9) := by rw [break_few HOK.out (inB_parts HQ3.out).1]; simp [hlow]
        have h := coF_of (n := n) (g := breakF n) (s' := St.zero) (e := 9) HQQ.out HQ3.out (by rw [HS0.out]; exact hc)
        rw [← HR.out]
        have e : stepF room l L 6 (kk : Int) n b bs br = ((coF l (kk : Int) n (breakF n)).1, (coF l (kk : Int) n (breakF n)).2, L) := rfl
        rw [e, h]
        simp)
      have e0z := HXu.out.cell (i := 0) (v := (.bool false)) rfl
      have e1z := HXu.out.cell (i := 1) (v := (.slice ps sp.length cs)) rfl
      have e2z := HXu.out.cell (i := 2) (v := (.int .i64 room)) rfl
      have e3z := HXu.out.cell (i := 3) (v := (.slice (some ⟨gw, 0, none⟩) l.length cw)) rfl
      have e4z := HXu.out.cell (i := 4) (v := (.slice pb L.length cb)) rfl
      have z0z := HZu.out.cell (i := 0) (v := (.bool false)) rfl
      have y0z := HZu.out.fr (i := 0)
      have z1z := HZu.out.cell (i := 1) (v := (.slice none 0 0)) rfl
      have y1z := HZu.out.fr (i := 1)
      have z2z := HZu.out.cell (i := 2) (v := (.int .i64 0)) rfl
      have y2z := HZu.out.fr (i := 2)
      have z3z := HZu.out.cell (i := 3) (v := (.slice none 0 0)) rfl
      have y3z := HZu.out.fr (i := 3)
      have z4z := HZu.out.cell (i := 4) (v := (.slice none 0 0)) rfl
      have y4z := HZu.out.fr (i := 4)
      have HZ8 := Lib.hid (blk_set5 HZu.out (.bool false) (.slice ps sp.length cs) (.int .i64 room) (.slice (some ⟨gw, 0, none⟩) l.length cw) (.slice pb L.length cb) rfl rfl rfl rfl rfl)
      have HB8 := Lib.hid (below_set5 (b := xb + 2) HWu.out (by omega) (.bool false) (.slice ps sp.length cs) (.int .i64 room) (.slice (some ⟨gw, 0, none⟩) l.length cw) (.slice pb L.length cb))
      have HR8 := Lib.hid (HRFu.out.set5 HZu.out (.bool false) (.slice ps sp.length cs) (.int .i64 room) (.slice (some ⟨gw, 0, none⟩) l.length cw) (.slice pb L.length cb))
      go_wp2
      obtain ⟨w8, hw8⟩ : ∃ Z, ((((wu.setCell ⟨xb + 2, 0, none⟩ (.bool false)).setCell ⟨xb + 2, 1, none⟩ (.slice ps sp.length cs)).setCell ⟨xb + 2, 2, none⟩ (.int .i64 room)).setCell ⟨xb + 2, 3, none⟩ (.slice (some ⟨gw, 0, none⟩) l.length cw)).setCell ⟨xb + 2, 4, none⟩ (.slice pb L.length cb) = Z := ⟨_, rfl⟩
      rw [hw8] at HZ8 HB8 HR8
      try rw [hw8]
      have g0 := HZ8.out.cell (i := 0) (v := (.bool false)) rfl
      have g1 := HZ8.out.cell (i := 1) (v := (.slice ps sp.length cs)) rfl
      have g2 := HZ8.out.cell (i := 2) (v := (.int .i64 room)) rfl
      have g3 := HZ8.out.cell (i := 3) (v := (.slice (some ⟨gw, 0, none⟩) l.length cw)) rfl
      have g4 := HZ8.out.cell (i := 4) (v := (.slice pb L.length cb)) rfl
      refine bodyPost_ret (v := .tuple #[.agg #[.bool false, .slice ps sp.length cs, .int .i64 room, .slice (some ⟨gw, 0, none⟩) l.length cw, .slice pb L.length cb], .int .i64 9]) (by simp [results, Try.results27, go_sem, g0, g1, g2, g3, g4]) rfl ⟨HB8.out, _, _, _, _, by rw [HV.out], by rw [HV.out]; exact HR8.out⟩
    have HV : Hid (R = (0, l.set kk ⟨y0, y1, y2, y3, y4 - n, y5 + n, y6 + n, y7⟩, L)) := Lib.hid (by
      have hc : chF (breakF n ⟨y0, y1, y2, y3, y4, y5, y6, y7⟩) = (⟨y0, y1, y2, y3, y4 - n, y5 + n, y6 + n, y7⟩, 0) := by rw [break_few HOK.out (inB_parts HQ3.out).1]; simp [hlow]
      have h := coF_of (n := n) (g := breakF n) (s' := ⟨y0, y1, y2, y3, y4 - n, y5 + n, y6 + n, y7⟩) (e := 0) HQQ.out HQ3.out (by rw [HS0.out]; exact hc)
      rw [← HR.out]
      have e : stepF room l L 6 (kk : Int) n b bs br = ((coF l (kk : Int) n (breakF n)).1, (coF l (kk : Int) n (breakF n)).2, L) := rfl
      rw [e, h]
      simp)
    have hok := HOK.out
    simp only [St.Good, St.Ok] at hok
    have wr0 : IntKind.i64.wrap (y4 - n) = y4 - n := wrap_id (by omega) (by omega)
    have wr1 : IntKind.i64.wrap (y5 + n) = y5 + n := wrap_id (by omega) (by omega)
    have wr2 : IntKind.i64.wrap (y6 + n) = y6 + n := wrap_id (by omega) (by omega)
    clear hok
    go_upto_region 34 with fail
    clear u0 d2 hlow
    have HUz : Hid (Blk wu.drew ub #[.int .i64 y0, .int .i64 y1, .int .i64 y2, .int .i64 y3, .int .i64 y4, .int .i64 y5, .int .i64 y6] 63) := Lib.hid HUu.out.drew
    have HBz : Hid (Below w2.heap.size w2 wu.drew) := Lib.hid HBu.out.drew
    have hdz := And.intro ((HC2.out.past HBz.out).cell (i := 2) (v := .int .i64 n) rfl) ((HC2.out.past HBz.out).cell (i := 3) (v := .int .i64 b) rfl)
    refine region_T [(16, ⟨ub, 4, none⟩, .int .i64 y4), (18, ⟨ub, 5, none⟩, .int .i64 y5), (20, ⟨ub, 6, none⟩, .int .i64 y6)] (fun W => W.cell? ⟨xb + 1, 2, none⟩ = some (.int .i64 n) ∧ W.cell? ⟨xb + 1, 3, none⟩ = some (.int .i64 b)) 21 #[false, false, false, false, false, false, false, false, false, false, false, false, false, false, false, false, false, false, false, false, false] rfl rfl (by kernel_rfl) (TS.holds (HUz.out.cell (i := 4) rfl) (TS.holds (HUz.out.cell (i := 5) rfl) (TS.holds (HUz.out.cell (i := 6) rfl) (TS.nil hdz)))) ?_
    intro hTS
    obtain ⟨wz, hwwz⟩ : ∃ Z, wu.drew = Z := ⟨_, rfl⟩
    rw [hwwz] at HUz HBz hdz hTS
    try rw [hwwz]
    clear hwwz
    have hcu : xb + 1 ≠ ub := by omega
    refine takeT (i := 0) (v := ?_) rfl (by kernel_rfl) (by kernel_rfl) (by kernel_rfl) (fun _ _ _ h => h) (by rfl) (by rfl) hTS ?_ ?_
    rotate_left 1
    · intro X hSX
      (try dsimp only at hSX)
      first | (go_simp; done) | (go_simp; with_reducible rfl)
    clear hTS
    intro hTS
    try simp only [Act.put, List.setIfInBounds_toArray, List.set_cons_zero, List.set_cons_succ]
    refine loadT 16 0 (i := 1) (v := ?_) rfl (by kernel_rfl) (by kernel_rfl) rfl (by kernel_rfl) (by kernel_rfl) (by kernel_rfl) (fun _ _ _ h => h) (by rfl) (by rfl) hTS ?_ ?_
    rotate_left 1
    · intro X hSX hSC
      (try dsimp only at hSX)
      first | (go_simp; done) | (go_simp; with_reducible rfl)
    clear hTS
    intro hTS
    try simp only [Act.put, List.setIfInBounds_toArray, List.set_cons_zero, List.set_cons_succ]
    refine takeT (i := 2) (v := ?_) rfl (by kernel_rfl) (by kernel_rfl) (by kernel_rfl) (fun _ _ _ h => h) (by rfl) (by rfl) hTS ?_ ?_
    rotate_left 1
    · intro X hSX
      (try dsimp only at hSX)
      first | (go_simp; done) | (go_simp; with_reducible rfl)
    clear hTS
    intro hTS
    try simp only [Act.put, List.setIfInBounds_toArray, List.set_cons_zero, List.set_cons_succ]
    refine takeT (i := 3) (v := ?_) rfl (by kernel_rfl) (by kernel_rfl) (by kernel_rfl) (fun _ _ _ h => h) (by rfl) (by rfl) hTS ?_ ?_
    rotate_left 1
    · intro X hSX
      (try dsimp only at hSX)
      first | (go_simp; done) | (go_simp; with_reducible rfl)
    clear hTS
    intro hTS
    try simp only [Act.put, List.setIfInBounds_toArray, List.set_cons_zero, List.set_cons_succ]
    refine takeT (i := 4) (v := ?_) rfl (by kernel_rfl) (by kernel_rfl) (by kernel_rfl) (fun _ _ _ h => h) (by rfl) (by rfl) hTS ?_ ?_
    rotate_left 1
    · intro X hSX
      (try dsimp only at hSX)
      first | (go_simp; done) | (go_simp; with_reducible rfl)
    clear hTS
    intro hTS
    try simp only [Act.put, List.setIfInBounds_toArray, List.set_cons_zero, List.set_cons_succ]
    refine takeT (i := 5) (v := ?_) rfl (by kernel_rfl) (by kernel_rfl) (by kernel_rfl) (fun _ _ _ h => h) (by rfl) (by rfl) hTS ?_ ?_
    rotate_left 1
    · intro X hSX
      (try dsimp only at hSX)
      first | (go_simp; done) | (go_simp; with_reducible rfl)
    clear hTS
    intro hTS
    try simp only [Act.put, List.setIfInBounds_toArray, List.set_cons_zero, List.set_cons_succ]
    refine loadT 18 1 (i := 6) (v := ?_) rfl (by kernel_rfl) (by kernel_rfl) rfl (by kernel_rfl) (by kernel_rfl) (by kernel_rfl) (fun _ _ _ h => h) (by rfl) (by rfl) hTS ?_ ?_
    rotate_left 1
    · intro X hSX hSC
      (try dsimp only at hSX)
      first | (go_simp; done) | (go_simp; with_reducible rfl)
    clear hTS
    intro hTS
    try simp only [Act.put, List.setIfInBounds_toArray, List.set_cons_zero, List.set_cons_succ]
    refine takeT (i := 7) (v := ?_) rfl (by kernel_rfl) (by kernel_rfl) (by kernel_rfl) (fun _ _ _ h => h) (by rfl) (by rfl) hTS ?_ ?_
    rotate_left 1
    · intro X hSX
      (try dsimp only at hSX)
      first | (go_simp; done) | (go_simp; with_reducible rfl)
    clear hTS
    intro hTS
    try simp only [Act.put, List.setIfInBounds_toArray, List.set_cons_zero, List.set_cons_succ]
    refine takeT (i := 8) (v := ?_) rfl (by kernel_rfl) (by kernel_rfl) (by kernel_rfl) (fun _ _ _ h => h) (by rfl) (by rfl) hTS ?_ ?_
    rotate_left 1
    · intro X hSX
      (try dsimp only at hSX)
      first | (go_simp; done) | (go_simp; with_reducible rfl)
    clear hTS
    intro hTS
    try simp only [Act.put, List.setIfInBounds_toArray, List.set_cons_zero, List.set_cons_succ]
    refine takeT (i := 9) (v := ?_) rfl (by kernel_rfl) (by kernel_rfl) (by kernel_rfl) (fun _ _ _ h => h) (by rfl) (by rfl) hTS ?_ ?_
    rotate_left 1
    · intro X hSX
      (try dsimp only at hSX)
      first | (go_simp; done) | (go_simp; with_reducible rfl)
    clear hTS
    intro hTS
    try simp only [Act.put, List.setIfInBounds_toArray, List.set_cons_zero, List.set_cons_succ]
    refine takeT (i := 10) (v := ?_) rfl (by kernel_rfl) (by kernel_rfl) (by kernel_rfl) (fun _ _ _ h => h) (by rfl) (by rfl) hTS ?_ ?_
    rotate_left 1
    · intro X hSX
      (try dsimp only at hSX)
      first | (go_simp; done) | (go_simp; with_reducible rfl)
    clear hTS
    intro hTS
    try simp only [Act.put, List.setIfInBounds_toArray, List.set_cons_zero, List.set_cons_succ]
    refine loadT 20 2 (i := 11) (v := ?_) rfl (by kernel_rfl) (by kernel_rfl) rfl (by kernel_rfl) (by kernel_rfl) (by kernel_rfl) (fun _ _ _ h => h) (by rfl) (by rfl) hTS ?_ ?_
    rotate_left 1
    · intro X hSX hSC
      (try dsimp only at hSX)
      first | (go_simp; done) | (go_simp; with_reducible rfl)
    clear hTS
    intro hTS
    try simp only [Act.put, List.setIfInBounds_toArray, List.set_cons_zero, List.set_cons_succ]
    refine takeT (i := 12) (v := ?_) rfl (by kernel_rfl) (by kernel_rfl) (by kernel_rfl) (fun _ _ _ h => h) (by rfl) (by rfl) hTS ?_ ?_
    rotate_left 1
    · intro X hSX
      (try dsimp only at hSX)
      first | (go_simp; done) | (go_simp; with_reducible rfl)
    clear hTS
    intro hTS
    try simp only [Act.put, List.setIfInBounds_toArray, List.set_cons_zero, List.set_cons_succ]
    refine takeT (i := 13) (v := ?_) rfl (by kernel_rfl) (by kernel_rfl) (by kernel_rfl) (fun _ _ _ h => h) (by rfl) (by rfl) hTS ?_ ?_
    rotate_left 1
    · intro X hSX
      (try dsimp only at hSX)
      first | (go_simp; done) | (go_simp; with_reducible rfl)
    clear hTS
    intro hTS
    try simp only [Act.put, List.setIfInBounds_toArray, List.set_cons_zero, List.set_cons_succ]
    refine takeT (i := 14) (v := ?_) rfl (by kernel_rfl) (by kernel_rfl) (by kernel_rfl) (fun _ _ _ h => h) (by rfl) (by rfl) hTS ?_ ?_
    rotate_left 1
    · intro X hSX
      (try dsimp only at hSX)
      first | (go_simp; done) | (go_simp; with_reducible rfl)
    clear hTS
    intro hTS
    try simp only [Act.put, List.setIfInBounds_toArray, List.set_cons_zero, List.set_cons_succ]
    refine takeT (i := 15) (v := ?_) rfl (by kernel_rfl) (by kernel_rfl) (by kernel_rfl) (fun _ _ _ h => h) (by rfl) (by rfl) hTS ?_ ?_
    rotate_left 1
    · intro X hSX
      (try dsimp only at hSX)
      first | (go_simp; done) | (go_simp; with_reducible rfl)
    clear hTS
    intro hTS
    try simp only [Act.put, List.setIfInBounds_toArray, List.set_cons_zero, List.set_cons_succ]
    have u0 := HUz.out.cell (i := 4) (v := .int .i64 y4) rfl
    have v0 := HUz.out.fr (i := 4)
    have HU0 := Lib.hid (HUz.out.set 4 (by simp) (.int .i64 (y4 - n)) rfl)
    have hd0 := And.intro ((cell_far (b := ub) (i := 4) (u := .int .i64 (y4 - n)) hcu).trans hdz.1) ((cell_far (b := ub) (i := 4) (u := .int .i64 (y4 - n)) hcu).trans hdz.2)
    refine only_oneT (i := 16) (by kernel_rfl) rfl (by rfl) ?_
    intro K hK
    go_simp
    refine hK.out _ _ (TS.gone (by kernel_rfl) (TS.holds (HU0.out.cell (i := 5) rfl) (TS.holds (HU0.out.cell (i := 6) rfl) (TS.nil hd0)))) ?_
    clear hK K hTS
    intro hTS
    try simp only [Act.put, List.setIfInBounds_toArray, List.set_cons_zero, List.set_cons_succ]
    clear u0 v0
    refine takeT (i := 17) (v := ?_) rfl (by kernel_rfl) (by kernel_rfl) (by kernel_rfl) (fun _ _ _ h => h) (by rfl) (by rfl) hTS ?_ ?_
    rotate_left 1
    · intro X hSX
      (try dsimp only at hSX)
      first | (go_simp; done) | (go_simp; with_reducible rfl)
    clear hTS
    intro hTS
    try simp only [Act.put, List.setIfInBounds_toArray, List.set_cons_zero, List.set_cons_succ]
    have u1 := HU0.out.cell (i := 5) (v := .int .i64 y5) rfl
    have v1 := HU0.out.fr (i := 5)
    have HU1 := Lib.hid (HU0.out.set 5 (by simp) (.int .i64 (y5 + n)) rfl)
    have hd1 := And.intro ((cell_far (b := ub) (i := 5) (u := .int .i64 (y5 + n)) hcu).trans hd0.1) ((cell_far (b := ub) (i := 5) (u := .int .i64 (y5 + n)) hcu).trans hd0.2)
    refine only_oneT (i := 18) (by kernel_rfl) rfl (by rfl) ?_
    intro K hK
    go_simp
    refine hK.out _ _ (TS.gone (by kernel_rfl) (TS.gone (by kernel_rfl) (TS.holds (HU1.out.cell (i := 6) rfl) (TS.nil hd1)))) ?_
    clear hK K hTS
    intro hTS
    try simp only [Act.put, List.setIfInBounds_toArray, List.set_cons_zero, List.set_cons_succ]
    clear u1 v1
    refine takeT (i := 19) (v := ?_) rfl (by kernel_rfl) (by kernel_rfl) (by kernel_rfl) (fun _ _ _ h => h) (by rfl) (by rfl) hTS ?_ ?_
    rotate_left 1
    · intro X hSX
      (try dsimp only at hSX)
      first | (go_simp; done) | (go_simp; with_reducible rfl)
    clear hTS
    intro hTS
    try simp only [Act.put, List.setIfInBounds_toArray, List.set_cons_zero, List.set_cons_succ]
    have u2 := HU1.out.cell (i := 6) (v := .int .i64 y6) rfl
    have v2 := HU1.out.fr (i := 6)
    have HU2 := Lib.hid (HU1.out.set 6 (by simp) (.int .i64 (y6 + n)) rfl)
    have hd2 := And.intro ((cell_far (b := ub) (i := 6) (u := .int .i64 (y6 + n)) hcu).trans hd1.1) ((cell_far (b := ub) (i := 6) (u := .int .i64 (y6 + n)) hcu).trans hd1.2)
    refine only_oneT (i := 20) (by kernel_rfl) rfl (by rfl) ?_
    intro K hK
    go_simp
    refine hK.out _ _ (TS.gone (by kernel_rfl) (TS.gone (by kernel_rfl) (TS.gone (by kernel_rfl) (TS.nil hd2)))) ?_
    clear hK K hTS
    intro hTS
    try simp only [Act.put, List.setIfInBounds_toArray, List.set_cons_zero, List.set_cons_succ]
    clear u2 v2
    have HBa := Lib.hid (((HBz.out.setCell (p := ⟨ub, 4, none⟩) (Nat.le_of_eq hub) (.int .i64 (y4 - n))).setCell (p := ⟨ub, 5, none⟩) (Nat.le_of_eq hub) (.int .i64 (y5 + n))).setCell (p := ⟨ub, 6, none⟩) (Nat.le_of_eq hub) (.int .i64 (y6 + n)))
    have HXa := Lib.hid (HX2.out.past (HBa.out))
    have HCa := Lib.hid (HC2.out.past (HBa.out))
    have HZa := Lib.hid (HZ2.out.past (HBa.out))
    have HRFa := Lib.hid (HRF2.out.past (HBa.out))
    have HWa := Lib.hid (HW2.out.trans ((HBa.out).mono HW2.out.size))
    refine wpAnyT_done (by kernel_rfl) ?_ _
    clear hTS hdz hd0 hd1 hd2
    obtain ⟨wa, hwwa⟩ : ∃ Z, ((wz.setCell ⟨ub, 4, none⟩ (.int .i64 (y4 - n))).setCell ⟨ub, 5, none⟩ (.int .i64 (y5 + n))).setCell ⟨ub, 6, none⟩ (.int .i64 (y6 + n)) = Z := ⟨_, rfl⟩
    rw [hwwa] at HU2 HBa HXa HCa HZa HRFa HWa
    try rw [hwwa]
    clear hwwa
    have HUa : Hid (Blk wa ub #[.int .i64 y0, .int .i64 y1, .int .i64 y2, .int .i64 y3, .int .i64 (y4 - n), .int .i64 (y5 + n), .int .i64 (y6 + n)] 63) := Lib.hid (by simpa using HU2.out)
    clear HUz HU0 HU1 HU2
    clear wr0 wr1 wr2
    go_upto_region 35 with fail
    have x0 := HXa.out.cell (i := 0) (v := .bool false) rfl
    have x1 := HXa.out.cell (i := 1) (v := .slice ps sp.length cs) rfl
    have x2 := HXa.out.cell (i := 2) (v := .int .i64 room) rfl
    have x3 := HXa.out.cell (i := 3) (v := .slice (some ⟨gw, 0, none⟩) l.length cw) rfl
    have x4 := HXa.out.cell (i := 4) (v := .slice pb L.length cb) rfl
    have g0 := HUa.out.cell (i := 0) (v := .int .i64 y0) rfl
    have g1 := HUa.out.cell (i := 1) (v := .int .i64 y1) rfl
    have g2 := HUa.out.cell (i := 2) (v := .int .i64 y2) rfl
    have g3 := HUa.out.cell (i := 3) (v := .int .i64 y3) rfl
    have g4 := HUa.out.cell (i := 4) (v := .int .i64 (y4 - n)) rfl
    have g5 := HUa.out.cell (i := 5) (v := .int .i64 (y5 + n)) rfl
    have g6 := HUa.out.cell (i := 6) (v := .int .i64 (y6 + n)) rfl
    have d1 := HCa.out.cell (i := 1) (v := .int .i64 (kk : Int)) rfl
    have HWI := Lib.hid (with_any false ps pb sp.length cs L.length cb room base gw cw l kk y0 y1 y2 y3 (y4 - n) (y5 + n) (y6 + n) y7 wa HRFa.out.war hkl hl)
    go_wp2_with fail
    refine HWI.out.mono ?_
    rintro e w9 ⟨hb9', vw, rfl, hwar⟩
    obtain ⟨gk2, ck2, rfl⟩ : ∃ gk2 ck2, vw = .slice (some ⟨gk2, 0, none⟩) l.length ck2 := by
      unfold WarR at hwar
      rw [List.length_set] at hwar
      rcases hwar.2 with ⟨_, h⟩ | ⟨gn, cn, cur, rfl, _⟩
      · omega
      · exact ⟨gn, cn, rfl⟩
    have HZ9 := Lib.hid (HZa.out.past hb9')
    have HW9 := Lib.hid (HWa.out.trans (hb9'.mono HWa.out.size))
    have HRF9 := Lib.hid (HRFa.out.past hb9')
    have hle : base ≤ wa.heap.size := Nat.le_trans hbase HWa.out.size
    have HR9 : Hid (RefAt w9 base sp (l.set kk ⟨y0, y1, y2, y3, (y4 - n), (y5 + n), (y6 + n), y7⟩) L ps cs gk2 ck2 pb cb) := Lib.hid ⟨HRF9.out.sp, by rw [List.length_set]; exact own_low hwar hle, HRF9.out.bat⟩
    clear hwar hb9' hle HWI x0 x1 x2 x3 x4 g0 g1 g2 g3 g4 g5 g6 d1
    have z0 := HZ9.out.cell (i := 0) (v := .bool false) rfl
    have z1 := HZ9.out.cell (i := 1) (v := .slice none 0 0) rfl
    have z2 := HZ9.out.cell (i := 2) (v := .int .i64 0) rfl
    have z3 := HZ9.out.cell (i := 3) (v := .slice none 0 0) rfl
    have z4 := HZ9.out.cell (i := 4) (v := .slice none 0 0) rfl
    have y0z := HZ9.out.fr (i := 0)
    have y1z := HZ9.out.fr (i := 1)
    have y2z := HZ9.out.fr (i := 2)
    have y3z := HZ9.out.fr (i := 3)
    have y4z := HZ9.out.fr (i := 4)
    have HZ8 := Lib.hid (blk_set5 HZ9.out (.bool false) (.slice ps sp.length cs) (.int .i64 room) (.slice (some ⟨gk2, 0, none⟩) l.length ck2) (.slice pb L.length cb) rfl rfl rfl rfl rfl)
    have HB8 := Lib.hid (below_set5 (b := xb + 2) HW9.out (by omega) (.bool false) (.slice ps sp.length cs) (.int .i64 room) (.slice (some ⟨gk2, 0, none⟩) l.length ck2) (.slice pb L.length cb))
    have HR8 := Lib.hid (HR9.out.set5 HZ9.out (.bool false) (.slice ps sp.length cs) (.int .i64 room) (.slice (some ⟨gk2, 0, none⟩) l.length ck2) (.slice pb L.length cb))
    go_wp2
    obtain ⟨w8, hw8⟩ : ∃ Z, ((((w9.setCell ⟨xb + 2, 0, none⟩ (.bool false)).setCell ⟨xb + 2, 1, none⟩ (.slice ps sp.length cs)).setCell ⟨xb + 2, 2, none⟩ (.int .i64 room)).setCell ⟨xb + 2, 3, none⟩ (.slice (some ⟨gk2, 0, none⟩) l.length ck2)).setCell ⟨xb + 2, 4, none⟩ (.slice pb L.length cb) = Z := ⟨_, rfl⟩
    rw [hw8] at HZ8 HB8 HR8
    try rw [hw8]
    have g0 := HZ8.out.cell (i := 0) (v := .bool false) rfl
    have g1 := HZ8.out.cell (i := 1) (v := .slice ps sp.length cs) rfl
    have g2 := HZ8.out.cell (i := 2) (v := .int .i64 room) rfl
    have g3 := HZ8.out.cell (i := 3) (v := .slice (some ⟨gk2, 0, none⟩) l.length ck2) rfl
    have g4 := HZ8.out.cell (i := 4) (v := .slice pb L.length cb) rfl
    refine bodyPost_ret (v := .tuple #[.agg #[.bool false, .slice ps sp.length cs, .int .i64 room, .slice (some ⟨gk2, 0, none⟩) l.length ck2, .slice pb L.length cb], .int .i64 0]) (by simp [results, Try.results27, go_sem, g0, g1, g2, g3, g4]) rfl ⟨HB8.out, gk2, ck2, pb, cb, by rw [HV.out]; simp, by rw [HV.out]; exact HR8.out⟩
  have d2 := HCu.out.cell (i := 2) (v := .int .i64 n) rfl
  have u3 := HUu.out.cell (i := 3) (v := .int .i64 y3) rfl
  have u6 := HUu.out.cell (i := 6) (v := .int .i64 y6) rfl
  by_cases hlow : y3 < n
  · skip
    go_upto_region 15 with fail
    have HV : Hid (R = (9, l, L)) := Lib.hid (by
      have hc : chF (replaceF n ⟨y0, y1, y2, y3, y4, y5, y6, y7⟩) = (St.zero, 9) := by rw [replace_few HOK.out (inB_parts HQ3.out).1]; simp [hlow]
      have h := coF_of (n := n) (g := replaceF n) (s' := St.zero) (e := 9) HQQ.out HQ3.out (by rw [HS0.out]; exact hc)
      rw [← HR.out]
      have e : stepF room l L m (kk : Int) n b bs br = ((coF l (kk : Int) n (replaceF n)).1, (coF l (kk : Int) n (replaceF n)).2, L) := by unfold stepF; rw [if_neg h1, if_neg h2, if_neg h3, if_neg h4, if_neg h5, if_neg h6]
      rw [e, h]
      simp)
    have e0z := HXu.out.cell (i := 0) (v := (.bool false)) rfl
    have e1z := HXu.out.cell (i := 1) (v := (.slice ps sp.length cs)) rfl
    have e2z := HXu.out.cell (i := 2) (v := (.int .i64 room)) rfl
    have e3z := HXu.out.cell (i := 3) (v := (.slice (some ⟨gw, 0, none⟩) l.length cw)) rfl
    have e4z := HXu.out.cell (i := 4) (v := (.slice pb L.length cb)) rfl
    have z0z := HZu.out.cell (i := 0) (v := (.bool false)) rfl
    have y0z := HZu.out.fr (i := 0)
    have z1z := HZu.out.cell (i := 1) (v := (.slice none 0 0)) rfl
    have y1z := HZu.out.fr (i := 1)
    have z2z := HZu.out.cell (i := 2) (v := (.int .i64 0)) rfl
    have y2z := HZu.out.fr (i := 2)
    have z3z := HZu.out.cell (i := 3) (v := (.slice none 0 0)) rfl
    have y3z := HZu.out.fr (i := 3)
    have z4z := HZu.out.cell (i := 4) (v := (.slice none 0 0)) rfl
    have y4z := HZu.out.fr (i := 4)
    have HZ8 := Lib.hid (blk_set5 HZu.out (.bool false) (.slice ps sp.length cs) (.int .i64 room) (.slice (some ⟨gw, 0, none⟩) l.length cw) (.slice pb L.length cb) rfl rfl rfl rfl rfl)
    have HB8 := Lib.hid (below_set5 (b := xb + 2) HWu.out (by omega) (.bool false) (.slice ps sp.length cs) (.int .i64 room) (.slice (some ⟨gw, 0, none⟩) l.length cw) (.slice pb L.length cb))
    have HR8 := Lib.hid (HRFu.out.set5 HZu.out (.bool false) (.slice ps sp.length cs) (.int .i64 room) (.slice (some ⟨gw, 0, none⟩) l.length cw) (.slice pb L.length cb))
    go_wp2
    obtain ⟨w8, hw8⟩ : ∃ Z, ((((wu.setCell ⟨xb + 2, 0, none⟩ (.bool false)).setCell ⟨xb + 2, 1, none⟩ (.slice ps sp.length cs)).setCell ⟨xb + 2, 2, none⟩ (.int .i64 room)).setCell ⟨xb + 2, 3, none⟩ (.slice (some ⟨gw, 0, none⟩) l.length cw)).setCell ⟨xb + 2, 4, none⟩ (.slice pb L.length cb) = Z := ⟨_, rfl⟩
    rw [hw8] at HZ8 HB8 HR8
    try rw [hw8]
    have g0 := HZ8.out.cell (i := 0) (v := (.bool false)) rfl
    have g1 := HZ8.out.cell (i := 1) (v := (.slice ps sp.length cs)) rfl
    have g2 := HZ8.out.cell (i := 2) (v := (.int .i64 room)) rfl
    have g3 := HZ8.out.cell (i := 3) (v := (.slice (some ⟨gw, 0, none⟩) l.length cw)) rfl
    have g4 := HZ8.out.cell (i := 4) (v := (.slice pb L.length cb)) rfl
    refine bodyPost_ret (v := .tuple #[.agg #[.bool false, .slice ps sp.length cs, .int .i64 room, .slice (some ⟨gw, 0, none⟩) l.length cw, .slice pb L.length cb], .int .i64 9]) (by simp [results, Try.results27, go_sem, g0, g1, g2, g3, g4]) rfl ⟨HB8.out, _, _, _, _, by rw [HV.out], by rw [HV.out]; exact HR8.out⟩
  by_cases hlow6 : y6 < n
  · skip
    go_upto_region 15 with fail
    have HV : Hid (R = (9, l, L)) := Lib.hid (by
      have hc : chF (replaceF n ⟨y0, y1, y2, y3, y4, y5, y6, y7⟩) = (St.zero, 9) := by rw [replace_few HOK.out (inB_parts HQ3.out).1]; simp [hlow6]
      have h := coF_of (n := n) (g := replaceF n) (s' := St.zero) (e := 9) HQQ.out HQ3.out (by rw [HS0.out]; exact hc)
      rw [← HR.out]
      have e : stepF room l L m (kk : Int) n b bs br = ((coF l (kk : Int) n (replaceF n)).1, (coF l (kk : Int) n (replaceF n)).2, L) := by unfold stepF; rw [if_neg h1, if_neg h2, if_neg h3, if_neg h4, if_neg h5, if_neg h6]
      rw [e, h]
      simp)
    have e0z := HXu.out.cell (i := 0) (v := (.bool false)) rfl
    have e1z := HXu.out.cell (i := 1) (v := (.slice ps sp.length cs)) rfl
    have e2z := HXu.out.cell (i := 2) (v := (.int .i64 room)) rfl
    have e3z := HXu.out.cell (i := 3) (v := (.slice (some ⟨gw, 0, none⟩) l.length cw)) rfl
    have e4z := HXu.out.cell (i := 4) (v := (.slice pb L.length cb)) rfl
    have z0z := HZu.out.cell (i := 0) (v := (.bool false)) rfl
    have y0z := HZu.out.fr (i := 0)
    have z1z := HZu.out.cell (i := 1) (v := (.slice none 0 0)) rfl
    have y1z := HZu.out.fr (i := 1)
    have z2z := HZu.out.cell (i := 2) (v := (.int .i64 0)) rfl
    have y2z := HZu.out.fr (i := 2)
    have z3z := HZu.out.cell (i := 3) (v := (.slice none 0 0)) rfl
    have y3z := HZu.out.fr (i := 3)
    have z4z := HZu.out.cell (i := 4) (v := (.slice none 0 0)) rfl
    have y4z := HZu.out.fr (i := 4)
    have HZ8 := Lib.hid (blk_set5 HZu.out (.bool false) (.slice ps sp.length cs) (.int .i64 room) (.slice (some ⟨gw, 0, none⟩) l.length cw) (.slice pb L.length cb) rfl rfl rfl rfl rfl)
    have HB8 := Lib.hid (below_set5 (b := xb + 2) HWu.out (by omega) (.bool false) (.slice ps sp.length cs) (.int .i64 room) (.slice (some ⟨gw, 0, none⟩) l.length cw) (.slice pb L.length cb))
    have HR8 := Lib.hid (HRFu.out.set5 HZu.out (.bool false) (.slice ps sp.length cs) (.int .i64 room) (.slice (some ⟨gw, 0, none⟩) l.length cw) (.slice pb L.length cb))
    go_wp2
    obtain ⟨w8, hw8⟩ : ∃ Z, ((((wu.setCell ⟨xb + 2, 0, none⟩ (.bool false)).setCell ⟨xb + 2, 1, none⟩ (.slice ps sp.length cs)).setCell ⟨xb + 2, 2, none⟩ (.int .i64 room)).setCell ⟨xb + 2, 3, none⟩ (.slice (some ⟨gw, 0, none⟩) l.length cw)).setCell ⟨xb + 2, 4, none⟩ (.slice pb L.length cb) = Z := ⟨_, rfl⟩
    rw [hw8] at HZ8 HB8 HR8
    try rw [hw8]
    have g0 := HZ8.out.cell (i := 0) (v := (.bool false)) rfl
    have g1 := HZ8.out.cell (i := 1) (v := (.slice ps sp.length cs)) rfl
    have g2 := HZ8.out.cell (i := 2) (v := (.int .i64 room)) rfl
    have g3 := HZ8.out.cell (i := 3) (v := (.slice (some ⟨gw, 0, none⟩) l.length cw)) rfl
    have g4 := HZ8.out.cell (i := 4) (v := (.slice pb L.length cb)) rfl
    refine bodyPost_ret (v := .tuple #[.agg #[.bool false, .slice ps sp.length cs, .int .i64 room, .slice (some ⟨gw, 0, none⟩) l.length cw, .slice pb L.length cb], .int .i64 9]) (by simp [results, Try.results27, go_sem, g0, g1, g2, g3, g4]) rfl ⟨HB8.out, _, _, _, _, by rw [HV.out], by rw [HV.out]; exact HR8.out⟩
  have HV : Hid (R = (0, l.set kk ⟨y0, y1, y2, y3 - n, y4 + n, y5, y6 - n, y7⟩, L)) := Lib.hid (by
    have hc : chF (replaceF n ⟨y0, y1, y2, y3, y4, y5, y6, y7⟩) = (⟨y0, y1, y2, y3 - n, y4 + n, y5, y6 - n, y7⟩, 0) := by rw [replace_few HOK.out (inB_parts HQ3.out).1]; simp [hlow, hlow6]
    have h := coF_of (n := n) (g := replaceF n) (s' := ⟨y0, y1, y2, y3 - n, y4 + n, y5, y6 - n, y7⟩) (e := 0) HQQ.out HQ3.out (by rw [HS0.out]; exact hc)
    rw [← HR.out]
    have e : stepF room l L m (kk : Int) n b bs br = ((coF l (kk : Int) n (replaceF n)).1, (coF l (kk : Int) n (replaceF n)).2, L) := by unfold stepF; rw [if_neg h1, if_neg h2, if_neg h3, if_neg h4, if_neg h5, if_neg h6]
    rw [e, h]
    simp)
  have hok := HOK.out
  simp only [St.Good, St.Ok] at hok
  have wr0 : IntKind.i64.wrap (y3 - n) = y3 - n := wrap_id (by omega) (by omega)
  have wr1 : IntKind.i64.wrap (y4 + n) = y4 + n := wrap_id (by omega) (by omega)
  have wr2 : IntKind.i64.wrap (y6 - n) = y6 - n := wrap_id (by omega) (by omega)
  clear hok
  go_upto_region 16 with fail
  clear u3 u6 d2 hlow hlow6
  have HUz : Hid (Blk wu.drew ub #[.int .i64 y0, .int .i64 y1, .int .i64 y2, .int .i64 y3, .int .i64 y4, .int .i64 y5, .int .i64 y6] 63) := Lib.hid HUu.out.drew
  have HBz : Hid (Below w2.heap.size w2 wu.drew) := Lib.hid HBu.out.drew
  have hdz := And.intro ((HC2.out.past HBz.out).cell (i := 2) (v := .int .i64 n) rfl) ((HC2.out.past HBz.out).cell (i := 3) (v := .int .i64 b) rfl)
  refine region_T [(16, ⟨ub, 3, none⟩, .int .i64 y3), (18, ⟨ub, 4, none⟩, .int .i64 y4), (20, ⟨ub, 6, none⟩, .int .i64 y6)] (fun W => W.cell? ⟨xb + 1, 2, none⟩ = some (.int .i64 n) ∧ W.cell? ⟨xb + 1, 3, none⟩ = some (.int .i64 b)) 21 #[false, false, false, false, false, false, false, false, false, false, false, false, false, false, false, false, false, false, false, false, false] rfl rfl (by kernel_rfl) (TS.holds (HUz.out.cell (i := 3) rfl) (TS.holds (HUz.out.cell (i := 4) rfl) (TS.holds (HUz.out.cell (i := 6) rfl) (TS.nil hdz)))) ?_
  intro hTS
  obtain ⟨wz, hwwz⟩ : ∃ Z, wu.drew = Z := ⟨_, rfl⟩
  rw [hwwz] at HUz HBz hdz hTS
  try rw [hwwz]
  clear hwwz
  have hcu : xb + 1 ≠ ub := by omega
  refine takeT (i := 0) (v := ?_) rfl (by kernel_rfl) (by kernel_rfl) (by kernel_rfl) (fun _ _ _ h => h) (by rfl) (by rfl) hTS ?_ ?_
  rotate_left 1
  · intro X hSX
    (try dsimp only at hSX)
    first | (go_simp; done) | (go_simp; with_reducible rfl)
  clear hTS
  intro hTS
  try simp only [Act.put, List.setIfInBounds_toArray, List.set_cons_zero, List.set_cons_succ]
  refine loadT 16 0 (i := 1) (v := ?_) rfl (by kernel_rfl) (by kernel_rfl) rfl (by kernel_rfl) (by kernel_rfl) (by kernel_rfl) (fun _ _ _ h => h) (by rfl) (by rfl) hTS ?_ ?_
  rotate_left 1
  · intro X hSX hSC
    (try dsimp only at hSX)
    first | (go_simp; done) | (go_simp; with_reducible rfl)
  clear hTS
  intro hTS
  try simp only [Act.put, List.setIfInBounds_toArray, List.set_cons_zero, List.set_cons_succ]
  refine takeT (i := 2) (v := ?_) rfl (by kernel_rfl) (by kernel_rfl) (by kernel_rfl) (fun _ _ _ h => h) (by rfl) (by rfl) hTS ?_ ?_
  rotate_left 1
  · intro X hSX
    (try dsimp only at hSX)
    first | (go_simp; done) | (go_simp; with_reducible rfl)
  clear hTS
  intro hTS
  try simp only [Act.put, List.setIfInBounds_toArray, List.set_cons_zero, List.set_cons_succ]
  refine takeT (i := 3) (v := ?_) rfl (by kernel_rfl) (by kernel_rfl) (by kernel_rfl) (fun _ _ _ h => h) (by rfl) (by rfl) hTS ?_ ?_
  rotate_left 1
  · intro X hSX
    (try dsimp only at hSX)
    first | (go_simp; done) | (go_simp; with_reducible rfl)
  clear hTS
  intro hTS
  try simp only [Act.put, List.setIfInBounds_toArray, List.set_cons_zero, List.set_cons_succ]
  refine takeT (i := 4) (v := ?_) rfl (by kernel_rfl) (by kernel_rfl) (by kernel_rfl) (fun _ _ _ h => h) (by rfl) (by rfl) hTS ?_ ?_
  rotate_left 1
  · intro X hSX
    (try dsimp only at hSX)
    first | (go_simp; done) | (go_simp; with_reducible rfl)
  clear hTS
  intro hTS
  try simp only [Act.put, List.setIfInBounds_toArray, List.set_cons_zero, List.set_cons_succ]
  refine takeT (i := 5) (v := ?_) rfl (by kernel_rfl) (by kernel_rfl) (by kernel_rfl) (fun _ _ _ h => h) (by rfl) (by rfl) hTS ?_ ?_
  rotate_left 1
  · intro X hSX
    (try dsimp only at hSX)
    first | (go_simp; done) | (go_simp; with_reducible rfl)
  clear hTS
  intro hTS
  try simp only [Act.put, List.setIfInBounds_toArray, List.set_cons_zero, List.set_cons_succ]
  refine loadT 18 1 (i := 6) (v := ?_) rfl (by kernel_rfl) (by kernel_rfl) rfl (by kernel_rfl) (by kernel_rfl) (by kernel_rfl) (fun _ _ _ h => h) (by rfl) (by rfl) hTS ?_ ?_
  rotate_left 1
  · intro X hSX hSC
    (try dsimp only at hSX)
    first | (go_simp; done) | (go_simp; with_reducible rfl)
  clear hTS
  intro hTS
  try simp only [Act.put, List.setIfInBounds_toArray, List.set_cons_zero, List.set_cons_succ]
  refine takeT (i := 7) (v := ?_) rfl (by kernel_rfl) (by kernel_rfl) (by kernel_rfl) (fun _ _ _ h => h) (by rfl) (by rfl) hTS ?_ ?_
  rotate_left 1
  · intro X hSX
    (try dsimp only at hSX)
    first | (go_simp; done) | (go_simp; with_reducible rfl)
  clear hTS
  intro hTS
  try simp only [Act.put, List.setIfInBounds_toArray, List.set_cons_zero, List.set_cons_succ]
  refine takeT (i := 8) (v := ?_) rfl (by kernel_rfl) (by kernel_rfl) (by kernel_rfl) (fun _ _ _ h => h) (by rfl) (by rfl) hTS ?_ ?_
  rotate_left 1
  · intro X hSX
    (try dsimp only at hSX)
    first | (go_simp; done) | (go_simp; with_reducible rfl)
  clear hTS
  intro hTS
  try simp only [Act.put, List.setIfInBounds_toArray, List.set_cons_zero, List.set_cons_succ]
  refine takeT (i := 9) (v := ?_) rfl (by kernel_rfl) (by kernel_rfl) (by kernel_rfl) (fun _ _ _ h => h) (by rfl) (by rfl) hTS ?_ ?_
  rotate_left 1
  · intro X hSX
    (try dsimp only at hSX)
    first | (go_simp; done) | (go_simp; with_reducible rfl)
  clear hTS
  intro hTS
  try simp only [Act.put, List.setIfInBounds_toArray, List.set_cons_zero, List.set_cons_succ]
  refine takeT (i := 10) (v := ?_) rfl (by kernel_rfl) (by kernel_rfl) (by kernel_rfl) (fun _ _ _ h => h) (by rfl) (by rfl) hTS ?_ ?_
  rotate_left 1
  · intro X hSX
    (try dsimp only at hSX)
    first | (go_simp; done) | (go_simp; with_reducible rfl)
  clear hTS
  intro hTS
  try simp only [Act.put, List.setIfInBounds_toArray, List.set_cons_zero, List.set_cons_succ]
  refine loadT 20 2 (i := 11) (v := ?_) rfl (by kernel_rfl) (by kernel_rfl) rfl (by kernel_rfl) (by kernel_rfl) (by kernel_rfl) (fun _ _ _ h => h) (by rfl) (by rfl) hTS ?_ ?_
  rotate_left 1
  · intro X hSX hSC
    (try dsimp only at hSX)
    first | (go_simp; done) | (go_simp; with_reducible rfl)
  clear hTS
  intro hTS
  try simp only [Act.put, List.setIfInBounds_toArray, List.set_cons_zero, List.set_cons_succ]
  refine takeT (i := 12) (v := ?_) rfl (by kernel_rfl) (by kernel_rfl) (by kernel_rfl) (fun _ _ _ h => h) (by rfl) (by rfl) hTS ?_ ?_
  rotate_left 1
  · intro X hSX
    (try dsimp only at hSX)
    first | (go_simp; done) | (go_simp; with_reducible rfl)
  clear hTS
  intro hTS
  try simp only [Act.put, List.setIfInBounds_toArray, List.set_cons_zero, List.set_cons_succ]
  refine takeT (i := 13) (v := ?_) rfl (by kernel_rfl) (by kernel_rfl) (by kernel_rfl) (fun _ _ _ h => h) (by rfl) (by rfl) hTS ?_ ?_
  rotate_left 1
  · intro X hSX
    (try dsimp only at hSX)
    first | (go_simp; done) | (go_simp; with_reducible rfl)
  clear hTS
  intro hTS
  try simp only [Act.put, List.setIfInBounds_toArray, List.set_cons_zero, List.set_cons_succ]
  refine takeT (i := 14) (v := ?_) rfl (by kernel_rfl) (by kernel_rfl) (by kernel_rfl) (fun _ _ _ h => h) (by rfl) (by rfl) hTS ?_ ?_
  rotate_left 1
  · intro X hSX
    (try dsimp only at hSX)
    first | (go_simp; done) | (go_simp; with_reducible rfl)
  clear hTS
  intro hTS
  try simp only [Act.put, List.setIfInBounds_toArray, List.set_cons_zero, List.set_cons_succ]
  refine takeT (i := 15) (v := ?_) rfl (by kernel_rfl) (by kernel_rfl) (by kernel_rfl) (fun _ _ _ h => h) (by rfl) (by rfl) hTS ?_ ?_
  rotate_left 1
  · intro X hSX
    (try dsimp only at hSX)
    first | (go_simp; done) | (go_simp; with_reducible rfl)
  clear hTS
  intro hTS
  try simp only [Act.put, List.setIfInBounds_toArray, List.set_cons_zero, List.set_cons_succ]
  have u0 := HUz.out.cell (i := 3) (v := .int .i64 y3) rfl
  have v0 := HUz.out.fr (i := 3)
  have HU0 := Lib.hid (HUz.out.set 3 (by simp) (.int .i64 (y3 - n)) rfl)
  have hd0 := And.intro ((cell_far (b := ub) (i := 3) (u := .int .i64 (y3 - n)) hcu).trans hdz.1) ((cell_far (b := ub) (i := 3) (u := .int .i64 (y3 - n)) hcu).trans hdz.2)
  refine only_oneT (i := 16) (by kernel_rfl) rfl (by rfl) ?_
  intro K hK
  go_simp
  refine hK.out _ _ (TS.gone (by kernel_rfl) (TS.holds (HU0.out.cell (i := 4) rfl) (TS.holds (HU0.out.cell (i := 6) rfl) (TS.nil hd0)))) ?_
  clear hK K hTS
  intro hTS
  try simp only [Act.put, List.setIfInBounds_toArray, List.set_cons_zero, List.set_cons_succ]
  clear u0 v0
  refine takeT (i := 17) (v := ?_) rfl (by kernel_rfl) (by kernel_rfl) (by kernel_rfl) (fun _ _ _ h => h) (by rfl) (by rfl) hTS ?_ ?_
  rotate_left 1
  · intro X hSX
    (try dsimp only at hSX)
    first | (go_simp; done) | (go_simp; with_reducible rfl)
  clear hTS
  intro hTS
  try simp only [Act.put, List.setIfInBounds_toArray, List.set_cons_zero, List.set_cons_succ]
  have u1 := HU0.out.cell (i := 4) (v := .int .i64 y4) rfl
  have v1 := HU0.out.fr (i := 4)
  have HU1 := Lib.hid (HU0.out.set 4 (by simp) (.int .i64 (y4 + n)) rfl)
  have hd1 := And.intro ((cell_far (b := ub) (i := 4) (u := .int .i64 (y4 + n)) hcu).trans hd0.1) ((cell_far (b := ub) (i := 4) (u := .int .i64 (y4 + n)) hcu).trans hd0.2)
  refine only_oneT (i := 18) (by kernel_rfl) rfl (by rfl) ?_
  intro K hK
  go_simp
  refine hK.out _ _ (TS.gone (by kernel_rfl) (TS.gone (by kernel_rfl) (TS.holds (HU1.out.cell (i := 6) rfl) (TS.nil hd1)))) ?_
  clear hK K hTS
  intro hTS
  try simp only [Act.put, List.setIfInBounds_toArray, List.set_cons_zero, List.set_cons_succ]
  clear u1 v1
  refine takeT (i := 19) (v := ?_) rfl (by kernel_rfl) (by kernel_rfl) (by kernel_rfl) (fun _ _ _ h => h) (by rfl) (by rfl) hTS ?_ ?_
  rotate_left 1
  · intro X hSX
    (try dsimp only at hSX)
    first | (go_simp; done) | (go_simp; with_reducible rfl)
  clear hTS
  intro hTS
  try simp only [Act.put, List.setIfInBounds_toArray, List.set_cons_zero, List.set_cons_succ]
  have u2 := HU1.out.cell (i := 6) (v := .int .i64 y6) rfl
  have v2 := HU1.out.fr (i := 6)
  have HU2 := Lib.hid (HU1.out.set 6 (by simp) (.int .i64 (y6 - n)) rfl)
  have hd2 := And.intro ((cell_far (b := ub) (i := 6) (u := .int .i64 (y6 - n)) hcu).trans hd1.1) ((cell_far (b := ub) (i := 6) (u := .int .i64 (y6 - n)) hcu).trans hd1.2)
  refine only_oneT (i := 20) (by kernel_rfl) rfl (by rfl) ?_
  intro K hK
  go_simp
  refine hK.out _ _ (TS.gone (by kernel_rfl) (TS.gone (by kernel_rfl) (TS.gone (by kernel_rfl) (TS.nil hd2)))) ?_
  clear hK K hTS
  intro hTS
  try simp only [Act.put, List.setIfInBounds_toArray, List.set_cons_zero, List.set_cons_succ]
  clear u2 v2
  have HBa := Lib.hid (((HBz.out.setCell (p := ⟨ub, 3, none⟩) (Nat.le_of_eq hub) (.int .i64 (y3 - n))).setCell (p := ⟨ub, 4, none⟩) (Nat.le_of_eq hub) (.int .i64 (y4 + n))).setCell (p := ⟨ub, 6, none⟩) (Nat.le_of_eq hub) (.int .i64 (y6 - n)))
  have HXa := Lib.hid (HX2.out.past (HBa.out))
  have HCa := Lib.hid (HC2.out.past (HBa.out))
  have HZa := Lib.hid (HZ2.out.past (HBa.out))
  have HRFa := Lib.hid (HRF2.out.past (HBa.out))
  have HWa := Lib.hid (HW2.out.trans ((HBa.out).mono HW2.out.size))
  refine wpAnyT_done (by kernel_rfl) ?_ _
  clear hTS hdz hd0 hd1 hd2
  obtain ⟨wa, hwwa⟩ : ∃ Z, ((wz.setCell ⟨ub, 3, none⟩ (.int .i64 (y3 - n))).setCell ⟨ub, 4, none⟩ (.int .i64 (y4 + n))).setCell ⟨ub, 6, none⟩ (.int .i64 (y6 - n)) = Z := ⟨_, rfl⟩
  rw [hwwa] at HU2 HBa HXa HCa HZa HRFa HWa
  try rw [hwwa]
  clear hwwa
  have HUa : Hid (Blk wa ub #[.int .i64 y0, .int .i64 y1, .int .i64 y2, .int .i64 (y3 - n), .int .i64 (y4 + n), .int .i64 y5, .int .i64 (y6 - n)] 63) := Lib.hid (by simpa using HU2.out)
  clear HUz HU0 HU1 HU2
  clear wr0 wr1 wr2
  go_upto_region 35 with fail
  have x0 := HXa.out.cell (i := 0) (v := .bool false) rfl
  have x1 := HXa.out.cell (i := 1) (v := .slice ps sp.length cs) rfl
  have x2 := HXa.out.cell (i := 2) (v := .int .i64 room) rfl
  have x3 := HXa.out.cell (i := 3) (v := .slice (some ⟨gw, 0, none⟩) l.length cw) rfl
  have x4 := HXa.out.cell (i := 4) (v := .slice pb L.length cb) rfl
  have g0 := HUa.out.cell (i := 0) (v := .int .i64 y0) rfl
  have g1 := HUa.out.cell (i := 1) (v := .int .i64 y1) rfl
  have g2 := HUa.out.cell (i := 2) (v := .int .i64 y2) rfl
  have g3 := HUa.out.cell (i := 3) (v := .int .i64 (y3 - n)) rfl
  have g4 := HUa.out.cell (i := 4) (v := .int .i64 (y4 + n)) rfl
  have g5 := HUa.out.cell (i := 5) (v := .int .i64 y5) rfl
  have g6 := HUa.out.cell (i := 6) (v := .int .i64 (y6 - n)) rfl
  have d1 := HCa.out.cell (i := 1) (v := .int .i64 (kk : Int)) rfl
  have HWI := Lib.hid (with_any false ps pb sp.length cs L.length cb room base gw cw l kk y0 y1 y2 (y3 - n) (y4 + n) y5 (y6 - n) y7 wa HRFa.out.war hkl hl)
  go_wp2_with fail
  refine HWI.out.mono ?_
  rintro e w9 ⟨hb9', vw, rfl, hwar⟩
  obtain ⟨gk2, ck2, rfl⟩ : ∃ gk2 ck2, vw = .slice (some ⟨gk2, 0, none⟩) l.length ck2 := by
    unfold WarR at hwar
    rw [List.length_set] at hwar
    rcases hwar.2 with ⟨_, h⟩ | ⟨gn, cn, cur, rfl, _⟩
    · omega
    · exact ⟨gn, cn, rfl⟩
  have HZ9 := Lib.hid (HZa.out.past hb9')
  have HW9 := Lib.hid (HWa.out.trans (hb9'.mono HWa.out.size))
  have HRF9 := Lib.hid (HRFa.out.past hb9')
  have hle : base ≤ wa.heap.size := Nat.le_trans hbase HWa.out.size
  have HR9 : Hid (RefAt w9 base sp (l.set kk ⟨y0, y1, y2, (y3 - n), (y4 + n), y5, (y6 - n), y7⟩) L ps cs gk2 ck2 pb cb) := Lib.hid ⟨HRF9.out.sp, by rw [List.length_set]; exact own_low hwar hle, HRF9.out.bat⟩
  clear hwar hb9' hle HWI x0 x1 x2 x3 x4 g0 g1 g2 g3 g4 g5 g6 d1
  have z0 := HZ9.out.cell (i := 0) (v := .bool false) rfl
  have z1 := HZ9.out.cell (i := 1) (v := .slice none 0 0) rfl
  have z2 := HZ9.out.cell (i := 2) (v := .int .i64 0) rfl
  have z3 := HZ9.out.cell (i := 3) (v := .slice none 0 0) rfl
  have z4 := HZ9.out.cell (i := 4) (v := .slice none 0 0) rfl
  have y0z := HZ9.out.fr (i := 0)
  have y1z := HZ9.out.fr (i := 1)
  have y2z := HZ9.out.fr (i := 2)
  have y3z := HZ9.out.fr (i := 3)
  have y4z := HZ9.out.fr (i := 4)
  have HZ8 := Lib.hid (blk_set5 HZ9.out (.bool false) (.slice ps sp.length cs) (.int .i64 room) (.slice (some ⟨gk2, 0, none⟩) l.length ck2) (.slice pb L.length cb) rfl rfl rfl rfl rfl)
  have HB8 := Lib.hid (below_set5 (b := xb + 2) HW9.out (by omega) (.bool false) (.slice ps sp.length cs) (.int .i64 room) (.slice (some ⟨gk2, 0, none⟩) l.length ck2) (.slice pb L.length cb))
  have HR8 := Lib.hid (HR9.out.set5 HZ9.out (.bool false) (.slice ps sp.length cs) (.int .i64 room) (.slice (some ⟨gk2, 0, none⟩) l.length ck2) (.slice pb L.length cb))
  go_wp2
  obtain ⟨w8, hw8⟩ : ∃ Z, ((((w9.setCell ⟨xb + 2, 0, none⟩ (.bool false)).setCell ⟨xb + 2, 1, none⟩ (.slice ps sp.length cs)).setCell ⟨xb + 2, 2, none⟩ (.int .i64 room)).setCell ⟨xb + 2, 3, none⟩ (.slice (some ⟨gk2, 0, none⟩) l.length ck2)).setCell ⟨xb + 2, 4, none⟩ (.slice pb L.length cb) = Z := ⟨_, rfl⟩
  rw [hw8] at HZ8 HB8 HR8
  try rw [hw8]
  have g0 := HZ8.out.cell (i := 0) (v := .bool false) rfl
  have g1 := HZ8.out.cell (i := 1) (v := .slice ps sp.length cs) rfl
  have g2 := HZ8.out.cell (i := 2) (v := .int .i64 room) rfl
  have g3 := HZ8.out.cell (i := 3) (v := .slice (some ⟨gk2, 0, none⟩) l.length ck2) rfl
  have g4 := HZ8.out.cell (i := 4) (v := .slice pb L.length cb) rfl
  refine bodyPost_ret (v := .tuple #[.agg #[.bool false, .slice ps sp.length cs, .int .i64 room, .slice (some ⟨gk2, 0, none⟩) l.length ck2, .slice pb L.length cb], .int .i64 0]) (by simp [results, Try.results27, go_sem, g0, g1, g2, g3, g4]) rfl ⟨HB8.out, gk2, ck2, pb, cb, by rw [HV.out]; simp, by rw [HV.out]; exact HR8.out⟩
end Go.Proofs.Ytopnlcjbklmicaa
