import Derived.Test.YtopnlcjbklmicaaK33
import Derived.WalkKit
import Derived.WalkSpells
import Derived.WalkLawsBesides
import Derived.Deep.QuietTactic
import Derived.BigQuiet
import Derived.Lib.Hide
import Derived.WalkSmall
import Derived.Maps.OwnSet
import Derived.Maps.RangeWalk
import Derived.Deep.RegionWith
import Derived.Deep.RegionHeld3
import Derived.Deep.DrawnRows
import Derived.Deep.DeepCutAuto
import Derived.OneCell
import Derived.KernelRfl
import Derived.Laws.StructEq
import Derived.StillTailTactics
import Derived.Laws.Externs
import Derived.RangeFuncBox
import Derived.Outline
import Derived.RangeFuncNested
import Derived.RangeFuncBound
import Derived.RangeFuncCalls
import Derived.RangeFuncLeaves
import Derived.Shelf.RegionOpen
import Derived.OwnWalkIn
import Derived.TacticsInMore
import Derived.LoopNIn
import Derived.LoopIn
import Derived.Test.YtopnlcjbklmicaaProg
namespace Go.Proofs.Ytopnlcjbklmicaa
open Go.RowKit Go.Maps Go.Shelf
set_option linter.unusedVariables false
set_option linter.unusedSimpArgs false
theorem pairs_two (W : World) (b : Nat) (hb : W.heap.size = b) (x y z u : Int) (T : TypeId) : PairsAt (W.alloc (.cells #[.int .i64 x, .int .i64 y, .int .i64 z, .int .i64 u] T)) (.slice (some ⟨b, 0, none⟩) 2 2) [(x, y), (z, u)] := by
  have B := Blk.newI W b #[.int .i64 x, .int .i64 y, .int .i64 z, .int .i64 u] T hb
  refine ⟨by simp, .inr ⟨b, 0, 2, rfl, by simp, B.lt, fun i hi => ?_⟩⟩
  have hi2 : i = 0 ∨ i = 1 := by simp at hi; omega
  rcases hi2 with rfl | rfl
  · exact ⟨B.cell (i := 0) rfl, B.cell (i := 1) rfl⟩
  · exact ⟨B.cell (i := 2) rfl, B.cell (i := 3) rfl⟩
set_option maxRecDepth 100000 in
set_option maxHeartbeats 4000000 in
theorem known_any (w : World) : Calls Try.prog 16 #[] w fun e w' => e = .returned (.bool true) ∧ Below w.heap.size w w' := by
  have HM := Lib.hid fun w => moulds_any 900 940 500 600 100 200 w
  rw [known_moulds] at HM
  go_enter Try.func16, Try.ntmps16
  go_wp2_with fail
  refine (HM.out _).mono ?_
  rintro e w1 ⟨rfl, hb1⟩
  obtain ⟨xb, hxb⟩ : ∃ xb, w1.heap.size = xb := ⟨_, rfl⟩
  have B2 := hb1.alloc hb1.size (.cells #[.int .i64 977, .int .i64 999] 23)
  have X2 := Blk.newI w1 xb #[.int .i64 977, .int .i64 999] 23 hxb
  have HP := pairs_two (w1.alloc (.cells #[.int .i64 977, .int .i64 999] 23)) (xb + 1) (by simp [hxb]) 500 1000 500 1000 124
  have B3 := B2.alloc B2.size (.cells #[.int .i64 500, .int .i64 1000, .int .i64 500, .int .i64 1000] 124)
  have X3 := X2.alloc (.cells #[.int .i64 500, .int .i64 1000, .int .i64 500, .int .i64 1000] 124)
  have HND := Lib.hid (need_any 81 _ _ _ HP)
  have HB3 := Lib.hid B3
  have HX3 := Lib.hid X3
  clear B2 X2 HP B3 X3 hb1 HM
  go_wp2_with fail
  refine (HND.out).mono ?_
  rintro e w2 ⟨r, hr, rfl, hb2⟩
  have hr := known_need hr
  subst hr
  have HB4 := Lib.hid (HB3.out.trans (hb2.mono HB3.out.size))
  have HX4 := Lib.hid (HX3.out.past hb2)
  clear hb2 HB3 HX3 HND
  go_wp2_with fail
  refine (two_any _).mono ?_
  rintro e w3 ⟨tb, rfl, ht, hb3⟩
  have HB5 := Lib.hid (HB4.out.trans (hb3.mono HB4.out.size))
  have HX5 := Lib.hid (HX4.out.past hb3)
  have HL := Lib.hid (loadsAll_any _ 2 1 _ _ _ ht)
  clear hb3 ht HB4 HX4
  go_wp2_with fail
  refine (HL.out).mono ?_
  intro e w4 hL
  obtain ⟨hb4, bv, fv, rfl, hrows⟩ := two_rows hL
  have HB6 := Lib.hid (HB5.out.trans (hb4.mono HB5.out.size))
  have HX6 := Lib.hid (HX5.out.past hb4)
  have HN := Lib.hid (new_any _ [1] 9 _ (ints_one1 w4 1))
  obtain ⟨gb, g, vals, g0, c0, cur, rfl, rfl, R1, v0, R2, u2, u3, R3⟩ := hrows
  have HR := Lib.hid (And.intro (R1.alloc (.cells #[.int .i64 1] 3)) (And.intro (R2.alloc (.cells #[.int .i64 1] 3)) (R3.alloc (.cells #[.int .i64 1] 3))))
  have HU := Lib.hid (And.intro v0 (And.intro u2 u3))
  have HB7 := Lib.hid (HB6.out.alloc HB6.out.size (.cells #[.int .i64 1] 3))
  have HX7 := Lib.hid (HX6.out.alloc (.cells #[.int .i64 1] 3))
  clear hb4 hL HB5 HX5 HB6 HX6 R1 R2 R3 v0 u2 u3 HL
  go_wp2_with fail
  refine (HN.out).mono ?_
  rintro e w5 ⟨hb5, hN⟩
  have hN2 : ∃ bb, (w4.alloc (.cells #[.int .i64 1] 3)).heap.size ≤ bb ∧ e = .returned (.tuple #[.pointer (some ⟨bb, 0, none⟩), .int .i64 0]) ∧ BookAt w5 bb (w4.alloc (.cells #[.int .i64 1] 3)).heap.size [mkSt 1] 9 (.slice none 0 0) := by
    rcases hN with ⟨h, _⟩ | ⟨_, h⟩
    · rw [known_new] at h; cases h
    · exact h
  obtain ⟨bb, hbb, rfl, hbook⟩ := hN2
  have HB8 := Lib.hid (HB7.out.trans (hb5.mono HB7.out.size))
  have HX8 := Lib.hid (HX7.out.past hb5)
  have HR8 := Lib.hid (And.intro (HR.out.1.past hb5) (And.intro (HR.out.2.1.past hb5) (HR.out.2.2.past hb5)))
  have HBK := Lib.hid hbook
  have hsz := hb5.size
  obtain ⟨base, hbase⟩ : ∃ base, (w4.alloc (.cells #[.int .i64 1] 3)).heap.size = base := ⟨_, rfl⟩
  rw [hbase] at HBK hbb hsz
  have HWB : Hid (w.heap.size ≤ base) := Lib.hid (by rw [← hbase]; exact HB7.out.size)
  clear hb5 hN hbook HB7 HX7 HR hbase HN
  have r0 := HR8.out.1.cell (i := 0) (v := .slice (some ⟨g0, 0, none⟩) 2 c0) HU.out.1
  go_wp2_with fail
  have hM := mould_any bb base [mkSt 1] 9 (.slice none 0 0) 0 10 w5 HBK.out hsz (by simp) ok_one
  rw [known_mould] at hM
  refine hM.mono ?_
  clear hM r0
  intro e w6 hT6
  obtain ⟨rfl, hbk6, hq6⟩ := hT6
  have hT6 : BookTo w5 bb base (0, [⟨10, 0, 0, 0, 0, 0, 0, 1⟩]) 9 (.slice none 0 0) (.returned (.int .i64 0)) w6 := ⟨rfl, hbk6, hq6⟩
  have hD := dry_any bb base _ 9 (.slice none 0 0) 0 8 1 w6 hbk6 (Nat.le_trans hsz hT6.size) (by simp) ok_two
  rw [known_dry] at hD
  have HX9 := Lib.hid (hT6.keep HX8.out (by decide))
  have HR9 := Lib.hid (And.intro (hT6.keep HR8.out.1 (by decide)) (And.intro (hT6.keep HR8.out.2.1 (by decide)) (hT6.keep HR8.out.2.2 (by decide))))
  have HB9 := Lib.hid (HB8.out.trans (hT6.belowO HWB.out (Nat.le_trans HWB.out hsz)))
  have HSZ6 := Lib.hid (Nat.le_trans hsz hT6.size)
  have HD := Lib.hid hD
  clear hD hT6 hbk6 hq6 HX8 HR8 HB8 HBK
  go_wp2_with fail
  refine (HD.out).mono ?_
  intro e w7 hT7
  obtain ⟨rfl, hbk7, hq7⟩ := hT7
  have hT7 : BookTo w6 bb base (0, [⟨2, 7, 0, 0, 0, 1, 0, 1⟩]) 9 (.slice none 0 0) (.returned (.int .i64 0)) w7 := ⟨rfl, hbk7, hq7⟩
  have hC := count_book bb base _ 9 (.slice none 0 0) 0 w7 hbk7 (by simp)
  rw [known_count] at hC
  have HX10 := Lib.hid (hT7.keep HX9.out (by decide))
  have HR10 := Lib.hid (And.intro (hT7.keep HR9.out.1 (by decide)) (And.intro (hT7.keep HR9.out.2.1 (by decide)) (hT7.keep HR9.out.2.2 (by decide))))
  have HB10 := Lib.hid (HB9.out.trans (hT7.belowO HWB.out (Nat.le_trans HWB.out HSZ6.out)))
  have HC := Lib.hid hC
  clear hC hT7 hbk7 hq7 HX9 HR9 HB9 HD
  go_wp2_with fail
  refine (HC.out).mono ?_
  rintro e w8 ⟨rfl, hb8⟩
  obtain ⟨wb, hwb⟩ : ∃ wb, w8.heap.size = wb := ⟨_, rfl⟩
  have hb9 := hb8.alloc hb8.size (.cells #[.int .i64 2, .int .i64 7, .int .i64 0, .int .i64 0, .int .i64 0, .int .i64 1, .int .i64 0] 63)
  have N9 := Blk.newI w8 wb #[.int .i64 2, .int .i64 7, .int .i64 0, .int .i64 0, .int .i64 0, .int .i64 1, .int .i64 0] 63 hwb
  have X9 := HX10.out.past hb9
  have r1 := HR10.out.1.past hb9
  have r2 := HR10.out.2.1.past hb9
  have r3 := HR10.out.2.2.past hb9
  have HB11 := Lib.hid (HB10.out.trans (hb9.mono HB10.out.size))
  obtain ⟨w9, hw9⟩ : ∃ w9, w8.alloc (.cells #[.int .i64 2, .int .i64 7, .int .i64 0, .int .i64 0, .int .i64 0, .int .i64 1, .int .i64 0] 63) = w9 := ⟨_, rfl⟩
  rw [hw9] at N9 X9 r1 r2 r3 HB11
  have n0 := N9.cell (i := 0) (v := .int .i64 2) rfl
  have n1 := N9.cell (i := 1) (v := .int .i64 7) rfl
  have n2 := N9.cell (i := 2) (v := .int .i64 0) rfl
  have n3 := N9.cell (i := 3) (v := .int .i64 0) rfl
  have n4 := N9.cell (i := 4) (v := .int .i64 0) rfl
  have n5 := N9.cell (i := 5) (v := .int .i64 1) rfl
  have n6 := N9.cell (i := 6) (v := .int .i64 0) rfl
  have y0 := N9.fr (i := 0)
  have y1 := N9.fr (i := 1)
  have y2 := N9.fr (i := 2)
  have y3 := N9.fr (i := 3)
  have y4 := N9.fr (i := 4)
  have y5 := N9.fr (i := 5)
  have y6 := N9.fr (i := 6)
  have x0 := X9.cell (i := 0) (v := .int .i64 977) rfl
  have x1 := X9.cell (i := 1) (v := .int .i64 999) rfl
  have c0 := r1.cell (i := 0) (v := .slice (some ⟨g0, 0, none⟩) 2 c0) HU.out.1
  have c2 := r2.cell (i := 2) (v := .int .i64 2) HU.out.2.1
  have c3 := r2.cell (i := 3) (v := .int .i64 1) HU.out.2.2
  have d2 := r3.cell (i := 2) (v := .int .i64 7) rfl
  have d3 := r3.cell (i := 3) (v := .int .i64 1) rfl
  have HWS : Hid (w.heap.size ≤ wb) := Lib.hid (by have h1 := HB10.out.size; have h2 := hb8.size; omega)
  clear hb8 hb9 N9 X9 r1 r2 r3 HX10 HR10 HB10 HC
  simp only [St.wares]
  go_wp2
  go_ret
  exact ⟨rfl, HB11.out.setCell (p := ⟨wb, 6, none⟩) HWS.out _⟩
end Go.Proofs.Ytopnlcjbklmicaa
