/-
  Contracts of the program's own functions (and their plain mathematics), on the way to the law: each for all arguments that its hypotheses let.
-/
import Derived.Test.YtedpafdfecofnaaGreatDoorF10
import Derived.Test.YtedpafdfecofnaaGreatDoorF7
import Derived.WalkKit
import Derived.WalkSpells
import Derived.WalkLawsBesides
import Derived.Deep.QuietTactic
import Derived.BigQuiet
import Derived.Lib.Hide
import Derived.WalkSmall
import Derived.Maps.OwnSet
import Derived.Maps.RangeWalk
import Derived.Deep.RegionWith
import Derived.Deep.RegionHeld3
import Derived.OneCell
import Derived.StillTailTactics
import Derived.Laws.Externs
import Derived.RangeFuncBox
import Derived.Test.YtedpafdfecofnaaGreatDoorPlain
import Derived.KernelRfl
import Derived.Laws.StructEq
set_option linter.unusedSimpArgs false
set_option linter.unusedVariables false

/-! ## S29 -/
namespace Go.Proofs.YtedpafdfecofnaaGreatDoor
open Go.RowKit Go.Maps Go.Shelf Go.Sort
set_option maxHeartbeats 1000000 in
theorem exactRoot_any (n : Nat) (w : World) (hn : n < 4611686018427387904) :
    Calls Tryz.prog 64 #[.int .i64 n] w fun e w' => e = .returned (.tuple #[.int .i64 (isq n : Nat), .bool (decide (isq n * isq n = n))]) ∧ Below w.heap.size w w' := by
  have hsr := fun w0 => wholeRoot_any n w0 hn
  have hle := (isq_spec n).1
  obtain ⟨q, hq⟩ : ∃ q, isq n = q := ⟨_, rfl⟩
  rw [hq] at hsr hle ⊢
  obtain ⟨qq, hqq⟩ : ∃ qq, q * q = qq := ⟨_, rfl⟩
  have hqi : (q : Int) * (q : Int) = (qq : Int) := by rw [← hqq]; simp
  have hq1 : q < 2147483648 := by
    rcases Nat.lt_or_ge q 2147483648 with h | h
    · exact h
    · have := Nat.mul_le_mul h h; omega
  rw [hqq] at hle ⊢
  have HSR := Lib.hid hsr
  clear hsr hq hqq
  by_cases he : qq = n
  · subst he
    have hd : decide (qq = qq) = true := by simp
    rw [hd]
    clear hd
    go_enter Tryz.func64, Tryz.ntmps64
    go_wp2_with fail
    refine (HSR.out _).mono ?_
    rintro e w2 ⟨rfl, hb⟩
    have HB := Lib.hid hb
    clear hb HSR
    go_wp2
    go_ret2
    exact ⟨rfl, HB.out⟩
  · have hd : decide (qq = n) = false := decide_eq_false he
    rw [hd]
    have hne : ((qq : Int) == (n : Int)) = false := by simp; omega
    clear hd
    go_enter Tryz.func64, Tryz.ntmps64
    go_wp2_with fail
    refine (HSR.out _).mono ?_
    rintro e w2 ⟨rfl, hb⟩
    have HB := Lib.hid hb
    clear hb HSR
    go_wp2
    go_ret2
    exact ⟨rfl, HB.out⟩
set_option maxHeartbeats 1000000 in
theorem exactRoot_neg (n : Int) (w : World) (hn : n < 0) :
    Calls Tryz.prog 64 #[.int .i64 n] w fun e w' => e = .returned (.tuple #[.int .i64 0, .bool false]) ∧ w' = w := by
  go_enter Tryz.func64, Tryz.ntmps64
  go_wp2
  go_ret2
  exact ⟨rfl, rfl⟩
set_option maxHeartbeats 1000000 in
theorem long_any (d : Int) (v : Value) (l : List (Int × Int)) (w : World) (h : TermsAt w v l) :
    Calls Tryz.prog 15 #[.agg #[.int .i64 d, v]] w (AnsB (decide (8 < l.length)) w) := by
  obtain ⟨a, cap, rfl, _⟩ := h.placed
  have e : decide (8 < l.length) = decide ((8 : Int) < (l.length : Int)) := decide_eq_decide.2 (by omega)
  rw [e]
  clear h e
  go_enter Tryz.func15, Tryz.ntmps15
  go_wp2
  go_ret
  exact ⟨rfl, (Below.refl _ w).alloc (Nat.le_refl _) _⟩
set_option maxHeartbeats 1000000 in
theorem none_any (d : Int) (v : Value) (l : List (Int × Int)) (w : World) (h : TermsAt w v l) :
    Calls Tryz.prog 45 #[.agg #[.int .i64 d, v]] w (AnsB (decide (d = 0) && decide (l.length = 0)) w) := by
  obtain ⟨a, cap, rfl, _⟩ := h.placed
  clear h
  by_cases h0 : d = 0
  · subst h0
    by_cases h1 : l.length = 0
    · rw [h1]
      go_enter Tryz.func45, Tryz.ntmps45
      go_wp2
      go_ret
      exact ⟨rfl, (Below.refl _ w).alloc (Nat.le_refl _) _⟩
    · have hd : decide (l.length = 0) = false := decide_eq_false h1
      rw [hd]
      have hne : ((l.length : Int) == 0) = false := by simp; intro e; exact h1 (by rw [e]; rfl)
      clear hd
      go_enter Tryz.func45, Tryz.ntmps45
      go_wp2
      go_ret
      exact ⟨rfl, (Below.refl _ w).alloc (Nat.le_refl _) _⟩
  · have hd : decide (d = 0) = false := decide_eq_false h0
    rw [hd, Bool.false_and]
    clear hd
    go_enter Tryz.func45, Tryz.ntmps45
    go_wp2
    go_ret
    exact ⟨rfl, (Below.refl _ w).alloc (Nat.le_refl _) _⟩

theorem floor_tdiv (a b : Int) (hb : 0 < b) : a / b = if a.tmod b < 0 then a.tdiv b - 1 else a.tdiv b := by
  have h1 := Int.mul_tdiv_add_tmod a b
  have h5 := Int.tmod_lt_of_pos a hb
  have h6 := Int.lt_tmod_of_pos a hb
  generalize a.tdiv b = q at h1 ⊢
  generalize a.tmod b = m at h1 h5 h6 ⊢
  split
  · refine ((Int.ediv_emod_unique (r := m + b) hb).2 ⟨?_, by omega, by omega⟩).1
    rw [Int.mul_sub]; omega
  · exact ((Int.ediv_emod_unique (r := m) hb).2 ⟨by omega, by omega, by omega⟩).1
set_option maxHeartbeats 1000000 in
theorem floorQuo_any (a b : Int) (w : World) (ha1 : -4000000000000000000 ≤ a) (ha2 : a ≤ 4000000000000000000) (hb : 0 < b) (hb2 : b ≤ 4000000000000000000) :
    Calls Tryz.prog 75 #[.int .i64 a, .int .i64 b] w fun e w' => e = .returned (.int .i64 (a / b)) ∧ w' = w := by
  have hft := Lib.hid (floor_tdiv a b hb)
  have hq := tdiv_abs a b (by omega) 4000000000000000000 ha1 ha2
  have hb0 : ¬ b = 0 := by omega
  by_cases hm : a.tmod b < 0
  · have e : a / b = a.tdiv b - 1 := by rw [hft.out, if_pos hm]
    rw [e]
    clear e
    go_enter Tryz.func75, Tryz.ntmps75
    go_wp2
    go_ret
    exact ⟨rfl, rfl⟩
  · have e : a / b = a.tdiv b := by rw [hft.out, if_neg hm]
    rw [e]
    clear e
    go_enter Tryz.func75, Tryz.ntmps75
    go_wp2
    go_ret
    exact ⟨rfl, rfl⟩
end Go.Proofs.YtedpafdfecofnaaGreatDoor

/-! ## S30 -/
namespace Go.Proofs.YtedpafdfecofnaaGreatDoor
open Go.RowKit Go.Maps Go.Shelf Go.Sort
theorem f34 : (Tryz.prog.fieldsOf 34).toList.map (fun f => (f.type, f.offset, f.name == "_")) = [(3, 0, false), (3, 1, false)] := by kernel_rfl
theorem f34' : ∃ a b : Field, (Tryz.prog.fieldsOf 34).toList = [a, b] ∧ a.type = 3 ∧ a.offset = 0 ∧ a.name ≠ "_" ∧ b.type = 3 ∧ b.offset = 1 ∧ b.name ≠ "_" := by
  have h := f34
  generalize (Tryz.prog.fieldsOf 34).toList = l at h
  cases l with
  | nil => simp at h
  | cons a l =>
    cases l with
    | nil => simp at h
    | cons b l =>
      cases l with
      | cons _ _ => simp at h
      | nil =>
        simp at h
        exact ⟨a, b, rfl, h.1.1, h.1.2.1, by simpa using h.1.2.2, h.2.1, h.2.2.1, by simpa using h.2.2.2⟩
theorem und3i : Tryz.prog.underlying 3 = some (.int .i64) := by kernel_rfl
theorem neq34 (p1 p2 q1 q2 : Int) (w : World) : (binOp .neq 34 (.agg #[.int .i64 p1, .int .i64 p2]) (.agg #[.int .i64 q1, .int .i64 q2])).run Tryz.prog w = .ok (.bool (!(p1 == q1 && p2 == q2))) w := by
  obtain ⟨a, b, hf, h1, h2, h3, h4, h5, h6⟩ := f34'
  rw [run_neq_struct, run_equalIn_agg _ 9999 34 _ _ (by kernel_rfl) (by kernel_rfl), hf]
  have e1 := fun w => run_equalIn_int (P := Tryz.prog) w 9998 3 .i64 .i64 p1 q1 und3i
  have e2 := fun w => run_equalIn_int (P := Tryz.prog) w 9998 3 .i64 .i64 p2 q2 und3i
  simp [Op.eqFields, h1, h2, h3, h4, h5, h6, go_sem, e1, e2]
  by_cases h7 : p1 = q1 <;> by_cases h8 : p2 = q2 <;> simp [h7, h8]
set_option maxRecDepth 100000 in
set_option maxHeartbeats 2000000 in
theorem same_any (dx dy : Int) (vx vy : Value) (lx ly : List (Int × Int)) (w : World) (hx : TermsAt w vx lx) (hy : TermsAt w vy ly) :
    Calls Tryz.prog 23 #[.agg #[.int .i64 dx, vx], .agg #[.int .i64 dy, vy]] w (AnsB (decide (dx = dy ∧ lx = ly)) w) := by
  have hlx := hx.1
  obtain ⟨ax, cx, rfl, px⟩ := hx.placed
  obtain ⟨ay, cy, rfl, py⟩ := hy.placed
  have PX := Lib.hid px
  have PY := Lib.hid py
  have hBW : Below w.heap.size w ((w.alloc (.cells #[.int .i64 dx, .slice ax lx.length cx] 24)).alloc (.cells #[.int .i64 dy, .slice ay ly.length cy] 24)) := ((Below.refl _ w).alloc (Nat.le_refl _) _).alloc (by simp) _
  have BB := Lib.hid hBW
  clear hx hy px py hBW
  by_cases hd : dx = dy
  · subst hd
    by_cases hl : lx.length = ly.length
    · have HL := Lib.hid hl
      obtain ⟨r, hr⟩ : ∃ r, decide (dx = dx ∧ lx = ly) = r := ⟨_, rfl⟩
      have HR := Lib.hid hr
      rw [hr]
      rw [← hl] at BB ⊢
      have XX := Lib.hid ((Two.new w (.int .i64 dx) (.slice ax lx.length cx) 24).alloc (.cells #[.int .i64 dx, .slice ay lx.length cy] 24))
      have Y := Two.new (w.alloc (.cells #[.int .i64 dx, .slice ax lx.length cx] 24)) (.int .i64 dx) (.slice ay lx.length cy) 24
      have eY : (w.alloc (.cells #[.int .i64 dx, .slice ax lx.length cx] 24)).heap.size = w.heap.size + 1 := by simp
      rw [eY] at Y
      have YY := Lib.hid Y
      clear hl hr Y eY
      go_enter Tryz.func23, Tryz.ntmps23
      go_wp2_with fail
      go_loopw [5] (fun s wr => ∃ i : Nat, s = .int .i64 (i : Nat) ∧ i ≤ lx.length ∧ Hid (lx.take i = ly.take i) ∧ Hid (Below w.heap.size w wr) ∧ Hid (Two wr w.heap.size (.int .i64 dx) (.slice ax lx.length cx) 24) ∧ Hid (Two wr (w.heap.size + 1) (.int .i64 dx) (.slice ay lx.length cy) 24)) (fun s _ => lx.length - (intOf s).toNat)
      case atStart => exact ⟨0, rfl, Nat.zero_le _, Lib.hid (by simp), BB, XX, YY⟩
      case round =>
        obtain ⟨i, rfl, hi', HT, HB, HX, HY⟩ := hrel
        have c0 := HX.out.c0
        have c1 := HX.out.c1
        have y0 := HY.out.c0
        have y1 := HY.out.c1
        have hz1 : w.heap.size < wr.heap.size := HX.out.lt
        have hz2 : w.heap.size + 1 < wr.heap.size := HY.out.lt
        by_cases hlt : i < lx.length
        · obtain ⟨b1, o1, rfl, hb1, k1, k2⟩ := PX.out i hlt
          obtain ⟨b2, o2, rfl, hb2, m1, m2⟩ := PY.out i (by rw [← HL.out]; exact hlt)
          have k1 := (HB.out.cell (p := ⟨b1, _, none⟩) hb1).trans k1
          have k2 := (HB.out.cell (p := ⟨b1, _, none⟩) hb1).trans k2
          have m1 := (HB.out.cell (p := ⟨b2, _, none⟩) hb2).trans m1
          have m2 := (HB.out.cell (p := ⟨b2, _, none⟩) hb2).trans m2
          obtain ⟨⟨p1, p2⟩, hp⟩ : ∃ t, lx[i]?.getD (0, 0) = t := ⟨_, rfl⟩
          obtain ⟨⟨q1, q2⟩, hq⟩ : ∃ t, ly[i]?.getD (0, 0) = t := ⟨_, rfl⟩
          rw [hp] at k1 k2
          rw [hq] at m1 m2
          have HP := Lib.hid hp
          have HQ := Lib.hid hq
          have hij : (i : Int) < (lx.length : Int) := by omega
          have hij0 : (0 : Int) ≤ (i : Int) := by omega
          have hneq := fun w0 => neq34 p1 p2 q1 q2 w0
          obtain ⟨bb, hbb⟩ : ∃ bb, (!(p1 == q1 && p2 == q2)) = bb := ⟨_, rfl⟩
          rw [hbb] at hneq
          have hbe : bb = false → p1 = q1 ∧ p2 = q2 := by intro e; rw [e] at hbb; simpa using hbb
          have hbn : bb = true → ¬ (p1 = q1 ∧ p2 = q2) := by intro e; rw [e] at hbb; intro h; rw [h.1, h.2] at hbb; simp at hbb
          clear hp hq hbb
          cases bb
          · obtain ⟨e1, e2⟩ := hbe rfl
            have HT2 : Hid (lx.take (i + 1) = ly.take (i + 1)) := by
              have h1 := HP.out
              have h2 := HQ.out
              rw [← e1, ← e2] at h2
              have hly : i < ly.length := by rw [← HL.out]; exact hlt
              refine Lib.hid ?_
              rw [List.take_succ_eq_append_getElem hlt, List.take_succ_eq_append_getElem hly, HT.out]
              rw [List.getElem?_eq_getElem hlt] at h1
              rw [List.getElem?_eq_getElem hly] at h2
              simp at h1 h2
              rw [h1, h2]
            clear hbe hbn e1 e2
            go_wp2
            go_quiet (fail)
            go_wp2_with fail
            exact ⟨⟨i + 1, by simp, by omega, HT2, Lib.hid (below_drewN HB.out _), HX, HY⟩, by simp [intOf]; omega⟩
          · have hn := hbn rfl
            have HRF : Hid (r = false) := by
              refine Lib.hid ?_
              rw [← HR.out]
              apply decide_eq_false
              rintro ⟨_, e⟩
              subst e
              have h1 := HP.out
              rw [HQ.out] at h1
              injection h1 with h1 h2
              exact hn ⟨h1.symm, h2.symm⟩
            clear hbe hbn hn
            go_wp2
            go_quiet (fail)
            go_wp2_with fail
            go_ret
            exact ⟨by rw [HRF.out]; rfl, below_drewN HB.out _⟩
        · have hie : i = lx.length := by omega
          have HRT : Hid (r = true) := by
            refine Lib.hid ?_
            rw [← HR.out]
            apply decide_eq_true
            refine ⟨by trivial, ?_⟩
            have h1 := HT.out
            rwa [hie, List.take_of_length_le (Nat.le_refl _), List.take_of_length_le (by rw [← HL.out]; exact Nat.le_refl _)] at h1
          clear hie
          go_wp2
          go_ret
          exact ⟨by rw [HRT.out]; rfl, HB.out⟩
    · have hne : decide (dx = dx ∧ lx = ly) = false := decide_eq_false (fun h => hl (by rw [h.2]))
      have hli : ((lx.length : Int) != (ly.length : Int)) = true := by simp; omega
      rw [hne]
      clear hne
      go_enter Tryz.func23, Tryz.ntmps23
      go_wp2
      go_ret
      exact ⟨rfl, BB.out⟩
  · have hne : decide (dx = dy ∧ lx = ly) = false := decide_eq_false (fun h => hd h.1)
    have hdi : (dx != dy) = true := by simpa using hd
    rw [hne]
    clear hne
    go_enter Tryz.func23, Tryz.ntmps23
    go_wp2
    go_ret
    exact ⟨rfl, BB.out⟩
end Go.Proofs.YtedpafdfecofnaaGreatDoor

/-! ## S31 -/
namespace Go.Proofs.YtedpafdfecofnaaGreatDoor
open Go.RowKit Go.Maps Go.Shelf Go.Sort
theorem Two_alloc_last (w : World) (o : Obj) : (w.alloc o).heap[w.heap.size]? = some o := by unfold World.alloc; simp
theorem empty_own (w : World) : OwnT (w.alloc (.cells #[] 34)) w.heap.size (.slice (some ⟨w.heap.size, 0, none⟩) 0 0) [] := by
  refine ⟨by simp [flatT], .inr ⟨w.heap.size, 0, #[], rfl, Nat.le_refl _, ?_, Nat.le_refl _, by unfold maxLen; omega, by simp, by simp [flatT]⟩⟩
  exact (Two_alloc_last w _)
theorem own_shape {w : World} {base : Nat} {e : TypeId} {size : Nat} {v : Value} {n : Nat} {xs : List Value} (h : w.ownsRow base e size v n xs) : ∃ p k c, v = .slice p k c := by
  rcases h.2 with ⟨rfl, _⟩ | ⟨g, cap, cur, rfl, _⟩
  · exact ⟨_, _, _, rfl⟩
  · exact ⟨_, _, _, rfl⟩
set_option maxRecDepth 100000 in
set_option maxHeartbeats 1000000 in
theorem terms_any (v : Value) (l : List (Int × Int)) (w : World) (h : TermsAt w v l) (hl : l.length ≤ 1000) :
    Calls Tryz.prog 17 #[v] w fun e w' => ∃ v', e = .returned v' ∧ OwnT w' w.heap.size v' l ∧ Below w.heap.size w w' := by
  obtain ⟨_, ⟨rfl, a, cap, rfl⟩ | ⟨b, off, cap, rfl, hcap, hb, hc⟩⟩ := h
  · have HE := Lib.hid (empty_own w)
    have HB : Below w.heap.size w (w.alloc (.cells #[] 34)) := (Below.refl _ w).alloc (Nat.le_refl _) _
    cases a with
    | none =>
      have hst : ∀ w1 : World, (storeCells ⟨w.heap.size, 0, none⟩ []).run Tryz.prog w1 = .ok () w1 := fun w1 => rfl
      go_enter Tryz.func17, Tryz.ntmps17
      go_wp2_with fail
      go_ret
      exact ⟨_, rfl, HE.out, HB⟩
    | some ad =>
      obtain ⟨i0, hi, hz0, hz1, hz2⟩ := info_parts info34
      have hnews : Hid (∀ j u, ([] : List Value)[j]? = some u → (w.alloc (.cells #[] 34)).cell? (ad.add j) = some u) := Lib.hid (by intro j u h; simp at h)
      have hone : Hid (∀ u ∈ ([] : List Value), u.oneCell' = true) := Lib.hid (by simp)
      go_enter Tryz.func17, Tryz.ntmps17
      go_wp2_with (first | (at_builtin; refine wpList_append_own _ rfl _ _ 22 rfl w.heap.size 34 i0 (.agg #[.int .i64 0, .int .i64 0]) 2 16 und22 hi hz0 hz1 hz2 rfl (by decide) (.slice (some ⟨w.heap.size, 0, none⟩) 0 0) 0 (flatT []) rfl HE.out ad 0 cap [] rfl rfl hnews.out hone.out (by unfold maxLen; omega) (by omega) (by simp) ?_; intro v' w3 hown3 hgrow3 _; have HOW3 := Lib.hid hown3; have HGW3 := Lib.hid hgrow3; obtain ⟨pv, nv, cv, rfl⟩ := own_shape hown3; clear hown3 hgrow3))
      go_wp2
      go_ret
      exact ⟨_, rfl, (by have := HOW3.out; simpa [OwnT] using this), HB.grown HGW3.out (by simp) (by intro q hq; cases hq; simp)⟩
  · have hnews : Hid (∀ j u, (flatT l)[j]? = some u → (w.alloc (.cells #[] 34)).cell? ((⟨b, off, none⟩ : Addr).add j) = some u) := by
      refine Lib.hid ?_
      intro j u hj
      have hadd : (⟨b, off, none⟩ : Addr).add j = ⟨b, off + j, none⟩ := by unfold Addr.add; split <;> simp_all
      have hjl : j < (flatT l).length := (List.getElem?_eq_some_iff.1 hj).1
      rw [flatT_len] at hjl
      have hi : j / 2 < l.length := by omega
      have hb2 : ∀ k, (w.alloc (.cells #[] 34)).cell? ⟨b, k, none⟩ = w.cell? ⟨b, k, none⟩ := fun k => ((Below.refl w.heap.size w).alloc (Nat.le_refl _) _).cell (p := ⟨b, k, none⟩) hb
      rw [hadd, hb2]
      obtain ⟨c1, c2⟩ := hc (j / 2) hi
      obtain ⟨g1, g2⟩ := flatT_get l (j / 2) hi
      rcases Nat.mod_two_eq_zero_or_one j with h | h
      · have e : j = j / 2 * 2 := by omega
        rw [e] at hj
        rw [g1] at hj
        rw [e, c1, hj]
      · have e : j = j / 2 * 2 + 1 := by omega
        rw [e] at hj
        rw [g2] at hj
        rw [e, show off + (j / 2 * 2 + 1) = off + j / 2 * 2 + 1 by omega, c2, hj]
    have HE := Lib.hid (empty_own w)
    have HB : Below w.heap.size w (w.alloc (.cells #[] 34)) := (Below.refl _ w).alloc (Nat.le_refl _) _
    have hone : Hid (∀ u ∈ flatT l, u.oneCell' = true) := Lib.hid (by
      intro u hu
      unfold flatT at hu
      obtain ⟨t, _, ht⟩ := List.mem_flatMap.1 hu
      simp at ht
      rcases ht with rfl | rfl <;> rfl)
    obtain ⟨i0, hi, hz0, hz1, hz2⟩ := info_parts info34
    clear hc
    go_enter Tryz.func17, Tryz.ntmps17
    go_wp2_with (first | (at_builtin; refine wpList_append_own _ rfl _ _ 22 rfl w.heap.size 34 i0 (.agg #[.int .i64 0, .int .i64 0]) 2 16 und22 hi hz0 hz1 hz2 rfl (by decide) (.slice (some ⟨w.heap.size, 0, none⟩) 0 0) 0 (flatT []) rfl HE.out ⟨b, off, none⟩ l.length cap (flatT l) rfl (flatT_len l) hnews.out hone.out (by unfold maxLen; omega) (by omega) (by simp) ?_; intro v' w3 hown3 hgrow3 _; have HOW3 := Lib.hid hown3; have HGW3 := Lib.hid hgrow3; obtain ⟨pv, nv, cv, rfl⟩ := own_shape hown3; clear hown3 hgrow3))
    go_wp2
    go_ret
    exact ⟨_, rfl, by simpa [OwnT, flatT] using HOW3.out, HB.grown HGW3.out (by simp) (by intro q hq; cases hq; simp)⟩
end Go.Proofs.YtedpafdfecofnaaGreatDoor

/-! ## S32 -/
namespace Go.Proofs.YtedpafdfecofnaaGreatDoor
open Go.RowKit Go.Maps Go.Shelf Go.Sort
def OwnNum (d : Int) (l : List (Int × Int)) (w : World) (e : Ending) (w' : World) : Prop :=
  ∃ v, e = .returned (.agg #[.int .i64 d, v]) ∧ TermsAt w' v l ∧ Below w.heap.size w w' ∧ ∀ k, v.ownBlock = some k → w.heap.size ≤ k
set_option maxRecDepth 100000 in
set_option maxHeartbeats 2000000 in
theorem own_any (d : Int) (v : Value) (l : List (Int × Int)) (w : World) (h : TermsAt w v l) (hl : l.length ≤ 1000) :
    Calls Tryz.prog 19 #[.agg #[.int .i64 d, v]] w (OwnNum d l w) := by
  have HT := Lib.hid h
  obtain ⟨a, cap, rfl, px⟩ := h.placed
  have HC := Lib.hid (fun w0 h0 => terms_any (.slice a l.length cap) l w0 h0 hl)
  have X := (Two.new w (.int .i64 d) (.slice a l.length cap) 24).alloc (.cells #[.int .i64 0, .slice none 0 0] 24)
  have R := Two.new (w.alloc (.cells #[.int .i64 d, .slice a l.length cap] 24)) (.int .i64 0) (.slice none 0 0) 24
  have eR : (w.alloc (.cells #[.int .i64 d, .slice a l.length cap] 24)).heap.size = w.heap.size + 1 := by simp
  rw [eR] at R
  have BB : Hid (Below w.heap.size w ((w.alloc (.cells #[.int .i64 d, .slice a l.length cap] 24)).alloc (.cells #[.int .i64 0, .slice none 0 0] 24))) := Lib.hid (((Below.refl _ w).alloc (Nat.le_refl _) _).alloc (by simp) _)
  have HT2 := Lib.hid (HT.out.below BB.out)
  obtain ⟨W2, hW2⟩ : ∃ W2, ((w.alloc (.cells #[.int .i64 d, .slice a l.length cap] 24)).alloc (.cells #[.int .i64 0, .slice none 0 0] 24)) = W2 := ⟨_, rfl⟩
  have hsz2 : W2.heap.size = w.heap.size + 2 := by rw [← hW2]; simp
  rw [hW2] at X R BB HT2
  have XX := Lib.hid X
  have RR := Lib.hid R
  have x0 := X.c0
  have x1 := X.c1
  have HSZ := Lib.hid hsz2
  have hz0 : w.heap.size < W2.heap.size := by omega
  have hz1 : w.heap.size + 1 < W2.heap.size := by omega
  clear h px X R eR hsz2
  go_enter Tryz.func19, Tryz.ntmps19
  go_wp2_with fail
  clear hW2
  go_region_held3 (fun w' => w'.cell? ⟨w.heap.size, 0, none⟩ = some (.int .i64 d) ∧ w'.cell? ⟨w.heap.size, 1, none⟩ = some (.slice a l.length cap))
    (first | exact ⟨(X3.kept (two_after R3 _ _ rfl).2.2.2 (fun e => by have := Option.some.inj e; omega)).c0, (X3.kept (two_after R3 _ _ rfl).2.2.2 (fun e => by have := Option.some.inj e; omega)).c1⟩ | exact ⟨X3.c0, X3.c1⟩ | exact ⟨x0, x1⟩ | (go_keep; done))
    (first
      | (go_at_call 17; refine (HC.out W2.drew (HT2.out.below (Below.refl _ W2).drew)).mono ?_; rintro e w3 ⟨v3, rfl, hw3, hb3⟩; obtain ⟨p3, c3, rfl, _⟩ := hw3.shape; have X3 := Two.below (w := W2.drew) XX.out hb3 XX.out.lt; have R3 := Two.below (w := W2.drew) RR.out hb3 RR.out.lt; have B3 := BB.out.drew.trans (hb3.mono BB.out.size); have r0 := R3.c0; have r1 := R3.c1; have f0 := R3.fr (i := 0); have f1 := R3.fr (i := 1)))
  go_wp2
  obtain ⟨d0, d1, d2, hg⟩ := two_after R3 (.int .i64 d) (.slice p3 l.length c3) rfl
  refine bodyPost_ret (v := .agg #[.int .i64 d, .slice p3 l.length c3]) ?_ rfl ?_
  · simp [results, Tryz.results19, go_sem, d0, d1, d2]
  · have hown : ∀ k, (Value.slice p3 l.length c3).ownBlock = some k → w.heap.size + 2 ≤ k := fun k hk => by have := (hw3.lt k hk).1; have := HSZ.out; simp at *; omega
    refine ⟨_, rfl, (hw3.at (by omega)).kept hg ?_, B3.grown hg B3.size (by intro k hk; cases hk; omega), fun k hk => by have := hown k hk; omega⟩
    cases hv : (Value.slice p3 l.length c3).ownBlock with
    | none => exact .inl rfl
    | some k => right; have := hown k hv; simp; omega
end Go.Proofs.YtedpafdfecofnaaGreatDoor
