/-
  Contracts of the program's own functions (and their plain mathematics), on the way to the law: each for all arguments that its hypotheses let.
-/
import Derived.Test.YtkjclafbpocabaaGreatDoorH1
import Derived.Deep.RegionLaw
import Derived.WalkKit
import Derived.WalkSpells
import Derived.WalkLawsBesides
import Derived.Deep.QuietTactic
import Derived.BigQuiet
import Derived.Lib.Hide
import Derived.WalkSmall
import Derived.Maps.OwnSet
import Derived.Maps.RangeWalk
import Derived.Deep.RegionWith
import Derived.Deep.RegionHeld3
import Derived.Deep.DrawnRows
import Derived.Deep.DeepCutAuto
import Derived.OneCell
import Derived.KernelRfl
import Derived.Laws.StructEq
import Derived.StillTailTactics
import Derived.Laws.Externs
import Derived.RangeFuncBox
set_option linter.unusedSimpArgs false
set_option linter.unusedVariables false

/-! ## ZC2 -/
namespace Go.Proofs.YtkjclafbpocabaaGreatDoor
open Go.RowKit Go.Maps
def iM (l : List Int) : List Value := l.map (Value.int .i64)
theorem iM_len (l : List Int) : (iM l).length = l.length := by simp [iM]
theorem iM_get (l : List Int) (i : Nat) (hi : i < l.length) : (iM l)[i]? = some (.int .i64 (l[i]?.getD 0)) := by simp [iM, hi]
def OwnM (w : World) (base : Nat) (v : Value) (l : List Int) : Prop := w.ownsRow base 3 1 v l.length (iM l)
theorem addr_at (b off j : Nat) : (⟨b, off, none⟩ : Addr).add j = ⟨b, off + j, none⟩ := by unfold Addr.add; split <;> simp_all
theorem OwnM.at {w : World} {base : Nat} {v : Value} {l : List Int} (h : OwnM w base v l) (hl : l.length ≤ 17592186043904) : MarksAtz w v l := by
  refine ⟨hl, ?_⟩
  have h' := h
  obtain ⟨_, ⟨hv, h0⟩ | ⟨g, cap, cur, rfl, hbase, hb, hcap, _⟩⟩ := h
  · exact .inl ⟨List.length_eq_zero_iff.1 h0, none, 0, hv⟩
  · refine .inr ⟨g, 0, cap, rfl, hcap, (Array.getElem?_eq_some_iff.1 hb).1, fun i hi => ?_⟩
    have := World.ownsRow.cells h' (g := g) rfl i _ (iM_get l i hi)
    rw [addr_at] at this
    exact this
theorem OwnM.kept {w w' : World} {base : Nat} {v : Value} {l : List Int} {row : Option Nat} (h : OwnM w base v l) (hg : w.grownBy w' row) (hne : v.ownBlock = none ∨ v.ownBlock ≠ row) : OwnM w' base v l := World.ownsRow.kept h hg hne
theorem OwnM.below {w w' : World} {base : Nat} {v : Value} {l : List Int} (h : OwnM w base v l) (hw : Below w.heap.size w w') : OwnM w' base v l := by
  obtain ⟨h1, h2 | ⟨g, cap, cur, h3, h4, h5, h6⟩⟩ := h
  · exact ⟨h1, .inl h2⟩
  · exact ⟨h1, .inr ⟨g, cap, cur, h3, h4, (hw.block g (Array.getElem?_eq_some_iff.1 h5).1).trans h5, h6⟩⟩
theorem OwnM.lt {w : World} {base : Nat} {v : Value} {l : List Int} (h : OwnM w base v l) : ∀ k, v.ownBlock = some k → base ≤ k ∧ k < w.heap.size := by
  intro k hk
  obtain ⟨_, ⟨hv, h0⟩ | ⟨g, cap, cur, rfl, hbase, hb, hcap, _⟩⟩ := h
  · rw [hv] at hk; cases hk
  · cases hk; exact ⟨hbase, (Array.getElem?_eq_some_iff.1 hb).1⟩
theorem OwnM.low {w : World} {base base' : Nat} {v : Value} {l : List Int} (h : OwnM w base v l) (hb : base' ≤ base) : OwnM w base' v l := by
  obtain ⟨h1, h2 | ⟨g, cap, cur, h3, h4, h5⟩⟩ := h
  · exact ⟨h1, .inl h2⟩
  · exact ⟨h1, .inr ⟨g, cap, cur, h3, Nat.le_trans hb h4, h5⟩⟩
theorem undInts : Tryz.prog.underlying 59 = some (.slice 3) := by kernel_rfl
theorem infoInt : (Tryz.prog.info? 3).map (fun i => (i.zero, i.size, i.bytes)) = some (some (.int .i64 0), 1, 8) := by kernel_rfl
theorem newsM {W W' : World} {b off : Nat} {l : List Int} (hb : b < W.heap.size) (hc : MarksCz W b off l) (hw : Below W.heap.size W W') :
    ∀ j u, (iM l)[j]? = some u → W'.cell? ((⟨b, off, none⟩ : Addr).add j) = some u := by
  intro j u hj
  have hjl : j < (iM l).length := (List.getElem?_eq_some_iff.1 hj).1
  rw [iM_len] at hjl
  rw [iM_get l j hjl] at hj
  rw [addr_at, (hw.cell (p := ⟨b, _, none⟩) hb).trans (hc j hjl)]
  exact hj
/-- A call that gives a new list of ints. -/
def NewM (l : List Int) (w : World) (e : Ending) (w' : World) : Prop := ∃ v, e = .returned v ∧ OwnM w' w.heap.size v l ∧ Below w.heap.size w w'
set_option maxHeartbeats 2000000 in
theorem clone_some (ad : Addr) (cap : Nat) (l : List Int) (w : World) (hl : l.length ≤ 1000000) (hn : Hid (∀ j u, (iM l)[j]? = some u → (w.alloc (.cells #[] 3)).cell? (ad.add j) = some u)) :
    Calls Tryz.prog 136 #[.slice (some ad) l.length cap] w (NewM l w) := by
  obtain ⟨i0, hi, hz0, hz1, hz2⟩ := info_parts infoInt
  have q22 : ∀ (w : World) (a : Option Addr) (n c n' c' : Nat), (binOp .eql 59 (.slice a n c) (.slice none n' c')).run Tryz.prog w = .ok (.bool a.isNone) w := fun w a n c n' c' => Lib.run_eql_slice_nil w _ _ a n c n' c' undInts
  have u22 : ∀ w, Sem.run Tryz.prog (underlying 59) w = .ok (TypeDesc.slice 3) w := run_underlying undInts
  go_enter Tryz.func136, Tryz.ntmps136
  go_wp2_with (at_builtin; refine wpList_append_own _ rfl _ _ 59 rfl w.heap.size 3 i0 (.int .i64 0) 1 8 undInts hi hz0 hz1 hz2 rfl (by decide) _ _ _ rfl (World.ownsRow_made w #[] 0 (Nat.le_refl _) (Nat.zero_le _) rfl) ad l.length cap (iM l) rfl ?qc1 ?qc2 ?qc3 ?qc4 ?qc5 ?qc6 ?_)
  case qc1 => simp [iM]
  case qc2 => exact hn.out
  case qc3 => intro u hu; obtain ⟨x, _, rfl⟩ := List.mem_map.1 hu; rfl
  case qc4 => unfold maxLen; omega
  case qc5 => omega
  case qc6 => simp
  intro v' w1 hown hgrow hnil
  go_wp2
  go_ret
  refine ⟨v', rfl, by unfold OwnM; simpa using hown, ?_⟩
  exact ((Below.refl _ w).alloc (Nat.le_refl _) _).grown hgrow (by simp) (by intro k hk; simp [Value.ownBlock] at hk; omega)
theorem clone_nil (cap : Nat) (w : World) : Calls Tryz.prog 136 #[.slice none 0 cap] w (NewM [] w) := by
  have q22 : ∀ (w : World) (a : Option Addr) (n c n' c' : Nat), (binOp .eql 59 (.slice a n c) (.slice none n' c')).run Tryz.prog w = .ok (.bool a.isNone) w := fun w a n c n' c' => Lib.run_eql_slice_nil w _ _ a n c n' c' undInts
  go_enter Tryz.func136, Tryz.ntmps136
  go_wp2
  go_ret
  exact ⟨_, rfl, ⟨by simp [iM], .inl ⟨rfl, rfl⟩⟩, Below.refl _ _⟩
theorem clone_ints (v : Value) (l : List Int) (w : World) (h : MarksAtz w v l) (hl : l.length ≤ 1000000) : Calls Tryz.prog 136 #[v] w (NewM l w) := by
  obtain ⟨_, ⟨rfl, a, cap, rfl⟩ | ⟨b, off, cap, rfl, hcap, hb, hc⟩⟩ := h
  · cases a with
    | none => exact clone_nil cap w
    | some ad => exact clone_some ad cap [] w (by simp) (Lib.hid (by intro j u h; simp [iM] at h))
  · exact clone_some ⟨b, off, none⟩ cap l w hl (Lib.hid (newsM hb hc ((Below.refl _ w).alloc (Nat.le_refl _) _)))
theorem step_appM {ops : Array Oper} {o : Oper} {a : Act} {w : World} {K : Act → World → Prop} {Q : Exit → Act → World → Prop} {E : Prop} (hgd : o.guard = none) (s x : Operand)
    (ho : o.op = .call { callee := .builtin .append, args := #[s, x], argTypes := #[59, 59] }) (base : Nat) (v : Value) (l : List Int) (hs : a.eval s = v) (hown : OwnM w base v l)
    (ad : Addr) (c : Nat) (q : Int) (hx : a.eval x = .slice (some ad) 1 c) (hnews : w.cell? ad = some (.int .i64 q)) (hl : l.length ≤ 1000000) (hbase : base ≤ w.heap.size)
    (h : ∀ v' w', OwnM w' base v' (l ++ [q]) → w.grownBy w' v.ownBlock → K (a.put o.dst v') w') :
    if Region.wanted o (yielded ops a.tmps) = true then Oper.wp Tryz.prog o a w K Q else E := by
  obtain ⟨i0, hi, hz0, hz1, hz2⟩ := info_parts infoInt
  have hw : Region.wanted o (yielded ops a.tmps) = true := by simp [Region.wanted, hgd]
  rw [if_pos hw]
  refine wp_append_own w s x 59 ho base 3 i0 (.int .i64 0) 1 8 undInts hi hz0 hz1 hz2 rfl (by decide) v l.length (iM l) hs hown ad 1 c [.int .i64 q] hx rfl ?_ ?_ (by unfold maxLen; omega) (by omega) hbase ?_
  · intro j u hj
    have hj0 : j = 0 := by
      have := (List.getElem?_eq_some_iff.1 hj).1
      simp at this; exact this
    subst hj0
    simp at hj
    subst hj
    have : ad.add 0 = ad := by unfold Addr.add; split <;> simp_all
    rw [this]; exact hnews
  · intro u hu; simp at hu; subst hu; rfl
  · intro v' w' ho hg _
    refine h v' w' ?_ hg
    unfold OwnM
    have e : iM l ++ [.int .i64 q] = iM (l ++ [q]) := by simp [iM]
    rw [e] at ho
    simpa using ho
/-- Which marks the next piece has. -/
def marksAfterF (d : Int) (ps : PiecesL) : List Int := match ps.getLast? with
  | none => [d]
  | some p => if d.tmod (prodF p.2) = 0 ∧ isMarkF (d.tdiv (prodF p.2)) = true then p.2 ++ [d.tdiv (prodF p.2)] else [d]
theorem cell_one (w : World) (x : Value) (T : TypeId) : (w.alloc (.cells #[x] T)).cell? ⟨w.heap.size, 0, none⟩ = some x := (cell_new1 w x T).1
theorem marks_one_lit (w : World) (d : Int) (T : TypeId) : MarksAtz (w.alloc (.cells #[.int .i64 d] T)) (.slice (some ⟨w.heap.size, 0, none⟩) 1 1) [d] := by
  refine ⟨by simp, .inr ⟨w.heap.size, 0, 1, rfl, by simp, by simp, fun i hi => ?_⟩⟩
  obtain rfl : i = 0 := by simp at hi; omega
  exact cell_one w _ T
def GivesM (l : List Int) (w : World) (e : Ending) (w' : World) : Prop := ∃ v, e = .returned v ∧ MarksAtz w' v l ∧ Below w.heap.size w w' ∧ ∀ k, v.ownBlock = some k → w.heap.size ≤ k
def PiecesOk (ps : PiecesL) : Prop := ∀ p ∈ ps, MarksOk p.2 ∧ p.2 ≠ []
set_option maxRecDepth 100000 in
set_option maxHeartbeats 4000000 in
theorem marksAfter_any (d : Int) (v : Value) (ps : PiecesL) (w : World) (h : PiecesAtz w v ps) (ho : PiecesOk ps) (hd1 : 0 ≤ d) (hd2 : d ≤ 100000000000) :
    Calls Tryz.prog 84 #[.int .i64 d, v] w (GivesM (marksAfterF d ps) w) := by
  obtain ⟨a, cap, rfl, hl, hp⟩ := h.placed
  clear h
  cases hlast : ps.getLast? with
  | none =>
    obtain rfl : ps = [] := List.getLast?_eq_none_iff.1 hlast
    have HM : Hid (marksAfterF d [] = [d]) := Lib.hid rfl
    clear hp hlast
    go_enter Tryz.func84, Tryz.ntmps84
    go_wp2
    go_ret
    rw [HM.out]
    exact ⟨_, rfl, marks_one_lit _ _ _, (Below.refl _ w).alloc (Nat.le_refl _) _, fun k hk => by cases hk; exact Nat.le_refl _⟩
  | some p =>
    have hne : ps ≠ [] := fun e => by subst e; cases hlast
    have hn : 0 < ps.length := List.length_pos_iff.2 hne
    obtain ⟨k, hk⟩ : ∃ k, ps.length = k + 1 := ⟨ps.length - 1, by omega⟩
    have hgp : ps[k]?.getD (false, []) = p := by
      rw [List.getLast?_eq_getElem?, hk] at hlast
      simp at hlast
      rw [hlast]; rfl
    have hmem : p ∈ ps := List.mem_of_getLast? hlast
    obtain ⟨b, off, rfl, hbb, c1, vm, c2, hm⟩ := hp k (by omega)
    rw [hgp] at hm
    obtain ⟨hok, hpne⟩ := ho p hmem
    obtain ⟨am, cm, rfl, hml, _⟩ := hm.placed
    have HPR := Lib.hid (product_any' _ _ w hm hok)
    have hpr := hok.prod
    have HCL : Hid (∀ W, Below w.heap.size w W → Calls Tryz.prog 136 #[.slice am p.2.length cm] W (NewM p.2 W)) := Lib.hid (fun W hW => clone_ints _ _ W (hm.below hW) (by have := hok.1; omega))
    have HM : Hid (marksAfterF d ps = if d.tmod (prodF p.2) = 0 ∧ isMarkF (d.tdiv (prodF p.2)) = true then p.2 ++ [d.tdiv (prodF p.2)] else [d]) := Lib.hid (by unfold marksAfterF; rw [hlast])
    have hlen : Hid (p.2.length ≤ 1000000) := Lib.hid (by have := hok.1; omega)
    obtain ⟨pr, hprd⟩ : ∃ pr, prodF p.2 = pr := ⟨_, rfl⟩
    rw [hprd] at hpr HM HPR
    obtain ⟨hp1, hp2⟩ := hpr
    have hpn : pr ≠ 0 := by omega
    have hm0 : 0 ≤ d.tmod pr ∧ d.tmod pr ≤ d := by
      rw [Int.tmod_eq_emod_of_nonneg hd1]
      have e1 := Int.emod_nonneg d hpn
      have e2 := Int.mul_ediv_add_emod d pr
      have e3 := Int.ediv_nonneg hd1 (show 0 ≤ pr by omega)
      have e4 := Int.mul_nonneg (show 0 ≤ pr by omega) e3
      omega
    have hq0 : 0 ≤ d.tdiv pr ∧ d.tdiv pr ≤ d := by
      rw [Int.tdiv_eq_ediv_of_nonneg hd1]
      exact ⟨Int.ediv_nonneg hd1 (by omega), Int.ediv_le_self _ hd1⟩
    obtain ⟨q, hq⟩ : ∃ q, d.tdiv pr = q := ⟨_, rfl⟩
    obtain ⟨m, hmm⟩ : ∃ m, d.tmod pr = m := ⟨_, rfl⟩
    rw [hq] at hq0 HM
    rw [hmm] at hm0 HM
    obtain ⟨hm1, hm2⟩ := hm0
    obtain ⟨hq1, hq2⟩ := hq0
    have hwq : IntKind.i64.wrap q = q := by unfold IntKind.wrap; simp [IntKind.bits, IntKind.signed]; omega
    have hk2 : ((ps.length : Nat) : Int) - 1 = (k : Int) := by omega
    have hk3 : k < ps.length := by omega
    have HPL := Lib.hid hk
    clear hp hgp hlast hne hmem hprd c1 hm ho hok hpne hk
    go_enter Tryz.func84, Tryz.ntmps84
    go_wp2_with fail
    refine HPR.out.mono ?_
    rintro e w2 ⟨rfl, hb2⟩
    have B2 := Lib.hid hb2
    clear hb2
    by_cases h0 : m = 0
    · subst h0
      go_wp2_with fail
      refine (isMark_any q _).mono ?_
      rintro e w3 ⟨rfl, rfl⟩
      cases hq3 : isMarkF q
      · have HQ3 : Hid (¬ ((0:Int) = 0 ∧ isMarkF q = true)) := Lib.hid (fun h => by rw [hq3] at h; exact absurd h.2 (by simp))
        clear hq3
        go_wp2
        go_ret
        rw [HM.out, if_neg HQ3.out]
        exact ⟨_, rfl, marks_one_lit _ _ _, B2.out.alloc B2.out.size _, fun k hk => by cases hk; exact B2.out.size⟩
      · have HQ3 : Hid ((0:Int) = 0 ∧ isMarkF q = true) := Lib.hid ⟨rfl, hq3⟩
        clear hq3
        go_wp2_with fail
        go_region_law (first
          | (go_simp; go_at_call 136; refine (HCL.out _ (by first | exact B2.out | exact B2.out.drew | exact B2.out.alloc B2.out.size _ | exact B2.out.drew.alloc B2.out.size _ | exact (B2.out.alloc B2.out.size _).drew)).mono ?_; rintro e wc ⟨vc, rfl, hoc, hbc⟩; have BC := Lib.hid (show Below w.heap.size w wc from (by first | exact B2.out.trans (hbc.mono B2.out.size) | exact B2.out.drew.trans (hbc.mono B2.out.size) | exact (B2.out.alloc B2.out.size _).trans (hbc.mono (by have := B2.out.size; simp; omega)) | exact (B2.out.drew.alloc B2.out.size _).trans (hbc.mono (by have := B2.out.size; simp; omega)) | exact (B2.out.alloc B2.out.size _).drew.trans (hbc.mono (by have := B2.out.size; simp; omega)))); have HOC := Lib.hid hoc; have HBC := Lib.hid hbc; clear hoc hbc)
          | (refine step_appM (by rfl) _ _ (by rfl) w3.heap.size vc p.2 (by rfl) (HOC.out.below ((Below.refl _ _).alloc (Nat.le_refl _) _)) ⟨wc.heap.size, 0, none⟩ 1 q (by rfl) (cell_one wc _ _) hlen.out (by have := HBC.out.size; simp at this ⊢; omega) ?_; intro vr wr hor hgr; have BR := Lib.hid (BC.out.alloc BC.out.size (.cells #[.int .i64 q] 3)); have HOR := Lib.hid hor; have HGR := Lib.hid hgr; have HVB : Hid (∀ k, vc.ownBlock = some k → w.heap.size ≤ k) := Lib.hid (fun k hk => by have h1 := (HOC.out.lt k hk).1; have h2 := B2.out.size; simp at h1; omega); clear hor hgr)
          | (refine step_appM (by rfl) _ _ (by rfl) w3.heap.size vc p.2 (by rfl) (HOC.out.low (by simp)) ⟨w3.heap.size, 0, none⟩ 1 q (by rfl) ((HBC.out.cell (p := ⟨w3.heap.size, 0, none⟩) (by simp)).trans (by first | exact cell_one w3 _ _ | exact cell_one w3.drew _ _)) hlen.out (by have := HBC.out.size; simp at this ⊢; omega) ?_; intro vr wr hor hgr; have BR := Lib.hid BC.out; have HOR := Lib.hid hor; have HGR := Lib.hid hgr; have HVB : Hid (∀ k, vc.ownBlock = some k → w.heap.size ≤ k) := Lib.hid (fun k hk => by have h1 := (HOC.out.lt k hk).1; have h2 := B2.out.size; simp at h1; omega); clear hor hgr))
        all_goals
          go_wp2
          go_ret
          rw [HM.out, if_pos HQ3.out]
          exact ⟨_, rfl, HOR.out.at (by have := hlen.out; simp; omega), BR.out.grown HGR.out BR.out.size (fun k hk => HVB.out k hk), fun k hk => by have h1 := (HOR.out.lt k hk).1; have h2 := B2.out.size; omega⟩
    · have H0 : Hid (¬ (m = 0 ∧ isMarkF q = true)) := Lib.hid (fun h => h0 h.1)
      go_wp2
      go_ret
      rw [HM.out, if_neg H0.out]
      exact ⟨_, rfl, marks_one_lit _ _ _, B2.out.alloc B2.out.size _, fun k hk => by cases hk; exact B2.out.size⟩
end Go.Proofs.YtkjclafbpocabaaGreatDoor
