/-
  Contracts of the program's own functions (and their plain mathematics), on the way to the law: each for all arguments that its hypotheses let.
-/
import Derived.Test.YtedpafdfecofnaaGreatDoorF30
import Derived.WalkKit
import Derived.WalkSpells
import Derived.WalkLawsBesides
import Derived.Deep.QuietTactic
import Derived.BigQuiet
import Derived.Lib.Hide
import Derived.WalkSmall
import Derived.Maps.OwnSet
import Derived.Maps.RangeWalk
import Derived.Deep.RegionWith
import Derived.Deep.RegionHeld3
import Derived.Deep.DrawnRows
import Derived.Deep.DeepCutAuto
import Derived.OneCell
import Derived.KernelRfl
import Derived.Laws.StructEq
import Derived.StillTailTactics
import Derived.Laws.Externs
import Derived.RangeFuncBox
import Derived.Deep.LoopGhost
import Derived.Deep.RegionLaw
import Derived.Deep.AppendLies
import Derived.Test.YtedpafdfecofnaaGreatDoorPlain
set_option linter.unusedSimpArgs false
set_option linter.unusedVariables false

/-! ## S93 -/
namespace Go.Proofs.YtedpafdfecofnaaGreatDoor
open Go.RowKit Go.Maps Go.Shelf Go.Sort

/-- While the least root is looked for. -/
def Best (us : List (Int × Int)) (j : Nat) (b : Int) : Prop :=
  (b = -1 ∧ ∀ i, i < j → i < us.length → (us[i]?.getD (0, 0)).1 = 0) ∨ (∃ p : Nat, p < us.length ∧ b = p ∧ (us[p]?.getD (0, 0)).1 ≠ 0 ∧ ∀ i, i < j → i < us.length → (us[i]?.getD (0, 0)).1 ≠ 0 → (us[p]?.getD (0, 0)).2 ≤ (us[i]?.getD (0, 0)).2)
theorem best_zero {us : List (Int × Int)} {j : Nat} {b : Int} (h : Best us j b) (h0 : (us[j]?.getD (0, 0)).1 = 0) : Best us (j + 1) b := by
  rcases h with ⟨rfl, h⟩ | ⟨p, hp, rfl, h1, h⟩
  · refine .inl ⟨rfl, fun i hi hl => ?_⟩
    by_cases e : i = j
    · subst e; exact h0
    · exact h i (by omega) hl
  · refine .inr ⟨p, hp, rfl, h1, fun i hi hl hn => ?_⟩
    by_cases e : i = j
    · subst e; exact absurd h0 hn
    · exact h i (by omega) hl hn
theorem best_first {us : List (Int × Int)} {j : Nat} (hj : j < us.length) (h : Best us j (-1)) (h0 : (us[j]?.getD (0, 0)).1 ≠ 0) : Best us (j + 1) j := by
  refine .inr ⟨j, hj, rfl, h0, fun i hi hl hn => ?_⟩
  rcases h with ⟨_, h⟩ | ⟨p, _, e, _⟩
  · by_cases e : i = j
    · subst e; exact Int.le_refl _
    · exact absurd (h i (by omega) hl) hn
  · omega
theorem best_less {us : List (Int × Int)} {j p : Nat} (hj : j < us.length) (h : Best us j p) (h0 : (us[j]?.getD (0, 0)).1 ≠ 0) (hl : (us[j]?.getD (0, 0)).2 < (us[p]?.getD (0, 0)).2) : Best us (j + 1) j := by
  refine .inr ⟨j, hj, rfl, h0, fun i hi hli hn => ?_⟩
  rcases h with ⟨e, _⟩ | ⟨p', _, e, _, h⟩
  · omega
  · obtain rfl : p = p' := by omega
    by_cases e : i = j
    · subst e; exact Int.le_refl _
    · have := h i (by omega) hli hn; omega
theorem best_same {us : List (Int × Int)} {j p : Nat} (h : Best us j p) (hl : ¬ (us[j]?.getD (0, 0)).2 < (us[p]?.getD (0, 0)).2) : Best us (j + 1) p := by
  rcases h with ⟨e, _⟩ | ⟨p', hp, e, h1, h⟩
  · omega
  · obtain rfl : p = p' := by omega
    refine .inr ⟨p, hp, rfl, h1, fun i hi hli hn => ?_⟩
    by_cases e : i = j
    · subst e; omega
    · exact h i (by omega) hli hn
theorem best_shape {us : List (Int × Int)} {j : Nat} {b : Int} (h : Best us j b) : b = -1 ∨ ∃ p : Nat, b = p ∧ p < us.length ∧ (us[p]?.getD (0, 0)).1 ≠ 0 := by
  rcases h with ⟨rfl, _⟩ | ⟨p, hp, rfl, h1, _⟩
  · exact .inl rfl
  · exact .inr ⟨p, rfl, hp, h1⟩
theorem best_none {us : List (Int × Int)} {n : Nat} (h : Best us n (-1)) (hn : us.length = n) : ∀ u ∈ us, u.1 = 0 := by
  intro u hu
  obtain ⟨i, hi, rfl⟩ := List.getElem_of_mem hu
  rcases h with ⟨_, h⟩ | ⟨p, _, e, _⟩
  · have := h i (by omega) hi
    simpa [hi] using this
  · omega
theorem best_min {us : List (Int × Int)} {n p : Nat} (h : Best us n p) (hn : us.length = n) : ∀ i (hi : i < us.length), us[i].1 ≠ 0 → (us[p]?.getD (0, 0)).2 ≤ us[i].2 := by
  intro i hi h0
  rcases h with ⟨e, _⟩ | ⟨p', hp, e, h1, h⟩
  · omega
  · obtain rfl : p = p' := by omega
    have := h i (by omega) hi (by simpa [hi] using h0)
    simpa [hi] using this
theorem sel_len {ts xs us : List (Int × Int)} (h : Sel ts xs us) : xs.length ≤ ts.length := by
  have n1 : xs.Nodup := by
    refine h.asc.imp ?_
    intro a b hab e
    subst e; omega
  exact List.Nodup.length_le_of_subset n1 (fun t ht => (h.from' t ht).1)
noncomputable def ptail38 : Code := (Tryz.f56.body.bind (tailFromP 38)).getD .skip
set_option maxRecDepth 1000000 in
/-- What comes behind the picking: the limits are looked at. -/
def PSeg38 : Prop := ∀ {Q : Ending → World → Prop} {w W1 W : World} {den s : Int} {ts xs : List (Int × Int)} {v : Value} {bX : Nat} {u0 u1 u2 u3 u6 u7 u8 u9 u10 u11 u12 u13 u15 u16 u17 u18 u19 u20 u21 u22 u23 u24 u25 u26 u27 u28 u29 u30 u31 u32 u33 u34 u35 u36 u37 u38 u39 u40 u41 u42 u43 u44 u45 u46 u47 u48 u49 u50 u51 u52 u53 u54 u55 u56 u57 u58 u59 u60 u61 u62 u63 u64 u65 u66 u67 u68 u69 u70 u71 u72 u73 u74 u75 u76 u77 u78 u79 u80 u81 u82 u83 u84 u85 u86 u87 u88 u89 u90 u91 u92 u93 u94 u95 u96 u97 u98 u99 u100 u101 u102 u103 u104 u105 u106 u107 u108 u109 u110 u111 u112 u113 u114 u115 u116 u117 u118 u119 u120 u121 u122 u123 u124 u125 u126 u127 u128 u129 u130 u131 u132 u133 u134 u135 u136 u137 u138 u139 u140 u141 u142 u143 u144 u145 u146 u147 u148 u149 u150 u151 u152 u153 u154 u155 u156 u157 u158 u159 u160 u161 u162 u163 u164 u165 u166 u167 u168 u169 u170 u171 u172 u173 u174 u175 u176 u177 u178 u179 u180 u181 u182 u183 u184 u185 u186 u187 u188 u189 u190 u191 u192 u193 u194 u195 u196 u197 u198 u199 u200 u201 u202 u203 u204 : Value}, -9000000000000000000 ≤ den → den ≤ 9000000000000000000 → Hid (den ≠ 0) → Hid (Below w.heap.size w W1) → Hid (Two W1 w.heap.size (.int .i64 0) (.slice none 0 0) 24) → Hid (W1.heap.size = w.heap.size + 1) → ts.length ≤ 1000 → xs.length ≤ ts.length → Hid ((ts.map (·.2)).Nodup) → Hid (IsTerms (coefOf ts) xs) → Hid (sgnDv den ts = s) → s ≠ 0 → Hid (∀ t ∈ ts, -9000000000000000000 ≤ t.1 ∧ t.1 ≤ 9000000000000000000) → Hid (∀ t ∈ ts, 1 ≤ t.2 ∧ t.2 ≤ 1000000000000) →
  Hid (Two W bX (.int .i64 (den.tdiv s)) v 24) → Hid (OwnT W (bX + 1) v (divS s xs)) → Hid (W1.heap.size ≤ bX) → Hid (Below W1.heap.size W1 W) → Hid (∀ e w', FinTo den (coefOf ts) w e w' → Q e w') → Code.wp Tryz.prog ptail38 (bodyPost Tryz.prog Tryz.f56 Q) ⟨List.toArray (u0 :: u1 :: u2 :: u3 :: (.pointer (some ⟨w.heap.size, 0, none⟩)) :: (.int .i64 0) :: u6 :: u7 :: u8 :: u9 :: u10 :: u11 :: u12 :: u13 :: (.pointer (some ⟨bX, 0, none⟩)) :: u15 :: u16 :: u17 :: u18 :: u19 :: u20 :: u21 :: u22 :: u23 :: u24 :: u25 :: u26 :: u27 :: u28 :: u29 :: u30 :: u31 :: u32 :: u33 :: u34 :: u35 :: u36 :: u37 :: u38 :: u39 :: u40 :: u41 :: u42 :: u43 :: u44 :: u45 :: u46 :: u47 :: u48 :: u49 :: u50 :: u51 :: u52 :: u53 :: u54 :: u55 :: u56 :: u57 :: u58 :: u59 :: u60 :: u61 :: u62 :: u63 :: u64 :: u65 :: u66 :: u67 :: u68 :: u69 :: u70 :: u71 :: u72 :: u73 :: u74 :: u75 :: u76 :: u77 :: u78 :: u79 :: u80 :: u81 :: u82 :: u83 :: u84 :: u85 :: u86 :: u87 :: u88 :: u89 :: u90 :: u91 :: u92 :: u93 :: u94 :: u95 :: u96 :: u97 :: u98 :: u99 :: u100 :: u101 :: u102 :: u103 :: u104 :: u105 :: u106 :: u107 :: u108 :: u109 :: u110 :: u111 :: u112 :: u113 :: u114 :: u115 :: u116 :: u117 :: u118 :: u119 :: u120 :: u121 :: u122 :: u123 :: u124 :: u125 :: u126 :: u127 :: u128 :: u129 :: u130 :: u131 :: u132 :: u133 :: u134 :: u135 :: u136 :: u137 :: u138 :: u139 :: u140 :: u141 :: u142 :: u143 :: u144 :: u145 :: u146 :: u147 :: u148 :: u149 :: u150 :: u151 :: u152 :: u153 :: u154 :: u155 :: u156 :: u157 :: u158 :: u159 :: u160 :: u161 :: u162 :: u163 :: u164 :: u165 :: u166 :: u167 :: u168 :: u169 :: u170 :: u171 :: u172 :: u173 :: u174 :: u175 :: u176 :: u177 :: u178 :: u179 :: u180 :: u181 :: u182 :: u183 :: u184 :: u185 :: u186 :: u187 :: u188 :: u189 :: u190 :: u191 :: u192 :: u193 :: u194 :: u195 :: u196 :: u197 :: u198 :: u199 :: u200 :: u201 :: u202 :: u203 :: u204 :: []), []⟩ W

theorem own8 {w : World} {base n cap : Nat} {av : Option Addr} {l : List (Int × Int)} (hn : l.length = n) (h : OwnT w base (.slice av n cap) l) : w.ownsRow base 34 2 (.slice av n cap) n (flatT l) := by subst hn; exact h
theorem two_cells {w : World} {base g cap n p : Nat} {us : List (Int × Int)} {x y : Int} (hn : us.length = n) (ho : OwnT w base (.slice (some ⟨g, 0, none⟩) n cap) us) (hp : p < us.length) (hel : us[p]?.getD (0, 0) = (x, y)) : w.cell? ⟨g, p * 2, none⟩ = some (.int .i64 x) ∧ w.cell? ⟨g, p * 2 + 1, none⟩ = some (.int .i64 y) := by
  subst hn
  have a := (World.ownsRow.cellAt ho (p * 2) (by omega)).trans (flatT_get us p hp).1
  have b := (World.ownsRow.cellAt ho (p * 2 + 1) (by omega)).trans (flatT_get us p hp).2
  rw [hel] at a b
  exact ⟨a, b⟩
theorem own_nil34 (w : World) (base : Nat) : OwnT w base (.slice none 0 0) [] := ⟨rfl, .inl ⟨rfl, rfl⟩⟩
set_option maxRecDepth 1000000 in
set_option maxHeartbeats 40000000 in
theorem pseg28 (hnext : PSeg38) : PSeg28 := by
  intro Q w W1 W den ts a0 cap0 u1 u2 u3 u7 u8 u9 u10 u11 u13 u14 u15 u16 u17 u18 u19 u20 u21 u22 u23 u24 u25 u26 u27 u28 u29 u30 u31 u32 u33 u34 u35 u36 u37 u38 u39 u40 u41 u42 u43 u44 u45 u46 u47 u48 u49 u50 u51 u52 u53 u54 u55 u56 u57 u58 u59 u60 u61 u62 u63 u64 u65 u66 u67 u68 u69 u70 u71 u72 u73 u74 u75 u76 u77 u78 u79 u80 u81 u82 u83 u84 u85 u86 u87 u88 u89 u90 u91 u92 u93 u94 u95 u96 u97 u98 u99 u100 u101 u102 u103 u104 u105 u106 u107 u108 u109 u110 u111 u112 u113 u114 u115 u116 u117 u118 u119 u120 u121 u122 u123 u124 u125 u126 u127 u128 u129 u130 u131 u132 u133 u134 u135 u136 u137 u138 u139 u140 u141 u142 u143 u144 u145 u146 u147 u148 u149 u150 u151 u152 u153 u154 u155 u156 u157 u158 u159 u160 u161 u162 u163 u164 u165 u166 u167 u168 u169 u170 u171 u172 u173 u174 u175 u176 u177 u178 u179 u180 u181 u182 u183 u184 u185 u186 u187 u188 u189 u190 u191 u192 u193 u194 u195 u196 u197 u198 u199 u200 u201 u202 u203 u204 hd1 hd2 HD0 HB0 R1 HS1 hts HN HBD HRT HOW HBR HQ
  conv => arg 2; whnf
  have hs0 : sgnDv den ts ≠ 0 := by
    have := dv_pos den ts HD0.out
    unfold sgnDv; split <;> omega
  obtain ⟨s, hs⟩ : ∃ s, sgnDv den ts = s := ⟨_, rfl⟩
  rw [hs] at hs0 ⊢
  have HSG := Lib.hid hs
  clear hs
  have hdq : DomQ2 den s := ⟨hd1, hd2, hs0⟩
  have hwp := domQ2_wrap
  obtain ⟨W2, hW2⟩ : ∃ W2, W.alloc (.cells #[.int .i64 (den.tdiv s), .slice none 0 0] 24) = W2 := ⟨_, rfl⟩
  have HX : Hid (Two W2 W.heap.size (.int .i64 (den.tdiv s)) (.slice none 0 0) 24) := Lib.hid (by rw [← hW2]; exact Two.new W _ _ 24)
  have HOW2 : Hid (OwnT W2 W1.heap.size (.slice a0 ts.length cap0) ts) := Lib.hid (by rw [← hW2]; exact World.ownsRow.alloc HOW.out _)
  have HBR2 : Hid (Below W1.heap.size W1 W2) := Lib.hid (by rw [← hW2]; exact HBR.out.alloc HBR.out.size _)
  have HSZ : Hid (W1.heap.size ≤ W.heap.size ∧ W.heap.size < W2.heap.size) := Lib.hid (by rw [← hW2]; exact ⟨HBR.out.size, by simp⟩)
  have HLO : Hid (∀ k, (Value.slice a0 ts.length cap0).ownBlock = some k → W1.heap.size ≤ k ∧ k < W.heap.size) := Lib.hid (fun k hk => HOW.out.lt k hk)
  obtain ⟨a0', cap0', hv0, hsh⟩ := HOW.out.shape
  have HSH : Hid (∀ i, i < ts.length → ∃ g, a0 = some ⟨g, 0, none⟩) := Lib.hid (fun i hi => by
    obtain ⟨g, hg, _⟩ := hsh i hi
    injection hv0 with e1 e2 e3
    exact ⟨g, e1.trans hg⟩)
  clear hsh hv0 HOW HBR
  have HW2 := Lib.hid hW2
  clear hW2
  go_wp2
  rw [HW2.out]
  clear HW2
  generalize W.heap.size = bX at *
  rename_i KK38 hKK38
  have HKK := Lib.hid hKK38
  clear hKK38
  go_loopg [15] (ts.length + 1) (fun k _ wq => ∃ xs us v, k + xs.length = ts.length + 1 ∧ us.length = ts.length ∧ Hid (Sel ts xs us) ∧ Hid (OwnT wq W1.heap.size (.slice a0 ts.length cap0) us) ∧ Hid (Two wq bX (.int .i64 (den.tdiv s)) v 24) ∧ Hid (OwnT wq (bX + 1) v (divS s xs)) ∧ Hid (Below W1.heap.size W1 wq))
  case atStart => exact ⟨[], ts, .slice none 0 0, by simp, rfl, Lib.hid (sel_start ts), HOW2, HX, Lib.hid (own_nil34 _ _), HBR2⟩
  case round =>
    obtain ⟨xs, us, v, hk, hus, HSE, HOU, HXX, HOX, HBB⟩ := hrel
    obtain ⟨w5, hw5⟩ : ∃ w5, w5 = wr := ⟨_, rfl⟩
    subst hw5
    go_wp2
    go_loopw [15, 16] (fun b i wq => ∃ (j : Nat) (bst : Int), j ≤ ts.length ∧ i = .int .i64 j ∧ b = .int .i64 bst ∧ Hid (Best us j bst) ∧ ∃ n, wq = w5.drewN n) (fun _ i _ => ts.length - (intOf i).toNat)
    case atStart => exact ⟨0, -1, Nat.zero_le _, rfl, rfl, Lib.hid (.inl ⟨rfl, fun i hi => by omega⟩), 0, rfl⟩
    case round =>
      obtain ⟨j, bst, hj, rfl, rfl, HBE, n, rfl⟩ := hrel
      by_cases hlj : j < ts.length
      rotate_left
      · have hjt : j = ts.length := by omega
        have HBF : Hid (Best us ts.length bst) := Lib.hid (by have := HBE.out; rwa [hjt] at this)
        clear hjt
        obtain ⟨w6, hw6⟩ : ∃ w6, w5.drewN n = w6 := ⟨_, rfl⟩
        have bl : Below w5.heap.size w5 w6 := by rw [← hw6]; exact below_drewN (Below.refl _ _) _
        have HO6 := Lib.hid (HOU.out.below bl)
        have HX6 := Lib.hid (HXX.out.below bl HXX.out.lt)
        have HD6 := Lib.hid (HOX.out.below bl)
        have HB6 : Hid (Below W1.heap.size W1 w6) := Lib.hid (HBB.out.trans (bl.mono HBB.out.size))
        rw [hw6]
        clear hw6 bl HOU HXX HOX HBB
        rcases best_shape HBF.out with rfl | ⟨p, rfl, hp, hpn⟩
        · have HZ : Hid (∀ u ∈ us, u.1 = 0) := Lib.hid (best_none HBF.out hus)
          go_wp2
          exact HKK.out _ _ (hnext hd1 hd2 HD0 HB0 R1 HS1 hts (sel_len HSE.out) HN (Lib.hid (sel_end HN.out HSE.out HZ.out)) HSG hs0 HBD HRT HX6 HD6 (Lib.hid HSZ.out.1) HB6 HQ)
        · have hpz : decide ((p : Int) < 0) = false := decide_eq_false (by omega)
          obtain ⟨g, rfl⟩ := HSH.out p (by omega)
          have ho1 : OwnT w6 W1.heap.size (.slice (some ⟨g, 0, none⟩) us.length cap0) us := by rw [hus]; exact HO6.out
          have c1 : w6.cell? ⟨g, p * 2, none⟩ = some (.int .i64 (us[p]?.getD (0, 0)).1) := (World.ownsRow.cellAt ho1 (p * 2) (by omega)).trans (flatT_get us p hp).1
          have c2 : w6.cell? ⟨g, p * 2 + 1, none⟩ = some (.int .i64 (us[p]?.getD (0, 0)).2) := (World.ownsRow.cellAt ho1 (p * 2 + 1) (by omega)).trans (flatT_get us p hp).2
          have hgl := ho1.lt g rfl
          have hgX := HLO.out g rfl
          have hup := HSE.out.left us[p] (List.getElem_mem hp) (by simpa [hp] using hpn)
          have hub := HBD.out us[p] hup.1
          obtain ⟨x, y, hel⟩ : ∃ x y, us[p]?.getD (0, 0) = (x, y) := ⟨_, _, rfl⟩
          have hel2 : us[p] = (x, y) := by simpa [hp] using hel
          rw [hel] at c1 c2 hpn
          rw [hel2] at hub
          dsimp only at c1 c2 hub hpn
          have HEL := Lib.hid hel
          have HEL2 := Lib.hid hel2
          have HPN := Lib.hid hpn
          obtain ⟨av, capv, rfl, hshv⟩ := HD6.out.shape
          have hlen : (divS s xs).length = xs.length := by simp [divS]
          have HLEN := Lib.hid hlen
          rw [hlen] at HX6 HD6
          have hxl := sel_len HSE.out
          have hlow := fun k hk => (HD6.out.lt k hk).1
          have HLOW := Lib.hid hlow
          have b1 := HX6.out.c1
          have bl6 := HX6.out.lt
          have hw1 : IntKind.i64.wrap (x.tdiv s) = x.tdiv s := domQ2_wrap x s ⟨hub.1, hub.2, hs0⟩
          have HG1 := Lib.hid hgX
          have hgw : g < w6.heap.size := hgl.2
          have KK : Hid (∀ w', Below w6.heap.size w6 w' → w'.cell? ⟨g, p * 2, none⟩ = some (.int .i64 x) ∧ w'.cell? ⟨g, p * 2 + 1, none⟩ = some (.int .i64 y)) := Lib.hid fun w' h => ⟨(h.cell (p := ⟨g, p * 2, none⟩) hgw).trans c1, (h.cell (p := ⟨g, p * 2 + 1, none⟩) hgw).trans c2⟩
          have i1 : (0 : Int) ≤ (p : Int) := by omega
          have i2 : (p : Int) < (ts.length : Int) := by omega
          have B0 := Below.refl w6.heap.size w6
          obtain ⟨i0, hi, hz0, hz1, hz2⟩ := info_parts info34
          clear hel hel2 hlen hlow hgX hgl ho1 hup hub hshv hpn c1 c2 hwp hdq
          have bc8 : Below w6.heap.size w6 (w6.alloc (.cells #[.int .i64 (x.tdiv s), .int .i64 y] 34)).drew := ((Below.refl _ _).alloc (Nat.le_refl _) _).drew
          have HOWN8 := Lib.hid (own8 HLEN.out (HD6.out.below bc8))
          have HNEWS8 : Hid (∀ j u, [Value.int .i64 (x.tdiv s), .int .i64 y][j]? = some u → (w6.alloc (.cells #[.int .i64 (x.tdiv s), .int .i64 y] 34)).drew.cell? ((⟨w6.heap.size, 0, none⟩ : Addr).add j) = some u) := Lib.hid (by
            intro j u h
            exact cell_two_new w6 _ _ 34 j u h)
          have HONE8 : Hid (∀ u ∈ [Value.int .i64 (x.tdiv s), .int .i64 y], u.oneCell' = true) := Lib.hid (by simp [Value.oneCell'])
          have HQ10 : Hid (xs.length + 1 ≤ maxLen) := Lib.hid (by unfold maxLen; omega)
          have HQ11 : Hid ((xs.length + 1) * 16 ≤ 140737488355328) := Lib.hid (by omega)
          have HQ12 : Hid (bX + 1 ≤ (w6.alloc (.cells #[.int .i64 (x.tdiv s), .int .i64 y] 34)).drew.heap.size) := Lib.hid (by simp; omega)
          have HQ13 : Hid ((w6.alloc (.cells #[.int .i64 (x.tdiv s), .int .i64 y] 34)).drew.heap.size = w6.heap.size + 1) := Lib.hid (by simp)
          have HBC8 := Lib.hid bc8
          have HROW8 : Hid (∀ k, (Value.slice av xs.length capv).ownBlock = some k → bX < k) := Lib.hid (fun k hk => HLOW.out k hk)
          clear bc8
          go_upto_region 36 with fail
          go_cut [161] (fun _ wx => ∃ v', Two wx bX (.int .i64 (den.tdiv s)) v' 24 ∧ OwnT wx (bX + 1) v' (divS s (xs ++ [(x, y)])) ∧ OwnT wx W1.heap.size (.slice (some ⟨g, 0, none⟩) ts.length cap0) us ∧ Below W1.heap.size W1 wx)
          case first =>
            have cc := KK.out w6 B0
            obtain ⟨c1, c2⟩ := cc
            go_region_law ((refine step_append_lies _ (by rfl) _ _ _ (by rfl) (bX + 1) 34 i0 (.agg #[.int .i64 0, .int .i64 0]) 2 16 und22 hi hz0 hz1 hz2 (by rfl) (by decide) (.slice av xs.length capv) xs.length (flatT (divS s xs)) (by rfl) HOWN8.out ⟨w6.heap.size, 0, none⟩ 1 1 [.int .i64 (x.tdiv s), .int .i64 y] (by rfl) (by rfl) HNEWS8.out HONE8.out (by decide) HQ10.out HQ11.out HQ12.out (w6.heap.size + 1) HQ13.out ?_; intro g8 cap8 w8 hown8 hgrow8 hat8 hlt8; have tw8 := (HX6.out.below HBC8.out HX6.out.lt).kept hgrow8 (by intro e; have := HROW8.out _ e.symm; omega); have hu8 := (HO6.out.below HBC8.out).kept hgrow8 (.inr (by intro e; have := HROW8.out g e.symm; have := HG1.out; omega)); have k8 := two_cells hus hu8 hp HEL.out; have k9 := fun (u : Value) => two_cells hus (hu8.kept (grownBy_setCell w8 ⟨bX, 1, none⟩ u) (.inr (by intro e; have := Option.some.inj e; have := HG1.out; dsimp only at *; omega))) hp HEL.out; have K8 := Lib.hid k8; have K9 := Lib.hid k9; clear k8 k9; have d8 := tw8.c1; have d9 := tw8.fr (i := 1); have d7 := tw8.lt; have HU8 := Lib.hid hu8; have HT8 := Lib.hid tw8; have HGR8 := Lib.hid hgrow8; have HOWN9 := Lib.hid hown8; clear tw8 hu8 hgrow8 hown8))
            all_goals
              go_wp2_with fail
              go_meet
              have hg8 := (HOWN9.out.lt g8 rfl).1
              have hn8 : OwnT w8 (bX + 1) (.slice (some ⟨g8, 0, none⟩) (xs.length + 1) cap8) (divS s (xs ++ [(x, y)])) := by
                have e : divS s (xs ++ [(x, y)]) = divS s xs ++ [(x.tdiv s, y)] := by simp [divS]
                rw [e]
                unfold OwnT
                rw [flatT_snoc, List.length_append, HLEN.out]
                exact HOWN9.out
              exact ⟨_, HT8.out.set1 _ rfl, hn8.kept (grownBy_setCell _ _ _) (.inr (by intro e; have := Option.some.inj e; dsimp only at *; omega)), HU8.out.kept (grownBy_setCell _ _ _) (.inr (by intro e; have := Option.some.inj e; have := HG1.out; dsimp only at *; omega)), ((HB6.out.trans (HBC8.out.mono HB6.out.size)).grown HGR8.out (Nat.le_trans HB6.out.size HBC8.out.size) (fun k hk => by have := HROW8.out k hk; have := HSZ.out; omega)).setCell HSZ.out.1 _⟩
          case rest =>
            obtain ⟨v', hT, hO, hU, hB⟩ := hcut
            have hU2 : OwnT wc W1.heap.size (.slice (some ⟨g, 0, none⟩) us.length cap0) us := by rw [hus]; exact hU
            have k1 := (two_cells hus hU hp HEL.out).1
            have hfz : wc.frozen? ⟨g, p * 2, none⟩ = false := World.ownsRow.frozenAt hU2 (p * 2)
            have hst := hU2.store p 0 hp
            rw [HEL.out, hus] at hst
            have HST := Lib.hid hst
            have HT9 := Lib.hid hT
            have HO9 := Lib.hid hO
            have HB9 := Lib.hid hB
            have HSS := Lib.hid (sel_step HN.out HSE.out p hp (by rw [HEL2.out]; exact HPN.out) (fun i hi h0 => by have := best_min HBF.out hus i hi h0; rw [HEL.out] at this; rw [HEL2.out]; exact this))
            clear hU hU2 hst hT hO hB
            go_wp2
            go_roundg (gk - 1)
            case measure => have := sel_len HSS.out; simp at this; omega
            case rel =>
              have hgb := HG1.out
              have hlo9 := fun k hk => (HO9.out.lt k hk).1
              have hne : v'.ownBlock = none ∨ v'.ownBlock ≠ some g := by
                cases hv : v'.ownBlock with
                | none => exact .inl rfl
                | some k => right; have := hlo9 k hv; intro e; have := Option.some.inj e; omega
              exact ⟨xs ++ [(x, y)], us.set p (0, y), v', by simp; omega, by simpa using hus, Lib.hid (by have h := HSS.out; rw [HEL2.out] at h; exact h), Lib.hid HST.out, Lib.hid (HT9.out.kept (grownBy_setCell _ _ _) (by intro e; have := Option.some.inj e; dsimp only at *; omega)), Lib.hid (HO9.out.kept (grownBy_setCell _ _ _) hne), Lib.hid (HB9.out.setCell hgb.1 _)⟩
      obtain ⟨g, rfl⟩ := HSH.out j hlj
      have ho1 : OwnT w5 W1.heap.size (.slice (some ⟨g, 0, none⟩) us.length cap0) us := by rw [hus]; exact HOU.out
      have hcell : ∀ i, i < us.length → w5.cell? ⟨g, i * 2, none⟩ = some (.int .i64 (us[i]?.getD (0, 0)).1) ∧ w5.cell? ⟨g, i * 2 + 1, none⟩ = some (.int .i64 (us[i]?.getD (0, 0)).2) := fun i hi => ⟨(World.ownsRow.cellAt ho1 (i * 2) (by omega)).trans (flatT_get us i hi).1, (World.ownsRow.cellAt ho1 (i * 2 + 1) (by omega)).trans (flatT_get us i hi).2⟩
      have HCE := Lib.hid hcell
      clear hcell ho1
      obtain ⟨c1, c2⟩ := HCE.out j (by omega)
      obtain ⟨x, hx⟩ : ∃ x, (us[j]?.getD (0, 0)).1 = x := ⟨_, rfl⟩
      obtain ⟨y, hy⟩ : ∃ y, (us[j]?.getD (0, 0)).2 = y := ⟨_, rfl⟩
      rw [hx] at c1
      rw [hy] at c2
      have HXV := Lib.hid hx
      have HYV := Lib.hid hy
      clear hx hy
      by_cases h0 : x = 0
      · have g0 : (x != 0) = false := by simpa using h0
        have HB1 := Lib.hid (best_zero HBE.out (HXV.out.trans h0))
        clear h0
        go_wp2
        go_quiet (fail)
        go_wp2
        go_roundw
        case rel => exact ⟨j + 1, bst, by omega, by go_num, rfl, HB1, _, rfl⟩
        case measure => simp only [intOf]; omega
      have g0 : (x != 0) = true := by simpa using h0
      have HX0 := Lib.hid h0
      clear h0
      rcases best_shape HBE.out with rfl | ⟨p, rfl, hp, _⟩
      · have HB1 := Lib.hid (best_first (by omega) HBE.out (fun e => HX0.out (HXV.out.symm.trans e)))
        go_wp2
        go_quiet (fail)
        go_wp2
        go_roundw
        case rel => exact ⟨j + 1, j, by omega, by go_num, rfl, HB1, _, rfl⟩
        case measure => simp only [intOf]; omega
      · obtain ⟨_, d2⟩ := HCE.out p hp
        obtain ⟨z, hz⟩ : ∃ z, (us[p]?.getD (0, 0)).2 = z := ⟨_, rfl⟩
        rw [hz] at d2
        have HZV := Lib.hid hz
        have hpn : decide ((p : Int) < 0) = false := decide_eq_false (by omega)
        have hp2 : p < ts.length := by omega
        clear hz
        by_cases hyz : y < z
        · have HB1 := Lib.hid (best_less (by omega) HBE.out (fun e => HX0.out (HXV.out.symm.trans e)) (by rw [HYV.out, HZV.out]; exact hyz))
          have hd5 : decide (y < z) = true := decide_eq_true hyz
          have HYZ := Lib.hid hyz
          clear hyz
          go_wp2
          go_quiet (fail)
          go_wp2
          go_roundw
          case rel => exact ⟨j + 1, j, by omega, by go_num, rfl, HB1, _, rfl⟩
          case measure => simp only [intOf]; omega
        · have HB1 := Lib.hid (best_same HBE.out (by rw [HYV.out, HZV.out]; exact hyz))
          have hd5 : decide (y < z) = false := decide_eq_false hyz
          have HYZ := Lib.hid hyz
          clear hyz
          go_wp2
          go_quiet (fail)
          go_wp2
          go_roundw
          case rel => exact ⟨j + 1, p, by omega, by go_num, rfl, HB1, _, rfl⟩
          case measure => simp only [intOf]; omega
end Go.Proofs.YtedpafdfecofnaaGreatDoor
