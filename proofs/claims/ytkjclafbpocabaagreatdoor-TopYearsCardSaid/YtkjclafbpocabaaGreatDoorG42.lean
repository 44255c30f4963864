/-
  Contracts of the program's own functions (and their plain mathematics), on the way to the law: each for all arguments that its hypotheses let.
-/
import Derived.Test.YtkjclafbpocabaaGreatDoorG33
import Derived.WalkKit
import Derived.WalkSpells
import Derived.WalkLawsBesides
import Derived.Deep.QuietTactic
import Derived.BigQuiet
import Derived.Lib.Hide
import Derived.WalkSmall
import Derived.Maps.OwnSet
import Derived.Maps.RangeWalk
import Derived.Deep.RegionWith
import Derived.Deep.RegionHeld3
import Derived.Deep.DrawnRows
import Derived.Deep.DeepCutAuto
import Derived.OneCell
import Derived.KernelRfl
import Derived.Laws.StructEq
import Derived.StillTailTactics
import Derived.Laws.Externs
import Derived.RangeFuncBox
import Derived.Test.YtkjclafbpocabaaGreatDoorPlain
import Derived.Test.YtkjclafbpocabaaGreatDoorG32
set_option linter.unusedSimpArgs false
set_option linter.unusedVariables false

/-! ## Y17 -/
namespace Go.Proofs.YtkjclafbpocabaaGreatDoor
open Go.RowKit Go.Maps Go.Shelf Go.Sort
/-- A box with a number. -/
def BoxQ (W : World) (b : Nat) (d : Int) (v : Value) (l : List (Int × Int)) : Prop := Two W b (.int .i64 d) v 34 ∧ TermsAt W v l
theorem BoxQ.at {W W' : World} {b : Nat} {d : Int} {v : Value} {l : List (Int × Int)} (h : BoxQ W b d v l) (hb : Below W.heap.size W W') : BoxQ W' b d v l := ⟨h.1.below hb h.1.lt, h.2.below hb⟩
theorem Two.drew' {w : World} {b : Nat} {x y : Value} {T : TypeId} (h : Two w b x y T) : Two w.drew b x y T := h
theorem Two.far {w : World} {b b' i : Nat} {x y u : Value} {T : TypeId} (h : Two w b x y T) (hne : b ≠ b') : Two (w.setCell ⟨b', i, none⟩ u) b x y T := h.kept (grownBy_setCell _ _ _) (by intro e; exact hne (Option.some.inj e))
theorem Two.newAt (W : World) (b : Nat) (x y : Value) (T : TypeId) (h : W.heap.size = b) : Two (W.alloc (.cells #[x, y] T)) b x y T := by subst h; exact Two.new W x y T
theorem TermsAt.own {w : World} {v : Value} {l : List (Int × Int)} (h : TermsAt w v l) : l = [] ∨ ∀ k, v.ownBlock = some k → k < w.heap.size := by
  obtain ⟨hl, h | ⟨b, off, cap, rfl, hcap, hb, hc⟩⟩ := h
  · exact .inl h.1
  · exact .inr fun k hk => by cases hk; exact hb
theorem TermsAt.far {w : World} {v : Value} {l : List (Int × Int)} {b' i : Nat} {u : Value} (h : TermsAt w v l) (hne : l = [] ∨ ∀ k, v.ownBlock = some k → k ≠ b') : TermsAt (w.setCell ⟨b', i, none⟩ u) v l := by
  rcases hne with rfl | hne
  · obtain ⟨hl, h | ⟨b, off, cap, hv, _⟩⟩ := h
    · exact ⟨hl, .inl h⟩
    · exact ⟨hl, .inl ⟨rfl, _, cap, hv⟩⟩
  · refine h.kept (grownBy_setCell _ _ _) ?_
    cases hv : v.ownBlock with
    | none => exact .inl rfl
    | some k => right; intro e; exact hne k hv (Option.some.inj e)
theorem Below.alloc' {B : Nat} {a w : World} (hB : B ≤ a.heap.size) (h : Below B a w) (o : Obj) : Below B a (w.alloc o) := h.alloc (Nat.le_trans hB h.size) o
theorem Two.past {w w' : World} {b : Nat} {x y : Value} {T : TypeId} (h : Two w b x y T) (hw : Below w.heap.size w w') : Two w' b x y T := h.below hw h.lt
theorem two_heap {P W : World} {b : Nat} {x y : Value} {T : TypeId} (hP : P.heap = W.heap) (h : Two W b x y T) : Two P b x y T := by unfold Two at h ⊢; rw [hP]; exact h
theorem zA (W : World) {P w3 : World} (x y : Value) (T : TypeId) (h : Below P.heap.size P w3) (hP : P.heap = (W.alloc (.cells #[x, y] T)).heap) : Two w3 W.heap.size x y T := (two_heap hP (Two.new W x y T)).past h
theorem zAA (W : World) {P w3 : World} (x y : Value) (T : TypeId) (o : Obj) (h : Below P.heap.size P w3) (hP : P.heap = ((W.alloc (.cells #[x, y] T)).alloc o).heap) : Two w3 W.heap.size x y T := (two_heap hP ((Two.new W x y T).alloc o)).past h
theorem zB (W : World) {P w3 : World} (x y : Value) (T : TypeId) (o : Obj) (h : Below P.heap.size P w3) (hP : P.heap = ((W.alloc o).alloc (.cells #[x, y] T)).heap) : Two w3 (W.heap.size + 1) x y T := (two_heap hP (Two.newAt (W.alloc o) (W.heap.size + 1) x y T (by simp))).past h
theorem Two.past0 {w P w' : World} {b : Nat} {x y : Value} {T : TypeId} (h : Two w b x y T) (hb : Below P.heap.size P w') (hP : P.heap = w.heap) : Two w' b x y T := (two_heap hP h).past hb
theorem Two.past1 {w P w' : World} {b : Nat} {x y : Value} {T : TypeId} (h : Two w b x y T) (o : Obj) (hb : Below P.heap.size P w') (hP : P.heap = (w.alloc o).heap) : Two w' b x y T := (two_heap hP (h.alloc o)).past hb
/-- Two boxes with copies of two numbers. -/
def PairQ (dx : Int) (lx : List (Int × Int)) (dy : Int) (ly : List (Int × Int)) (W : World) (p q : Value) (wx : World) : Prop :=
  ∃ b1 b2 v1 v2, p = .pointer (some ⟨b1, 0, none⟩) ∧ q = .pointer (some ⟨b2, 0, none⟩) ∧ b1 ≠ b2 ∧ BoxQ wx b1 dx v1 lx ∧ BoxQ wx b2 dy v2 ly ∧ Below W.heap.size W wx
section
variable {dx dy : Int} {lx ly : List (Int × Int)} {W w4 : World} {v1 v2 : Value} {b b' : Nat}
theorem pair_new (h1 : TermsAt w4 v1 lx) (h2 : TermsAt w4 v2 ly) (B : Below W.heap.size W w4) : PairQ dx lx dy ly W (.pointer (some ⟨w4.heap.size, 0, none⟩)) (.pointer (some ⟨w4.heap.size + 1, 0, none⟩)) ((w4.alloc (.cells #[.int .i64 dx, v1] 34)).alloc (.cells #[.int .i64 dy, v2] 34)) :=
  ⟨_, _, v1, v2, rfl, rfl, by omega, ⟨(Two.new w4 _ _ 34).alloc _, (h1.alloc _).alloc _⟩, ⟨Two.newAt _ _ _ _ _ (by simp), (h2.alloc _).alloc _⟩, (B.alloc B.size _).alloc (by have := B.size; simp; omega) _⟩
theorem pair_new' (h1 : TermsAt w4 v1 lx) (h2 : TermsAt w4 v2 ly) (B : Below W.heap.size W w4) : PairQ dx lx dy ly W (.pointer (some ⟨w4.heap.size + 1, 0, none⟩)) (.pointer (some ⟨w4.heap.size, 0, none⟩)) ((w4.alloc (.cells #[.int .i64 dy, v2] 34)).alloc (.cells #[.int .i64 dx, v1] 34)) :=
  ⟨_, _, v1, v2, rfl, rfl, by omega, ⟨Two.newAt _ _ _ _ _ (by simp), (h1.alloc _).alloc _⟩, ⟨(Two.new w4 _ _ 34).alloc _, (h2.alloc _).alloc _⟩, (B.alloc B.size _).alloc (by have := B.size; simp; omega) _⟩
theorem pair_mid (h1 : TermsAt w4 v1 lx) (h2 : TermsAt w4 v2 ly) (B : Below W.heap.size W w4) (R : Two w4 b (.int .i64 0) (.slice none 0 0) 34) (hc : v1.cells = #[v1]) (hb : W.heap.size ≤ b) (q1 : lx = [] ∨ ∀ k, v1.ownBlock = some k → k ≠ b) (q2 : ly = [] ∨ ∀ k, v2.ownBlock = some k → k ≠ b) :
    PairQ dx lx dy ly W (.pointer (some ⟨b, 0, none⟩)) (.pointer (some ⟨w4.heap.size, 0, none⟩)) (((w4.setCell ⟨b, 0, none⟩ (.int .i64 dx)).setCell ⟨b, 1, none⟩ v1).alloc (.cells #[.int .i64 dy, v2] 34)) :=
  ⟨_, _, v1, v2, rfl, rfl, by have := R.lt; omega, ⟨((R.set0 _).set1 _ hc).alloc _, ((h1.far q1).far q1).alloc _⟩, ⟨Two.newAt _ _ _ _ _ (by simp [World.size_setCell]), ((h2.far q2).far q2).alloc _⟩, Below.alloc' (Nat.le_refl _) ((B.setCell hb _).setCell hb _) _⟩
theorem pair_mid' (h1 : TermsAt w4 v1 lx) (h2 : TermsAt w4 v2 ly) (B : Below W.heap.size W w4) (R : Two w4 b (.int .i64 0) (.slice none 0 0) 34) (hc : v2.cells = #[v2]) (hb : W.heap.size ≤ b) (q1 : lx = [] ∨ ∀ k, v1.ownBlock = some k → k ≠ b) (q2 : ly = [] ∨ ∀ k, v2.ownBlock = some k → k ≠ b) :
    PairQ dx lx dy ly W (.pointer (some ⟨w4.heap.size, 0, none⟩)) (.pointer (some ⟨b, 0, none⟩)) (((w4.setCell ⟨b, 0, none⟩ (.int .i64 dy)).setCell ⟨b, 1, none⟩ v2).alloc (.cells #[.int .i64 dx, v1] 34)) :=
  ⟨_, _, v1, v2, rfl, rfl, by have := R.lt; omega, ⟨Two.newAt _ _ _ _ _ (by simp [World.size_setCell]), ((h1.far q1).far q1).alloc _⟩, ⟨((R.set0 _).set1 _ hc).alloc _, ((h2.far q2).far q2).alloc _⟩, Below.alloc' (Nat.le_refl _) ((B.setCell hb _).setCell hb _) _⟩
theorem pair_old (h1 : TermsAt w4 v1 lx) (h2 : TermsAt w4 v2 ly) (B : Below W.heap.size W w4) (R : Two w4 b (.int .i64 0) (.slice none 0 0) 34) (R' : Two w4 b' (.int .i64 0) (.slice none 0 0) 34) (hc : v1.cells = #[v1]) (hc2 : v2.cells = #[v2]) (hb : W.heap.size ≤ b) (hb' : W.heap.size ≤ b') (hne : b ≠ b')
    (q1 : lx = [] ∨ ∀ k, v1.ownBlock = some k → k ≠ b ∧ k ≠ b') (q2 : ly = [] ∨ ∀ k, v2.ownBlock = some k → k ≠ b ∧ k ≠ b') :
    PairQ dx lx dy ly W (.pointer (some ⟨b, 0, none⟩)) (.pointer (some ⟨b', 0, none⟩)) ((((w4.setCell ⟨b, 0, none⟩ (.int .i64 dx)).setCell ⟨b, 1, none⟩ v1).setCell ⟨b', 0, none⟩ (.int .i64 dy)).setCell ⟨b', 1, none⟩ v2) :=
  have qa := q1.imp id (fun g k hk => (g k hk).1)
  have qb := q1.imp id (fun g k hk => (g k hk).2)
  have qc := q2.imp id (fun g k hk => (g k hk).1)
  have qd := q2.imp id (fun g k hk => (g k hk).2)
  ⟨_, _, v1, v2, rfl, rfl, hne, ⟨(((R.set0 _).set1 _ hc).far hne).far hne, (((h1.far qa).far qa).far qb).far qb⟩, ⟨((((R'.far hne.symm).far hne.symm).set0 _).set1 _ hc2), (((h2.far qc).far qc).far qd).far qd⟩, (((B.setCell hb _).setCell hb _).setCell hb' _).setCell hb' _⟩
end
theorem frac_call (hsort : Hid SortC) {d p q x y : Int} {l : List (Int × Int)} (V : Hid (Val d l p q)) (p1 : -100000 ≤ p) (p2 : p ≤ 100000) (q1 : 1 ≤ q) (q2 : q ≤ 100000) (hx : x = p) (hy : y = q) (w : World) : Calls Tryz.prog 65 #[.int .i64 x, .int .i64 y] w (OneN (d, l) w) := by
  rw [hx, hy]
  refine (tfraction_any hsort p q w (Lib.hid fun r h => (val_make q1 q2 p1 p2 h).1)).mono fun e w' ⟨r, hr, h⟩ => ?_
  obtain ⟨e1, e2⟩ := val_uniq (val_make q1 q2 p1 p2 hr).2 V.out
  rw [e1, e2] at h
  exact h
end Go.Proofs.YtkjclafbpocabaaGreatDoor

/-! ## Y18 -/
namespace Go.Proofs.YtkjclafbpocabaaGreatDoor
open Go.RowKit Go.Maps Go.Shelf Go.Sort
attribute [local go_sem ↓] Go.wp_at_zero Go.wp_at_succ
noncomputable def yt2 : Code := (Tryz.f17.body.bind (tailFrom 2)).getD .skip
set_option maxRecDepth 1000000 in
def YSeg2 : Prop := ∀ {w w2 : World} {a0 a1 b0 b1 p q u v fr to_ dA dB : Int} {lA lB : List (Int × Int)} {bi bj : Nat} {u0 u1 u2 u5 u6 u9 u10 u11 u12 u13 u14 u15 u16 u17 u18 u19 u20 u21 u22 u23 u24 u25 u26 u27 u28 u29 u30 u31 u32 u33 u34 u35 u36 u37 u38 u39 u40 u41 u42 u43 u44 u45 u46 u47 u48 u49 u50 u51 u52 u53 u54 u55 u56 u57 u58 u59 u60 u61 u62 u63 u64 u65 u66 u67 u68 u69 u70 u71 u72 u73 u74 u75 u76 u77 u78 u79 u80 u81 u82 u83 u84 u85 u86 u87 u88 u89 u90 u91 u92 u93 u94 u95 u96 u97 u98 u99 u100 u101 u102 u103 u104 u105 u106 u107 u108 u109 u110 u111 u112 u113 u114 u115 u116 u117 u118 u119 u120 u121 u122 u123 u124 u125 u126 u127 u128 u129 u130 u131 u132 u133 u134 u135 u136 u137 u138 u139 u140 u141 u142 u143 u144 u145 u146 u147 u148 u149 u150 u151 u152 u153 u154 u155 u156 u157 u158 u159 u160 u161 u162 u163 u164 u165 u166 u167 u168 u169 u170 u171 u172 u173 u174 u175 u176 u177 u178 u179 u180 u181 u182 u183 u184 u185 u186 u187 u188 u189 u190 u191 u192 u193 u194 u195 u196 u197 u198 u199 u200 u201 u202 u203 u204 u205 u206 u207 u208 u209 : Value}, Hid (WOk w) → Hid (YRange p q u v fr to_) → Hid (Below w.heap.size w w2) → Hid (Two w2 bi (.int .u8 a0) (.int .u8 a1) 98) → Hid (Two w2 bj (.int .u8 b0) (.int .u8 b1) 98) → Hid (Val dA lA p q) → Hid (Val dB lB u v) → Hid (IntKind.i64.wrap a0 = a0 ∧ IntKind.i64.wrap a1 = a1 ∧ IntKind.i64.wrap b0 = b0 ∧ IntKind.i64.wrap b1 = b1 ∧ IntKind.i64.wrap (1 + a0) = p ∧ IntKind.i64.wrap (a1.tmod 12) = a1.tmod 12 ∧ IntKind.i64.wrap (1 + a1.tmod 12) = q ∧ IntKind.i64.wrap (b0.tmod 20) = u ∧ b0.tmod 20 = u ∧ IntKind.i64.wrap (b1.tmod 12) = b1.tmod 12 ∧ IntKind.i64.wrap (1 + b1.tmod 12) = v) → Code.wp Tryz.prog yt2 (bodyPost Tryz.prog Tryz.f17 (AnsB true w)) ⟨List.toArray (u0 :: u1 :: u2 :: (.pointer (some ⟨bi, 0, none⟩)) :: (.pointer (some ⟨bj, 0, none⟩)) :: u5 :: u6 :: (.int .u8 fr) :: (.int .u8 to_) :: u9 :: u10 :: u11 :: u12 :: u13 :: u14 :: u15 :: u16 :: u17 :: u18 :: u19 :: u20 :: u21 :: u22 :: u23 :: u24 :: u25 :: u26 :: u27 :: u28 :: u29 :: u30 :: u31 :: u32 :: u33 :: u34 :: u35 :: u36 :: u37 :: u38 :: u39 :: u40 :: u41 :: u42 :: u43 :: u44 :: u45 :: u46 :: u47 :: u48 :: u49 :: u50 :: u51 :: u52 :: u53 :: u54 :: u55 :: u56 :: u57 :: u58 :: u59 :: u60 :: u61 :: u62 :: u63 :: u64 :: u65 :: u66 :: u67 :: u68 :: u69 :: u70 :: u71 :: u72 :: u73 :: u74 :: u75 :: u76 :: u77 :: u78 :: u79 :: u80 :: u81 :: u82 :: u83 :: u84 :: u85 :: u86 :: u87 :: u88 :: u89 :: u90 :: u91 :: u92 :: u93 :: u94 :: u95 :: u96 :: u97 :: u98 :: u99 :: u100 :: u101 :: u102 :: u103 :: u104 :: u105 :: u106 :: u107 :: u108 :: u109 :: u110 :: u111 :: u112 :: u113 :: u114 :: u115 :: u116 :: u117 :: u118 :: u119 :: u120 :: u121 :: u122 :: u123 :: u124 :: u125 :: u126 :: u127 :: u128 :: u129 :: u130 :: u131 :: u132 :: u133 :: u134 :: u135 :: u136 :: u137 :: u138 :: u139 :: u140 :: u141 :: u142 :: u143 :: u144 :: u145 :: u146 :: u147 :: u148 :: u149 :: u150 :: u151 :: u152 :: u153 :: u154 :: u155 :: u156 :: u157 :: u158 :: u159 :: u160 :: u161 :: u162 :: u163 :: u164 :: u165 :: u166 :: u167 :: u168 :: u169 :: u170 :: u171 :: u172 :: u173 :: u174 :: u175 :: u176 :: u177 :: u178 :: u179 :: u180 :: u181 :: u182 :: u183 :: u184 :: u185 :: u186 :: u187 :: u188 :: u189 :: u190 :: u191 :: u192 :: u193 :: u194 :: u195 :: u196 :: u197 :: u198 :: u199 :: u200 :: u201 :: u202 :: u203 :: u204 :: u205 :: u206 :: u207 :: u208 :: u209 :: []), []⟩ w2
end Go.Proofs.YtkjclafbpocabaaGreatDoor
