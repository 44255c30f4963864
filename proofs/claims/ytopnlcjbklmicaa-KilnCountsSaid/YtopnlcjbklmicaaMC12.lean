/-
  THE LAW KilnCounts, FOR EVERY ROW OF CALLS: it returns true, and its argument reads as it did. No condition.
-/
import Derived.Test.YtopnlcjbklmicaaK9a
import Derived.Test.YtopnlcjbklmicaaK9b
import Derived.Test.YtopnlcjbklmicaaL2
import Derived.Test.YtopnlcjbklmicaaK34
import Derived.Test.YtopnlcjbklmicaaK93
import Derived.Test.YtopnlcjbklmicaaRows
import Derived.WalkKit
import Derived.ProofKit
import Derived.OpenShut
import Derived.Deep.DeepHandedRow
import Derived.Deep.SlicePairs
import Derived.Lib.SmallJoins
import Derived.Stop.LaidErr
import Derived.MakeChecks
import Derived.Lay
namespace Go.Proofs.Ytopnlcjbklmicaa
open Go.ChangeMaps Go.MakeChecks Go.ChangeShapes Go.WideShapes Go.ChangeAt Go.RowKit Go.Deep Go.Joins
set_option linter.unusedVariables false
set_option linter.unusedSimpArgs false
set_option linter.constructorNameAsVariable false
set_option maxRecDepth 1000000 in
set_option maxHeartbeats 8000000 in
theorem r52_any {bb m5 xb kk k wb : Nat} {er a b c d e f g a' b' c' d' e' f' g' x0 r : Int} {bu : Bool} {W : World} {u0 u1 u2 u10 u13 u14 u17 u18 u19 u20 u21 u22 u23 u24 u25 u26 u27 u28 u29 u30 u31 u32 u33 u34 u35 u36 u37 u38 u39 u40 u41 u42 u43 u44 u45 u46 u47 u48 u49 u50 u51 u52 u53 u54 u55 u56 u57 u58 u59 u60 u61 u62 u63 u64 u65 u66 u67 u68 u69 u70 u71 u72 u73 u74 u75 u76 u77 u78 u79 u80 u81 u82 u83 u84 u85 u86 u87 u88 u89 u90 u91 u92 u93 u94 u95 u96 u97 u98 u99 u100 u101 u102 u103 u104 u105 u106 u107 u108 u109 u110 u111 u112 u113 u114 u115 u116 u117 u118 u119 u120 u121 u122 u123 u124 u125 u126 u127 u128 u129 u130 u131 u132 u133 u134 u135 u136 u137 u138 u139 u140 u141 u142 u143 u144 u145 u146 u147 u148 u149 u150 u151 u152 u153 u154 u155 u156 u157 u158 u159 u160 u161 u162 u163 u164 u165 u166 u167 u168 u169 u170 u171 u172 u173 u174 u175 u176 u177 u178 u179 u180 u181 u182 u183 u184 u185 u186 u187 u188 u189 u190 u191 u192 u193 u194 u195 u196 u197 u198 u199 u200 u201 u202 u203 u204 u205 u206 u207 u208 u209 u210 u211 u212 u213 u214 u215 u216 u217 u218 u219 u220 u221 u222 u223 u224 u225 u226 u227 u228 u229 u230 u231 u232 u233 u234 u235 u236 u237 u238 u239 u240 u241 u242 u243 u244 u245 u246 u247 u248 u249 u250 u251 u252 u253 u254 u255 u256 u257 u258 u259 u260 u261 u262 u263 u264 u265 u266 u267 u268 u269 u270 u271 u272 u273 u274 u275 u276 u277 u278 u279 u280 u281 u282 u283 u284 u285 u286 u287 u288 u289 u290 u291 u292 u293 u294 u295 u296 : Value} {Q : Exit → Act → World → Prop}
    (hr : x0.tmod 7 = r) (hr2 : 0 ≤ r ∧ r ≤ 6) (hs1 : er ≠ 0 → (a' = a ∧ b' = b ∧ c' = c ∧ d' = d ∧ e' = e ∧ f' = f ∧ g' = g)) (hs2 : r ≠ 3 → k ≠ kk → (a' = a ∧ b' = b ∧ c' = c ∧ d' = d ∧ e' = e ∧ f' = f ∧ g' = g)) (hk0 : (0 : Int) ≤ (k : Int)) (hk1 : (k : Int) < 2)
    (n0 : W.cell? ⟨wb, 0, none⟩ = some (.int .i64 a)) (n1 : W.cell? ⟨wb, 1, none⟩ = some (.int .i64 b)) (n2 : W.cell? ⟨wb, 2, none⟩ = some (.int .i64 c)) (n3 : W.cell? ⟨wb, 3, none⟩ = some (.int .i64 d)) (n4 : W.cell? ⟨wb, 4, none⟩ = some (.int .i64 e)) (n5 : W.cell? ⟨wb, 5, none⟩ = some (.int .i64 f)) (n6 : W.cell? ⟨wb, 6, none⟩ = some (.int .i64 g)) (o0 : W.cell? ⟨m5 + 3, k * 7, none⟩ = some (.int .i64 a')) (o1 : W.cell? ⟨m5 + 3, k * 7 + 1, none⟩ = some (.int .i64 b')) (o2 : W.cell? ⟨m5 + 3, k * 7 + 2, none⟩ = some (.int .i64 c')) (o3 : W.cell? ⟨m5 + 3, k * 7 + 3, none⟩ = some (.int .i64 d')) (o4 : W.cell? ⟨m5 + 3, k * 7 + 4, none⟩ = some (.int .i64 e')) (o5 : W.cell? ⟨m5 + 3, k * 7 + 5, none⟩ = some (.int .i64 f')) (o6 : W.cell? ⟨m5 + 3, k * 7 + 6, none⟩ = some (.int .i64 g')) (xc : W.cell? ⟨xb, 0, none⟩ = some (.int .u8 x0))
    (hQ : Hid (∀ (v266 v267 v268 v269 v270 v271 v272 v273 v274 v275 v276 v277 v278 v279 v280 v281 v282 v283 v284 v285 v286 v287 v288 v289 v290 v291 : Value) (nq : Nat), Q .normal ⟨List.toArray (u0 :: u1 :: u2 :: (.pointer (some ⟨bb, 0, none⟩)) :: (.int .i64 er) :: (.pointer (some ⟨m5, 0, none⟩)) :: (.pointer (some ⟨m5 + 1, 0, none⟩)) :: (.pointer (some ⟨m5 + 2, 0, none⟩)) :: (.pointer (some ⟨m5 + 3, 0, none⟩)) :: (.bool bu) :: u10 :: (.pointer (some ⟨xb, 0, none⟩)) :: (.int .i64 (kk : Int)) :: u13 :: u14 :: (.int .i64 (k : Int)) :: (.pointer (some ⟨wb, 0, none⟩)) :: u17 :: u18 :: u19 :: u20 :: u21 :: u22 :: u23 :: u24 :: u25 :: u26 :: u27 :: u28 :: u29 :: u30 :: u31 :: u32 :: u33 :: u34 :: u35 :: u36 :: u37 :: u38 :: u39 :: u40 :: u41 :: u42 :: u43 :: u44 :: u45 :: u46 :: u47 :: u48 :: u49 :: u50 :: u51 :: u52 :: u53 :: u54 :: u55 :: u56 :: u57 :: u58 :: u59 :: u60 :: u61 :: u62 :: u63 :: u64 :: u65 :: u66 :: u67 :: u68 :: u69 :: u70 :: u71 :: u72 :: u73 :: u74 :: u75 :: u76 :: u77 :: u78 :: u79 :: u80 :: u81 :: u82 :: u83 :: u84 :: u85 :: u86 :: u87 :: u88 :: u89 :: u90 :: u91 :: u92 :: u93 :: u94 :: u95 :: u96 :: u97 :: u98 :: u99 :: u100 :: u101 :: u102 :: u103 :: u104 :: u105 :: u106 :: u107 :: u108 :: u109 :: u110 :: u111 :: u112 :: u113 :: u114 :: u115 :: u116 :: u117 :: u118 :: u119 :: u120 :: u121 :: u122 :: u123 :: u124 :: u125 :: u126 :: u127 :: u128 :: u129 :: u130 :: u131 :: u132 :: u133 :: u134 :: u135 :: u136 :: u137 :: u138 :: u139 :: u140 :: u141 :: u142 :: u143 :: u144 :: u145 :: u146 :: u147 :: u148 :: u149 :: u150 :: u151 :: u152 :: u153 :: u154 :: u155 :: u156 :: u157 :: u158 :: u159 :: u160 :: u161 :: u162 :: u163 :: u164 :: u165 :: u166 :: u167 :: u168 :: u169 :: u170 :: u171 :: u172 :: u173 :: u174 :: u175 :: u176 :: u177 :: u178 :: u179 :: u180 :: u181 :: u182 :: u183 :: u184 :: u185 :: u186 :: u187 :: u188 :: u189 :: u190 :: u191 :: u192 :: u193 :: u194 :: u195 :: u196 :: u197 :: u198 :: u199 :: u200 :: u201 :: u202 :: u203 :: u204 :: u205 :: u206 :: u207 :: u208 :: u209 :: u210 :: u211 :: u212 :: u213 :: u214 :: u215 :: u216 :: u217 :: u218 :: u219 :: u220 :: u221 :: u222 :: u223 :: u224 :: u225 :: u226 :: u227 :: u228 :: u229 :: u230 :: u231 :: u232 :: u233 :: u234 :: u235 :: u236 :: u237 :: u238 :: u239 :: u240 :: u241 :: u242 :: u243 :: u244 :: u245 :: u246 :: u247 :: u248 :: u249 :: u250 :: u251 :: u252 :: u253 :: u254 :: u255 :: u256 :: u257 :: u258 :: u259 :: u260 :: u261 :: u262 :: u263 :: u264 :: u265 :: v266 :: v267 :: v268 :: v269 :: v270 :: v271 :: v272 :: v273 :: v274 :: v275 :: v276 :: v277 :: v278 :: v279 :: v280 :: v281 :: v282 :: v283 :: v284 :: v285 :: v286 :: v287 :: v288 :: v289 :: v290 :: v291 :: (.bool false) :: u293 :: u294 :: u295 :: u296 :: []), []⟩ (W.drewN nq))) :
    Code.wp Try.prog r52Code Q ⟨List.toArray (u0 :: u1 :: u2 :: (.pointer (some ⟨bb, 0, none⟩)) :: (.int .i64 er) :: (.pointer (some ⟨m5, 0, none⟩)) :: (.pointer (some ⟨m5 + 1, 0, none⟩)) :: (.pointer (some ⟨m5 + 2, 0, none⟩)) :: (.pointer (some ⟨m5 + 3, 0, none⟩)) :: (.bool bu) :: u10 :: (.pointer (some ⟨xb, 0, none⟩)) :: (.int .i64 (kk : Int)) :: u13 :: u14 :: (.int .i64 (k : Int)) :: (.pointer (some ⟨wb, 0, none⟩)) :: u17 :: u18 :: u19 :: u20 :: u21 :: u22 :: u23 :: u24 :: u25 :: u26 :: u27 :: u28 :: u29 :: u30 :: u31 :: u32 :: u33 :: u34 :: u35 :: u36 :: u37 :: u38 :: u39 :: u40 :: u41 :: u42 :: u43 :: u44 :: u45 :: u46 :: u47 :: u48 :: u49 :: u50 :: u51 :: u52 :: u53 :: u54 :: u55 :: u56 :: u57 :: u58 :: u59 :: u60 :: u61 :: u62 :: u63 :: u64 :: u65 :: u66 :: u67 :: u68 :: u69 :: u70 :: u71 :: u72 :: u73 :: u74 :: u75 :: u76 :: u77 :: u78 :: u79 :: u80 :: u81 :: u82 :: u83 :: u84 :: u85 :: u86 :: u87 :: u88 :: u89 :: u90 :: u91 :: u92 :: u93 :: u94 :: u95 :: u96 :: u97 :: u98 :: u99 :: u100 :: u101 :: u102 :: u103 :: u104 :: u105 :: u106 :: u107 :: u108 :: u109 :: u110 :: u111 :: u112 :: u113 :: u114 :: u115 :: u116 :: u117 :: u118 :: u119 :: u120 :: u121 :: u122 :: u123 :: u124 :: u125 :: u126 :: u127 :: u128 :: u129 :: u130 :: u131 :: u132 :: u133 :: u134 :: u135 :: u136 :: u137 :: u138 :: u139 :: u140 :: u141 :: u142 :: u143 :: u144 :: u145 :: u146 :: u147 :: u148 :: u149 :: u150 :: u151 :: u152 :: u153 :: u154 :: u155 :: u156 :: u157 :: u158 :: u159 :: u160 :: u161 :: u162 :: u163 :: u164 :: u165 :: u166 :: u167 :: u168 :: u169 :: u170 :: u171 :: u172 :: u173 :: u174 :: u175 :: u176 :: u177 :: u178 :: u179 :: u180 :: u181 :: u182 :: u183 :: u184 :: u185 :: u186 :: u187 :: u188 :: u189 :: u190 :: u191 :: u192 :: u193 :: u194 :: u195 :: u196 :: u197 :: u198 :: u199 :: u200 :: u201 :: u202 :: u203 :: u204 :: u205 :: u206 :: u207 :: u208 :: u209 :: u210 :: u211 :: u212 :: u213 :: u214 :: u215 :: u216 :: u217 :: u218 :: u219 :: u220 :: u221 :: u222 :: u223 :: u224 :: u225 :: u226 :: u227 :: u228 :: u229 :: u230 :: u231 :: u232 :: u233 :: u234 :: u235 :: u236 :: u237 :: u238 :: u239 :: u240 :: u241 :: u242 :: u243 :: u244 :: u245 :: u246 :: u247 :: u248 :: u249 :: u250 :: u251 :: u252 :: u253 :: u254 :: u255 :: u256 :: u257 :: u258 :: u259 :: u260 :: u261 :: u262 :: u263 :: u264 :: u265 :: u266 :: u267 :: u268 :: u269 :: u270 :: u271 :: u272 :: u273 :: u274 :: u275 :: u276 :: u277 :: u278 :: u279 :: u280 :: u281 :: u282 :: u283 :: u284 :: u285 :: u286 :: u287 :: u288 :: u289 :: u290 :: u291 :: u292 :: u293 :: u294 :: u295 :: u296 :: []), []⟩ W := by
  conv => arg 2; whnf
  have wr0 : IntKind.u8.wrap r = r := by unfold IntKind.wrap; simp [IntKind.bits, IntKind.signed]; omega
  have HS1 := Lib.hid hs1
  have HS2 := Lib.hid hs2
  obtain ⟨q1, hq1⟩ : ∃ q, (er != 0) = q := ⟨_, rfl⟩
  obtain ⟨q2, hq2⟩ : ∃ q, ((k : Int) != (kk : Int)) = q := ⟨_, rfl⟩
  obtain ⟨q3, hq3⟩ : ∃ q, (r != 3) = q := ⟨_, rfl⟩
  have HQ1 := Lib.hid hq1
  have HQ2 := Lib.hid hq2
  have HQ3 := Lib.hid hq3
  have HR2 := Lib.hid hr2
  clear hs1 hs2 hr2
  cases q1
  · cases q2
    · go_quiet (fail)
      exact hQ.out _ _ _ _ _ _ _ _ _ _ _ _ _ _ _ _ _ _ _ _ _ _ _ _ _ _ _
    · cases q3
      · go_quiet (fail)
        exact hQ.out _ _ _ _ _ _ _ _ _ _ _ _ _ _ _ _ _ _ _ _ _ _ _ _ _ _ _
      · obtain ⟨rfl, rfl, rfl, rfl, rfl, rfl, rfl⟩ := HS2.out (by have := HQ3.out; simpa using this) (by have := HQ2.out; simp at this; omega)
        go_quiet (fail)
        exact hQ.out _ _ _ _ _ _ _ _ _ _ _ _ _ _ _ _ _ _ _ _ _ _ _ _ _ _ _
  · obtain ⟨rfl, rfl, rfl, rfl, rfl, rfl, rfl⟩ := HS1.out (by have := HQ1.out; simpa using this)
    cases q2
    · go_quiet (fail)
      exact hQ.out _ _ _ _ _ _ _ _ _ _ _ _ _ _ _ _ _ _ _ _ _ _ _ _ _ _ _
    · cases q3
      · go_quiet (fail)
        exact hQ.out _ _ _ _ _ _ _ _ _ _ _ _ _ _ _ _ _ _ _ _ _ _ _ _ _ _ _
      · go_quiet (fail)
        exact hQ.out _ _ _ _ _ _ _ _ _ _ _ _ _ _ _ _ _ _ _ _ _ _ _ _ _ _ _
theorem max_fold (a b : Int) : (if b > a then b else a) = max a b := by rw [Int.max_def]; split <;> split <;> omega
theorem run_min_seven {P : Program} (w : World) (ts : Array TypeId) (t : TypeId) (a b c d e f g : Int) :
    (Builtin.min_ ts t #[.int .i64 a, .int .i64 b, .int .i64 c, .int .i64 d, .int .i64 e, .int .i64 f, .int .i64 g]).run P w = .ok (.int .i64 (min (min (min (min (min (min a b) c) d) e) f) g)) w := by
  simp [Builtin.min_, Builtin.min2, min_fold]
theorem run_max_seven {P : Program} (w : World) (ts : Array TypeId) (t : TypeId) (a b c d e f g : Int) :
    (Builtin.max_ ts t #[.int .i64 a, .int .i64 b, .int .i64 c, .int .i64 d, .int .i64 e, .int .i64 f, .int .i64 g]).run P w = .ok (.int .i64 (max (max (max (max (max (max a b) c) d) e) f) g)) w := by
  have hm : ∀ a b : Int, (if a < b then b else a) = max a b := fun a b => max_fold a b
  simp [Builtin.max_, Builtin.max2, hm]
/-- The counts before, of which the first k are already those behind the call. -/
structure PQ (k : Nat) (l l2 o : List St) : Prop where
  len : o.length = 2
  new : ∀ j : Nat, j < k → o[j]?.getD St.zero = l2[j]?.getD St.zero
  old : ∀ j : Nat, k ≤ j → o[j]?.getD St.zero = l[j]?.getD St.zero
theorem PQ.start {l l2 : List St} (h : l.length = 2) : PQ 0 l l2 l := ⟨h, fun j hj => by omega, fun _ _ => rfl⟩
theorem PQ.step {k : Nat} {l l2 o : List St} (h : PQ k l l2 o) (hk : k < 2) : PQ (k + 1) l l2 (o.set k (l2[k]?.getD St.zero)) := by
  have hl : k < o.length := by rw [h.len]; exact hk
  refine ⟨by rw [List.length_set]; exact h.len, fun j hj => ?_, fun j hj => ?_⟩
  · rw [set_at o k j _ hl]; split
    · next e => rw [e]
    · exact h.new j (by omega)
  · rw [set_at o k j _ hl, if_neg (by omega)]
    exact h.old j (by omega)
theorem PQ.done {l l2 o : List St} (h : PQ 2 l l2 o) (h2 : l2.length = 2) : o = l2 := by
  have h0 := h.new 0 (by omega)
  have h1 := h.new 1 (by omega)
  match o, l2, h.len, h2 with
  | [a, b], [c, d], _, _ =>
    simp at h0 h1
    rw [h0, h1]
theorem wl_cell {W : World} {b k i : Nat} {o : List St} {s : St} {T : TypeId} (h : Blk W b (wl o).toArray T) (ho : o.length = 2) (hk : k < 2) (hi : i < 7) (hs : o[k]?.getD St.zero = s) : W.cell? ⟨b, k * 7 + i, none⟩ = s.wares[i]? := by
  match o, ho with
  | [p, q], _ =>
    have hk2 : k = 0 ∨ k = 1 := by omega
    have hi2 : i = 0 ∨ i = 1 ∨ i = 2 ∨ i = 3 ∨ i = 4 ∨ i = 5 ∨ i = 6 := by omega
    rcases hk2 with rfl | rfl <;> (simp at hs; subst hs; rcases hi2 with rfl | rfl | rfl | rfl | rfl | rfl | rfl <;> exact h.cell rfl)
theorem blk_far7 {gq j b : Nat} {W : World} {vs : Array Value} {T : TypeId} (h : Blk W b vs T) (hne : b ≠ gq) (x0 x1 x2 x3 x4 x5 x6 : Int) : Blk (((((((W.setCell ⟨gq, j, none⟩ (.int .i64 x0)).setCell ⟨gq, j + 1, none⟩ (.int .i64 x1)).setCell ⟨gq, j + 2, none⟩ (.int .i64 x2)).setCell ⟨gq, j + 3, none⟩ (.int .i64 x3)).setCell ⟨gq, j + 4, none⟩ (.int .i64 x4)).setCell ⟨gq, j + 5, none⟩ (.int .i64 x5)).setCell ⟨gq, j + 6, none⟩ (.int .i64 x6)) b vs T :=
  ((((((h.far hne).far hne).far hne).far hne).far hne).far hne).far hne
theorem own_far7 {gq j base z n : Nat} {W : World} {T : TypeId} {v : Value} {xs : List Value} (h : W.ownsRow base T z v n xs) (hne : v.ownBlock ≠ some gq) (x0 x1 x2 x3 x4 x5 x6 : Int) : (((((((W.setCell ⟨gq, j, none⟩ (.int .i64 x0)).setCell ⟨gq, j + 1, none⟩ (.int .i64 x1)).setCell ⟨gq, j + 2, none⟩ (.int .i64 x2)).setCell ⟨gq, j + 3, none⟩ (.int .i64 x3)).setCell ⟨gq, j + 4, none⟩ (.int .i64 x4)).setCell ⟨gq, j + 5, none⟩ (.int .i64 x5)).setCell ⟨gq, j + 6, none⟩ (.int .i64 x6)).ownsRow base T z v n xs :=
  own_far (own_far (own_far (own_far (own_far (own_far (own_far h hne) hne) hne) hne) hne) hne) hne
theorem belowB7 {B gq j : Nat} {A W : World} (h : Below B A W) (hb : B ≤ gq) (x0 x1 x2 x3 x4 x5 x6 : Int) : Below B A (((((((W.setCell ⟨gq, j, none⟩ (.int .i64 x0)).setCell ⟨gq, j + 1, none⟩ (.int .i64 x1)).setCell ⟨gq, j + 2, none⟩ (.int .i64 x2)).setCell ⟨gq, j + 3, none⟩ (.int .i64 x3)).setCell ⟨gq, j + 4, none⟩ (.int .i64 x4)).setCell ⟨gq, j + 5, none⟩ (.int .i64 x5)).setCell ⟨gq, j + 6, none⟩ (.int .i64 x6)) :=
  ((((((h.setCell (p := ⟨gq, j, none⟩) hb _).setCell (p := ⟨gq, j + 1, none⟩) hb _).setCell (p := ⟨gq, j + 2, none⟩) hb _).setCell (p := ⟨gq, j + 3, none⟩) hb _).setCell (p := ⟨gq, j + 4, none⟩) hb _).setCell (p := ⟨gq, j + 5, none⟩) hb _).setCell (p := ⟨gq, j + 6, none⟩) hb _
theorem size7 {gq j : Nat} {W : World} (x0 x1 x2 x3 x4 x5 x6 : Int) : (((((((W.setCell ⟨gq, j, none⟩ (.int .i64 x0)).setCell ⟨gq, j + 1, none⟩ (.int .i64 x1)).setCell ⟨gq, j + 2, none⟩ (.int .i64 x2)).setCell ⟨gq, j + 3, none⟩ (.int .i64 x3)).setCell ⟨gq, j + 4, none⟩ (.int .i64 x4)).setCell ⟨gq, j + 5, none⟩ (.int .i64 x5)).setCell ⟨gq, j + 6, none⟩ (.int .i64 x6)).heap.size = W.heap.size := by simp
theorem wl_set7 {W : World} {gq k : Nat} {o : List St} {T : TypeId} (h : Blk W gq (wl o).toArray T) (ho : o.length = 2) (hk : k < 2) (x0 x1 x2 x3 x4 x5 x6 x7 : Int) : Blk (((((((W.setCell ⟨gq, k * 7, none⟩ (.int .i64 x0)).setCell ⟨gq, k * 7 + 1, none⟩ (.int .i64 x1)).setCell ⟨gq, k * 7 + 2, none⟩ (.int .i64 x2)).setCell ⟨gq, k * 7 + 3, none⟩ (.int .i64 x3)).setCell ⟨gq, k * 7 + 4, none⟩ (.int .i64 x4)).setCell ⟨gq, k * 7 + 5, none⟩ (.int .i64 x5)).setCell ⟨gq, k * 7 + 6, none⟩ (.int .i64 x6)) gq (wl (o.set k ⟨x0, x1, x2, x3, x4, x5, x6, x7⟩)).toArray T := by
  match o, ho with
  | [⟨a0, a1, a2, a3, a4, a5, a6, a7⟩, ⟨b0, b1, b2, b3, b4, b5, b6, b7⟩], _ =>
    have hk2 : k = 0 ∨ k = 1 := by omega
    have e : wl [⟨a0, a1, a2, a3, a4, a5, a6, a7⟩, ⟨b0, b1, b2, b3, b4, b5, b6, b7⟩] = [.int .i64 a0, .int .i64 a1, .int .i64 a2, .int .i64 a3, .int .i64 a4, .int .i64 a5, .int .i64 a6, .int .i64 b0, .int .i64 b1, .int .i64 b2, .int .i64 b3, .int .i64 b4, .int .i64 b5, .int .i64 b6] := rfl
    rw [e] at h
    rcases hk2 with rfl | rfl
    · have h7 := ((((((h.set 0 (by simp) (.int .i64 x0) rfl).set 1 (by simp) (.int .i64 x1) rfl).set 2 (by simp) (.int .i64 x2) rfl).set 3 (by simp) (.int .i64 x3) rfl).set 4 (by simp) (.int .i64 x4) rfl).set 5 (by simp) (.int .i64 x5) rfl).set 6 (by simp) (.int .i64 x6) rfl
      simpa [wl, St.wares] using h7
    · have h7 := ((((((h.set 7 (by simp) (.int .i64 x0) rfl).set 8 (by simp) (.int .i64 x1) rfl).set 9 (by simp) (.int .i64 x2) rfl).set 10 (by simp) (.int .i64 x3) rfl).set 11 (by simp) (.int .i64 x4) rfl).set 12 (by simp) (.int .i64 x5) rfl).set 13 (by simp) (.int .i64 x6) rfl
      simpa [wl, St.wares] using h7
theorem CW.fill {w : World} {bb base m5 k : Nat} {o l : List St} {L : BatL} {M P A : List Int} {W : World} (hB : CB w bb base m5 (m5 + 1) (m5 + 2) (m5 + 3)) (h : CW w bb base m5 (m5 + 1) (m5 + 2) (m5 + 3) o l L M P A W) (ho : o.length = 2) (hk : k < 2) (x0 x1 x2 x3 x4 x5 x6 x7 : Int) :
    CW w bb base m5 (m5 + 1) (m5 + 2) (m5 + 3) (o.set k ⟨x0, x1, x2, x3, x4, x5, x6, x7⟩) l L M P A (((((((W.setCell ⟨m5 + 3, k * 7, none⟩ (.int .i64 x0)).setCell ⟨m5 + 3, k * 7 + 1, none⟩ (.int .i64 x1)).setCell ⟨m5 + 3, k * 7 + 2, none⟩ (.int .i64 x2)).setCell ⟨m5 + 3, k * 7 + 3, none⟩ (.int .i64 x3)).setCell ⟨m5 + 3, k * 7 + 4, none⟩ (.int .i64 x4)).setCell ⟨m5 + 3, k * 7 + 5, none⟩ (.int .i64 x5)).setCell ⟨m5 + 3, k * 7 + 6, none⟩ (.int .i64 x6)) := by
  have c5 := hB.c5
  obtain ⟨iv2, ⟨sv2, k1, k2⟩, k3⟩ := h.book
  have t0 : ∃ cur, W.heap[m5 + 3]? = some (.cells cur 104 (0, 0)) := ⟨_, h.bw⟩
  exact ⟨⟨iv2, ⟨sv2, blk_far7 (j := k * 7) k1 (k1.ne h.bw (by decide)) x0 x1 x2 x3 x4 x5 x6, own_far7 (j := k * 7) k2 (own_ne k2 t0 (by decide)) x0 x1 x2 x3 x4 x5 x6⟩, own_far7 (j := k * 7) k3 (own_ne k3 t0 (by decide)) x0 x1 x2 x3 x4 x5 x6⟩,
    blk_far7 (j := k * 7) h.bm (by omega) x0 x1 x2 x3 x4 x5 x6, blk_far7 (j := k * 7) h.bp (by omega) x0 x1 x2 x3 x4 x5 x6, blk_far7 (j := k * 7) h.bl (by omega) x0 x1 x2 x3 x4 x5 x6, wl_set7 h.bw ho hk x0 x1 x2 x3 x4 x5 x6 x7, belowB7 (j := k * 7) h.below (by omega) x0 x1 x2 x3 x4 x5 x6, by rw [size7]; exact h.base2⟩
set_option maxRecDepth 1000000 in
set_option maxHeartbeats 8000000 in
theorem inner_any {w : World} {bb base m5 xb : Nat} {l l2 : List St} {L : BatL} {M P A : List Int} {bu : Bool} {W : World} {kk : Nat} {x0 x1 x2 x3 r er : Int} {u0 u1 u2 u10 u13 u14 u15 u16 u17 u18 u19 u20 u21 u22 u23 u24 u25 u26 u27 u28 u29 u30 u31 u32 u33 u34 u35 u36 u37 u38 u39 u40 u41 u42 u43 u44 u45 u46 u47 u48 u49 u50 u51 u52 u53 u54 u55 u56 u57 u58 u59 u60 u61 u62 u63 u64 u65 u66 u67 u68 u69 u70 u71 u72 u73 u74 u75 u76 u77 u78 u79 u80 u81 u82 u83 u84 u85 u86 u87 u88 u89 u90 u91 u92 u93 u94 u95 u96 u97 u98 u99 u100 u101 u102 u103 u104 u105 u106 u107 u108 u109 u110 u111 u112 u113 u114 u115 u116 u117 u118 u119 u120 u121 u122 u123 u124 u125 u126 u127 u128 u129 u130 u131 u132 u133 u134 u135 u136 u137 u138 u139 u140 u141 u142 u143 u144 u145 u146 u147 u148 u149 u150 u151 u152 u153 u154 u155 u156 u157 u158 u159 u160 u161 u162 u163 u164 u165 u166 u167 u168 u169 u170 u171 u172 u173 u174 u175 u176 u177 u178 u179 u180 u181 u182 u183 u184 u185 u186 u187 u188 u189 u190 u191 u192 u193 u194 u195 u196 u197 u198 u199 u200 u201 u202 u203 u204 u205 u206 u207 u208 u209 u210 u211 u212 u213 u214 u215 u216 u217 u218 u219 u220 u221 u222 u223 u224 u225 u226 u227 u228 u229 u230 u231 u232 u233 u234 u235 u236 u237 u238 u239 u240 u241 u242 u243 u244 u245 u246 u247 u248 u249 u250 u251 u252 u253 u254 u255 u256 u257 u258 u259 u260 u261 u262 u263 u264 u265 u266 u267 u268 u269 u270 u271 u272 u273 u274 u275 u276 u277 u278 u279 u280 u281 u282 u283 u284 u285 u286 u287 u288 u289 u290 u291 u292 u293 u294 u295 u296 : Value} {Q : Exit → Act → World → Prop}
    (hB : CB w bb base m5 (m5 + 1) (m5 + 2) (m5 + 3)) (hl : l.length = 2) (hcs : Hid (CS kk r er l l2)) (hcp : Hid (CP l2 L bu M P A)) (hcw : Hid (CW w bb base m5 (m5 + 1) (m5 + 2) (m5 + 3) l l2 L M P A W)) (hx : Hid (Blk W xb #[.int .u8 x0, .int .u8 x1, .int .u8 x2, .int .u8 x3] 106)) (hkk : kk < 2) (hr : x0.tmod 7 = r) (hr2 : 0 ≤ r ∧ r ≤ 6)
    (hQ : Hid (∀ (v2 v15 v16 v17 v18 v19 v160 v161 v162 v163 v164 v165 v166 v167 v168 v169 v170 v171 v172 v173 v174 v175 v176 v177 v178 v179 v180 v181 v182 v183 v184 v185 v186 v187 v188 v189 v190 v191 v192 v193 v194 v195 v196 v197 v198 v199 v200 v201 v202 v203 v204 v205 v206 v207 v208 v209 v210 v211 v212 v213 v214 v215 v216 v217 v218 v219 v220 v221 v222 v223 v224 v225 v226 v227 v228 v229 v230 v231 v232 v233 v234 v235 v236 v237 v238 v239 v240 v241 v242 v243 v244 v245 v246 v247 v248 v249 v250 v251 v252 v253 v254 v255 v256 v257 v258 v259 v260 v261 v262 v263 v264 v265 v266 v267 v268 v269 v270 v271 v272 v273 v274 v275 v276 v277 v278 v279 v280 v281 v282 v283 v284 v285 v286 v287 v288 v289 v290 v291 v292 v293 v294 v295 : Value) (W2 : World), Hid (CW w bb base m5 (m5 + 1) (m5 + 2) (m5 + 3) l2 l2 L M P A W2) → Hid (Blk W2 xb #[.int .u8 x0, .int .u8 x1, .int .u8 x2, .int .u8 x3] 106) → Q .normal ⟨List.toArray (u0 :: u1 :: v2 :: (.pointer (some ⟨bb, 0, none⟩)) :: (.int .i64 er) :: (.pointer (some ⟨m5, 0, none⟩)) :: (.pointer (some ⟨m5 + 1, 0, none⟩)) :: (.pointer (some ⟨m5 + 2, 0, none⟩)) :: (.pointer (some ⟨m5 + 3, 0, none⟩)) :: (.bool bu) :: u10 :: (.pointer (some ⟨xb, 0, none⟩)) :: (.int .i64 (kk : Int)) :: u13 :: u14 :: v15 :: v16 :: v17 :: v18 :: v19 :: u20 :: u21 :: u22 :: u23 :: u24 :: u25 :: u26 :: u27 :: u28 :: u29 :: u30 :: u31 :: u32 :: u33 :: u34 :: u35 :: u36 :: u37 :: u38 :: u39 :: u40 :: u41 :: u42 :: u43 :: u44 :: u45 :: u46 :: u47 :: u48 :: u49 :: u50 :: u51 :: u52 :: u53 :: u54 :: u55 :: u56 :: u57 :: u58 :: u59 :: u60 :: u61 :: u62 :: u63 :: u64 :: u65 :: u66 :: u67 :: u68 :: u69 :: u70 :: u71 :: u72 :: u73 :: u74 :: u75 :: u76 :: u77 :: u78 :: u79 :: u80 :: u81 :: u82 :: u83 :: u84 :: u85 :: u86 :: u87 :: u88 :: u89 :: u90 :: u91 :: u92 :: u93 :: u94 :: u95 :: u96 :: u97 :: u98 :: u99 :: u100 :: u101 :: u102 :: u103 :: u104 :: u105 :: u106 :: u107 :: u108 :: u109 :: u110 :: u111 :: u112 :: u113 :: u114 :: u115 :: u116 :: u117 :: u118 :: u119 :: u120 :: u121 :: u122 :: u123 :: u124 :: u125 :: u126 :: u127 :: u128 :: u129 :: u130 :: u131 :: u132 :: u133 :: u134 :: u135 :: u136 :: u137 :: u138 :: u139 :: u140 :: u141 :: u142 :: u143 :: u144 :: u145 :: u146 :: u147 :: u148 :: u149 :: u150 :: u151 :: u152 :: u153 :: u154 :: u155 :: u156 :: u157 :: u158 :: u159 :: v160 :: v161 :: v162 :: v163 :: v164 :: v165 :: v166 :: v167 :: v168 :: v169 :: v170 :: v171 :: v172 :: v173 :: v174 :: v175 :: v176 :: v177 :: v178 :: v179 :: v180 :: v181 :: v182 :: v183 :: v184 :: v185 :: v186 :: v187 :: v188 :: v189 :: v190 :: v191 :: v192 :: v193 :: v194 :: v195 :: v196 :: v197 :: v198 :: v199 :: v200 :: v201 :: v202 :: v203 :: v204 :: v205 :: v206 :: v207 :: v208 :: v209 :: v210 :: v211 :: v212 :: v213 :: v214 :: v215 :: v216 :: v217 :: v218 :: v219 :: v220 :: v221 :: v222 :: v223 :: v224 :: v225 :: v226 :: v227 :: v228 :: v229 :: v230 :: v231 :: v232 :: v233 :: v234 :: v235 :: v236 :: v237 :: v238 :: v239 :: v240 :: v241 :: v242 :: v243 :: v244 :: v245 :: v246 :: v247 :: v248 :: v249 :: v250 :: v251 :: v252 :: v253 :: v254 :: v255 :: v256 :: v257 :: v258 :: v259 :: v260 :: v261 :: v262 :: v263 :: v264 :: v265 :: v266 :: v267 :: v268 :: v269 :: v270 :: v271 :: v272 :: v273 :: v274 :: v275 :: v276 :: v277 :: v278 :: v279 :: v280 :: v281 :: v282 :: v283 :: v284 :: v285 :: v286 :: v287 :: v288 :: v289 :: v290 :: v291 :: v292 :: v293 :: v294 :: v295 :: u296 :: []), []⟩ W2)) :
    Code.wp Try.prog inCode Q ⟨List.toArray (u0 :: u1 :: u2 :: (.pointer (some ⟨bb, 0, none⟩)) :: (.int .i64 er) :: (.pointer (some ⟨m5, 0, none⟩)) :: (.pointer (some ⟨m5 + 1, 0, none⟩)) :: (.pointer (some ⟨m5 + 2, 0, none⟩)) :: (.pointer (some ⟨m5 + 3, 0, none⟩)) :: (.bool bu) :: u10 :: (.pointer (some ⟨xb, 0, none⟩)) :: (.int .i64 (kk : Int)) :: u13 :: u14 :: u15 :: u16 :: u17 :: u18 :: u19 :: u20 :: u21 :: u22 :: u23 :: u24 :: u25 :: u26 :: u27 :: u28 :: u29 :: u30 :: u31 :: u32 :: u33 :: u34 :: u35 :: u36 :: u37 :: u38 :: u39 :: u40 :: u41 :: u42 :: u43 :: u44 :: u45 :: u46 :: u47 :: u48 :: u49 :: u50 :: u51 :: u52 :: u53 :: u54 :: u55 :: u56 :: u57 :: u58 :: u59 :: u60 :: u61 :: u62 :: u63 :: u64 :: u65 :: u66 :: u67 :: u68 :: u69 :: u70 :: u71 :: u72 :: u73 :: u74 :: u75 :: u76 :: u77 :: u78 :: u79 :: u80 :: u81 :: u82 :: u83 :: u84 :: u85 :: u86 :: u87 :: u88 :: u89 :: u90 :: u91 :: u92 :: u93 :: u94 :: u95 :: u96 :: u97 :: u98 :: u99 :: u100 :: u101 :: u102 :: u103 :: u104 :: u105 :: u106 :: u107 :: u108 :: u109 :: u110 :: u111 :: u112 :: u113 :: u114 :: u115 :: u116 :: u117 :: u118 :: u119 :: u120 :: u121 :: u122 :: u123 :: u124 :: u125 :: u126 :: u127 :: u128 :: u129 :: u130 :: u131 :: u132 :: u133 :: u134 :: u135 :: u136 :: u137 :: u138 :: u139 :: u140 :: u141 :: u142 :: u143 :: u144 :: u145 :: u146 :: u147 :: u148 :: u149 :: u150 :: u151 :: u152 :: u153 :: u154 :: u155 :: u156 :: u157 :: u158 :: u159 :: u160 :: u161 :: u162 :: u163 :: u164 :: u165 :: u166 :: u167 :: u168 :: u169 :: u170 :: u171 :: u172 :: u173 :: u174 :: u175 :: u176 :: u177 :: u178 :: u179 :: u180 :: u181 :: u182 :: u183 :: u184 :: u185 :: u186 :: u187 :: u188 :: u189 :: u190 :: u191 :: u192 :: u193 :: u194 :: u195 :: u196 :: u197 :: u198 :: u199 :: u200 :: u201 :: u202 :: u203 :: u204 :: u205 :: u206 :: u207 :: u208 :: u209 :: u210 :: u211 :: u212 :: u213 :: u214 :: u215 :: u216 :: u217 :: u218 :: u219 :: u220 :: u221 :: u222 :: u223 :: u224 :: u225 :: u226 :: u227 :: u228 :: u229 :: u230 :: u231 :: u232 :: u233 :: u234 :: u235 :: u236 :: u237 :: u238 :: u239 :: u240 :: u241 :: u242 :: u243 :: u244 :: u245 :: u246 :: u247 :: u248 :: u249 :: u250 :: u251 :: u252 :: u253 :: u254 :: u255 :: u256 :: u257 :: u258 :: u259 :: u260 :: u261 :: u262 :: u263 :: u264 :: u265 :: u266 :: u267 :: u268 :: u269 :: u270 :: u271 :: u272 :: u273 :: u274 :: u275 :: u276 :: u277 :: u278 :: u279 :: u280 :: u281 :: u282 :: u283 :: u284 :: u285 :: u286 :: u287 :: u288 :: u289 :: u290 :: u291 :: u292 :: u293 :: u294 :: u295 :: u296 :: []), []⟩ W := by
  conv => arg 2; whnf
  go_wp2
  go_loopw [15] (fun j wr => ∃ (k : Nat) (o : List St), k ≤ 2 ∧ j = .int .i64 k ∧ Hid (PQ k l l2 o) ∧ Hid (CW w bb base m5 (m5 + 1) (m5 + 2) (m5 + 3) o l2 L M P A wr) ∧ Hid (Blk wr xb #[.int .u8 x0, .int .u8 x1, .int .u8 x2, .int .u8 x3] 106)) (fun j _ => 2 - (intOf j).toNat)
  case atStart => exact ⟨0, l, by omega, rfl, Lib.hid (PQ.start hl), hcw, hx⟩
  case round =>
    obtain ⟨k, o, hk, rfl, HPQ, HCW, HX⟩ := hrel
    by_cases hlt : k < 2
    · obtain ⟨iv, hbk, hin⟩ := HCW.out.book
      have hc := count_book bb base l2 400 iv (k : Int) wr hbk (by rw [hcp.out.len]; omega)
      have hcf : countF l2 (k : Int) = (l2[k]?.getD St.zero, 0) := by unfold countF; rw [if_pos (by simp [inB, hcp.out.len]; omega)]; simp
      rw [hcf] at hc
      obtain ⟨s, hs⟩ : ∃ s, l2[k]?.getD St.zero = s := ⟨_, rfl⟩
      obtain ⟨t, ht⟩ : ∃ t, l[k]?.getD St.zero = t := ⟨_, rfl⟩
      have hot : o[k]?.getD St.zero = t := by rw [HPQ.out.old k (Nat.le_refl _), ht]
      have HST := Lib.hid (HPQ.out.step hlt)
      have hsame : (er ≠ 0 → t = s) ∧ (r ≠ 3 → k ≠ kk → t = s) := ⟨fun h => by rw [← hs, ← ht, hcs.out.err h], fun h1 h2 => by rw [← hs, ← ht, hcs.out.oth h1 k h2]⟩
      have HSAME := Lib.hid hsame
      obtain ⟨a, b, c, d, e, f, g, sp⟩ := s
      have hasks := cp_asks hcs.out hcp.out hlt hs
      rw [hs] at hc HST
      rw [ht] at hasks
      obtain ⟨a', b', c', d', e', f', g', sp'⟩ := t
      dsimp only [St.wares] at hc hasks
      obtain ⟨⟨h1, h2, h3, h4, h5, h6, h7⟩, hall, hbrk, hmis, hlaid, hburn⟩ := hasks
      have HC := Lib.hid hc
      clear hc hcf hbk hin hsame
      go_wp2_with fail
      refine HC.out.mono ?_
      rintro ee w8 ⟨rfl, hb8⟩
      obtain ⟨wb, hwb⟩ : ∃ wb, w8.heap.size = wb := ⟨_, rfl⟩
      have hb9 := hb8.alloc hb8.size (.cells #[.int .i64 a, .int .i64 b, .int .i64 c, .int .i64 d, .int .i64 e, .int .i64 f, .int .i64 g] 63)
      have HN9 := Lib.hid (Blk.newI w8 wb #[.int .i64 a, .int .i64 b, .int .i64 c, .int .i64 d, .int .i64 e, .int .i64 f, .int .i64 g] 63 hwb)
      have HCW9 := Lib.hid (HCW.out.past hb9)
      have HX9 := Lib.hid (HX.out.past hb9)
      have LE : min (min (min (min (min (min a b) c) d) e) f) g = min (min (min (min (min (min a b) c) d) e) f) g := rfl
      obtain ⟨lo, hlo⟩ : ∃ lo, min (min (min (min (min (min a b) c) d) e) f) g = lo := ⟨_, rfl⟩
      obtain ⟨mo, hmo⟩ : ∃ mo, max (max (max (max (max (max a b) c) d) e) f) g = mo := ⟨_, rfl⟩
      have hmin := fun (w : World) (ts : Array TypeId) (t : TypeId) => @run_min_seven Try.prog w ts t a b c d e f g
      have hmax := fun (w : World) (ts : Array TypeId) (t : TypeId) => @run_max_seven Try.prog w ts t a b c d e f g
      rw [hlo] at hmin
      rw [hmo] at hmax
      have d1 : decide (lo < 0) = false := by rw [← hlo]; simp; omega
      have d2 : decide (1000000000 < mo) = false := by rw [← hmo]; simp; omega
      obtain ⟨mj, hmj⟩ : ∃ m, M[k]?.getD 0 = m := ⟨_, rfl⟩
      obtain ⟨aj, haj⟩ : ∃ m, A[k]?.getD 0 = m := ⟨_, rfl⟩
      rw [hmj] at hall
      rw [haj] at hlaid
      have w1 : IntKind.i64.wrap (a + b) = a + b := wrap_id (by omega) (by omega)
      have w2 : IntKind.i64.wrap (a + b + c) = a + b + c := wrap_id (by omega) (by omega)
      have w3 : IntKind.i64.wrap (a + b + c + d) = a + b + c + d := wrap_id (by omega) (by omega)
      have w4 : IntKind.i64.wrap (a + b + c + d + e) = a + b + c + d + e := wrap_id (by omega) (by omega)
      have w5 : IntKind.i64.wrap (a + b + c + d + e + f) = mj := by rw [hall]; exact wrap_id (by omega) (by omega)
      have d3 : decide (f < f') = false := by simp; omega
      have d4 : decide (f < g) = false := by simp; omega
      have d5 : (e != aj) = false := by simp [hlaid]
      obtain ⟨q, hq⟩ : ∃ q, decide (0 < c) = q := ⟨_, rfl⟩
      have hqb : q = true → bu = true := fun h => hburn (by rw [h] at hq; simpa using hq)
      have HQB := Lib.hid hqb
      have c0m := HCW9.out.bm.cell (i := k) (v := .int .i64 mj) (by rw [iM_at _ _ (by rw [hcp.out.mlen]; exact hlt), hmj])
      have c0a := HCW9.out.bl.cell (i := k) (v := .int .i64 aj) (by rw [iM_at _ _ (by rw [hcp.out.alen]; exact hlt), haj])
      have o0 : (w8.alloc (.cells #[.int .i64 a, .int .i64 b, .int .i64 c, .int .i64 d, .int .i64 e, .int .i64 f, .int .i64 g] 63)).cell? ⟨m5 + 3, k * 7, none⟩ = some (.int .i64 a') := wl_cell HCW9.out.bw HPQ.out.len hlt (i := 0) (by omega) hot
      have o1 : (w8.alloc (.cells #[.int .i64 a, .int .i64 b, .int .i64 c, .int .i64 d, .int .i64 e, .int .i64 f, .int .i64 g] 63)).cell? ⟨m5 + 3, k * 7 + 1, none⟩ = some (.int .i64 b') := wl_cell HCW9.out.bw HPQ.out.len hlt (i := 1) (by omega) hot
      have o2 : (w8.alloc (.cells #[.int .i64 a, .int .i64 b, .int .i64 c, .int .i64 d, .int .i64 e, .int .i64 f, .int .i64 g] 63)).cell? ⟨m5 + 3, k * 7 + 2, none⟩ = some (.int .i64 c') := wl_cell HCW9.out.bw HPQ.out.len hlt (i := 2) (by omega) hot
      have o3 : (w8.alloc (.cells #[.int .i64 a, .int .i64 b, .int .i64 c, .int .i64 d, .int .i64 e, .int .i64 f, .int .i64 g] 63)).cell? ⟨m5 + 3, k * 7 + 3, none⟩ = some (.int .i64 d') := wl_cell HCW9.out.bw HPQ.out.len hlt (i := 3) (by omega) hot
      have o4 : (w8.alloc (.cells #[.int .i64 a, .int .i64 b, .int .i64 c, .int .i64 d, .int .i64 e, .int .i64 f, .int .i64 g] 63)).cell? ⟨m5 + 3, k * 7 + 4, none⟩ = some (.int .i64 e') := wl_cell HCW9.out.bw HPQ.out.len hlt (i := 4) (by omega) hot
      have o5 : (w8.alloc (.cells #[.int .i64 a, .int .i64 b, .int .i64 c, .int .i64 d, .int .i64 e, .int .i64 f, .int .i64 g] 63)).cell? ⟨m5 + 3, k * 7 + 5, none⟩ = some (.int .i64 f') := wl_cell HCW9.out.bw HPQ.out.len hlt (i := 5) (by omega) hot
      have o6 : (w8.alloc (.cells #[.int .i64 a, .int .i64 b, .int .i64 c, .int .i64 d, .int .i64 e, .int .i64 f, .int .i64 g] 63)).cell? ⟨m5 + 3, k * 7 + 6, none⟩ = some (.int .i64 g') := wl_cell HCW9.out.bw HPQ.out.len hlt (i := 6) (by omega) hot
      obtain ⟨w9, hw9⟩ : ∃ w9, w8.alloc (.cells #[.int .i64 a, .int .i64 b, .int .i64 c, .int .i64 d, .int .i64 e, .int .i64 f, .int .i64 g] 63) = w9 := ⟨_, rfl⟩
      rw [hw9] at HN9 HCW9 HX9 c0m c0a o0 o1 o2 o3 o4 o5 o6
      have n0 := HN9.out.cell (i := 0) (v := .int .i64 a) rfl
      have n1 := HN9.out.cell (i := 1) (v := .int .i64 b) rfl
      have n2 := HN9.out.cell (i := 2) (v := .int .i64 c) rfl
      have n3 := HN9.out.cell (i := 3) (v := .int .i64 d) rfl
      have n4 := HN9.out.cell (i := 4) (v := .int .i64 e) rfl
      have n5 := HN9.out.cell (i := 5) (v := .int .i64 f) rfl
      have n6 := HN9.out.cell (i := 6) (v := .int .i64 g) rfl
      have xc := HX9.out.cell (i := 0) (v := .int .u8 x0) rfl
      have hk0 : (0 : Int) ≤ (k : Int) := by omega
      have hk1 : (k : Int) < 2 := by omega
      have HS := Lib.hid hs
      have HOT := Lib.hid hot
      clear hb8 hb9 HC HCW HX LE hlo hmo hall hbrk hmis hlaid hburn hqb hmj haj h1 h2 h3 h4 h5 h6 h7 hs ht hot
      go_upto_region 50 with fail
      try rw [hw9]
      clear hw9
      have HBURN := HQB.out
      have hb2 : 0 < c → bu = true := fun h => HBURN (by rw [← hq]; exact decide_eq_true h)
      refine r50_any d1 d2 w1 w2 w3 w4 w5 d3 d4 d5 hb2 hk0 hk1 n0 n1 n2 n3 n4 n5 n6 c0m c0a o5 (Lib.hid ?_)
      intro v200 v201 v202 v203 v204 v205 v206 v207 v208 v209 v210 v211 v212 v213 v214 v215 v216 v217 v218 v219 v220 v221 v222 v223 v224 v225 v226 v227 v228 v229 v230 v231 v232 v233 v234 v235 v236 v237 v238 v239 v240 v241 v242 v243 v244 v245 v246 v247 v248 v249 v250 v251 v252 v253 v254 v255 v256 v257 v258 v259 v260 v261 v262 v263 v264 nq
      clear HBURN hb2 hq
      obtain ⟨wA, hwA⟩ : ∃ Z, w9.drewN nq = Z := ⟨_, rfl⟩
      have HCWA : Hid (CW w bb base m5 (m5 + 1) (m5 + 2) (m5 + 3) o l2 L M P A wA) := Lib.hid (by rw [← hwA]; exact HCW9.out.past (below_drewN (Below.refl _ _) _))
      have HXA : Hid (Blk wA xb #[.int .u8 x0, .int .u8 x1, .int .u8 x2, .int .u8 x3] 106) := Lib.hid (by rw [← hwA]; exact HX9.out.drewN)
      have HNA : Hid (Blk wA wb #[.int .i64 a, .int .i64 b, .int .i64 c, .int .i64 d, .int .i64 e, .int .i64 f, .int .i64 g] 63) := Lib.hid (by rw [← hwA]; exact HN9.out.drewN)
      rw [hwA]
      clear hwA HCW9 HX9 HN9 n0 n1 n2 n3 n4 n5 n6 o0 o1 o2 o3 o4 o5 o6 c0m c0a xc d1 d2 d3 d4 d5 w1 w2 w3 w4 w5 hmin hmax
      go_upto_region 52 with fail
      have n0 := HNA.out.cell (i := 0) (v := .int .i64 a) rfl
      have n1 := HNA.out.cell (i := 1) (v := .int .i64 b) rfl
      have n2 := HNA.out.cell (i := 2) (v := .int .i64 c) rfl
      have n3 := HNA.out.cell (i := 3) (v := .int .i64 d) rfl
      have n4 := HNA.out.cell (i := 4) (v := .int .i64 e) rfl
      have n5 := HNA.out.cell (i := 5) (v := .int .i64 f) rfl
      have n6 := HNA.out.cell (i := 6) (v := .int .i64 g) rfl
      have o0 : wA.cell? ⟨m5 + 3, k * 7, none⟩ = some (.int .i64 a') := wl_cell HCWA.out.bw HPQ.out.len hlt (i := 0) (by omega) HOT.out
      have o1 : wA.cell? ⟨m5 + 3, k * 7 + 1, none⟩ = some (.int .i64 b') := wl_cell HCWA.out.bw HPQ.out.len hlt (i := 1) (by omega) HOT.out
      have o2 : wA.cell? ⟨m5 + 3, k * 7 + 2, none⟩ = some (.int .i64 c') := wl_cell HCWA.out.bw HPQ.out.len hlt (i := 2) (by omega) HOT.out
      have o3 : wA.cell? ⟨m5 + 3, k * 7 + 3, none⟩ = some (.int .i64 d') := wl_cell HCWA.out.bw HPQ.out.len hlt (i := 3) (by omega) HOT.out
      have o4 : wA.cell? ⟨m5 + 3, k * 7 + 4, none⟩ = some (.int .i64 e') := wl_cell HCWA.out.bw HPQ.out.len hlt (i := 4) (by omega) HOT.out
      have o5 : wA.cell? ⟨m5 + 3, k * 7 + 5, none⟩ = some (.int .i64 f') := wl_cell HCWA.out.bw HPQ.out.len hlt (i := 5) (by omega) HOT.out
      have o6 : wA.cell? ⟨m5 + 3, k * 7 + 6, none⟩ = some (.int .i64 g') := wl_cell HCWA.out.bw HPQ.out.len hlt (i := 6) (by omega) HOT.out
      have xc := HXA.out.cell (i := 0) (v := .int .u8 x0) rfl
      have hs1 : er ≠ 0 → (a' = a ∧ b' = b ∧ c' = c ∧ d' = d ∧ e' = e ∧ f' = f ∧ g' = g) := fun h => by
        have h9 := HSAME.out.1 h
        simp only [St.mk.injEq] at h9
        exact ⟨h9.1, h9.2.1, h9.2.2.1, h9.2.2.2.1, h9.2.2.2.2.1, h9.2.2.2.2.2.1, h9.2.2.2.2.2.2.1⟩
      have hs2 : r ≠ 3 → k ≠ kk → (a' = a ∧ b' = b ∧ c' = c ∧ d' = d ∧ e' = e ∧ f' = f ∧ g' = g) := fun h h' => by
        have h9 := HSAME.out.2 h h'
        simp only [St.mk.injEq] at h9
        exact ⟨h9.1, h9.2.1, h9.2.2.1, h9.2.2.2.1, h9.2.2.2.2.1, h9.2.2.2.2.2.1, h9.2.2.2.2.2.2.1⟩
      refine r52_any hr hr2 hs1 hs2 hk0 hk1 n0 n1 n2 n3 n4 n5 n6 o0 o1 o2 o3 o4 o5 o6 xc (Lib.hid ?_)
      intro v266 v267 v268 v269 v270 v271 v272 v273 v274 v275 v276 v277 v278 v279 v280 v281 v282 v283 v284 v285 v286 v287 v288 v289 v290 v291 nq2
      clear hs1 hs2 n0 n1 n2 n3 n4 n5 n6 o0 o1 o2 o3 o4 o5 o6 xc
      obtain ⟨wB, hwB⟩ : ∃ Z, wA.drewN nq2 = Z := ⟨_, rfl⟩
      have HCWB : Hid (CW w bb base m5 (m5 + 1) (m5 + 2) (m5 + 3) o l2 L M P A wB) := Lib.hid (by rw [← hwB]; exact HCWA.out.past (below_drewN (Below.refl _ _) _))
      have HXB : Hid (Blk wB xb #[.int .u8 x0, .int .u8 x1, .int .u8 x2, .int .u8 x3] 106) := Lib.hid (by rw [← hwB]; exact HXA.out.drewN)
      have HNB : Hid (Blk wB wb #[.int .i64 a, .int .i64 b, .int .i64 c, .int .i64 d, .int .i64 e, .int .i64 f, .int .i64 g] 63) := Lib.hid (by rw [← hwB]; exact HNA.out.drewN)
      rw [hwB]
      clear hwB HCWA HXA HNA
      have n0 := HNB.out.cell (i := 0) (v := .int .i64 a) rfl
      have n1 := HNB.out.cell (i := 1) (v := .int .i64 b) rfl
      have n2 := HNB.out.cell (i := 2) (v := .int .i64 c) rfl
      have n3 := HNB.out.cell (i := 3) (v := .int .i64 d) rfl
      have n4 := HNB.out.cell (i := 4) (v := .int .i64 e) rfl
      have n5 := HNB.out.cell (i := 5) (v := .int .i64 f) rfl
      have n6 := HNB.out.cell (i := 6) (v := .int .i64 g) rfl
      have o0 : wB.cell? ⟨m5 + 3, k * 7, none⟩ = some (.int .i64 a') := wl_cell HCWB.out.bw HPQ.out.len hlt (i := 0) (by omega) HOT.out
      have o1 : wB.cell? ⟨m5 + 3, k * 7 + 1, none⟩ = some (.int .i64 b') := wl_cell HCWB.out.bw HPQ.out.len hlt (i := 1) (by omega) HOT.out
      have o2 : wB.cell? ⟨m5 + 3, k * 7 + 2, none⟩ = some (.int .i64 c') := wl_cell HCWB.out.bw HPQ.out.len hlt (i := 2) (by omega) HOT.out
      have o3 : wB.cell? ⟨m5 + 3, k * 7 + 3, none⟩ = some (.int .i64 d') := wl_cell HCWB.out.bw HPQ.out.len hlt (i := 3) (by omega) HOT.out
      have o4 : wB.cell? ⟨m5 + 3, k * 7 + 4, none⟩ = some (.int .i64 e') := wl_cell HCWB.out.bw HPQ.out.len hlt (i := 4) (by omega) HOT.out
      have o5 : wB.cell? ⟨m5 + 3, k * 7 + 5, none⟩ = some (.int .i64 f') := wl_cell HCWB.out.bw HPQ.out.len hlt (i := 5) (by omega) HOT.out
      have o6 : wB.cell? ⟨m5 + 3, k * 7 + 6, none⟩ = some (.int .i64 g') := wl_cell HCWB.out.bw HPQ.out.len hlt (i := 6) (by omega) HOT.out
      have f0 : wB.frozen? ⟨m5 + 3, k * 7, none⟩ = false := HCWB.out.bw.fr (i := k * 7)
      have f1 : wB.frozen? ⟨m5 + 3, k * 7 + 1, none⟩ = false := HCWB.out.bw.fr (i := k * 7 + 1)
      have f2 : wB.frozen? ⟨m5 + 3, k * 7 + 2, none⟩ = false := HCWB.out.bw.fr (i := k * 7 + 2)
      have f3 : wB.frozen? ⟨m5 + 3, k * 7 + 3, none⟩ = false := HCWB.out.bw.fr (i := k * 7 + 3)
      have f4 : wB.frozen? ⟨m5 + 3, k * 7 + 4, none⟩ = false := HCWB.out.bw.fr (i := k * 7 + 4)
      have f5 : wB.frozen? ⟨m5 + 3, k * 7 + 5, none⟩ = false := HCWB.out.bw.fr (i := k * 7 + 5)
      have f6 : wB.frozen? ⟨m5 + 3, k * 7 + 6, none⟩ = false := HCWB.out.bw.fr (i := k * 7 + 6)
      have HCWC := Lib.hid (HCWB.out.fill hB HPQ.out.len hlt a b c d e f g sp)
      have HXC := Lib.hid (blk_far7 (gq := m5 + 3) (j := k * 7) HXB.out (HXB.out.ne HCWB.out.bw (by decide)) a b c d e f g)
      clear HCWB HXB HNB
      go_wp2
      go_roundw
      case rel => exact ⟨k + 1, _, by omega, by go_num, HST, HCWC, HXC⟩
      case measure => simp [intOf]; omega
    · obtain rfl : k = 2 := by omega
      obtain rfl := HPQ.out.done hcp.out.len
      go_wp2
      exact hQ.out _ _ _ _ _ _ _ _ _ _ _ _ _ _ _ _ _ _ _ _ _ _ _ _ _ _ _ _ _ _ _ _ _ _ _ _ _ _ _ _ _ _ _ _ _ _ _ _ _ _ _ _ _ _ _ _ _ _ _ _ _ _ _ _ _ _ _ _ _ _ _ _ _ _ _ _ _ _ _ _ _ _ _ _ _ _ _ _ _ _ _ _ _ _ _ _ _ _ _ _ _ _ _ _ _ _ _ _ _ _ _ _ _ _ _ _ _ _ _ _ _ _ _ _ _ _ _ _ _ _ _ _ _ _ _ _ _ _ _ _ _ _ _ HCW HX
noncomputable def r11Code : Code := (Try.f10.body.bind (regAt 11)).getD .skip
noncomputable def b12Code : Code := (Try.f10.body.bind (segAt 12)).getD .skip
set_option maxRecDepth 1000000 in
set_option maxHeartbeats 8000000 in
theorem step_any {w : World} {bb base m5 b9 off9 ny capv i : Nat} {l : List St} {L : BatL} {M P A : List Int} {bu : Bool} {W : World} {x0 x1 x2 x3 : Int} {u1 u2 u4 u11 u12 u13 u14 u15 u16 u17 u18 u19 u20 u21 u22 u23 u24 u25 u26 u27 u28 u29 u30 u31 u32 u33 u34 u35 u36 u37 u38 u39 u40 u41 u42 u43 u44 u45 u46 u47 u48 u49 u50 u51 u52 u53 u54 u55 u56 u57 u58 u59 u60 u61 u62 u63 u64 u65 u66 u67 u68 u69 u70 u71 u72 u73 u74 u75 u76 u77 u78 u79 u80 u81 u82 u83 u84 u85 u86 u87 u88 u89 u90 u91 u92 u93 u94 u95 u96 u97 u98 u99 u100 u101 u102 u103 u104 u105 u106 u107 u108 u109 u110 u111 u112 u113 u114 u115 u116 u117 u118 u119 u120 u121 u122 u123 u124 u125 u126 u127 u128 u129 u130 u131 u132 u133 u134 u135 u136 u137 u138 u139 u140 u141 u142 u143 u144 u145 u146 u147 u148 u149 u150 u151 u152 u153 u154 u155 u156 u157 u158 u159 u160 u161 u162 u163 u164 u165 u166 u167 u168 u169 u170 u171 u172 u173 u174 u175 u176 u177 u178 u179 u180 u181 u182 u183 u184 u185 u186 u187 u188 u189 u190 u191 u192 u193 u194 u195 u196 u197 u198 u199 u200 u201 u202 u203 u204 u205 u206 u207 u208 u209 u210 u211 u212 u213 u214 u215 u216 u217 u218 u219 u220 u221 u222 u223 u224 u225 u226 u227 u228 u229 u230 u231 u232 u233 u234 u235 u236 u237 u238 u239 u240 u241 u242 u243 u244 u245 u246 u247 u248 u249 u250 u251 u252 u253 u254 u255 u256 u257 u258 u259 u260 u261 u262 u263 u264 u265 u266 u267 u268 u269 u270 u271 u272 u273 u274 u275 u276 u277 u278 u279 u280 u281 u282 u283 u284 u285 u286 u287 u288 u289 u290 u291 u292 u293 u294 u295 u296 : Value} {Q : Exit → Act → World → Prop} {K11 : Act → World → Prop}
    (hB : CB w bb base m5 (m5 + 1) (m5 + 2) (m5 + 3)) (hcp : Hid (CP l L bu M P A)) (hcw : Hid (CW w bb base m5 (m5 + 1) (m5 + 2) (m5 + 3) l l L M P A W)) (hok : YardOk (x0, x1, x2, x3)) (hi : i < ny)
    (c0 : W.cell? ⟨b9, off9 + i * 4, none⟩ = some (.int .u8 x0)) (c1 : W.cell? ⟨b9, off9 + i * 4 + 1, none⟩ = some (.int .u8 x1)) (c2 : W.cell? ⟨b9, off9 + i * 4 + 2, none⟩ = some (.int .u8 x2)) (c3 : W.cell? ⟨b9, off9 + i * 4 + 3, none⟩ = some (.int .u8 x3))
    (hK : Hid (∀ a w, Code.wp Try.prog b12Code Q a w → K11 a w)) (hQp : ∀ c (a : Act) (w : World) d v, Q (.panic c) (a.put d v) w → Q (.panic c) a w)
    (hQ : Hid (∀ (v2 v4 v11 v12 v13 v14 v15 v16 v17 v18 v19 v45 v46 v47 v48 v49 v50 v51 v52 v53 v54 v55 v56 v57 v58 v59 v60 v61 v62 v63 v64 v65 v66 v67 v68 v69 v70 v71 v72 v73 v74 v75 v76 v77 v78 v79 v80 v81 v82 v83 v84 v85 v86 v87 v88 v89 v90 v91 v92 v93 v94 v95 v96 v97 v98 v99 v100 v101 v102 v103 v104 v105 v106 v107 v108 v109 v110 v111 v112 v113 v114 v115 v116 v117 v118 v119 v120 v121 v122 v123 v124 v125 v126 v127 v128 v129 v130 v131 v132 v133 v134 v135 v136 v137 v138 v139 v140 v141 v142 v143 v144 v145 v146 v147 v148 v149 v150 v151 v152 v153 v154 v155 v156 v157 v158 v159 v160 v161 v162 v163 v164 v165 v166 v167 v168 v169 v170 v171 v172 v173 v174 v175 v176 v177 v178 v179 v180 v181 v182 v183 v184 v185 v186 v187 v188 v189 v190 v191 v192 v193 v194 v195 v196 v197 v198 v199 v200 v201 v202 v203 v204 v205 v206 v207 v208 v209 v210 v211 v212 v213 v214 v215 v216 v217 v218 v219 v220 v221 v222 v223 v224 v225 v226 v227 v228 v229 v230 v231 v232 v233 v234 v235 v236 v237 v238 v239 v240 v241 v242 v243 v244 v245 v246 v247 v248 v249 v250 v251 v252 v253 v254 v255 v256 v257 v258 v259 v260 v261 v262 v263 v264 v265 v266 v267 v268 v269 v270 v271 v272 v273 v274 v275 v276 v277 v278 v279 v280 v281 v282 v283 v284 v285 v286 v287 v288 v289 v290 v291 v292 v293 v294 v295 : Value) (bu2 : Bool) (l2 : List St) (L2 : BatL) (M2 P2 A2 : List Int) (W2 : World), Hid (CP l2 L2 bu2 M2 P2 A2) → Hid (CW w bb base m5 (m5 + 1) (m5 + 2) (m5 + 3) l2 l2 L2 M2 P2 A2 W2) → Q .normal ⟨List.toArray ((.slice (some ⟨b9, off9, none⟩) ny capv) :: u1 :: v2 :: (.pointer (some ⟨bb, 0, none⟩)) :: v4 :: (.pointer (some ⟨m5, 0, none⟩)) :: (.pointer (some ⟨m5 + 1, 0, none⟩)) :: (.pointer (some ⟨m5 + 2, 0, none⟩)) :: (.pointer (some ⟨m5 + 3, 0, none⟩)) :: (.bool bu2) :: (.int .i64 (i : Int)) :: v11 :: v12 :: v13 :: v14 :: v15 :: v16 :: v17 :: v18 :: v19 :: u20 :: u21 :: u22 :: u23 :: u24 :: u25 :: u26 :: u27 :: u28 :: u29 :: u30 :: u31 :: u32 :: u33 :: u34 :: u35 :: u36 :: u37 :: u38 :: u39 :: u40 :: u41 :: u42 :: u43 :: u44 :: v45 :: v46 :: v47 :: v48 :: v49 :: v50 :: v51 :: v52 :: v53 :: v54 :: v55 :: v56 :: v57 :: v58 :: v59 :: v60 :: v61 :: v62 :: v63 :: v64 :: v65 :: v66 :: v67 :: v68 :: v69 :: v70 :: v71 :: v72 :: v73 :: v74 :: v75 :: v76 :: v77 :: v78 :: v79 :: v80 :: v81 :: v82 :: v83 :: v84 :: v85 :: v86 :: v87 :: v88 :: v89 :: v90 :: v91 :: v92 :: v93 :: v94 :: v95 :: v96 :: v97 :: v98 :: v99 :: v100 :: v101 :: v102 :: v103 :: v104 :: v105 :: v106 :: v107 :: v108 :: v109 :: v110 :: v111 :: v112 :: v113 :: v114 :: v115 :: v116 :: v117 :: v118 :: v119 :: v120 :: v121 :: v122 :: v123 :: v124 :: v125 :: v126 :: v127 :: v128 :: v129 :: v130 :: v131 :: v132 :: v133 :: v134 :: v135 :: v136 :: v137 :: v138 :: v139 :: v140 :: v141 :: v142 :: v143 :: v144 :: v145 :: v146 :: v147 :: v148 :: v149 :: v150 :: v151 :: v152 :: v153 :: v154 :: v155 :: v156 :: v157 :: v158 :: v159 :: v160 :: v161 :: v162 :: v163 :: v164 :: v165 :: v166 :: v167 :: v168 :: v169 :: v170 :: v171 :: v172 :: v173 :: v174 :: v175 :: v176 :: v177 :: v178 :: v179 :: v180 :: v181 :: v182 :: v183 :: v184 :: v185 :: v186 :: v187 :: v188 :: v189 :: v190 :: v191 :: v192 :: v193 :: v194 :: v195 :: v196 :: v197 :: v198 :: v199 :: v200 :: v201 :: v202 :: v203 :: v204 :: v205 :: v206 :: v207 :: v208 :: v209 :: v210 :: v211 :: v212 :: v213 :: v214 :: v215 :: v216 :: v217 :: v218 :: v219 :: v220 :: v221 :: v222 :: v223 :: v224 :: v225 :: v226 :: v227 :: v228 :: v229 :: v230 :: v231 :: v232 :: v233 :: v234 :: v235 :: v236 :: v237 :: v238 :: v239 :: v240 :: v241 :: v242 :: v243 :: v244 :: v245 :: v246 :: v247 :: v248 :: v249 :: v250 :: v251 :: v252 :: v253 :: v254 :: v255 :: v256 :: v257 :: v258 :: v259 :: v260 :: v261 :: v262 :: v263 :: v264 :: v265 :: v266 :: v267 :: v268 :: v269 :: v270 :: v271 :: v272 :: v273 :: v274 :: v275 :: v276 :: v277 :: v278 :: v279 :: v280 :: v281 :: v282 :: v283 :: v284 :: v285 :: v286 :: v287 :: v288 :: v289 :: v290 :: v291 :: v292 :: v293 :: v294 :: v295 :: u296 :: []), []⟩ W2)) :
    Code.wp Try.prog r11Code (Exit.then K11 Q) ⟨List.toArray ((.slice (some ⟨b9, off9, none⟩) ny capv) :: u1 :: u2 :: (.pointer (some ⟨bb, 0, none⟩)) :: u4 :: (.pointer (some ⟨m5, 0, none⟩)) :: (.pointer (some ⟨m5 + 1, 0, none⟩)) :: (.pointer (some ⟨m5 + 2, 0, none⟩)) :: (.pointer (some ⟨m5 + 3, 0, none⟩)) :: (.bool bu) :: (.int .i64 (i : Int)) :: u11 :: u12 :: u13 :: u14 :: u15 :: u16 :: u17 :: u18 :: u19 :: u20 :: u21 :: u22 :: u23 :: u24 :: u25 :: u26 :: u27 :: u28 :: u29 :: u30 :: u31 :: u32 :: u33 :: u34 :: u35 :: u36 :: u37 :: u38 :: u39 :: u40 :: u41 :: u42 :: u43 :: u44 :: u45 :: u46 :: u47 :: u48 :: u49 :: u50 :: u51 :: u52 :: u53 :: u54 :: u55 :: u56 :: u57 :: u58 :: u59 :: u60 :: u61 :: u62 :: u63 :: u64 :: u65 :: u66 :: u67 :: u68 :: u69 :: u70 :: u71 :: u72 :: u73 :: u74 :: u75 :: u76 :: u77 :: u78 :: u79 :: u80 :: u81 :: u82 :: u83 :: u84 :: u85 :: u86 :: u87 :: u88 :: u89 :: u90 :: u91 :: u92 :: u93 :: u94 :: u95 :: u96 :: u97 :: u98 :: u99 :: u100 :: u101 :: u102 :: u103 :: u104 :: u105 :: u106 :: u107 :: u108 :: u109 :: u110 :: u111 :: u112 :: u113 :: u114 :: u115 :: u116 :: u117 :: u118 :: u119 :: u120 :: u121 :: u122 :: u123 :: u124 :: u125 :: u126 :: u127 :: u128 :: u129 :: u130 :: u131 :: u132 :: u133 :: u134 :: u135 :: u136 :: u137 :: u138 :: u139 :: u140 :: u141 :: u142 :: u143 :: u144 :: u145 :: u146 :: u147 :: u148 :: u149 :: u150 :: u151 :: u152 :: u153 :: u154 :: u155 :: u156 :: u157 :: u158 :: u159 :: u160 :: u161 :: u162 :: u163 :: u164 :: u165 :: u166 :: u167 :: u168 :: u169 :: u170 :: u171 :: u172 :: u173 :: u174 :: u175 :: u176 :: u177 :: u178 :: u179 :: u180 :: u181 :: u182 :: u183 :: u184 :: u185 :: u186 :: u187 :: u188 :: u189 :: u190 :: u191 :: u192 :: u193 :: u194 :: u195 :: u196 :: u197 :: u198 :: u199 :: u200 :: u201 :: u202 :: u203 :: u204 :: u205 :: u206 :: u207 :: u208 :: u209 :: u210 :: u211 :: u212 :: u213 :: u214 :: u215 :: u216 :: u217 :: u218 :: u219 :: u220 :: u221 :: u222 :: u223 :: u224 :: u225 :: u226 :: u227 :: u228 :: u229 :: u230 :: u231 :: u232 :: u233 :: u234 :: u235 :: u236 :: u237 :: u238 :: u239 :: u240 :: u241 :: u242 :: u243 :: u244 :: u245 :: u246 :: u247 :: u248 :: u249 :: u250 :: u251 :: u252 :: u253 :: u254 :: u255 :: u256 :: u257 :: u258 :: u259 :: u260 :: u261 :: u262 :: u263 :: u264 :: u265 :: u266 :: u267 :: u268 :: u269 :: u270 :: u271 :: u272 :: u273 :: u274 :: u275 :: u276 :: u277 :: u278 :: u279 :: u280 :: u281 :: u282 :: u283 :: u284 :: u285 :: u286 :: u287 :: u288 :: u289 :: u290 :: u291 :: u292 :: u293 :: u294 :: u295 :: u296 :: []), []⟩ W := by
  conv => arg 2; whnf
  obtain ⟨⟨p1, p2⟩, ⟨p3, p4⟩, ⟨p5, p6⟩, p7, p8⟩ := hok
  dsimp only at p1 p2 p3 p4 p5 p6 p7 p8
  obtain ⟨kq, hkq⟩ : ∃ kq : Nat, x1.tmod 2 = kq := ⟨(x1.tmod 2).toNat, by rw [Int.tmod_eq_emod_of_nonneg (by omega)]; omega⟩
  have hkk : kq < 2 := by rw [Int.tmod_eq_emod_of_nonneg (by omega)] at hkq; omega
  have wk8 : IntKind.u8.wrap (kq : Int) = kq := by unfold IntKind.wrap; simp [IntKind.bits, IntKind.signed]; omega
  have wk64 : IntKind.i64.wrap (kq : Int) = kq := wrap_id (by omega) (by omega)
  have wx2 : IntKind.i64.wrap x2 = x2 := wrap_id (by omega) (by omega)
  have wx3 : IntKind.i64.wrap x3 = x3 := wrap_id (by omega) (by omega)
  have hk0 : (0 : Int) ≤ (i : Int) := by omega
  have hk1 : (i : Int) < (ny : Int) := by omega
  obtain ⟨xb, hxb⟩ : ∃ xb, W.heap.size = xb := ⟨_, rfl⟩
  refine region_plain (fun V => V.cell? ⟨b9, off9 + i * 4, none⟩ = some (.int .u8 x0) ∧ V.cell? ⟨b9, off9 + i * 4 + 1, none⟩ = some (.int .u8 x1) ∧ V.cell? ⟨b9, off9 + i * 4 + 2, none⟩ = some (.int .u8 x2) ∧ V.cell? ⟨b9, off9 + i * 4 + 3, none⟩ = some (.int .u8 x3)) 14 #[false, false, false, false, false, false, false, false, false, false, false, false, false, false] rfl rfl (by kernel_rfl) ?_
  obtain ⟨wx, hwx⟩ : ∃ Z, W.drew = Z := ⟨_, rfl⟩
  have hSS : (wx.cell? ⟨b9, off9 + i * 4, none⟩ = some (.int .u8 x0) ∧ wx.cell? ⟨b9, off9 + i * 4 + 1, none⟩ = some (.int .u8 x1) ∧ wx.cell? ⟨b9, off9 + i * 4 + 2, none⟩ = some (.int .u8 x2) ∧ wx.cell? ⟨b9, off9 + i * 4 + 3, none⟩ = some (.int .u8 x3)) := by rw [← hwx]; exact ⟨c0, c1, c2, c3⟩
  have HCW1 : Hid (CW w bb base m5 (m5 + 1) (m5 + 2) (m5 + 3) l l L M P A wx) := Lib.hid (by rw [← hwx]; exact hcw.out.drew)
  have hxb1 : wx.heap.size = xb := by rw [← hwx]; exact hxb
  rw [hwx]
  clear hwx hxb
  refine take_first (i := 0) (v := ?_) rfl (by kernel_rfl) (by kernel_rfl) (by kernel_rfl) (fun c a w h => hQp c a w _ _ h) (by rfl) (by assumption) ?_ ?_
  rotate_left 1
  · intro X hSX
    (try dsimp only at hSX)
    first | (go_simp; done) | (go_simp; with_reducible rfl)
  try simp only [Act.put, List.setIfInBounds_toArray, List.set_cons_zero, List.set_cons_succ]
  refine take_first (i := 1) (v := ?_) rfl (by kernel_rfl) (by kernel_rfl) (by kernel_rfl) (fun c a w h => hQp c a w _ _ h) (by rfl) (by assumption) ?_ ?_
  rotate_left 1
  · intro X hSX
    (try dsimp only at hSX)
    first | (go_simp; done) | (go_simp; with_reducible rfl)
  try simp only [Act.put, List.setIfInBounds_toArray, List.set_cons_zero, List.set_cons_succ]
  refine take_first (i := 2) (v := ?_) rfl (by kernel_rfl) (by kernel_rfl) (by kernel_rfl) (fun c a w h => hQp c a w _ _ h) (by rfl) (by assumption) ?_ ?_
  rotate_left 1
  · intro X hSX
    (try dsimp only at hSX)
    first | (go_simp; done) | (go_simp; with_reducible rfl)
  try simp only [Act.put, List.setIfInBounds_toArray, List.set_cons_zero, List.set_cons_succ]
  refine take_first (i := 3) (v := ?_) rfl (by kernel_rfl) (by kernel_rfl) (by kernel_rfl) (fun c a w h => hQp c a w _ _ h) (by rfl) (by assumption) ?_ ?_
  rotate_left 1
  · intro X hSX
    (try dsimp only at hSX)
    first | (go_simp; done) | (go_simp; with_reducible rfl)
  try simp only [Act.put, List.setIfInBounds_toArray, List.set_cons_zero, List.set_cons_succ]
  refine take_first (i := 4) (v := ?_) rfl (by kernel_rfl) (by kernel_rfl) (by kernel_rfl) (fun c a w h => hQp c a w _ _ h) (by rfl) (by assumption) ?_ ?_
  rotate_left 1
  · intro X hSX
    (try dsimp only at hSX)
    first | (go_simp; done) | (go_simp; with_reducible rfl)
  try simp only [Act.put, List.setIfInBounds_toArray, List.set_cons_zero, List.set_cons_succ]
  refine take_first (i := 5) (v := ?_) rfl (by kernel_rfl) (by kernel_rfl) (by kernel_rfl) (fun c a w h => hQp c a w _ _ h) (by rfl) (by assumption) ?_ ?_
  rotate_left 1
  · intro X hSX
    (try dsimp only at hSX)
    first | (go_simp; done) | (go_simp; with_reducible rfl)
  try simp only [Act.put, List.setIfInBounds_toArray, List.set_cons_zero, List.set_cons_succ]
  refine take_first (i := 6) (v := ?_) rfl (by kernel_rfl) (by kernel_rfl) (by kernel_rfl) (fun c a w h => hQp c a w _ _ h) (by rfl) (by assumption) ?_ ?_
  rotate_left 1
  · intro X hSX
    (try dsimp only at hSX)
    first | (go_simp; done) | (go_simp; with_reducible rfl)
  try simp only [Act.put, List.setIfInBounds_toArray, List.set_cons_zero, List.set_cons_succ]
  refine take_first (i := 7) (v := ?_) rfl (by kernel_rfl) (by kernel_rfl) (by kernel_rfl) (fun c a w h => hQp c a w _ _ h) (by rfl) (by assumption) ?_ ?_
  rotate_left 1
  · intro X hSX
    (try dsimp only at hSX)
    first | (go_simp; done) | (go_simp; with_reducible rfl)
  try simp only [Act.put, List.setIfInBounds_toArray, List.set_cons_zero, List.set_cons_succ]
  refine take_first (i := 8) (v := ?_) rfl (by kernel_rfl) (by kernel_rfl) (by kernel_rfl) (fun c a w h => hQp c a w _ _ h) (by rfl) (by assumption) ?_ ?_
  rotate_left 1
  · intro X hSX
    (try dsimp only at hSX)
    first | (go_simp; done) | (go_simp; with_reducible rfl)
  try simp only [Act.put, List.setIfInBounds_toArray, List.set_cons_zero, List.set_cons_succ]
  refine take_first (i := 9) (v := ?_) rfl (by kernel_rfl) (by kernel_rfl) (by kernel_rfl) (fun c a w h => hQp c a w _ _ h) (by rfl) (by assumption) ?_ ?_
  rotate_left 1
  · intro X hSX
    (try dsimp only at hSX)
    first | (go_simp; done) | (go_simp; with_reducible rfl)
  try simp only [Act.put, List.setIfInBounds_toArray, List.set_cons_zero, List.set_cons_succ]
  refine take_first (i := 10) (v := ?_) rfl (by kernel_rfl) (by kernel_rfl) (by kernel_rfl) (fun c a w h => hQp c a w _ _ h) (by rfl) (by assumption) ?_ ?_
  rotate_left 1
  · intro X hSX
    (try dsimp only at hSX)
    first | (go_simp; done) | (go_simp; with_reducible rfl)
  try simp only [Act.put, List.setIfInBounds_toArray, List.set_cons_zero, List.set_cons_succ]
  refine only_one (i := 11) (by kernel_rfl) rfl (by rfl) ?_
  intro K hK
  go_simp
  have hb9 : b9 < wx.heap.size := cell_block (a := ⟨b9, _, none⟩) hSS.1
  have HS0 := Lib.hid hSS
  clear hSS
  have hbA : Below wx.heap.size wx (wx.alloc (.cells #[.int .u8 0, .int .u8 0, .int .u8 0, .int .u8 0] 106)) := (Below.refl _ _).alloc (Nat.le_refl _) _
  have hSS : ((wx.alloc (.cells #[.int .u8 0, .int .u8 0, .int .u8 0, .int .u8 0] 106)).cell? ⟨b9, off9 + i * 4, none⟩ = some (.int .u8 x0) ∧ (wx.alloc (.cells #[.int .u8 0, .int .u8 0, .int .u8 0, .int .u8 0] 106)).cell? ⟨b9, off9 + i * 4 + 1, none⟩ = some (.int .u8 x1) ∧ (wx.alloc (.cells #[.int .u8 0, .int .u8 0, .int .u8 0, .int .u8 0] 106)).cell? ⟨b9, off9 + i * 4 + 2, none⟩ = some (.int .u8 x2) ∧ (wx.alloc (.cells #[.int .u8 0, .int .u8 0, .int .u8 0, .int .u8 0] 106)).cell? ⟨b9, off9 + i * 4 + 3, none⟩ = some (.int .u8 x3)) :=
    ⟨(hbA.cell (p := ⟨b9, _, none⟩) hb9).trans HS0.out.1, (hbA.cell (p := ⟨b9, _, none⟩) hb9).trans HS0.out.2.1, (hbA.cell (p := ⟨b9, _, none⟩) hb9).trans HS0.out.2.2.1, (hbA.cell (p := ⟨b9, _, none⟩) hb9).trans HS0.out.2.2.2⟩
  refine hK.out _ _ hSS ?_
  clear hK K
  try simp only [Act.put, List.setIfInBounds_toArray, List.set_cons_zero, List.set_cons_succ]
  refine only_one (i := 12) (by kernel_rfl) rfl (by rfl) ?_
  intro K hK
  go_simp
  clear hSS hbA
  have hbB : Below wx.heap.size wx (wx.alloc (.cells #[.int .u8 x0, .int .u8 x1, .int .u8 x2, .int .u8 x3] 106)) := (Below.refl _ _).alloc (Nat.le_refl _) _
  have hSS : ((wx.alloc (.cells #[.int .u8 x0, .int .u8 x1, .int .u8 x2, .int .u8 x3] 106)).cell? ⟨b9, off9 + i * 4, none⟩ = some (.int .u8 x0) ∧ (wx.alloc (.cells #[.int .u8 x0, .int .u8 x1, .int .u8 x2, .int .u8 x3] 106)).cell? ⟨b9, off9 + i * 4 + 1, none⟩ = some (.int .u8 x1) ∧ (wx.alloc (.cells #[.int .u8 x0, .int .u8 x1, .int .u8 x2, .int .u8 x3] 106)).cell? ⟨b9, off9 + i * 4 + 2, none⟩ = some (.int .u8 x2) ∧ (wx.alloc (.cells #[.int .u8 x0, .int .u8 x1, .int .u8 x2, .int .u8 x3] 106)).cell? ⟨b9, off9 + i * 4 + 3, none⟩ = some (.int .u8 x3)) :=
    ⟨(hbB.cell (p := ⟨b9, _, none⟩) hb9).trans HS0.out.1, (hbB.cell (p := ⟨b9, _, none⟩) hb9).trans HS0.out.2.1, (hbB.cell (p := ⟨b9, _, none⟩) hb9).trans HS0.out.2.2.1, (hbB.cell (p := ⟨b9, _, none⟩) hb9).trans HS0.out.2.2.2⟩
  have HX2 := Lib.hid (Blk.newI wx xb #[.int .u8 x0, .int .u8 x1, .int .u8 x2, .int .u8 x3] 106 hxb1)
  have HCW2 := Lib.hid (HCW1.out.past hbB)
  clear hbB HCW1 hxb1 hb9 HS0
  refine hK.out _ _ hSS ?_
  clear hK K
  try simp only [Act.put, List.setIfInBounds_toArray, List.set_cons_zero, List.set_cons_succ]
  refine take_first (i := 13) (v := ?_) rfl (by kernel_rfl) (by kernel_rfl) (by kernel_rfl) (fun c a w h => hQp c a w _ _ h) (by rfl) (by assumption) ?_ ?_
  rotate_left 1
  · intro X hSX
    (try dsimp only at hSX)
    first | (go_simp; done) | (go_simp; with_reducible rfl)
  try simp only [Act.put, List.setIfInBounds_toArray, List.set_cons_zero, List.set_cons_succ]
  refine wpAnyH_done (by kernel_rfl) ?_ _
  clear hSS
  obtain ⟨wb, hwb⟩ : ∃ Z, (wx.alloc (.cells #[.int .u8 x0, .int .u8 x1, .int .u8 x2, .int .u8 x3] 106)) = Z := ⟨_, rfl⟩
  rw [hwb] at HX2 HCW2
  rw [hwb]
  refine hK.out _ _ ?_
  conv => arg 2; whnf
  clear hwb
  refine wp_seq_k fun K12 hK12 => ?_
  have HK12 := Lib.hid hK12
  clear hK12
  refine region_plain (fun V => V.cell? ⟨xb, 2, none⟩ = some (.int .u8 x2) ∧ V.cell? ⟨xb, 3, none⟩ = some (.int .u8 x3)) 8 #[false, false, false, false, false, false, false, false] rfl rfl (by kernel_rfl) ?_
  obtain ⟨wy, hwy⟩ : ∃ Z, wb.drew = Z := ⟨_, rfl⟩
  have HX3 : Hid (Blk wy xb #[.int .u8 x0, .int .u8 x1, .int .u8 x2, .int .u8 x3] 106) := Lib.hid (by rw [← hwy]; exact HX2.out.drew)
  have HCW3 : Hid (CW w bb base m5 (m5 + 1) (m5 + 2) (m5 + 3) l l L M P A wy) := Lib.hid (by rw [← hwy]; exact HCW2.out.drew)
  rw [hwy]
  clear hwy HX2 HCW2
  have hSS : (wy.cell? ⟨xb, 2, none⟩ = some (.int .u8 x2) ∧ wy.cell? ⟨xb, 3, none⟩ = some (.int .u8 x3)) := ⟨HX3.out.cell (i := 2) rfl, HX3.out.cell (i := 3) rfl⟩
  refine take_first (i := 0) (v := ?_) rfl (by kernel_rfl) (by kernel_rfl) (by kernel_rfl) (fun c a w h => hQp c a w _ _ h) (by rfl) (by assumption) ?_ ?_
  rotate_left 1
  · intro X hSX
    (try dsimp only at hSX)
    first | (go_simp; done) | (go_simp; with_reducible rfl)
  try simp only [Act.put, List.setIfInBounds_toArray, List.set_cons_zero, List.set_cons_succ]
  refine take_first (i := 1) (v := ?_) rfl (by kernel_rfl) (by kernel_rfl) (by kernel_rfl) (fun c a w h => hQp c a w _ _ h) (by rfl) (by assumption) ?_ ?_
  rotate_left 1
  · intro X hSX
    (try dsimp only at hSX)
    first | (go_simp; done) | (go_simp; with_reducible rfl)
  try simp only [Act.put, List.setIfInBounds_toArray, List.set_cons_zero, List.set_cons_succ]
  refine take_first (i := 2) (v := ?_) rfl (by kernel_rfl) (by kernel_rfl) (by kernel_rfl) (fun c a w h => hQp c a w _ _ h) (by rfl) (by assumption) ?_ ?_
  rotate_left 1
  · intro X hSX
    (try dsimp only at hSX)
    first | (go_simp; done) | (go_simp; with_reducible rfl)
  try simp only [Act.put, List.setIfInBounds_toArray, List.set_cons_zero, List.set_cons_succ]
  refine take_first (i := 3) (v := ?_) rfl (by kernel_rfl) (by kernel_rfl) (by kernel_rfl) (fun c a w h => hQp c a w _ _ h) (by rfl) (by assumption) ?_ ?_
  rotate_left 1
  · intro X hSX
    (try dsimp only at hSX)
    first | (go_simp; done) | (go_simp; with_reducible rfl)
  try simp only [Act.put, List.setIfInBounds_toArray, List.set_cons_zero, List.set_cons_succ]
  refine take_first (i := 4) (v := ?_) rfl (by kernel_rfl) (by kernel_rfl) (by kernel_rfl) (fun c a w h => hQp c a w _ _ h) (by rfl) (by assumption) ?_ ?_
  rotate_left 1
  · intro X hSX
    (try dsimp only at hSX)
    first | (go_simp; done) | (go_simp; with_reducible rfl)
  try simp only [Act.put, List.setIfInBounds_toArray, List.set_cons_zero, List.set_cons_succ]
  refine take_first (i := 5) (v := ?_) rfl (by kernel_rfl) (by kernel_rfl) (by kernel_rfl) (fun c a w h => hQp c a w _ _ h) (by rfl) (by assumption) ?_ ?_
  rotate_left 1
  · intro X hSX
    (try dsimp only at hSX)
    first | (go_simp; done) | (go_simp; with_reducible rfl)
  try simp only [Act.put, List.setIfInBounds_toArray, List.set_cons_zero, List.set_cons_succ]
  refine take_first (i := 6) (v := ?_) rfl (by kernel_rfl) (by kernel_rfl) (by kernel_rfl) (fun c a w h => hQp c a w _ _ h) (by rfl) (by assumption) ?_ ?_
  rotate_left 1
  · intro X hSX
    (try dsimp only at hSX)
    first | (go_simp; done) | (go_simp; with_reducible rfl)
  try simp only [Act.put, List.setIfInBounds_toArray, List.set_cons_zero, List.set_cons_succ]
  refine take_first (i := 7) (v := ?_) rfl (by kernel_rfl) (by kernel_rfl) (by kernel_rfl) (fun c a w h => hQp c a w _ _ h) (by rfl) (by assumption) ?_ ?_
  rotate_left 1
  · intro X hSX
    (try dsimp only at hSX)
    first | (go_simp; done) | (go_simp; with_reducible rfl)
  try simp only [Act.put, List.setIfInBounds_toArray, List.set_cons_zero, List.set_cons_succ]
  refine wpAnyH_done (by kernel_rfl) ?_ _
  clear hSS
  refine HK12.out _ _ ?_
  clear HK12
  obtain ⟨r, hr⟩ : ∃ r, x0.tmod 7 = r := ⟨_, rfl⟩
  have hr2 : 0 ≤ r ∧ r ≤ 6 := by rw [Int.tmod_eq_emod_of_nonneg (by omega)] at hr; omega
  refine wp_seq_k fun K13 hK13 => ?_
  have HK13 := Lib.hid hK13
  clear hK13
  refine switch_any hB hcp HCW3 HX3 hkk ⟨p5, p6⟩ ⟨p7, p8⟩ hr hr2 (Lib.hid ?_)
  intro v62 v63 v64 v65 v66 v67 v68 v69 v70 v71 v72 v73 v74 v75 v76 v77 v78 v79 v80 v81 v82 v83 v84 v85 v86 v87 v88 v89 v90 v91 v92 v93 v94 v95 v96 v97 v98 v99 v100 v101 v102 v103 v104 v105 v106 v107 v108 v109 v110 v111 v112 v113 v114 v115 v116 v117 v118 v119 v120 v121 v122 v123 v124 v125 v126 v127 v128 v129 v130 v131 v132 v133 v134 v135 v136 v137 v138 v139 v140 v141 v142 v143 v144 v145 v146 v147 v148 v149 v150 v151 v152 v153 v154 v155 v156 v157 v158 v159 er bu2 l2 L2 M2 P2 A2 W2 HCS HCP2 HCW4 HX4
  refine HK13.out _ _ ?_
  clear HK13
  refine inner_any hB hcp.out.len HCS HCP2 HCW4 HX4 hkk hr hr2 (Lib.hid ?_)
  intro v2 v15 v16 v17 v18 v19 v160 v161 v162 v163 v164 v165 v166 v167 v168 v169 v170 v171 v172 v173 v174 v175 v176 v177 v178 v179 v180 v181 v182 v183 v184 v185 v186 v187 v188 v189 v190 v191 v192 v193 v194 v195 v196 v197 v198 v199 v200 v201 v202 v203 v204 v205 v206 v207 v208 v209 v210 v211 v212 v213 v214 v215 v216 v217 v218 v219 v220 v221 v222 v223 v224 v225 v226 v227 v228 v229 v230 v231 v232 v233 v234 v235 v236 v237 v238 v239 v240 v241 v242 v243 v244 v245 v246 v247 v248 v249 v250 v251 v252 v253 v254 v255 v256 v257 v258 v259 v260 v261 v262 v263 v264 v265 v266 v267 v268 v269 v270 v271 v272 v273 v274 v275 v276 v277 v278 v279 v280 v281 v282 v283 v284 v285 v286 v287 v288 v289 v290 v291 v292 v293 v294 v295 W3 HCW5 HX5
  exact hQ.out _ _ _ _ _ _ _ _ _ _ _ _ _ _ _ _ _ _ _ _ _ _ _ _ _ _ _ _ _ _ _ _ _ _ _ _ _ _ _ _ _ _ _ _ _ _ _ _ _ _ _ _ _ _ _ _ _ _ _ _ _ _ _ _ _ _ _ _ _ _ _ _ _ _ _ _ _ _ _ _ _ _ _ _ _ _ _ _ _ _ _ _ _ _ _ _ _ _ _ _ _ _ _ _ _ _ _ _ _ _ _ _ _ _ _ _ _ _ _ _ _ _ _ _ _ _ _ _ _ _ _ _ _ _ _ _ _ _ _ _ _ _ _ _ _ _ _ _ _ _ _ _ _ _ _ _ _ _ _ _ _ _ _ _ _ _ _ _ _ _ _ _ _ _ _ _ _ _ _ _ _ _ _ _ _ _ _ _ _ _ _ _ _ _ _ _ _ _ _ _ _ _ _ _ _ _ _ _ _ _ _ _ _ _ _ _ _ _ _ _ _ _ _ _ _ _ _ _ _ _ _ _ _ _ _ _ _ _ _ _ _ _ _ _ _ _ _ _ _ _ _ _ _ _ _ _ _ _ _ _ _ _ _ _ _ _ _ _ _ HCP2 HCW5
set_option maxRecDepth 1000000 in
set_option maxHeartbeats 8000000 in
theorem counts_any (v : Value) (ys : List (Int × Int × Int × Int)) (w : World) (hy : YardsAt w v ys) :
    Calls Try.prog 10 #[v] w fun e w' => e = .returned (.bool true) ∧ Below w.heap.size w w' := by
  obtain ⟨av, capv, rfl, hp⟩ := hy.placed
  have HY := Lib.hid hp
  have HK := Lib.hid known_any
  obtain ⟨q80, hq80⟩ : ∃ q, decide (80 < (ys.length : Int)) = q := ⟨_, rfl⟩
  clear hy hp
  go_enter Try.func10, Try.ntmps10
  cases q80
  rotate_left 1
  · go_wp2_with fail
    refine (HK.out _).mono ?_
    rintro e w9 ⟨rfl, hb9⟩
    have HB9 := Lib.hid hb9
    go_wp2
    go_ret
    exact ⟨rfl, HB9.out⟩
  have HI13 : IntsAt (w.alloc (.cells #[.int .i64 1, .int .i64 3] 3)) (.slice (some ⟨w.heap.size, 0, none⟩) 2 2) [1, 3] := ints_blk [1, 3] (Blk.new w _ _) (by simp)
  have HN := Lib.hid (new_any _ [1, 3] 400 _ HI13)
  clear HI13
  go_wp2_with fail
  refine HN.out.mono ?_
  rintro e w1 ⟨hb1, hN⟩
  have hN2 : ∃ bb, (w.alloc (.cells #[.int .i64 1, .int .i64 3] 3)).heap.size ≤ bb ∧ e = .returned (.tuple #[.pointer (some ⟨bb, 0, none⟩), .int .i64 0]) ∧ BookAt w1 bb (w.alloc (.cells #[.int .i64 1, .int .i64 3] 3)).heap.size [mkSt 1, mkSt 3] 400 (.slice none 0 0) := by
    rcases hN with ⟨h, _⟩ | ⟨_, h⟩
    · rw [new_counts] at h; cases h
    · exact h
  obtain ⟨bb, hbb, rfl, hbook⟩ := hN2
  obtain ⟨base, hbase⟩ : ∃ base, (w.alloc (.cells #[.int .i64 1, .int .i64 3] 3)).heap.size = base := ⟨_, rfl⟩
  rw [hbase] at hbb hbook hb1
  have hwb : w.heap.size ≤ base := by rw [← hbase]; simp
  have HW1 : Hid (Below w.heap.size w w1) := Lib.hid (((Below.refl w.heap.size w).alloc (Nat.le_refl _) (.cells #[.int .i64 1, .int .i64 3] 3)).trans (hb1.mono hwb))
  have hs1 := hb1.size
  rw [hbase] at hs1
  obtain ⟨m5, hm5⟩ : ∃ m, w1.heap.size = m := ⟨_, rfl⟩
  rw [hm5] at hs1
  have HBK := Lib.hid hbook
  clear hb1 hN hbook hbase HN
  go_wp2
  have h80 : ys.length ≤ 80 := by have := of_decide_eq_false hq80; omega
  clear hq80
  go_loopw [9, 10] (fun b i wr => ∃ (k : Nat) (l : List St) (L : BatL) (bu : Bool) (M P A : List Int), k ≤ ys.length ∧ b = .bool bu ∧ i = .int .i64 k ∧ Hid (CP l L bu M P A) ∧ Hid (CW w bb base m5 (m5 + 1) (m5 + 2) (m5 + 3) l l L M P A wr)) (fun _ i _ => ys.length - (intOf i).toNat)
  case atStart =>
    have B1 := (Below.refl w1.heap.size w1).alloc (Nat.le_refl _) (.cells #[.int .i64 0, .int .i64 0] 103)
    have X1 := Blk.newI w1 m5 #[.int .i64 0, .int .i64 0] 103 hm5
    have B2 := B1.alloc B1.size (.cells #[.int .i64 0, .int .i64 0] 103)
    have X2 := Blk.newI (w1.alloc (.cells #[.int .i64 0, .int .i64 0] 103)) (m5 + 1) #[.int .i64 0, .int .i64 0] 103 (by simp [hm5])
    have B3 := B2.alloc B2.size (.cells #[.int .i64 0, .int .i64 0] 103)
    have X3 := Blk.newI ((w1.alloc (.cells #[.int .i64 0, .int .i64 0] 103)).alloc (.cells #[.int .i64 0, .int .i64 0] 103)) (m5 + 2) #[.int .i64 0, .int .i64 0] 103 (by simp [hm5])
    have B4 := B3.alloc B3.size (.cells #[.int .i64 0, .int .i64 0, .int .i64 0, .int .i64 0, .int .i64 0, .int .i64 0, .int .i64 0, .int .i64 0, .int .i64 0, .int .i64 0, .int .i64 0, .int .i64 0, .int .i64 0, .int .i64 0] 104)
    have X4 := Blk.newI (((w1.alloc (.cells #[.int .i64 0, .int .i64 0] 103)).alloc (.cells #[.int .i64 0, .int .i64 0] 103)).alloc (.cells #[.int .i64 0, .int .i64 0] 103)) (m5 + 3) #[.int .i64 0, .int .i64 0, .int .i64 0, .int .i64 0, .int .i64 0, .int .i64 0, .int .i64 0, .int .i64 0, .int .i64 0, .int .i64 0, .int .i64 0, .int .i64 0, .int .i64 0, .int .i64 0] 104 (by simp [hm5])
    exact ⟨0, [mkSt 1, mkSt 3], [], false, [0, 0], [0, 0], [0, 0], Nat.zero_le _, rfl, rfl, Lib.hid cp_start, Lib.hid ⟨⟨_, HBK.out.past B4, InsAt.nil _ _⟩, ((X1.alloc _).alloc _).alloc _, (X2.alloc _).alloc _, X3.alloc _, X4, HW1.out.trans (B4.mono HW1.out.size), Nat.le_trans (by omega) B4.size⟩⟩
  case round =>
    obtain ⟨k, l, L, bu, M, P, A, hk, rfl, rfl, HCP, HCW⟩ := hrel
    have hB : CB w bb base m5 (m5 + 1) (m5 + 2) (m5 + 3) := ⟨hwb, Nat.le_trans hwb hbb, by omega, by omega, by omega, by omega⟩
    by_cases hlt : k < ys.length
    · obtain ⟨b9, off9, rfl, hb9, ⟨c0, c1, c2, c3⟩, hok⟩ := HY.out k hlt
      have c0 := (HCW.out.below.cell (p := ⟨b9, _, none⟩) hb9).trans c0
      have c1 := (HCW.out.below.cell (p := ⟨b9, _, none⟩) hb9).trans c1
      have c2 := (HCW.out.below.cell (p := ⟨b9, _, none⟩) hb9).trans c2
      have c3 := (HCW.out.below.cell (p := ⟨b9, _, none⟩) hb9).trans c3
      obtain ⟨x0, x1, x2, x3, hel⟩ : ∃ x0 x1 x2 x3, ys[k]?.getD (0, 0, 0, 0) = (x0, x1, x2, x3) := ⟨_, _, _, _, rfl⟩
      rw [hel] at c0 c1 c2 c3 hok
      dsimp only at c0 c1 c2 c3
      clear hel
      have HC0 := Lib.hid c0
      have HC1 := Lib.hid c1
      have HC2 := Lib.hid c2
      have HC3 := Lib.hid c3
      have HOK := Lib.hid hok
      clear c0 c1 c2 c3 hok
      go_upto_region 11 with fail
      refine step_any hB HCP HCW HOK.out hlt HC0.out HC1.out HC2.out HC3.out (Lib.hid (by assumption)) ?_ (Lib.hid ?_)
      · exact fun c a w d v h => by cases d <;> exact h
      intro v2 v4 v11 v12 v13 v14 v15 v16 v17 v18 v19 v45 v46 v47 v48 v49 v50 v51 v52 v53 v54 v55 v56 v57 v58 v59 v60 v61 v62 v63 v64 v65 v66 v67 v68 v69 v70 v71 v72 v73 v74 v75 v76 v77 v78 v79 v80 v81 v82 v83 v84 v85 v86 v87 v88 v89 v90 v91 v92 v93 v94 v95 v96 v97 v98 v99 v100 v101 v102 v103 v104 v105 v106 v107 v108 v109 v110 v111 v112 v113 v114 v115 v116 v117 v118 v119 v120 v121 v122 v123 v124 v125 v126 v127 v128 v129 v130 v131 v132 v133 v134 v135 v136 v137 v138 v139 v140 v141 v142 v143 v144 v145 v146 v147 v148 v149 v150 v151 v152 v153 v154 v155 v156 v157 v158 v159 v160 v161 v162 v163 v164 v165 v166 v167 v168 v169 v170 v171 v172 v173 v174 v175 v176 v177 v178 v179 v180 v181 v182 v183 v184 v185 v186 v187 v188 v189 v190 v191 v192 v193 v194 v195 v196 v197 v198 v199 v200 v201 v202 v203 v204 v205 v206 v207 v208 v209 v210 v211 v212 v213 v214 v215 v216 v217 v218 v219 v220 v221 v222 v223 v224 v225 v226 v227 v228 v229 v230 v231 v232 v233 v234 v235 v236 v237 v238 v239 v240 v241 v242 v243 v244 v245 v246 v247 v248 v249 v250 v251 v252 v253 v254 v255 v256 v257 v258 v259 v260 v261 v262 v263 v264 v265 v266 v267 v268 v269 v270 v271 v272 v273 v274 v275 v276 v277 v278 v279 v280 v281 v282 v283 v284 v285 v286 v287 v288 v289 v290 v291 v292 v293 v294 v295 bu2 l2 L2 M2 P2 A2 W2 HCP2 HCW2
      go_wp2
      go_roundw
      case rel =>
        refine ⟨_, _, _, _, _, _, _, _, _, _, _, _, _, _, _, _, _, _, _, _, _, _, _, _, _, _, _, _, _, _, _, _, _, _, _, _, _, _, _, _, _, _, _, _, _, _, _, _, _, _, _, _, _, _, _, _, _, _, _, _, _, _, _, _, _, _, _, _, _, _, _, _, _, _, _, _, _, _, _, _, _, _, _, _, _, _, _, _, _, _, _, _, _, _, _, _, _, _, _, _, _, _, _, _, _, _, _, _, _, _, _, _, _, _, _, _, _, _, _, _, _, _, _, _, _, _, _, _, _, _, _, _, _, _, _, _, _, _, _, _, _, _, _, _, _, _, _, _, _, _, _, _, _, _, _, _, _, _, _, _, _, _, _, _, _, _, _, _, _, _, _, _, _, _, _, _, _, _, _, _, _, _, _, _, _, _, _, _, _, _, _, _, _, _, _, _, _, _, _, _, _, _, _, _, _, _, _, _, _, _, _, _, _, _, _, _, _, _, _, _, _, _, _, _, _, _, _, _, _, _, _, _, _, _, _, _, _, _, _, _, _, _, _, _, _, _, _, _, _, _, _, _, _, _, _, _, _, _, _, _, _, _, _, _, _, _, _, _, _, _, ?_, rfl⟩
        exact ⟨k + 1, l2, L2, bu2, M2, P2, A2, by omega, rfl, by go_num, HCP2, HCW2⟩
      case measure =>
        show ys.length - (intOf (.int .i64 ((k : Int) + 1))).toNat < ys.length - (intOf (.int .i64 (k : Int))).toNat
        simp only [intOf]
        omega
    · go_wp2_with fail
      refine (HK.out _).mono ?_
      rintro e w9 ⟨rfl, hb9⟩
      have HB9 := Lib.hid (HCW.out.below.trans (hb9.mono HCW.out.below.size))
      go_wp2
      go_ret
      exact ⟨rfl, HB9.out⟩
theorem laidOutP : laidOutB Try.prog = true := by kernel_rfl
theorem ownP : ownKnob Try.prog.godebug = none := by kernel_rfl
section
variable {H : Type} {enc : TypeId × Value → H} {W : World}
theorem int_of_trod {n : Nat} {v : Value} {d : DataW H} {p : List MemPlace} (h : DataW.trod enc Try.prog W 0 (fun _ => true) true n 3 [v] = some (d, p)) : v = .int .i64 (intOf v) := by
  obtain ⟨k, hc, _, _⟩ := DataW.trod_int Try.underlying3 h
  obtain rfl : v = .int .i64 k := by simpa using hc
  rfl
set_option maxRecDepth 100000 in
theorem int_open {b0 : Nat} {v : Value} {d : DataW H} {p : List MemPlace} (hv : Value.okWide Try.prog W .any b0 3 v) (h : DataW.Trod enc Try.prog W 0 (fun _ => true) true 3 v d p) : ∃ n, v = .int .i64 n := by
  obtain ⟨n, rfl, _⟩ := open_int Try.underlying3 hv h
  exact ⟨n, rfl⟩
set_option maxRecDepth 100000 in
theorem spread_open {b0 : Nat} {v : Value} {d : DataW H} {p : List MemPlace} (hv : Value.okWide Try.prog W .any b0 23 v) (h : DataW.Trod enc Try.prog W 0 (fun _ => true) true 23 v d p) : ∃ a b, v = .agg #[.int .i64 a, .int .i64 b] := by
  obtain ⟨c0, c1, y0, y1, n, rfl, _, _, t0, t1⟩ := open_agg2 Try.underlying23 (by kernel_rfl) (by kernel_rfl) hv h
  exact ⟨intOf c0, intOf c1, by rw [← int_of_trod (v := c0) t0, ← int_of_trod (v := c1) t1]⟩
set_option maxRecDepth 100000 in
theorem clay_open {b0 : Nat} {v : Value} {d : DataW H} {p : List MemPlace} (hv : Value.okWide Try.prog W .any b0 25 v) (h : DataW.Trod enc Try.prog W 0 (fun _ => true) true 25 v d p) : ∃ a b c e, v = .agg #[.int .i64 a, .int .i64 b, .int .i64 c, .int .i64 e] := by
  obtain ⟨cs, rfl, hsz⟩ := okWide_struct Try.underlying25 hv
  obtain ⟨c0, c1, c2, c3, rfl⟩ := array4 (hsz.trans (by kernel_rfl))
  obtain ⟨fuel, hf⟩ := h
  have hcl : Try.prog.cellsOf 23 = 2 := by kernel_rfl
  obtain ⟨xs, n, _, hx, _, hlen, hall⟩ := DataW.trod_struct Try.underlying25 hf
  have h0 := hall 0 _ rfl
  have h1 := hall 1 _ rfl
  have hl2 : xs.length = 2 := hlen
  rw [List.getElem?_eq_getElem (by omega)] at h0 h1
  simp only [Value.cells, hcl] at h0 h1
  obtain ⟨zs, m, _, _, _, hzl, hz⟩ := DataW.trod_struct Try.underlying23 h0
  obtain ⟨us, m', _, _, _, hul, hu⟩ := DataW.trod_struct Try.underlying23 h1
  have hzl2 : zs.length = 2 := hzl
  have hul2 : us.length = 2 := hul
  have hi : Try.prog.cellsOf 3 = 1 := by kernel_rfl
  have a0 := hz 0 _ rfl
  have a1 := hz 1 _ rfl
  have a2 := hu 0 _ rfl
  have a3 := hu 1 _ rfl
  rw [List.getElem?_eq_getElem (by omega)] at a0 a1 a2 a3
  have e0 := int_of_trod (v := c0) (d := zs[0].1) (p := zs[0].2) (by simpa [hi, hcl] using a0)
  have e1 := int_of_trod (v := c1) (d := zs[1].1) (p := zs[1].2) (by simpa [hi, hcl] using a1)
  have e2 := int_of_trod (v := c2) (d := us[0].1) (p := us[0].2) (by simpa [hi, hcl] using a2)
  have e3 := int_of_trod (v := c3) (d := us[1].1) (p := us[1].2) (by simpa [hi, hcl] using a3)
  exact ⟨intOf c0, intOf c1, intOf c2, intOf c3, by rw [← e0, ← e1, ← e2, ← e3]⟩
end
section
variable {H : Type} {enc : TypeId × Value → H} {W : World}
theorem u8_of_trod {n : Nat} {v : Value} {d : DataW H} {p : List MemPlace} (h : DataW.trod enc Try.prog W 0 (fun _ => true) true n 5 [v] = some (d, p)) : ∃ b, v = .int .u8 b ∧ 0 ≤ b ∧ b ≤ 255 := by
  obtain ⟨k, hc, _, hwf⟩ := DataW.trod_int Try.underlying5 h
  obtain rfl : v = .int .u8 k := by simpa using hc
  refine ⟨k, rfl, ?_⟩
  simp [Lit.wf, IntKind.min, IntKind.max, IntKind.signed, IntKind.bits] at hwf
  omega
theorem map_range_yard {f : Nat → Int × Int × Int × Int} {n i : Nat} (h : i < n) : ((List.range n).map f)[i]?.getD (0, 0, 0, 0) = f i := by simp [h]
set_option maxRecDepth 100000 in
/-- A slice of what happens in a yard, opened. -/
theorem yards_open {n : Nat} {v : Value} {y : DataW H × List MemPlace} (hd : DataW.trod enc Try.prog W 0 (fun _ => true) true n 102 [v] = some y) : ∃ l, YardsAt W v l := by
  rcases open_slice Try.underlying102 hd with ⟨hv, _⟩ | ⟨a, len, cap, m, k, D, Pl, hv, _, hle, hcap, hm, hy, hall⟩
  · obtain rfl : v = .slice none 0 0 := by simpa using hv
    exact ⟨[], .inl ⟨rfl, none, 0, rfl⟩⟩
  · obtain rfl : v = .slice (some a) len cap := by simpa using hv
    simp only [if_true] at hm
    subst hm
    have ce : Try.prog.cellsOf 106 = 4 := by kernel_rfl
    have cu : Try.prog.cellsOf 5 = 1 := by kernel_rfl
    have each : ∀ i, i < len → ∃ q : Int × Int × Int × Int, (W.cell? (a.add (i * 4)) = some (.int .u8 q.1) ∧ W.cell? (a.add (i * 4 + 1)) = some (.int .u8 q.2.1) ∧ W.cell? (a.add (i * 4 + 2)) = some (.int .u8 q.2.2.1) ∧ W.cell? (a.add (i * 4 + 3)) = some (.int .u8 q.2.2.2)) ∧ YardOk q := by
      intro i hi
      obtain ⟨cs', h1, h2⟩ := hall i (by omega)
      rw [ce] at h1
      obtain ⟨_, hlen, hcell⟩ := World.cells?_some h1
      obtain ⟨xs, k', _, _, _, hxl, hf⟩ := DataW.trod_struct Try.underlying106 h2
      have hxl4 : xs.length = 4 := hxl
      match cs', hlen with
      | [v0, v1, v2, v3], _ =>
        have g0 := hf 0 _ rfl
        have g1 := hf 1 _ rfl
        have g2 := hf 2 _ rfl
        have g3 := hf 3 _ rfl
        rw [List.getElem?_eq_getElem (by omega)] at g0 g1 g2 g3
        have e0 := hcell 0 (by omega)
        have e1 := hcell 1 (by omega)
        have e2 := hcell 2 (by omega)
        have e3 := hcell 3 (by omega)
        rw [add_add] at e0 e1 e2 e3
        obtain ⟨q0, rfl, r0⟩ := u8_of_trod (v := v0) (d := xs[0].1) (p := xs[0].2) (by simpa [cu] using g0)
        obtain ⟨q1, rfl, r1⟩ := u8_of_trod (v := v1) (d := xs[1].1) (p := xs[1].2) (by simpa [cu] using g1)
        obtain ⟨q2, rfl, r2⟩ := u8_of_trod (v := v2) (d := xs[2].1) (p := xs[2].2) (by simpa [cu] using g2)
        obtain ⟨q3, rfl, r3⟩ := u8_of_trod (v := v3) (d := xs[3].1) (p := xs[3].2) (by simpa [cu] using g3)
        exact ⟨(q0, q1, q2, q3), ⟨by simpa using e0, by simpa using e1, by simpa using e2, by simpa using e3⟩, r0, r1, r2, r3⟩
    by_cases hl : len = 0
    · subst hl
      exact ⟨[], .inl ⟨rfl, some a, m, rfl⟩⟩
    · obtain ⟨f, hf⟩ := choose_lt each
      obtain ⟨b, off, spot⟩ := a
      have h00 := (hf 0 (by omega)).1.1
      have hspot : spot = none := by simpa [Addr.add] using World.cell?_spot h00
      subst hspot
      have hblk : b < W.heap.size := cell_block h00
      have hlen : ((List.range len).map f).length = len := by simp
      refine ⟨(List.range len).map f, .inr ⟨b, off, m, by rw [hlen], hblk, fun i hi => ?_⟩⟩
      have hi' : i < len := by simpa using hi
      rw [map_range_yard hi']
      obtain ⟨⟨c0, c1, c2, c3⟩, hok⟩ := hf i hi'
      rw [add_plain] at c0 c1 c2 c3
      exact ⟨⟨c0, by rw [show off + i * 4 + 1 = off + (i * 4 + 1) by omega]; exact c1, by rw [show off + i * 4 + 2 = off + (i * 4 + 2) by omega]; exact c2, by rw [show off + i * 4 + 3 = off + (i * 4 + 3) by omega]; exact c3⟩, hok⟩
end
set_option maxRecDepth 100000 in
theorem contract10 (H : Type) (enc : TypeId × Value → H) (W : World) (base : Nat) (args : Array Value) (ds gs : List (DataW H)) (before : List MemPlace)
    (hval : ∀ (j : Nat) t v, Try.f10.params[j]? = some t → args[j]? = some v → Value.okWide Try.prog W .any base t v)
    (hW : DataW.Whole enc Try.prog Try.f10.params.toList Rows.kilnCountsSpec.vars false W args.toList ds gs before) :
    Calls Try.prog 10 args W fun e W' => ∃ v, e = .returned v ∧ Rows.kilnCountsSpec.post enc Try.prog Try.f10 false true false false W args v W' := by
  have hW' := hW
  obtain ⟨p, q, hA0, hV, rfl, hfz, hnd⟩ := hW
  have hA : DataW.TrodAll enc Try.prog W 0 (fun _ => true) true Try.f10.params.toList args.toList ds p := hA0
  rw [Try.params10] at hA hval
  obtain ⟨v0, d0, rfl, rfl, h0⟩ := trodAll_one hA
  obtain ⟨rfl, rfl⟩ := trodVars_none hV
  clear hA0
  simp only [List.append_nil] at hW'
  have h0k := h0
  obtain ⟨fuel, h0f⟩ := h0
  have hcv := okWide_slice Try.underlying102 (hval 0 102 v0 rfl rfl)
  obtain ⟨sa, sb, sc, rfl⟩ := hcv
  obtain ⟨l, hl⟩ := yards_open (v := .slice sa sb sc) (y := (d0, p)) (by simpa [Value.cells] using h0f)
  have hlt : ∀ x ∈ p, x.block < W.heap.size := fun x hx => by simpa using hW'.lt x (by simpa using hx)
  have g0 : ∀ (W' : World), Below W.heap.size W W' → DataW.Trod enc Try.prog W' 0 (fun b => decide (b < W.heap.size)) true 102 (.slice sa sb sc) d0 p :=
    fun W' hn => Below.trod laidOutP (by kernel_rfl) (of_decide_eq_true (by kernel_rfl)) h0k hn (fun x hx => hlt x (by simp [hx]))
  refine (counts_any _ l W hl).mono fun e W' ⟨he, hb⟩ => ?_
  subst he
  refine ⟨_, rfl, _, _, _, [], p, [], hW', ?_, ?_, ?_, hb.frame _, fun h => by cases h⟩
  · exact trodAll_mk1 (shut_bool Try.underlying4 _)
  · exact trodAll_mk1 (g0 _ hb)
  · rfl
theorem laid_met10 (os : Os) : laidMet Try.prog Rows.kilnCountsRow.laid ((World.laidAll Try.prog os Rows.kilnCountsRow.laid).forCall (fun _ _ => 0) ⟨#[], #[.slice none 0 0], []⟩).memory :=
  laidMet_laidAll _ (by kernel_rfl) (by kernel_rfl)
theorem reads10 (os : Os) {H : Type} (enc : TypeId × Value → H) : ∃ places, DataW.whole enc Try.prog ((World.laidAll Try.prog os Rows.kilnCountsRow.laid).forCall (fun _ _ => 0) ⟨#[], #[.slice none 0 0], []⟩).memory Try.f10.params.toList Rows.kilnCountsSpec.vars false (#[.slice none 0 0] : Array Value).toList 8 = some ([.nil], [], places) :=
  ⟨[], by kernel_rfl⟩
set_option maxRecDepth 100000 in
theorem lifted10 (os : Os) (started : os.Started) (H : Type) (enc : TypeId × Value → H) (F : Stop.Interp) :
    ReturnsInHanded {} Try.checked os 10 .any ((OpenSpec.ofChange Rows.kilnCountsSpec).preRow enc Try.prog Try.f10 Rows.kilnCountsRow.domain false Rows.kilnCountsRow.laid) (((OpenSpec.ofChange Rows.kilnCountsSpec).at F).post enc Try.prog Try.f10 false true false false) := by
  obtain ⟨places, hx⟩ := reads10 os enc
  refine returnsInHanded_of_row (C := Try.checked) (s := OpenSpec.ofChange Rows.kilnCountsSpec) ownP started (by kernel_rfl) Try.func10
    (witness_row_at (enc := enc) (C := Try.checked) false (World.laidAll Try.prog os Rows.kilnCountsRow.laid) #[.slice none 0 0] (World.laidAll_os _ _ _) (by kernel_rfl) (by kernel_rfl) (by kernel_rfl)
      (OpenSpec.preRow_of_cond 8 hx (by kernel_rfl) (fun k hk => by cases hk) (by kernel_rfl) (laid_met10 os))) ?_
  intro W base args ds gs before hval hW _ _ _ _ _ _
  exact contract10 H enc W base args ds gs before hval hW
theorem said10 : Rows.KilnCountsSaid :=
  OpenClaim.holds_of_cond 10 Try.f10 rfl rfl rfl rfl rfl rfl rfl ⟨rfl, rfl, rfl, rfl, rfl⟩ rfl rfl rfl rfl rfl (by kernel_rfl) Try.func10 (by kernel_rfl)
    (of_decide_eq_true (by kernel_rfl)) (by unfold Func.isWrapper; first | (rw [if_pos (by decide +kernel)]; kernel_rfl) | (rw [if_neg (by decide +kernel)]; exact ⟨rfl, rfl⟩))
    (fun os started H enc _ F => by rw [OpenClaim.pre_eq_preRow]; exact lifted10 os started H enc F)
end Go.Proofs.Ytopnlcjbklmicaa
