import Derived.Test.YtopnlcjbklmicaaK97
import Derived.WalkKit
import Derived.WalkSpells
import Derived.WalkLawsBesides
import Derived.Deep.QuietTactic
import Derived.BigQuiet
import Derived.Lib.Hide
import Derived.WalkSmall
import Derived.Maps.OwnSet
import Derived.Maps.RangeWalk
import Derived.Deep.RegionWith
import Derived.Deep.RegionHeld3
import Derived.Deep.DrawnRows
import Derived.Deep.DeepCutAuto
import Derived.OneCell
import Derived.KernelRfl
import Derived.Laws.StructEq
import Derived.StillTailTactics
import Derived.Laws.Externs
import Derived.RangeFuncBox
import Derived.Outline
import Derived.RangeFuncNested
import Derived.RangeFuncBound
import Derived.RangeFuncCalls
import Derived.RangeFuncLeaves
import Derived.Shelf.RegionOpen
import Derived.OwnWalkIn
import Derived.TacticsInMore
import Derived.LoopNIn
import Derived.LoopIn
import Derived.Test.YtopnlcjbklmicaaProg
namespace Go.Proofs.Ytopnlcjbklmicaa
open Go.RowKit Go.Maps Go.Shelf
set_option linter.unusedVariables false
set_option linter.unusedSimpArgs false
theorem cp_put {l : List St} {L : BatL} {bu : Bool} {M P A : List Int} (h : CP l L bu M P A) (hb : L ≠ []) : (0 : Int) ≤ P[0]?.getD 0 + P[1]?.getD 0 ∧ P[0]?.getD 0 + P[1]?.getD 0 ≤ 1000000000 := by
  rcases h.one with h1 | ⟨k, n, h1⟩
  · exact absurd h1 hb
  · rw [h.put k n h1]
    have hm := h.inv.many (k, n) (by rw [h1]; simp)
    have hk := kind_nat (n := l.length) (h.inv.kind (k, n) (by rw [h1]; simp))
    have hg := (h.inv.good _ hk.1).1
    obtain ⟨_, _, h3, _⟩ := hg
    dsimp only at hm h3
    omega
section
variable {w : World} {bb base m5 : Nat} {o l : List St} {L : BatL} {M P A : List Int} {W : World}
theorem CW.put {x y : Int} {kk : Nat} {n : Int} (hB : CB w bb base m5 (m5 + 1) (m5 + 2) (m5 + 3)) (h : CW w bb base m5 (m5 + 1) (m5 + 2) (m5 + 3) o l L M [x, y] A W) (hkk : kk < 2) :
    CW w bb base m5 (m5 + 1) (m5 + 2) (m5 + 3) o l L M (([0, 0] : List Int).set kk n) A (((W.setCell ⟨m5 + 1, 0, none⟩ (.int .i64 0)).setCell ⟨m5 + 1, 1, none⟩ (.int .i64 0)).setCell ⟨m5 + 1, kk, none⟩ (.int .i64 n)) := by
  have c5 := hB.c5
  have s1 : Blk (W.setCell ⟨m5 + 1, 0, none⟩ (.int .i64 0)) (m5 + 1) (iM [0, y]).toArray 103 := by simpa [iM] using h.bp.set 0 (by simp [iM]) (.int .i64 0) rfl
  have s2 : Blk ((W.setCell ⟨m5 + 1, 0, none⟩ (.int .i64 0)).setCell ⟨m5 + 1, 1, none⟩ (.int .i64 0)) (m5 + 1) (iM [0, 0]).toArray 103 := by simpa [iM] using s1.set 1 (by simp [iM]) (.int .i64 0) rfl
  have s3 := s2.set kk (by simp [iM]; omega) (.int .i64 n) rfl
  rw [iM_set [0, 0] kk n (by simpa using hkk)] at s3
  obtain ⟨iv2, ⟨sv2, k1, k2⟩, k3⟩ := h.book
  have hne := k1.ne h.bp (by decide)
  have t0 : ∃ cur, W.heap[m5 + 1]? = some (.cells cur 103 (0, 0)) := ⟨_, h.bp⟩
  have t1 : ∃ cur, (W.setCell ⟨m5 + 1, 0, none⟩ (.int .i64 0)).heap[m5 + 1]? = some (.cells cur 103 (0, 0)) := ⟨_, s1⟩
  have t2 : ∃ cur, ((W.setCell ⟨m5 + 1, 0, none⟩ (.int .i64 0)).setCell ⟨m5 + 1, 1, none⟩ (.int .i64 0)).heap[m5 + 1]? = some (.cells cur 103 (0, 0)) := ⟨_, s2⟩
  have r1 := own_far (i := 0) (u := .int .i64 0) k2 (own_ne k2 t0 (by decide))
  have r2 := own_far (i := 1) (u := .int .i64 0) r1 (own_ne r1 t1 (by decide))
  have r3 := own_far (i := kk) (u := .int .i64 n) r2 (own_ne r2 t2 (by decide))
  have q1 := own_far (i := 0) (u := .int .i64 0) k3 (own_ne k3 t0 (by decide))
  have q2 := own_far (i := 1) (u := .int .i64 0) q1 (own_ne q1 t1 (by decide))
  have q3 := own_far (i := kk) (u := .int .i64 n) q2 (own_ne q2 t2 (by decide))
  exact ⟨⟨iv2, ⟨sv2, ((k1.far hne).far hne).far hne, r3⟩, q3⟩, ((h.bm.far (by omega)).far (by omega)).far (by omega), s3, ((h.bl.far (by omega)).far (by omega)).far (by omega), ((h.bw.far (by omega)).far (by omega)).far (by omega),
    ((h.below.setCell (p := ⟨m5 + 1, 0, none⟩) (by dsimp only; omega) _).setCell (p := ⟨m5 + 1, 1, none⟩) (by dsimp only; omega) _).setCell (p := ⟨m5 + 1, kk, none⟩) (by dsimp only; omega) _, by simpa using h.base2⟩
end
set_option maxRecDepth 1000000 in
set_option maxHeartbeats 8000000 in
theorem switch_any {w : World} {bb base m5 xb : Nat} {l : List St} {L : BatL} {M P A : List Int} {bu : Bool} {W : World} {kk : Nat} {n lost x0 x1 x2 x3 r : Int} {u0 u1 u2 u4 u10 u15 u16 u17 u18 u19 u20 u21 u22 u23 u24 u25 u26 u27 u28 u29 u30 u31 u32 u33 u34 u35 u36 u37 u38 u39 u40 u41 u42 u43 u44 u45 u46 u47 u48 u49 u50 u51 u52 u53 u54 u55 u56 u57 u58 u59 u60 u61 u62 u63 u64 u65 u66 u67 u68 u69 u70 u71 u72 u73 u74 u75 u76 u77 u78 u79 u80 u81 u82 u83 u84 u85 u86 u87 u88 u89 u90 u91 u92 u93 u94 u95 u96 u97 u98 u99 u100 u101 u102 u103 u104 u105 u106 u107 u108 u109 u110 u111 u112 u113 u114 u115 u116 u117 u118 u119 u120 u121 u122 u123 u124 u125 u126 u127 u128 u129 u130 u131 u132 u133 u134 u135 u136 u137 u138 u139 u140 u141 u142 u143 u144 u145 u146 u147 u148 u149 u150 u151 u152 u153 u154 u155 u156 u157 u158 u159 u160 u161 u162 u163 u164 u165 u166 u167 u168 u169 u170 u171 u172 u173 u174 u175 u176 u177 u178 u179 u180 u181 u182 u183 u184 u185 u186 u187 u188 u189 u190 u191 u192 u193 u194 u195 u196 u197 u198 u199 u200 u201 u202 u203 u204 u205 u206 u207 u208 u209 u210 u211 u212 u213 u214 u215 u216 u217 u218 u219 u220 u221 u222 u223 u224 u225 u226 u227 u228 u229 u230 u231 u232 u233 u234 u235 u236 u237 u238 u239 u240 u241 u242 u243 u244 u245 u246 u247 u248 u249 u250 u251 u252 u253 u254 u255 u256 u257 u258 u259 u260 u261 u262 u263 u264 u265 u266 u267 u268 u269 u270 u271 u272 u273 u274 u275 u276 u277 u278 u279 u280 u281 u282 u283 u284 u285 u286 u287 u288 u289 u290 u291 u292 u293 u294 u295 u296 : Value} {Q : Exit → Act → World → Prop}
    (hB : CB w bb base m5 (m5 + 1) (m5 + 2) (m5 + 3)) (hcp : Hid (CP l L bu M P A)) (hcw : Hid (CW w bb base m5 (m5 + 1) (m5 + 2) (m5 + 3) l l L M P A W)) (hx : Hid (Blk W xb #[.int .u8 x0, .int .u8 x1, .int .u8 x2, .int .u8 x3] 106)) (hkk : kk < 2) (hn : 0 ≤ n ∧ n ≤ 255) (hlost : 0 ≤ lost ∧ lost ≤ 255) (hr : x0.tmod 7 = r) (hr2 : 0 ≤ r ∧ r ≤ 6)
    (hQ : Hid (∀ (v62 v63 v64 v65 v66 v67 v68 v69 v70 v71 v72 v73 v74 v75 v76 v77 v78 v79 v80 v81 v82 v83 v84 v85 v86 v87 v88 v89 v90 v91 v92 v93 v94 v95 v96 v97 v98 v99 v100 v101 v102 v103 v104 v105 v106 v107 v108 v109 v110 v111 v112 v113 v114 v115 v116 v117 v118 v119 v120 v121 v122 v123 v124 v125 v126 v127 v128 v129 v130 v131 v132 v133 v134 v135 v136 v137 v138 v139 v140 v141 v142 v143 v144 v145 v146 v147 v148 v149 v150 v151 v152 v153 v154 v155 v156 v157 v158 v159 : Value) (er : Int) (bu2 : Bool) (l2 : List St) (L2 : BatL) (M2 P2 A2 : List Int) (W2 : World), Hid (CS kk r er l l2) → Hid (CP l2 L2 bu2 M2 P2 A2) → Hid (CW w bb base m5 (m5 + 1) (m5 + 2) (m5 + 3) l l2 L2 M2 P2 A2 W2) → Hid (Blk W2 xb #[.int .u8 x0, .int .u8 x1, .int .u8 x2, .int .u8 x3] 106) → Q .normal ⟨List.toArray (u0 :: u1 :: u2 :: (.pointer (some ⟨bb, 0, none⟩)) :: (.int .i64 er) :: (.pointer (some ⟨m5, 0, none⟩)) :: (.pointer (some ⟨m5 + 1, 0, none⟩)) :: (.pointer (some ⟨m5 + 2, 0, none⟩)) :: (.pointer (some ⟨m5 + 3, 0, none⟩)) :: (.bool bu2) :: u10 :: (.pointer (some ⟨xb, 0, none⟩)) :: (.int .i64 (kk : Int)) :: (.int .i64 n) :: (.int .i64 lost) :: u15 :: u16 :: u17 :: u18 :: u19 :: u20 :: u21 :: u22 :: u23 :: u24 :: u25 :: u26 :: u27 :: u28 :: u29 :: u30 :: u31 :: u32 :: u33 :: u34 :: u35 :: u36 :: u37 :: u38 :: u39 :: u40 :: u41 :: u42 :: u43 :: u44 :: u45 :: u46 :: u47 :: u48 :: u49 :: u50 :: u51 :: u52 :: u53 :: u54 :: u55 :: u56 :: u57 :: u58 :: u59 :: u60 :: u61 :: v62 :: v63 :: v64 :: v65 :: v66 :: v67 :: v68 :: v69 :: v70 :: v71 :: v72 :: v73 :: v74 :: v75 :: v76 :: v77 :: v78 :: v79 :: v80 :: v81 :: v82 :: v83 :: v84 :: v85 :: v86 :: v87 :: v88 :: v89 :: v90 :: v91 :: v92 :: v93 :: v94 :: v95 :: v96 :: v97 :: v98 :: v99 :: v100 :: v101 :: v102 :: v103 :: v104 :: v105 :: v106 :: v107 :: v108 :: v109 :: v110 :: v111 :: v112 :: v113 :: v114 :: v115 :: v116 :: v117 :: v118 :: v119 :: v120 :: v121 :: v122 :: v123 :: v124 :: v125 :: v126 :: v127 :: v128 :: v129 :: v130 :: v131 :: v132 :: v133 :: v134 :: v135 :: v136 :: v137 :: v138 :: v139 :: v140 :: v141 :: v142 :: v143 :: v144 :: v145 :: v146 :: v147 :: v148 :: v149 :: v150 :: v151 :: v152 :: v153 :: v154 :: v155 :: v156 :: v157 :: v158 :: v159 :: u160 :: u161 :: u162 :: u163 :: u164 :: u165 :: u166 :: u167 :: u168 :: u169 :: u170 :: u171 :: u172 :: u173 :: u174 :: u175 :: u176 :: u177 :: u178 :: u179 :: u180 :: u181 :: u182 :: u183 :: u184 :: u185 :: u186 :: u187 :: u188 :: u189 :: u190 :: u191 :: u192 :: u193 :: u194 :: u195 :: u196 :: u197 :: u198 :: u199 :: u200 :: u201 :: u202 :: u203 :: u204 :: u205 :: u206 :: u207 :: u208 :: u209 :: u210 :: u211 :: u212 :: u213 :: u214 :: u215 :: u216 :: u217 :: u218 :: u219 :: u220 :: u221 :: u222 :: u223 :: u224 :: u225 :: u226 :: u227 :: u228 :: u229 :: u230 :: u231 :: u232 :: u233 :: u234 :: u235 :: u236 :: u237 :: u238 :: u239 :: u240 :: u241 :: u242 :: u243 :: u244 :: u245 :: u246 :: u247 :: u248 :: u249 :: u250 :: u251 :: u252 :: u253 :: u254 :: u255 :: u256 :: u257 :: u258 :: u259 :: u260 :: u261 :: u262 :: u263 :: u264 :: u265 :: u266 :: u267 :: u268 :: u269 :: u270 :: u271 :: u272 :: u273 :: u274 :: u275 :: u276 :: u277 :: u278 :: u279 :: u280 :: u281 :: u282 :: u283 :: u284 :: u285 :: u286 :: u287 :: u288 :: u289 :: u290 :: u291 :: u292 :: u293 :: u294 :: u295 :: u296 :: []), []⟩ W2)) :
    Code.wp Try.prog swCode Q ⟨List.toArray (u0 :: u1 :: u2 :: (.pointer (some ⟨bb, 0, none⟩)) :: u4 :: (.pointer (some ⟨m5, 0, none⟩)) :: (.pointer (some ⟨m5 + 1, 0, none⟩)) :: (.pointer (some ⟨m5 + 2, 0, none⟩)) :: (.pointer (some ⟨m5 + 3, 0, none⟩)) :: (.bool bu) :: u10 :: (.pointer (some ⟨xb, 0, none⟩)) :: (.int .i64 (kk : Int)) :: (.int .i64 n) :: (.int .i64 lost) :: u15 :: u16 :: u17 :: u18 :: u19 :: u20 :: u21 :: u22 :: u23 :: u24 :: u25 :: u26 :: u27 :: u28 :: u29 :: u30 :: u31 :: u32 :: u33 :: u34 :: u35 :: u36 :: u37 :: u38 :: u39 :: u40 :: u41 :: u42 :: u43 :: u44 :: u45 :: u46 :: u47 :: u48 :: u49 :: u50 :: u51 :: u52 :: u53 :: u54 :: u55 :: u56 :: u57 :: u58 :: u59 :: u60 :: u61 :: u62 :: u63 :: u64 :: u65 :: u66 :: u67 :: u68 :: u69 :: u70 :: u71 :: u72 :: u73 :: u74 :: u75 :: u76 :: u77 :: u78 :: u79 :: u80 :: u81 :: u82 :: u83 :: u84 :: u85 :: u86 :: u87 :: u88 :: u89 :: u90 :: u91 :: u92 :: u93 :: u94 :: u95 :: u96 :: u97 :: u98 :: u99 :: u100 :: u101 :: u102 :: u103 :: u104 :: u105 :: u106 :: u107 :: u108 :: u109 :: u110 :: u111 :: u112 :: u113 :: u114 :: u115 :: u116 :: u117 :: u118 :: u119 :: u120 :: u121 :: u122 :: u123 :: u124 :: u125 :: u126 :: u127 :: u128 :: u129 :: u130 :: u131 :: u132 :: u133 :: u134 :: u135 :: u136 :: u137 :: u138 :: u139 :: u140 :: u141 :: u142 :: u143 :: u144 :: u145 :: u146 :: u147 :: u148 :: u149 :: u150 :: u151 :: u152 :: u153 :: u154 :: u155 :: u156 :: u157 :: u158 :: u159 :: u160 :: u161 :: u162 :: u163 :: u164 :: u165 :: u166 :: u167 :: u168 :: u169 :: u170 :: u171 :: u172 :: u173 :: u174 :: u175 :: u176 :: u177 :: u178 :: u179 :: u180 :: u181 :: u182 :: u183 :: u184 :: u185 :: u186 :: u187 :: u188 :: u189 :: u190 :: u191 :: u192 :: u193 :: u194 :: u195 :: u196 :: u197 :: u198 :: u199 :: u200 :: u201 :: u202 :: u203 :: u204 :: u205 :: u206 :: u207 :: u208 :: u209 :: u210 :: u211 :: u212 :: u213 :: u214 :: u215 :: u216 :: u217 :: u218 :: u219 :: u220 :: u221 :: u222 :: u223 :: u224 :: u225 :: u226 :: u227 :: u228 :: u229 :: u230 :: u231 :: u232 :: u233 :: u234 :: u235 :: u236 :: u237 :: u238 :: u239 :: u240 :: u241 :: u242 :: u243 :: u244 :: u245 :: u246 :: u247 :: u248 :: u249 :: u250 :: u251 :: u252 :: u253 :: u254 :: u255 :: u256 :: u257 :: u258 :: u259 :: u260 :: u261 :: u262 :: u263 :: u264 :: u265 :: u266 :: u267 :: u268 :: u269 :: u270 :: u271 :: u272 :: u273 :: u274 :: u275 :: u276 :: u277 :: u278 :: u279 :: u280 :: u281 :: u282 :: u283 :: u284 :: u285 :: u286 :: u287 :: u288 :: u289 :: u290 :: u291 :: u292 :: u293 :: u294 :: u295 :: u296 :: []), []⟩ W := by
  conv => arg 2; whnf
  have x00 := hx.out.cell (i := 0) (v := .int .u8 x0) rfl
  have wr0 : IntKind.u8.wrap r = r := by unfold IntKind.wrap; simp [IntKind.bits, IntKind.signed]; omega
  go_upto_region 17 with fail
  clear x00
  have hr3 : r = 0 ∨ r = 1 ∨ r = 2 ∨ r = 3 ∨ r = 4 ∨ r = 5 ∨ r = 6 := by omega
  clear hr hr2 wr0
  rcases hr3 with rfl | rfl | rfl | rfl | rfl | rfl | rfl
  · obtain ⟨iv, hbk, hin⟩ := hcw.out.book
    have hinv := hcp.out.inv
    obtain ⟨er, l2, hco⟩ : ∃ er l2, coF l (kk : Int) n (mouldF n) = (er, l2) := ⟨_, _, rfl⟩
    have hM := mould_any bb base l 400 iv (kk : Int) n W hbk hcw.out.base2 (by rw [hcp.out.len]; omega) hinv.ok
    rw [hco] at hM
    obtain ⟨hcs, hcp1, hcp2⟩ := cp_co hcp.out hkk (r := 0) (n := n) (g := (mouldF n)) (dm := n) (dl := 0) (fun _ => mould_does hn.1) hco
    have HM := Lib.hid hM
    have HCS := Lib.hid hcs
    have HIN := Lib.hid hin
    have HC1 := Lib.hid hcp1
    have HC2 := Lib.hid hcp2
    have HR := Lib.hid (cp_range hcp.out hkk)
    clear hM hcs hcp1 hcp2 hco hbk hin hinv
    go_wp2_with fail
    refine HM.out.mono ?_
    rintro e W2 hT
    obtain rfl : e = .returned (.int .i64 er) := hT.1
    have HCW2 := Lib.hid (hcw.out.co hB HIN.out hT)
    have HX2 := Lib.hid (hT.keep hx.out (by decide))
    clear hT HM
    by_cases he : er = 0
    · have hcp3 := HC2.out he
      rw [set_same A kk (by rw [hcp.out.alen]; exact hkk)] at hcp3
      subst he
      have hkl : kk < M.length := by rw [hcp.out.mlen]; exact hkk
      obtain ⟨m, hm⟩ : ∃ m, M[kk]?.getD 0 = m := ⟨_, rfl⟩
      have hmr := HR.out.1
      have c0 := HCW2.out.bm.cell (i := kk) (v := .int .i64 m) (by rw [iM_at _ _ hkl, hm])
      have f0 := HCW2.out.bm.fr (i := kk)
      rw [hm] at hcp3 hmr
      have wm : IntKind.i64.wrap (m + n) = m + n := wrap_id (by omega) (by omega)
      have HCP2 := Lib.hid hcp3
      have hset := HCW2.out.bm.set kk (by simp [iM, hkl]) (.int .i64 (m + n)) rfl
      rw [iM_set M kk _ hkl] at hset
      have hbook : ∃ iv, BookAt (W2.setCell ⟨m5, kk, none⟩ (.int .i64 (m + n))) bb base l2 400 iv ∧ InsAt (W2.setCell ⟨m5, kk, none⟩ (.int .i64 (m + n))) base iv L := by
        obtain ⟨iv2, ⟨sv2, k1, k2⟩, k3⟩ := HCW2.out.book
        have hty : ∃ cur, W2.heap[m5]? = some (.cells cur 103 (0, 0)) := ⟨_, HCW2.out.bm⟩
        exact ⟨iv2, ⟨sv2, k1.far (k1.ne HCW2.out.bm (by decide)), own_far k2 (own_ne k2 hty (by decide))⟩, own_far k3 (own_ne k3 hty (by decide))⟩
      have HX3 := Lib.hid (HX2.out.far (b' := m5) (i := kk) (u := .int .i64 (m + n)) (HX2.out.ne HCW2.out.bm (by decide)))
      have HCW3 : Hid (CW w bb base m5 (m5 + 1) (m5 + 2) (m5 + 3) l l2 L (M.set kk (m + n)) P A (W2.setCell ⟨m5, kk, none⟩ (.int .i64 (m + n)))) := Lib.hid ⟨hbook, hset, HCW2.out.bp.far (by omega), HCW2.out.bl.far (by omega), HCW2.out.bw.far (by omega), HCW2.out.below.setCell (by have := hB.c5; dsimp only; omega) _, by simpa using HCW2.out.base2⟩
      have hk0 : (0 : Int) ≤ (kk : Int) := by omega
      have hk1 : (kk : Int) < 2 := by omega
      clear hset hbook hcp3 hm
      go_wp2
      exact hQ.out _ _ _ _ _ _ _ _ _ _ _ _ _ _ _ _ _ _ _ _ _ _ _ _ _ _ _ _ _ _ _ _ _ _ _ _ _ _ _ _ _ _ _ _ _ _ _ _ _ _ _ _ _ _ _ _ _ _ _ _ _ _ _ _ _ _ _ _ _ _ _ _ _ _ _ _ _ _ _ _ _ _ _ _ _ _ _ _ _ _ _ _ _ _ _ _ _ _ _ _ _ _ _ _ _ _ HCS HCP2 HCW3 HX3
    · have HCP2 := Lib.hid (HC1.out he)
      have HCW3 := HCW2
      have HX3 := HX2
      go_wp2
      exact hQ.out _ _ _ _ _ _ _ _ _ _ _ _ _ _ _ _ _ _ _ _ _ _ _ _ _ _ _ _ _ _ _ _ _ _ _ _ _ _ _ _ _ _ _ _ _ _ _ _ _ _ _ _ _ _ _ _ _ _ _ _ _ _ _ _ _ _ _ _ _ _ _ _ _ _ _ _ _ _ _ _ _ _ _ _ _ _ _ _ _ _ _ _ _ _ _ _ _ _ _ _ _ _ _ _ _ _ HCS HCP2 HCW3 HX3
  · obtain ⟨iv, hbk, hin⟩ := hcw.out.book
    have hinv := hcp.out.inv
    obtain ⟨er, l2, hco⟩ : ∃ er l2, coF l (kk : Int) n (dryF n lost) = (er, l2) := ⟨_, _, rfl⟩
    have hM := dry_any bb base l 400 iv (kk : Int) n lost W hbk hcw.out.base2 (by rw [hcp.out.len]; omega) hinv.ok
    rw [hco] at hM
    obtain ⟨hcs, hcp1, hcp2⟩ := cp_co hcp.out hkk (r := 1) (n := n) (g := (dryF n lost)) (dm := 0) (dl := 0) (fun _ => dry_does hn.1) hco
    have HM := Lib.hid hM
    have HCS := Lib.hid hcs
    have HIN := Lib.hid hin
    have HC1 := Lib.hid hcp1
    have HC2 := Lib.hid hcp2
    have HR := Lib.hid (cp_range hcp.out hkk)
    clear hM hcs hcp1 hcp2 hco hbk hin hinv
    go_wp2_with fail
    refine HM.out.mono ?_
    rintro e W2 hT
    obtain rfl : e = .returned (.int .i64 er) := hT.1
    have HCW2 := Lib.hid (hcw.out.co hB HIN.out hT)
    have HX2 := Lib.hid (hT.keep hx.out (by decide))
    clear hT HM
    by_cases he : er = 0
    · have hcp3 := HC2.out he
      simp only [set_same M kk (by rw [hcp.out.mlen]; exact hkk), set_same A kk (by rw [hcp.out.alen]; exact hkk)] at hcp3
      subst he
      have HCP2 := Lib.hid hcp3
      have HCW3 := HCW2
      have HX3 := HX2
      clear hcp3
      go_wp2
      exact hQ.out _ _ _ _ _ _ _ _ _ _ _ _ _ _ _ _ _ _ _ _ _ _ _ _ _ _ _ _ _ _ _ _ _ _ _ _ _ _ _ _ _ _ _ _ _ _ _ _ _ _ _ _ _ _ _ _ _ _ _ _ _ _ _ _ _ _ _ _ _ _ _ _ _ _ _ _ _ _ _ _ _ _ _ _ _ _ _ _ _ _ _ _ _ _ _ _ _ _ _ _ _ _ _ _ _ _ HCS HCP2 HCW3 HX3
    · have HCP2 := Lib.hid (HC1.out he)
      have HCW3 := HCW2
      have HX3 := HX2
      go_wp2
      exact hQ.out _ _ _ _ _ _ _ _ _ _ _ _ _ _ _ _ _ _ _ _ _ _ _ _ _ _ _ _ _ _ _ _ _ _ _ _ _ _ _ _ _ _ _ _ _ _ _ _ _ _ _ _ _ _ _ _ _ _ _ _ _ _ _ _ _ _ _ _ _ _ _ _ _ _ _ _ _ _ _ _ _ _ _ _ _ _ _ _ _ _ _ _ _ _ _ _ _ _ _ _ _ _ _ _ _ _ HCS HCP2 HCW3 HX3
  · obtain ⟨iv, hbk, hin⟩ := hcw.out.book
    obtain ⟨bx, hbx⟩ : ∃ bx, W.heap.size = bx := ⟨_, rfl⟩
    have hb1 : Below W.heap.size W (W.alloc (.cells #[.int .i64 (kk : Int), .int .i64 n] 111)) := (Below.refl _ _).alloc (Nat.le_refl _) _
    have HCW1 := Lib.hid (hcw.out.past hb1)
    have HX1 := Lib.hid (hx.out.past hb1)
    have HPA := pairs_one W bx hbx (kk : Int) n 111
    obtain ⟨er, l2, L2, hco⟩ : ∃ er l2 L2, fireF 400 l L [((kk : Int), n)] = (er, l2, L2) := ⟨_, _, _, rfl⟩
    have hM := fire_any bb base l 400 iv L _ _ _ (hbk.past hb1) (hin.past hb1) HCW1.out.base2 HPA (by rw [hcp.out.len]; omega) (by rw [hcp.out.len]; omega) hcp.out.inv
    rw [hco] at hM
    obtain ⟨hcs, hcp1, hcp2⟩ := cp_fire hcp.out hkk (r := 2) hco
    have HM := Lib.hid hM
    have HCS := Lib.hid hcs
    have HC1 := Lib.hid hcp1
    have HC2 := Lib.hid hcp2
    clear hM hcs hcp1 hcp2 hco hbk hin hb1 HPA
    go_wp2_with fail
    refine HM.out.mono ?_
    rintro e W2 hT
    obtain rfl : e = .returned (.int .i64 er) := hT.1
    have HCW2 := Lib.hid (HCW1.out.co2 hB hT)
    have HX2 : Hid (Blk W2 xb #[.int .u8 x0, .int .u8 x1, .int .u8 x2, .int .u8 x3] 106) := Lib.hid (by obtain ⟨iv3, k3, _⟩ := HCW1.out.book; exact hT.keep k3 HX1.out (by decide) (by decide))
    clear hT HM HX1 HCW1
    by_cases he : er = 0
    · obtain ⟨rfl, hcp3⟩ := HC2.out he
      subst he
      have HCP2 := Lib.hid hcp3
      have hpl := hcp.out.plen
      obtain ⟨pa, pb, rfl⟩ : ∃ pa pb, P = [pa, pb] := by
        match P, hpl with
        | [x, y], _ => exact ⟨x, y, rfl⟩
      have c0 := HCW2.out.bp.cell (i := 0) (v := .int .i64 pa) rfl
      have f0 := HCW2.out.bp.fr (i := 0)
      have c1 := HCW2.out.bp.cell (i := 1) (v := .int .i64 pb) rfl
      have f1 := HCW2.out.bp.fr (i := 1)
      have HCW3 := Lib.hid (HCW2.out.put (n := n) hB hkk)
      have hs2 : Blk ((W2.setCell ⟨m5 + 1, 0, none⟩ (.int .i64 0)).setCell ⟨m5 + 1, 1, none⟩ (.int .i64 0)) (m5 + 1) (iM [0, 0]).toArray 103 := by simpa [iM] using (HCW2.out.bp.set 0 (by simp [iM]) (.int .i64 0) rfl).set 1 (by simp [iM]) (.int .i64 0) rfl
      have HX3 := Lib.hid (((HX2.out.far (b' := m5 + 1) (i := 0) (u := .int .i64 0) (HX2.out.ne HCW2.out.bp (by decide))).far (b' := m5 + 1) (i := 1) (u := .int .i64 0) (HX2.out.ne HCW2.out.bp (by decide))).far (b' := m5 + 1) (i := kk) (u := .int .i64 n) (HX2.out.ne HCW2.out.bp (by decide)))
      have hk0 : (0 : Int) ≤ (kk : Int) := by omega
      have hk1 : (kk : Int) < 2 := by omega
      have HS2 := Lib.hid hs2
      clear hcp3 hs2
      go_upto_region 29 with fail
      obtain ⟨W3, hW3⟩ : ∃ W3, ((W2.setCell ⟨m5 + 1, 0, none⟩ (.int .i64 0)).setCell ⟨m5 + 1, 1, none⟩ (.int .i64 0)) = W3 := ⟨_, rfl⟩
      rw [hW3] at HCW3 HX3 HS2 ⊢
      clear hW3 c0 f0 c1 f1
      have c3 := HS2.out.cell (i := kk) (iM_at [0, 0] kk (by simpa using hkk))
      have f3 := HS2.out.fr (i := kk)
      go_wp2
      exact hQ.out _ _ _ _ _ _ _ _ _ _ _ _ _ _ _ _ _ _ _ _ _ _ _ _ _ _ _ _ _ _ _ _ _ _ _ _ _ _ _ _ _ _ _ _ _ _ _ _ _ _ _ _ _ _ _ _ _ _ _ _ _ _ _ _ _ _ _ _ _ _ _ _ _ _ _ _ _ _ _ _ _ _ _ _ _ _ _ _ _ _ _ _ _ _ _ _ _ _ _ _ _ _ _ _ _ _ HCS HCP2 HCW3 HX3
    · have HCP2 := Lib.hid (HC1.out he)
      have HCW3 := HCW2
      have HX3 := HX2
      go_wp2
      exact hQ.out _ _ _ _ _ _ _ _ _ _ _ _ _ _ _ _ _ _ _ _ _ _ _ _ _ _ _ _ _ _ _ _ _ _ _ _ _ _ _ _ _ _ _ _ _ _ _ _ _ _ _ _ _ _ _ _ _ _ _ _ _ _ _ _ _ _ _ _ _ _ _ _ _ _ _ _ _ _ _ _ _ _ _ _ _ _ _ _ _ _ _ _ _ _ _ _ _ _ _ _ _ _ _ _ _ _ HCS HCP2 HCW3 HX3
  · obtain ⟨iv, hbk, hin⟩ := hcw.out.book
    obtain ⟨bx, hbx⟩ : ∃ bx, W.heap.size = bx := ⟨_, rfl⟩
    have hb1 : Below W.heap.size W (W.alloc (.cells #[.int .i64 lost] 3)) := (Below.refl _ _).alloc (Nat.le_refl _) _
    have HCW1 := Lib.hid (hcw.out.past hb1)
    have HX1 := Lib.hid (hx.out.past hb1)
    have HPA := intsR_one W bx hbx lost
    obtain ⟨er, l2, L2, hco⟩ : ∃ er l2 L2, drawF l L [lost] = (er, l2, L2) := ⟨_, _, _, rfl⟩
    have hLl : L.length ≤ 1000000 := by rcases hcp.out.one with h | ⟨_, _, h⟩ <;> rw [h] <;> simp
    have hM := draw_any bb base bx l 400 iv L _ _ _ (hbk.past hb1) (hin.past hb1) HCW1.out.base2 HPA (by simp) hLl (by rw [hcp.out.len]; omega) (by rw [hcp.out.len]; omega) hcp.out.inv
    rw [hco] at hM
    obtain ⟨hcs, hcp1, hcp2⟩ := cp_draw hcp.out (k := kk) hco
    have HM := Lib.hid hM
    have HCS := Lib.hid hcs
    have HC1 := Lib.hid hcp1
    have HC2 := Lib.hid hcp2
    clear hM hcs hcp1 hcp2 hco hbk hin hb1 HPA
    go_wp2_with fail
    refine HM.out.mono ?_
    rintro e W2 hT
    obtain rfl : e = .returned (.int .i64 er) := hT.1
    have HCW2 := Lib.hid (HCW1.out.co2 hB hT)
    have HX2 : Hid (Blk W2 xb #[.int .u8 x0, .int .u8 x1, .int .u8 x2, .int .u8 x3] 106) := Lib.hid (by obtain ⟨iv3, k3, _⟩ := HCW1.out.book; exact hT.keep k3 HX1.out (by decide) (by decide))
    clear hT HM HX1 HCW1
    by_cases he : er = 0
    · obtain ⟨rfl, hle, hcp3⟩ := HC2.out he
      subst he
      have HCP2 := Lib.hid hcp3
      have hpl := hcp.out.plen
      have hsum : (0 : Int) ≤ P[0]?.getD 0 + P[1]?.getD 0 ∧ P[0]?.getD 0 + P[1]?.getD 0 ≤ 1000000000 := cp_put hcp.out (hcp.out.burns.1 rfl)
      obtain ⟨pa, pb, rfl⟩ : ∃ pa pb, P = [pa, pb] := by
        match P, hpl with
        | [x, y], _ => exact ⟨x, y, rfl⟩
      have hle2 : lost ≤ pa + pb := by simpa using hle
      have hsum2 : 0 ≤ pa + pb ∧ pa + pb ≤ 1000000000 := by simpa using hsum
      have ws : IntKind.i64.wrap (pa + pb) = pa + pb := wrap_id (by omega) (by omega)
      have hd : decide (pa + pb < lost) = false := by simp; omega
      have c0 := HCW2.out.bp.cell (i := 0) (v := .int .i64 pa) rfl
      have c1 := HCW2.out.bp.cell (i := 1) (v := .int .i64 pb) rfl
      have HCW3 := HCW2
      have HX3 := HX2
      clear hcp3 hle hsum hpl hle2 hsum2
      go_wp2
      exact hQ.out _ _ _ _ _ _ _ _ _ _ _ _ _ _ _ _ _ _ _ _ _ _ _ _ _ _ _ _ _ _ _ _ _ _ _ _ _ _ _ _ _ _ _ _ _ _ _ _ _ _ _ _ _ _ _ _ _ _ _ _ _ _ _ _ _ _ _ _ _ _ _ _ _ _ _ _ _ _ _ _ _ _ _ _ _ _ _ _ _ _ _ _ _ _ _ _ _ _ _ _ _ _ _ _ _ _ HCS HCP2 HCW3 HX3
    · have HCP2 := Lib.hid (HC1.out he)
      have HCW3 := HCW2
      have HX3 := HX2
      go_wp2
      exact hQ.out _ _ _ _ _ _ _ _ _ _ _ _ _ _ _ _ _ _ _ _ _ _ _ _ _ _ _ _ _ _ _ _ _ _ _ _ _ _ _ _ _ _ _ _ _ _ _ _ _ _ _ _ _ _ _ _ _ _ _ _ _ _ _ _ _ _ _ _ _ _ _ _ _ _ _ _ _ _ _ _ _ _ _ _ _ _ _ _ _ _ _ _ _ _ _ _ _ _ _ _ _ _ _ _ _ _ HCS HCP2 HCW3 HX3
  · obtain ⟨iv, hbk, hin⟩ := hcw.out.book
    have hinv := hcp.out.inv
    obtain ⟨er, l2, hco⟩ : ∃ er l2, coF l (kk : Int) n (layF n) = (er, l2) := ⟨_, _, rfl⟩
    have hM := lay_any bb base l 400 iv (kk : Int) n W hbk hcw.out.base2 (by rw [hcp.out.len]; omega) hinv.ok
    rw [hco] at hM
    obtain ⟨hcs, hcp1, hcp2⟩ := cp_co hcp.out hkk (r := 4) (n := n) (g := (layF n)) (dm := 0) (dl := n) (fun _ => lay_does hn.1) hco
    have HM := Lib.hid hM
    have HCS := Lib.hid hcs
    have HIN := Lib.hid hin
    have HC1 := Lib.hid hcp1
    have HC2 := Lib.hid hcp2
    have HR := Lib.hid (cp_range hcp.out hkk)
    clear hM hcs hcp1 hcp2 hco hbk hin hinv
    go_wp2_with fail
    refine HM.out.mono ?_
    rintro e W2 hT
    obtain rfl : e = .returned (.int .i64 er) := hT.1
    have HCW2 := Lib.hid (hcw.out.co hB HIN.out hT)
    have HX2 := Lib.hid (hT.keep hx.out (by decide))
    clear hT HM
    by_cases he : er = 0
    · have hcp3 := HC2.out he
      rw [set_same M kk (by rw [hcp.out.mlen]; exact hkk)] at hcp3
      subst he
      have hkl : kk < A.length := by rw [hcp.out.alen]; exact hkk
      obtain ⟨m, hm⟩ : ∃ m, A[kk]?.getD 0 = m := ⟨_, rfl⟩
      have hmr := HR.out.2
      have c0 := HCW2.out.bl.cell (i := kk) (v := .int .i64 m) (by rw [iM_at _ _ hkl, hm])
      have f0 := HCW2.out.bl.fr (i := kk)
      rw [hm] at hcp3 hmr
      have wm : IntKind.i64.wrap (m + n) = m + n := wrap_id (by omega) (by omega)
      have HCP2 := Lib.hid hcp3
      have hset := HCW2.out.bl.set kk (by simp [iM, hkl]) (.int .i64 (m + n)) rfl
      rw [iM_set A kk _ hkl] at hset
      have hbook : ∃ iv, BookAt (W2.setCell ⟨m5 + 2, kk, none⟩ (.int .i64 (m + n))) bb base l2 400 iv ∧ InsAt (W2.setCell ⟨m5 + 2, kk, none⟩ (.int .i64 (m + n))) base iv L := by
        obtain ⟨iv2, ⟨sv2, k1, k2⟩, k3⟩ := HCW2.out.book
        have hty : ∃ cur, W2.heap[m5 + 2]? = some (.cells cur 103 (0, 0)) := ⟨_, HCW2.out.bl⟩
        exact ⟨iv2, ⟨sv2, k1.far (k1.ne HCW2.out.bl (by decide)), own_far k2 (own_ne k2 hty (by decide))⟩, own_far k3 (own_ne k3 hty (by decide))⟩
      have HX3 := Lib.hid (HX2.out.far (b' := m5 + 2) (i := kk) (u := .int .i64 (m + n)) (HX2.out.ne HCW2.out.bl (by decide)))
      have HCW3 : Hid (CW w bb base m5 (m5 + 1) (m5 + 2) (m5 + 3) l l2 L M P (A.set kk (m + n)) (W2.setCell ⟨m5 + 2, kk, none⟩ (.int .i64 (m + n)))) := Lib.hid ⟨hbook, HCW2.out.bm.far (by omega), HCW2.out.bp.far (by omega), hset, HCW2.out.bw.far (by omega), HCW2.out.below.setCell (by have := hB.c5; dsimp only; omega) _, by simpa using HCW2.out.base2⟩
      have hk0 : (0 : Int) ≤ (kk : Int) := by omega
      have hk1 : (kk : Int) < 2 := by omega
      clear hset hbook hcp3 hm
      go_wp2
      exact hQ.out _ _ _ _ _ _ _ _ _ _ _ _ _ _ _ _ _ _ _ _ _ _ _ _ _ _ _ _ _ _ _ _ _ _ _ _ _ _ _ _ _ _ _ _ _ _ _ _ _ _ _ _ _ _ _ _ _ _ _ _ _ _ _ _ _ _ _ _ _ _ _ _ _ _ _ _ _ _ _ _ _ _ _ _ _ _ _ _ _ _ _ _ _ _ _ _ _ _ _ _ _ _ _ _ _ _ HCS HCP2 HCW3 HX3
    · have HCP2 := Lib.hid (HC1.out he)
      have HCW3 := HCW2
      have HX3 := HX2
      go_wp2
      exact hQ.out _ _ _ _ _ _ _ _ _ _ _ _ _ _ _ _ _ _ _ _ _ _ _ _ _ _ _ _ _ _ _ _ _ _ _ _ _ _ _ _ _ _ _ _ _ _ _ _ _ _ _ _ _ _ _ _ _ _ _ _ _ _ _ _ _ _ _ _ _ _ _ _ _ _ _ _ _ _ _ _ _ _ _ _ _ _ _ _ _ _ _ _ _ _ _ _ _ _ _ _ _ _ _ _ _ _ HCS HCP2 HCW3 HX3
  · obtain ⟨iv, hbk, hin⟩ := hcw.out.book
    have hinv := hcp.out.inv
    obtain ⟨er, l2, hco⟩ : ∃ er l2, coF l (kk : Int) n (breakF n) = (er, l2) := ⟨_, _, rfl⟩
    have hM := break_any bb base l 400 iv (kk : Int) n W hbk hcw.out.base2 (by rw [hcp.out.len]; omega) hinv.ok
    rw [hco] at hM
    obtain ⟨hcs, hcp1, hcp2⟩ := cp_co hcp.out hkk (r := 5) (n := n) (g := (breakF n)) (dm := 0) (dl := (-n)) (fun _ => break_does hn.1) hco
    have HM := Lib.hid hM
    have HCS := Lib.hid hcs
    have HIN := Lib.hid hin
    have HC1 := Lib.hid hcp1
    have HC2 := Lib.hid hcp2
    have HR := Lib.hid (cp_range hcp.out hkk)
    clear hM hcs hcp1 hcp2 hco hbk hin hinv
    go_wp2_with fail
    refine HM.out.mono ?_
    rintro e W2 hT
    obtain rfl : e = .returned (.int .i64 er) := hT.1
    have HCW2 := Lib.hid (hcw.out.co hB HIN.out hT)
    have HX2 := Lib.hid (hT.keep hx.out (by decide))
    clear hT HM
    by_cases he : er = 0
    · have hcp3 := HC2.out he
      rw [set_same M kk (by rw [hcp.out.mlen]; exact hkk)] at hcp3
      subst he
      have hkl : kk < A.length := by rw [hcp.out.alen]; exact hkk
      obtain ⟨m, hm⟩ : ∃ m, A[kk]?.getD 0 = m := ⟨_, rfl⟩
      have hmr := HR.out.2
      have c0 := HCW2.out.bl.cell (i := kk) (v := .int .i64 m) (by rw [iM_at _ _ hkl, hm])
      have f0 := HCW2.out.bl.fr (i := kk)
      rw [hm] at hcp3 hmr
      have wm : IntKind.i64.wrap (m - n) = m - n := wrap_id (by omega) (by omega)
      rw [show m + -n = m - n by omega] at hcp3
      have HCP2 := Lib.hid hcp3
      have hset := HCW2.out.bl.set kk (by simp [iM, hkl]) (.int .i64 (m - n)) rfl
      rw [iM_set A kk _ hkl] at hset
      have hbook : ∃ iv, BookAt (W2.setCell ⟨m5 + 2, kk, none⟩ (.int .i64 (m - n))) bb base l2 400 iv ∧ InsAt (W2.setCell ⟨m5 + 2, kk, none⟩ (.int .i64 (m - n))) base iv L := by
        obtain ⟨iv2, ⟨sv2, k1, k2⟩, k3⟩ := HCW2.out.book
        have hty : ∃ cur, W2.heap[m5 + 2]? = some (.cells cur 103 (0, 0)) := ⟨_, HCW2.out.bl⟩
        exact ⟨iv2, ⟨sv2, k1.far (k1.ne HCW2.out.bl (by decide)), own_far k2 (own_ne k2 hty (by decide))⟩, own_far k3 (own_ne k3 hty (by decide))⟩
      have HX3 := Lib.hid (HX2.out.far (b' := m5 + 2) (i := kk) (u := .int .i64 (m - n)) (HX2.out.ne HCW2.out.bl (by decide)))
      have HCW3 : Hid (CW w bb base m5 (m5 + 1) (m5 + 2) (m5 + 3) l l2 L M P (A.set kk (m - n)) (W2.setCell ⟨m5 + 2, kk, none⟩ (.int .i64 (m - n)))) := Lib.hid ⟨hbook, HCW2.out.bm.far (by omega), HCW2.out.bp.far (by omega), hset, HCW2.out.bw.far (by omega), HCW2.out.below.setCell (by have := hB.c5; dsimp only; omega) _, by simpa using HCW2.out.base2⟩
      have hk0 : (0 : Int) ≤ (kk : Int) := by omega
      have hk1 : (kk : Int) < 2 := by omega
      clear hset hbook hcp3 hm
      go_wp2
      exact hQ.out _ _ _ _ _ _ _ _ _ _ _ _ _ _ _ _ _ _ _ _ _ _ _ _ _ _ _ _ _ _ _ _ _ _ _ _ _ _ _ _ _ _ _ _ _ _ _ _ _ _ _ _ _ _ _ _ _ _ _ _ _ _ _ _ _ _ _ _ _ _ _ _ _ _ _ _ _ _ _ _ _ _ _ _ _ _ _ _ _ _ _ _ _ _ _ _ _ _ _ _ _ _ _ _ _ _ HCS HCP2 HCW3 HX3
    · have HCP2 := Lib.hid (HC1.out he)
      have HCW3 := HCW2
      have HX3 := HX2
      go_wp2
      exact hQ.out _ _ _ _ _ _ _ _ _ _ _ _ _ _ _ _ _ _ _ _ _ _ _ _ _ _ _ _ _ _ _ _ _ _ _ _ _ _ _ _ _ _ _ _ _ _ _ _ _ _ _ _ _ _ _ _ _ _ _ _ _ _ _ _ _ _ _ _ _ _ _ _ _ _ _ _ _ _ _ _ _ _ _ _ _ _ _ _ _ _ _ _ _ _ _ _ _ _ _ _ _ _ _ _ _ _ HCS HCP2 HCW3 HX3
  · obtain ⟨iv, hbk, hin⟩ := hcw.out.book
    have hinv := hcp.out.inv
    obtain ⟨er, l2, hco⟩ : ∃ er l2, coF l (kk : Int) n (replaceF n) = (er, l2) := ⟨_, _, rfl⟩
    have hM := replace_any bb base l 400 iv (kk : Int) n W hbk hcw.out.base2 (by rw [hcp.out.len]; omega) hinv.ok
    rw [hco] at hM
    obtain ⟨hcs, hcp1, hcp2⟩ := cp_co hcp.out hkk (r := 6) (n := n) (g := (replaceF n)) (dm := 0) (dl := n) (fun _ => replace_does hn.1) hco
    have HM := Lib.hid hM
    have HCS := Lib.hid hcs
    have HIN := Lib.hid hin
    have HC1 := Lib.hid hcp1
    have HC2 := Lib.hid hcp2
    have HR := Lib.hid (cp_range hcp.out hkk)
    clear hM hcs hcp1 hcp2 hco hbk hin hinv
    go_wp2_with fail
    refine HM.out.mono ?_
    rintro e W2 hT
    obtain rfl : e = .returned (.int .i64 er) := hT.1
    have HCW2 := Lib.hid (hcw.out.co hB HIN.out hT)
    have HX2 := Lib.hid (hT.keep hx.out (by decide))
    clear hT HM
    by_cases he : er = 0
    · have hcp3 := HC2.out he
      rw [set_same M kk (by rw [hcp.out.mlen]; exact hkk)] at hcp3
      subst he
      have hkl : kk < A.length := by rw [hcp.out.alen]; exact hkk
      obtain ⟨m, hm⟩ : ∃ m, A[kk]?.getD 0 = m := ⟨_, rfl⟩
      have hmr := HR.out.2
      have c0 := HCW2.out.bl.cell (i := kk) (v := .int .i64 m) (by rw [iM_at _ _ hkl, hm])
      have f0 := HCW2.out.bl.fr (i := kk)
      rw [hm] at hcp3 hmr
      have wm : IntKind.i64.wrap (m + n) = m + n := wrap_id (by omega) (by omega)
      have HCP2 := Lib.hid hcp3
      have hset := HCW2.out.bl.set kk (by simp [iM, hkl]) (.int .i64 (m + n)) rfl
      rw [iM_set A kk _ hkl] at hset
      have hbook : ∃ iv, BookAt (W2.setCell ⟨m5 + 2, kk, none⟩ (.int .i64 (m + n))) bb base l2 400 iv ∧ InsAt (W2.setCell ⟨m5 + 2, kk, none⟩ (.int .i64 (m + n))) base iv L := by
        obtain ⟨iv2, ⟨sv2, k1, k2⟩, k3⟩ := HCW2.out.book
        have hty : ∃ cur, W2.heap[m5 + 2]? = some (.cells cur 103 (0, 0)) := ⟨_, HCW2.out.bl⟩
        exact ⟨iv2, ⟨sv2, k1.far (k1.ne HCW2.out.bl (by decide)), own_far k2 (own_ne k2 hty (by decide))⟩, own_far k3 (own_ne k3 hty (by decide))⟩
      have HX3 := Lib.hid (HX2.out.far (b' := m5 + 2) (i := kk) (u := .int .i64 (m + n)) (HX2.out.ne HCW2.out.bl (by decide)))
      have HCW3 : Hid (CW w bb base m5 (m5 + 1) (m5 + 2) (m5 + 3) l l2 L M P (A.set kk (m + n)) (W2.setCell ⟨m5 + 2, kk, none⟩ (.int .i64 (m + n)))) := Lib.hid ⟨hbook, HCW2.out.bm.far (by omega), HCW2.out.bp.far (by omega), hset, HCW2.out.bw.far (by omega), HCW2.out.below.setCell (by have := hB.c5; dsimp only; omega) _, by simpa using HCW2.out.base2⟩
      have hk0 : (0 : Int) ≤ (kk : Int) := by omega
      have hk1 : (kk : Int) < 2 := by omega
      clear hset hbook hcp3 hm
      go_wp2
      exact hQ.out _ _ _ _ _ _ _ _ _ _ _ _ _ _ _ _ _ _ _ _ _ _ _ _ _ _ _ _ _ _ _ _ _ _ _ _ _ _ _ _ _ _ _ _ _ _ _ _ _ _ _ _ _ _ _ _ _ _ _ _ _ _ _ _ _ _ _ _ _ _ _ _ _ _ _ _ _ _ _ _ _ _ _ _ _ _ _ _ _ _ _ _ _ _ _ _ _ _ _ _ _ _ _ _ _ _ HCS HCP2 HCW3 HX3
    · have HCP2 := Lib.hid (HC1.out he)
      have HCW3 := HCW2
      have HX3 := HX2
      go_wp2
      exact hQ.out _ _ _ _ _ _ _ _ _ _ _ _ _ _ _ _ _ _ _ _ _ _ _ _ _ _ _ _ _ _ _ _ _ _ _ _ _ _ _ _ _ _ _ _ _ _ _ _ _ _ _ _ _ _ _ _ _ _ _ _ _ _ _ _ _ _ _ _ _ _ _ _ _ _ _ _ _ _ _ _ _ _ _ _ _ _ _ _ _ _ _ _ _ _ _ _ _ _ _ _ _ _ _ _ _ _ HCS HCP2 HCW3 HX3
end Go.Proofs.Ytopnlcjbklmicaa
