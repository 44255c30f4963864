import Derived.Test.YtopnlcjbklmicaaK18
import Derived.Laws.CopyOwn
import Derived.WalkKit
import Derived.WalkSpells
import Derived.WalkLawsBesides
import Derived.Deep.QuietTactic
import Derived.BigQuiet
import Derived.Lib.Hide
import Derived.WalkSmall
import Derived.Maps.OwnSet
import Derived.Maps.RangeWalk
import Derived.Deep.RegionWith
import Derived.Deep.RegionHeld3
import Derived.Deep.DrawnRows
import Derived.Deep.DeepCutAuto
import Derived.OneCell
import Derived.KernelRfl
import Derived.Laws.StructEq
import Derived.StillTailTactics
import Derived.Laws.Externs
import Derived.RangeFuncBox
import Derived.Outline
import Derived.RangeFuncNested
import Derived.RangeFuncBound
import Derived.RangeFuncCalls
import Derived.RangeFuncLeaves
import Derived.Shelf.RegionOpen
import Derived.OwnWalkIn
import Derived.TacticsInMore
import Derived.LoopNIn
import Derived.LoopIn
import Derived.Test.YtopnlcjbklmicaaProg
namespace Go.Proofs.Ytopnlcjbklmicaa
open Go.RowKit Go.Maps Go.Shelf
set_option linter.unusedVariables false
set_option linter.unusedSimpArgs false
theorem wrapU {a : Int} (h1 : 0 ≤ a) (h2 : a ≤ 18446744073709551615) : IntKind.u64.wrap a = a := by
  unfold IntKind.wrap
  simp [IntKind.bits, IntKind.signed]
  omega
theorem and64 (z x : Nat) (hz : z < 18446744073709551616) (hx : x < 18446744073709551616) : bits BinOp.and IntKind.u64 (z : Int) (x : Int) = ((z &&& x : Nat) : Int) := by
  have h1 : z &&& x < 2 ^ 64 := Nat.lt_of_le_of_lt Nat.and_le_left (by omega)
  have e1 : z % 2 ^ 64 = z := Nat.mod_eq_of_lt (by omega)
  have e2 : x % 2 ^ 64 = x := Nat.mod_eq_of_lt (by omega)
  have h : bits BinOp.and IntKind.u64 (z : Int) (x : Int) = IntKind.u64.wrap (((BitVec.ofInt 64 (z : Int) &&& BitVec.ofInt 64 (x : Int)).toNat : Nat) : Int) := rfl
  rw [h, BitVec.ofInt_natCast, BitVec.ofInt_natCast, BitVec.toNat_and, BitVec.toNat_ofNat, BitVec.toNat_ofNat, e1, e2, wrapU (by omega) (by omega)]
theorem and_low (n : Nat) (h : n < 18446744073709551616) : bits BinOp.and IntKind.u64 (n : Int) 4294967295 = ((n % 4294967296 : Nat) : Int) := by
  have e := and64 n 4294967295 h (by decide)
  rw [show ((4294967295 : Nat) : Int) = 4294967295 from rfl] at e
  rw [e]
  congr 1
  rw [show (4294967295 : Nat) = 2 ^ 32 - 1 from rfl, Nat.and_two_pow_sub_one_eq_mod]
set_option maxHeartbeats 1000000 in
theorem mul64_one (n : Nat) (w : World) (hn : n ≤ 144) :
    Calls Try.prog 111 #[.int .u64 1, .int .u64 n] w fun e w' => e = .returned (.tuple #[.int .u64 0, .int .u64 n]) ∧ w' = w := by
  have h1 : bits BinOp.and IntKind.u64 1 4294967295 = 1 := and_low 1 (by decide)
  have h2 : bits BinOp.and IntKind.u64 0 4294967295 = 0 := and_low 0 (by decide)
  have h3 : bits BinOp.and IntKind.u64 (n : Int) 4294967295 = n := by rw [and_low n (by omega), Nat.mod_eq_of_lt (by omega)]
  have h4 : (n : Int) / 4294967296 = 0 := by omega
  have h5 : IntKind.u64.wrap (n : Int) = n := wrapU (by omega) (by omega)
  have h6 : IntKind.u64.wrap 0 = 0 := wrapU (by omega) (by omega)
  go_enter Try.func111, Try.ntmps111
  go_wp2
  refine bodyPost_ret (v := .tuple #[.int .u64 0, .int .u64 n]) ?_ rfl ⟨rfl, rfl⟩
  simp [results, Try.results111, go_sem]
set_option maxHeartbeats 1000000 in
theorem mul_one' (n : Nat) (w : World) (hn : n ≤ 144) :
    Calls Try.prog 108 #[.int .u64 1, .int .u64 n] w fun e w' => e = .returned (.tuple #[.int .u64 0, .int .u64 n]) ∧ w' = w := by
  go_enter Try.func108, Try.ntmps108
  go_wp2_with fail
  refine (mul64_one n _ hn).mono ?_
  rintro e w2 ⟨rfl, rfl⟩
  go_wp2
  refine bodyPost_ret (v := .tuple #[.int .u64 0, .int .u64 n]) ?_ rfl ⟨rfl, rfl⟩
  simp [results, Try.results108, go_sem]
/-- A copy of elements of z cells. -/
theorem run_copy_z {P : Program} (w : World) (dT sT ty elem : TypeId) (z g o dLen dCap : Nat) (a : Addr) (sLen sCap : Nat) (cur : Array Value) (t : TypeId) (cs : List Value)
    (hu : P.underlying dT = some (.slice elem)) (hs : (P.info? elem).map (·.size) = some z)
    (hg : w.heap[g]? = some (.cells cur t (0, 0))) (hn : cs.length = Nat.min sLen dLen * z)
    (hsrc : ∀ j v, cs[j]? = some v → w.cell? (a.add j) = some v) (hfit : o + cs.length ≤ cur.size) (h1 : ∀ v ∈ cs, v.oneCell' = true) :
    (Builtin.copy_ #[dT, sT] ty #[.slice (some ⟨g, o, none⟩) dLen dCap, .slice (some a) sLen sCap]).run P w =
      .ok (goInt (Nat.min sLen dLen)) (w.setRow g (cur.toList.take o ++ cs ++ cur.toList.drop (o + cs.length)).toArray) := by
  have hl := run_loadCells_list (P := P) w a cs hsrc
  have hst := run_storeCells_at P g o t cs 0 cur w hg (by simpa using hfit) h1
  cases hq : P.info? elem with
  | none => simp [hq] at hs
  | some i =>
    have hi : i.size = z := by simpa [hq] using hs
    simp [Builtin.copy_, run_underlying hu, Builtin.lenOf, Builtin.firstCells, sizeOf, typeInfo, hq, hi, ← hn, hl, hst]
/-- N loads, of which the first m weigh nothing, and the others aren't yet written. -/
def fillL (m N : Nat) : List Value := (List.replicate m [Value.int .i64 0, Value.int .i64 1]).flatten ++ (List.replicate (N - m) [Value.int .i64 0, Value.int .i64 0]).flatten
theorem rep_len (m : Nat) (a b : Value) : (List.replicate m [a, b]).flatten.length = m * 2 := by
  induction m with
  | zero => rfl
  | succ m ih => rw [List.replicate_succ, List.flatten_cons, List.length_append, ih]; simp; omega
theorem fillL_len {m N : Nat} (h : m ≤ N) : (fillL m N).length = N * 2 := by
  unfold fillL; rw [List.length_append, rep_len, rep_len]; omega
theorem rep_add (m n : Nat) (a b : Value) : (List.replicate (m + n) [a, b]).flatten = (List.replicate m [a, b]).flatten ++ (List.replicate n [a, b]).flatten := by
  rw [← List.replicate_append_replicate, List.flatten_append]
theorem fillL_step {m n N : Nat} (h : m + n ≤ N) : (fillL m N).take (m * 2) ++ (List.replicate n [Value.int .i64 0, Value.int .i64 1]).flatten ++ (fillL m N).drop (m * 2 + n * 2) = fillL (m + n) N := by
  have e1 : N - m = n + (N - (m + n)) := by omega
  unfold fillL
  rw [e1, rep_add n (N - (m + n)), rep_add m n]
  have h1 := rep_len m (Value.int .i64 0) (Value.int .i64 1)
  have h2 := rep_len n (Value.int .i64 0) (Value.int .i64 0)
  rw [List.take_append_of_le_length (by omega), List.take_of_length_le (by omega)]
  rw [← List.append_assoc, List.drop_append, List.drop_of_length_le (by rw [List.length_append]; omega), List.length_append, h1, h2]
  simp
theorem rep_get (m : Nat) (a b : Value) (rest : List Value) {j : Nat} {v : Value} (h : ((List.replicate m [a, b]).flatten)[j]? = some v) : ((List.replicate m [a, b]).flatten ++ rest)[j]? = some v := by
  rw [List.getElem?_append_left (List.getElem?_eq_some_iff.1 h).1]; exact h
theorem rep_one (m : Nat) : ∀ v ∈ (List.replicate m [Value.int .i64 0, Value.int .i64 1]).flatten, v.oneCell' = true := by
  intro v hv
  obtain ⟨l, hl, hv⟩ := List.mem_flatten.1 hv
  rw [List.eq_of_mem_replicate hl] at hv
  simp at hv
  rcases hv with rfl | rfl <;> rfl
theorem undLoads : Try.prog.underlying 78 = some (.slice 116) := by kernel_rfl
theorem infoLoad : (Try.prog.info? 116).map (·.size) = some 2 := by kernel_rfl
/-- The copy of what is there behind itself. -/
theorem step_fill {ops : Array Oper} {o : Oper} {a : Act} {w : World} {K : Act → World → Prop} {Q : Exit → Act → World → Prop} {E : Prop} (hgd : o.guard = none) (d s : Operand)
    (ho : o.op = .call { callee := .builtin .copy, args := #[d, s], argTypes := #[78, 78] }) (g m N c1 c2 : Nat) (hm : 1 ≤ m) (hmN : m < N)
    (hd : a.eval d = .slice (some ⟨g, m * 2, none⟩) (N - m) c1) (hs : a.eval s = .slice (some ⟨g, 0, none⟩) m c2)
    (hg : Blk w g (fillL m N).toArray 116) (B : Nat) (w0 : World) (hb : Below B w0 w) (hBg : B ≤ g)
    (h : ∀ w', Hid (Blk w' g (fillL (m + Nat.min m (N - m)) N).toArray 116) → Below B w0 w' → K (a.put o.dst (goInt ((Nat.min m (N - m) : Nat) : Int))) w') :
    if Region.wanted o (yielded ops a.tmps) = true then Oper.wp Try.prog o a w K Q else E := by
  have hw : Region.wanted o (yielded ops a.tmps) = true := by simp [Region.wanted, hgd]
  rw [if_pos hw]
  obtain ⟨n, hn⟩ : ∃ n, Nat.min m (N - m) = n := ⟨_, rfl⟩
  have hn1 : n ≤ m := by rw [← hn]; exact Nat.min_le_left _ _
  have hn2 : n ≤ N - m := by rw [← hn]; exact Nat.min_le_right _ _
  have hl : (List.replicate n [Value.int .i64 0, Value.int .i64 1]).flatten.length = Nat.min m (N - m) * 2 := by rw [rep_len, hn]
  have hrun := run_copy_z (P := Try.prog) w 78 78 o.type 116 2 g (m * 2) (N - m) c1 ⟨g, 0, none⟩ m c2 (fillL m N).toArray 116 _ undLoads infoLoad hg hl
    (fun j v hj => by
      have hj2 : j < n * 2 := by have := (List.getElem?_eq_some_iff.1 hj).1; rw [rep_len] at this; exact this
      have e : (⟨g, 0, none⟩ : Addr).add j = ⟨g, j, none⟩ := by unfold Addr.add; split <;> simp_all
      rw [e]
      refine hg.cell ?_
      have e2 : m = n + (m - n) := by omega
      have e3 : (fillL m N)[j]? = some v := by
        unfold fillL
        rw [e2, rep_add, List.append_assoc]
        exact rep_get _ _ _ _ hj
      simpa using e3)
    (by simp [rep_len]; rw [fillL_len (by omega)]; omega) (rep_one n)
  rw [hn] at hrun
  have hfs : ((fillL m N).toArray.toList.take (m * 2) ++ (List.replicate n [Value.int .i64 0, Value.int .i64 1]).flatten ++ (fillL m N).toArray.toList.drop (m * 2 + (List.replicate n [Value.int .i64 0, Value.int .i64 1]).flatten.length)).toArray = (fillL (m + n) N).toArray := by
    rw [rep_len, List.toList_toArray, fillL_step (by omega)]
  rw [hfs] at hrun
  rw [hn] at h
  unfold Oper.wp
  simp [execOp, ho, resolve, invoke, builtin, hd, hs, hrun, Result.andThen]
  exact h _ (setRow_heap w g _ _ _ _ hg) (below_setRow hb hBg _)
theorem fill_first {ops : Array Oper} {rest : List Oper} {o : Oper} {a : Act} {w : World} {Q : Exit → Act → World → Prop} (hgd : o.guard = none) (d s : Operand)
    (ho : o.op = .call { callee := .builtin .copy, args := #[d, s], argTypes := #[78, 78] }) (g bx N c1 c2 : Nat) (hN : 1 ≤ N)
    (hd : a.eval d = .slice (some ⟨g, 0, none⟩) N c1) (hs : a.eval s = .slice (some ⟨bx, 0, none⟩) 1 c2)
    (hg : Blk w g (fillL 0 N).toArray 116) (hx : w.cell? ⟨bx, 0, none⟩ = some (.int .i64 0) ∧ w.cell? ⟨bx, 1, none⟩ = some (.int .i64 1)) (B : Nat) (w0 : World) (hb : Below B w0 w) (hBg : B ≤ g)
    (h : ∀ w', Hid (Blk w' g (fillL 1 N).toArray 116) → Below B w0 w' → wpList Try.prog ops Q rest (a.put o.dst (goInt 1)) w') :
    wpList Try.prog ops Q (o :: rest) a w := by
  refine wpList_plain hgd fun K hK => ?_
  have hmin : Nat.min 1 N = 1 := Nat.min_eq_left hN
  have hrun := run_copy_z (P := Try.prog) w 78 78 o.type 116 2 g 0 N c1 ⟨bx, 0, none⟩ 1 c2 (fillL 0 N).toArray 116 (List.replicate 1 [Value.int .i64 0, Value.int .i64 1]).flatten undLoads infoLoad hg (by rw [rep_len, hmin])
    (fun j v hj => by
      have hj2 : j < 2 := by have := (List.getElem?_eq_some_iff.1 hj).1; rw [rep_len] at this; exact this
      match j, hj2 with
      | 0, _ => simp at hj; subst hj; exact hx.1
      | 1, _ => simp at hj; subst hj; exact hx.2)
    (by simp; rw [fillL_len (by omega)]; omega) (rep_one 1)
  rw [hmin] at hrun
  have hfs : ((fillL 0 N).toArray.toList.take 0 ++ (List.replicate 1 [Value.int .i64 0, Value.int .i64 1]).flatten ++ (fillL 0 N).toArray.toList.drop (0 + (List.replicate 1 [Value.int .i64 0, Value.int .i64 1]).flatten.length)).toArray = (fillL 1 N).toArray := by
    have := fillL_step (m := 0) (n := 1) (N := N) (by omega)
    rw [rep_len, List.toList_toArray]
    simpa using this
  rw [hfs] at hrun
  unfold Oper.wp
  simp [execOp, ho, resolve, invoke, builtin, hd, hs, hrun, Result.andThen]
  exact hK _ _ (h _ (setRow_heap w g _ _ _ _ hg) (below_setRow hb hBg _))
theorem rep_same (N : Nat) (a : Value) : (List.replicate N [a, a]).flatten = List.replicate (N * 2) a := by
  induction N with
  | zero => rfl
  | succ N ih => rw [List.replicate_succ, List.flatten_cons, ih, show (N + 1) * 2 = N * 2 + 1 + 1 by omega, List.replicate_succ, List.replicate_succ]; rfl
theorem infoLoad3 : (Try.prog.info? 116).map (fun i => (i.zero, i.size, i.bytes)) = some (some (.agg #[.int .i64 0, .int .i64 0]), 2, 16) := by kernel_rfl
theorem made_fill (N : Nat) : madeCells #[Value.int .i64 0, Value.int .i64 0] (N * 2) = (fillL 0 N).toArray := by
  unfold fillL
  rw [Nat.sub_zero, rep_same]
  simp only [List.replicate_zero, List.flatten_nil, List.nil_append]
  apply Array.ext
  · simp [madeCells]
  · intro i h1 h2
    have h3 : i % 2 = 0 ∨ i % 2 = 1 := by omega
    rcases h3 with h | h <;> simp [madeCells, h]
theorem make_fill (N : Nat) (w : World) (hN : N ≤ 144) : (Instr.makeSlice 78 (.int .i64 N) (.int .i64 N)).run Try.prog w = .ok (.slice (some ⟨w.heap.size, 0, none⟩) N N) (w.alloc (.cells (fillL 0 N).toArray 116)) := by
  obtain ⟨i0, hi, hz0, hz1, hz2⟩ := info_parts infoLoad3
  have h := run_makeSlice (P := Try.prog) (w := w) 78 116 i0 _ undLoads hi hz0 .i64 .i64 (N : Int) (N : Int) (by omega) (Int.le_refl _) (by rw [hz1]; simp; omega) (by rw [hz2]; omega) (by omega)
  rw [hz1] at h
  rw [show (Value.agg #[Value.int .i64 0, Value.int .i64 0]).cells = #[Value.int .i64 0, Value.int .i64 0] from rfl] at h
  simpa [made_fill] using h
set_option maxRecDepth 100000 in
set_option maxHeartbeats 4000000 in
theorem repeat_any (bx N : Nat) (w : World) (hN : 1 ≤ N) (hN1 : N ≤ 144) (hx : Blk w bx #[.int .i64 0, .int .i64 1] 116) :
    Calls Try.prog 105 #[.slice (some ⟨bx, 0, none⟩) 1 1, .int .i64 N] w fun e w' => ∃ g, e = .returned (.slice (some ⟨g, 0, none⟩) N N) ∧ Blk w' g (fillL N N).toArray 116 ∧ w.heap.size ≤ g ∧ Below w.heap.size w w' := by
  have x0 := hx.cell (i := 0) (v := .int .i64 0) rfl
  have x1 := hx.cell (i := 1) (v := .int .i64 1) rfl
  have hni : (0 : Int) ≤ (N : Int) := by omega
  have hu : IntKind.u64.wrap (N : Int) = N := wrapU (by omega) (by omega)
  have hw : IntKind.i64.wrap (N : Int) = N := wrap_id (by omega) (by omega)
  go_enter Try.func105, Try.ntmps105
  go_wp2_with fail
  refine (mul_one' N _ hN1).mono ?_
  rintro e w2 ⟨rfl, rfl⟩
  have hmk := make_fill N w2 hN1
  have G0 := Blk.new w2 (fillL 0 N).toArray 116
  have B0 := (Below.refl _ w2).alloc (Nat.le_refl _) (.cells (fillL 0 N).toArray 116)
  have X0 := hx.alloc (.cells (fillL 0 N).toArray 116)
  have hN2 : (N : Int) ≤ 144 := by omega
  obtain ⟨g, hg⟩ : ∃ g, w2.heap.size = g := ⟨_, rfl⟩
  rw [hg] at G0 hmk
  have HG := Lib.hid G0
  have HB := Lib.hid B0
  have HXC := Lib.hid (And.intro (X0.cell (i := 0) (v := .int .i64 0) rfl) (X0.cell (i := 1) (v := .int .i64 1) rfl))
  have HGW : Hid (w2.heap.size ≤ g) := Lib.hid (by omega)
  clear G0 B0 X0 x0 x1
  go_wp2_with (refine fill_first rfl _ _ rfl g bx N _ _ hN rfl rfl HG.out HXC.out w2.heap.size w2 HB.out HGW.out ?_; intro w3 hg3 hb3)
  have HG3 := hg3
  have HB3 := Lib.hid hb3
  clear hg3 hb3 hmk HG HB HXC hx
  go_loopw [8] (fun x wr => ∃ m : Nat, x = .int .i64 m ∧ 1 ≤ m ∧ m ≤ N ∧ Hid (Blk wr g (fillL m N).toArray 116) ∧ Hid (Below w2.heap.size w2 wr)) (fun x _ => N - (intOf x).toNat)
  case atStart => exact ⟨1, rfl, Nat.le_refl _, hN, HG3, HB3⟩
  case round =>
    obtain ⟨m, rfl, hm1, hm2, HG4, HB4⟩ := hrel
    by_cases hlt : m < N
    · have hNm : ¬ N = m := by omega
      have hi1 : (0 : Int) ≤ (m : Int) := by omega
      have hi2 : (m : Int) ≤ (N : Int) := by omega
      have hi3 : (m : Int) < (N : Int) := by omega
      obtain ⟨n, hn⟩ : ∃ n, Nat.min m (N - m) = n := ⟨_, rfl⟩
      have hn0 : 1 ≤ n := by rw [← hn]; exact Nat.le_min.2 ⟨hm1, by omega⟩
      have hn2 : n ≤ N - m := by rw [← hn]; exact Nat.min_le_right _ _
      have hwn : IntKind.i64.wrap ((m : Int) + (n : Int)) = (m : Int) + (n : Int) := wrap_id (by omega) (by omega)
      have HN := Lib.hid hn
      go_wp2
      go_region_law ((refine step_fill rfl (.tmp 41) (.tmp 44) rfl g m N (N - m) N hm1 hlt ?_ ?_ ?_ w2.heap.size w2 ?_ HGW.out ?_; (go_simp); (go_simp); (first | with_reducible exact HG4.out | with_reducible exact HG4.out.drew); (first | with_reducible exact HB4.out | with_reducible exact HB4.out.drew); (intro w4 hg4 hb4)))
      all_goals
        have hg5 : Hid (Blk w4 g (fillL (m + n) N).toArray 116) := by rw [← HN.out]; exact hg4
        have HB5 := Lib.hid hb4
        clear hg4 hb4
        go_simp
        refine ⟨⟨_, _, _, _, _, _, _, _, _, _, _, _, _, _, ⟨m + n, ?_, by omega, by omega, hg5, HB5⟩, rfl⟩, ?_⟩
        · go_num
        · simp [intOf]; omega
    · have hke : m = N := by omega
      subst hke
      go_wp2
      go_ret
      exact ⟨g, rfl, HG4.out, HGW.out, HB4.out⟩
end Go.Proofs.Ytopnlcjbklmicaa
