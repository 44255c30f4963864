import Derived.Test.YtopnlcjbklmicaaK34
import Derived.Test.YtopnlcjbklmicaaRows
import Derived.WalkKit
import Derived.ProofKit
import Derived.OpenShut
import Derived.Deep.DeepHandedRow
import Derived.Deep.SlicePairs
import Derived.Lib.SmallJoins
import Derived.Stop.LaidErr
import Derived.MakeChecks
import Derived.Lay
namespace Go.Proofs.Ytopnlcjbklmicaa
open Go.ChangeMaps Go.MakeChecks Go.ChangeShapes Go.WideShapes Go.ChangeAt Go.RowKit Go.Deep Go.Joins
set_option linter.unusedVariables false
set_option linter.unusedSimpArgs false
theorem laidOutP : laidOutB Try.prog = true := by kernel_rfl
theorem ownP : ownKnob Try.prog.godebug = none := by kernel_rfl
section
variable {H : Type} {enc : TypeId × Value → H} {W : World}
theorem int_of_trod {n : Nat} {v : Value} {d : DataW H} {p : List MemPlace} (h : DataW.trod enc Try.prog W 0 (fun _ => true) true n 3 [v] = some (d, p)) : v = .int .i64 (intOf v) := by
  obtain ⟨k, hc, _, _⟩ := DataW.trod_int Try.underlying3 h
  obtain rfl : v = .int .i64 k := by simpa using hc
  rfl
set_option maxRecDepth 100000 in
theorem int_open {b0 : Nat} {v : Value} {d : DataW H} {p : List MemPlace} (hv : Value.okWide Try.prog W .any b0 3 v) (h : DataW.Trod enc Try.prog W 0 (fun _ => true) true 3 v d p) : ∃ n, v = .int .i64 n := by
  obtain ⟨n, rfl, _⟩ := open_int Try.underlying3 hv h
  exact ⟨n, rfl⟩
set_option maxRecDepth 100000 in
theorem spread_open {b0 : Nat} {v : Value} {d : DataW H} {p : List MemPlace} (hv : Value.okWide Try.prog W .any b0 23 v) (h : DataW.Trod enc Try.prog W 0 (fun _ => true) true 23 v d p) : ∃ a b, v = .agg #[.int .i64 a, .int .i64 b] := by
  obtain ⟨c0, c1, y0, y1, n, rfl, _, _, t0, t1⟩ := open_agg2 Try.underlying23 (by kernel_rfl) (by kernel_rfl) hv h
  exact ⟨intOf c0, intOf c1, by rw [← int_of_trod (v := c0) t0, ← int_of_trod (v := c1) t1]⟩
set_option maxRecDepth 100000 in
theorem clay_open {b0 : Nat} {v : Value} {d : DataW H} {p : List MemPlace} (hv : Value.okWide Try.prog W .any b0 25 v) (h : DataW.Trod enc Try.prog W 0 (fun _ => true) true 25 v d p) : ∃ a b c e, v = .agg #[.int .i64 a, .int .i64 b, .int .i64 c, .int .i64 e] := by
  obtain ⟨cs, rfl, hsz⟩ := okWide_struct Try.underlying25 hv
  obtain ⟨c0, c1, c2, c3, rfl⟩ := array4 (hsz.trans (by kernel_rfl))
  obtain ⟨fuel, hf⟩ := h
  have hcl : Try.prog.cellsOf 23 = 2 := by kernel_rfl
  obtain ⟨xs, n, _, hx, _, hlen, hall⟩ := DataW.trod_struct Try.underlying25 hf
  have h0 := hall 0 _ rfl
  have h1 := hall 1 _ rfl
  have hl2 : xs.length = 2 := hlen
  rw [List.getElem?_eq_getElem (by omega)] at h0 h1
  simp only [Value.cells, hcl] at h0 h1
  obtain ⟨zs, m, _, _, _, hzl, hz⟩ := DataW.trod_struct Try.underlying23 h0
  obtain ⟨us, m', _, _, _, hul, hu⟩ := DataW.trod_struct Try.underlying23 h1
  have hzl2 : zs.length = 2 := hzl
  have hul2 : us.length = 2 := hul
  have hi : Try.prog.cellsOf 3 = 1 := by kernel_rfl
  have a0 := hz 0 _ rfl
  have a1 := hz 1 _ rfl
  have a2 := hu 0 _ rfl
  have a3 := hu 1 _ rfl
  rw [List.getElem?_eq_getElem (by omega)] at a0 a1 a2 a3
  have e0 := int_of_trod (v := c0) (d := zs[0].1) (p := zs[0].2) (by simpa [hi, hcl] using a0)
  have e1 := int_of_trod (v := c1) (d := zs[1].1) (p := zs[1].2) (by simpa [hi, hcl] using a1)
  have e2 := int_of_trod (v := c2) (d := us[0].1) (p := us[0].2) (by simpa [hi, hcl] using a2)
  have e3 := int_of_trod (v := c3) (d := us[1].1) (p := us[1].2) (by simpa [hi, hcl] using a3)
  exact ⟨intOf c0, intOf c1, intOf c2, intOf c3, by rw [← e0, ← e1, ← e2, ← e3]⟩
end
end Go.Proofs.Ytopnlcjbklmicaa
