/-
  THE LAW KilnBooks, FOR EVERY LIST OF SPACES, EVERY ROOM AND EVERY LIST OF CALLS: it returns true, and its arguments read as they did. No condition.
-/
import Derived.Test.YtopnlcjbklmicaaMB9
import Derived.Laws.IdiomArrays
import Derived.Test.YtopnlcjbklmicaaRows
import Derived.WalkKit
import Derived.ProofKit
import Derived.OpenShut
import Derived.Deep.DeepHandedRow
import Derived.Deep.SlicePairs
import Derived.Lib.SmallJoins
import Derived.Stop.LaidErr
import Derived.MakeChecks
import Derived.Lay
namespace Go.Proofs.Ytopnlcjbklmicaa
open Go.ChangeMaps Go.MakeChecks Go.ChangeShapes Go.WideShapes Go.ChangeAt Go.RowKit Go.Deep Go.Joins
set_option linter.unusedVariables false
set_option linter.unusedSimpArgs false
theorem laidOutP : laidOutB Try.prog = true := by kernel_rfl
theorem ownP : ownKnob Try.prog.godebug = none := by kernel_rfl
section
variable {H : Type} {enc : TypeId × Value → H} {W : World}
theorem int_of_trod {n : Nat} {v : Value} {d : DataW H} {p : List MemPlace} (h : DataW.trod enc Try.prog W 0 (fun _ => true) true n 3 [v] = some (d, p)) : v = .int .i64 (intOf v) := by
  obtain ⟨k, hc, _, _⟩ := DataW.trod_int Try.underlying3 h
  obtain rfl : v = .int .i64 k := by simpa using hc
  rfl
set_option maxRecDepth 100000 in
theorem int_open {b0 : Nat} {v : Value} {d : DataW H} {p : List MemPlace} (hv : Value.okWide Try.prog W .any b0 3 v) (h : DataW.Trod enc Try.prog W 0 (fun _ => true) true 3 v d p) : ∃ n, v = .int .i64 n := by
  obtain ⟨n, rfl, _⟩ := open_int Try.underlying3 hv h
  exact ⟨n, rfl⟩
set_option maxRecDepth 100000 in
theorem spread_open {b0 : Nat} {v : Value} {d : DataW H} {p : List MemPlace} (hv : Value.okWide Try.prog W .any b0 23 v) (h : DataW.Trod enc Try.prog W 0 (fun _ => true) true 23 v d p) : ∃ a b, v = .agg #[.int .i64 a, .int .i64 b] := by
  obtain ⟨c0, c1, y0, y1, n, rfl, _, _, t0, t1⟩ := open_agg2 Try.underlying23 (by kernel_rfl) (by kernel_rfl) hv h
  exact ⟨intOf c0, intOf c1, by rw [← int_of_trod (v := c0) t0, ← int_of_trod (v := c1) t1]⟩
set_option maxRecDepth 100000 in
theorem clay_open {b0 : Nat} {v : Value} {d : DataW H} {p : List MemPlace} (hv : Value.okWide Try.prog W .any b0 25 v) (h : DataW.Trod enc Try.prog W 0 (fun _ => true) true 25 v d p) : ∃ a b c e, v = .agg #[.int .i64 a, .int .i64 b, .int .i64 c, .int .i64 e] := by
  obtain ⟨cs, rfl, hsz⟩ := okWide_struct Try.underlying25 hv
  obtain ⟨c0, c1, c2, c3, rfl⟩ := array4 (hsz.trans (by kernel_rfl))
  obtain ⟨fuel, hf⟩ := h
  have hcl : Try.prog.cellsOf 23 = 2 := by kernel_rfl
  obtain ⟨xs, n, _, hx, _, hlen, hall⟩ := DataW.trod_struct Try.underlying25 hf
  have h0 := hall 0 _ rfl
  have h1 := hall 1 _ rfl
  have hl2 : xs.length = 2 := hlen
  rw [List.getElem?_eq_getElem (by omega)] at h0 h1
  simp only [Value.cells, hcl] at h0 h1
  obtain ⟨zs, m, _, _, _, hzl, hz⟩ := DataW.trod_struct Try.underlying23 h0
  obtain ⟨us, m', _, _, _, hul, hu⟩ := DataW.trod_struct Try.underlying23 h1
  have hzl2 : zs.length = 2 := hzl
  have hul2 : us.length = 2 := hul
  have hi : Try.prog.cellsOf 3 = 1 := by kernel_rfl
  have a0 := hz 0 _ rfl
  have a1 := hz 1 _ rfl
  have a2 := hu 0 _ rfl
  have a3 := hu 1 _ rfl
  rw [List.getElem?_eq_getElem (by omega)] at a0 a1 a2 a3
  have e0 := int_of_trod (v := c0) (d := zs[0].1) (p := zs[0].2) (by simpa [hi, hcl] using a0)
  have e1 := int_of_trod (v := c1) (d := zs[1].1) (p := zs[1].2) (by simpa [hi, hcl] using a1)
  have e2 := int_of_trod (v := c2) (d := us[0].1) (p := us[0].2) (by simpa [hi, hcl] using a2)
  have e3 := int_of_trod (v := c3) (d := us[1].1) (p := us[1].2) (by simpa [hi, hcl] using a3)
  exact ⟨intOf c0, intOf c1, intOf c2, intOf c3, by rw [← e0, ← e1, ← e2, ← e3]⟩
end
structure CallT where
  m : Int
  k : Int
  n : Int
  b : Int
  bs : BatL
  br : List Int
def CallT.zero : CallT := ⟨0, 0, 0, 0, [], []⟩
def CallT.at (w : World) (b off : Nat) (c : CallT) : Prop :=
  w.cell? ⟨b, off, none⟩ = some (.int .i64 c.m) ∧ w.cell? ⟨b, off + 1, none⟩ = some (.int .i64 c.k) ∧ w.cell? ⟨b, off + 2, none⟩ = some (.int .i64 c.n) ∧ w.cell? ⟨b, off + 3, none⟩ = some (.int .i64 c.b) ∧
    ∃ vb vl, w.cell? ⟨b, off + 4, none⟩ = some vb ∧ w.cell? ⟨b, off + 5, none⟩ = some vl ∧ SrcB w vb c.bs ∧ SrcI w vl c.br
/-- A slice of calls that came in. -/
def SrcC (w : World) (v : Value) (cs : List CallT) : Prop :=
  ∃ a cap, v = .slice a cs.length cap ∧ cs.length ≤ 4398046511104 ∧ ∀ i, i < cs.length → ∃ b off, a = some ⟨b, off, none⟩ ∧ b < w.heap.size ∧ CallT.at w b (off + i * 6) (cs[i]?.getD CallT.zero)
theorem CallT.at.past {w w' : World} {b off : Nat} {c : CallT} (h : CallT.at w b off c) (hlt : b < w.heap.size) (hb : Below w.heap.size w w') : CallT.at w' b off c := by
  obtain ⟨h1, h2, h3, h4, vb, vl, h5, h6, h7, h8⟩ := h
  exact ⟨(hb.cell (p := ⟨b, _, none⟩) hlt).trans h1, (hb.cell (p := ⟨b, _, none⟩) hlt).trans h2, (hb.cell (p := ⟨b, _, none⟩) hlt).trans h3, (hb.cell (p := ⟨b, _, none⟩) hlt).trans h4, vb, vl,
    (hb.cell (p := ⟨b, _, none⟩) hlt).trans h5, (hb.cell (p := ⟨b, _, none⟩) hlt).trans h6, h7.past hb, h8.past hb⟩
theorem SrcC.past {w w' : World} {v : Value} {cs : List CallT} (h : SrcC w v cs) (hb : Below w.heap.size w w') : SrcC w' v cs := by
  obtain ⟨a, cap, hv, hl, h⟩ := h
  refine ⟨a, cap, hv, hl, fun i hi => ?_⟩
  obtain ⟨b, off, ha, hlt, hc⟩ := h i hi
  exact ⟨b, off, ha, Nat.lt_of_lt_of_le hlt hb.size, hc.past hlt hb⟩
theorem BookTo2.row {w w' : World} {bb base b0 z n : Nat} {r : Int × List St × BatL} {l : List St} {room : Int} {iv v : Value} {e : Ending} {T : TypeId} {xs : List Value} (h : BookTo2 w bb base r room e w') (hk : BookAt w bb base l room iv) (hr : w.ownsRow b0 T z v n xs) (hT : T ≠ 133) (hT2 : T ≠ 131) : w'.ownsRow b0 T z v n xs := by
  obtain ⟨h1, h2 | ⟨g, cap, cur, h3, h4, h5, h6⟩⟩ := hr
  · exact ⟨h1, .inl h2⟩
  · exact ⟨h1, .inr ⟨g, cap, cur, h3, h4, h.keep (b := g) hk h5 hT hT2, h6⟩⟩
theorem coF_space {l : List St} {L : BatL} {k n : Int} {g : St → Int × St} {dm dl : Int} (h : BInv l L) (hd : inB n 0 1000000000 = true → Does g dm dl) : (coF l k n g).2.map St.space = l.map St.space := by
  unfold coF
  split
  · rfl
  · next h1 =>
    split
    · rfl
    · next h2 =>
      split
      · rfl
      · next h3 =>
        have hk := kind_nat (n := l.length) (by simpa using h1)
        have he : chF (g (l[k.toNat]?.getD St.zero)) = ((chF (g (l[k.toNat]?.getD St.zero))).1, 0) := by
          rw [← show (chF (g (l[k.toNat]?.getD St.zero))).2 = 0 by omega]
        obtain ⟨_, _, _, _, _, g6⟩ := hd (by simpa using h2) _ _ (h.good _ hk.1) he
        exact space_set hk.1 g6
where
  space_set {l : List St} {k : Nat} {s : St} (hk : k < l.length) (hs : s.space = (l[k]?.getD St.zero).space) : (l.set k s).map St.space = l.map St.space := by
    apply List.ext_getElem?
    intro i
    rw [List.getElem?_map, List.getElem?_map, List.getElem?_set]
    by_cases hi : k = i
    · subst hi; rw [if_pos rfl, if_pos hk]; simp [hk] at hs ⊢; exact hs
    · rw [if_neg hi]
theorem fill_space : ∀ (bs : BatL) (seen : List Int) (l : List St) (sp : Int), (fillF bs seen l sp).1 = 0 → (fillF bs seen l sp).2.1.map St.space = l.map St.space
  | [], seen, l, sp, _ => rfl
  | p :: bs, seen, l, sp, h0 => by
    unfold fillF at h0 ⊢
    split at h0
    · simp at h0
    · next a1 =>
      rw [if_neg a1]
      split at h0
      · simp at h0
      · next a2 =>
        rw [if_neg a2]
        split at h0
        · simp at h0
        · next a3 =>
          rw [if_neg a3]
          split at h0
          · next a4 => exact absurd h0 a4
          · next a4 =>
            rw [if_neg a4]
            have hk := kind_nat (n := l.length) (by simpa using a1)
            have he : chF (burnF p.2 (l[p.1.toNat]?.getD St.zero)) = ((chF (burnF p.2 (l[p.1.toNat]?.getD St.zero))).1, 0) := by
              rw [← show (chF (burnF p.2 (l[p.1.toNat]?.getD St.zero))).2 = 0 by simpa using a4]
            have h5 := (chF_ok he).2.1
            rw [fill_space bs _ _ _ h0]
            exact coF_space.space_set hk.1 (by rw [h5]; rfl)
theorem drawn_space : ∀ (xs : List ((Int × Int) × Int)) (l : List St), (∀ x ∈ xs, inB x.1.1 0 ((l.length : Int) - 1) = true) → (drawn xs l).map St.space = l.map St.space
  | [], l, _ => rfl
  | x :: xs, l, h => by
    have hk := kind_nat (h x (by simp))
    rw [drawn, drawn_space xs _ (fun y hy => by rw [List.length_set]; exact h y (by simp [hy]))]
    exact coF_space.space_set hk.1 rfl
/-- What holds of the stores while calls are made. -/
structure LG (space : List Int) (l : List St) (L : BatL) : Prop where
  inv : BInv l L
  len : l.length = space.length
  few : L.length ≤ 1000
  sp : space = l.map St.space
theorem fireF_cases (room : Int) (l : List St) (L bs : BatL) : (fireF room l L bs).2 = (l, L) ∨ ((fillF bs [] l 0).1 = 0 ∧ (fireF room l L bs).2 = ((fillF bs [] l 0).2.1, bs)) := by
  unfold fireF
  split
  · exact .inl rfl
  · split
    · exact .inl rfl
    · split
      · exact .inl rfl
      · split
        · exact .inl rfl
        · next h =>
          split
          · exact .inl rfl
          · exact .inr ⟨by simpa using h, rfl⟩
theorem drawF_cases (l : List St) (L : BatL) (br : List Int) : (drawF l L br).2 = (l, L) ∨ (drawF l L br).2 = (drawn (L.zip br) l, []) := by
  unfold drawF
  split
  · exact .inl rfl
  · split
    · exact .inl rfl
    · split
      · exact .inl rfl
      · exact .inr rfl
theorem LG.co {space : List Int} {l : List St} {L : BatL} {k n : Int} {g : St → Int × St} {dm dl : Int} (h : LG space l L) (hd : inB n 0 1000000000 = true → Does g dm dl) : LG space (coF l k n g).2 L :=
  ⟨h.inv.co hd, by rw [coF_len]; exact h.len, h.few, by rw [coF_space h.inv hd]; exact h.sp⟩
theorem LG.step {space : List Int} {l : List St} {L : BatL} (h : LG space l L) (room m k n b : Int) (bs : BatL) (br : List Int) (hbs : bs.length ≤ 1000) : LG space (stepF room l L m k n b bs br).2.1 (stepF room l L m k n b bs br).2.2 := by
  unfold stepF
  split
  · exact h.co fun hn => mould_does (inB_parts hn).1
  · split
    · exact h.co fun hn => dry_does (inB_parts hn).1
    · split
      · have hi := fire_inv (room := room) (bs := bs) h.inv
        rcases fireF_cases room l L bs with e | ⟨e0, e⟩
        · rw [e]; exact h
        · rw [e] at hi ⊢
          have hs := fill_space bs [] l 0 e0
          exact ⟨hi, by have := congrArg List.length hs; simp at this; rw [this]; exact h.len, hbs, by rw [hs]; exact h.sp⟩
      · split
        · have hi := draw_inv (br := br) h.inv
          rcases drawF_cases l L br with e | e
          · rw [e]; exact h
          · rw [e] at hi ⊢
            have hs := drawn_space (L.zip br) l (fun x hx => h.inv.kind x.1 (List.of_mem_zip hx).1)
            exact ⟨hi, by rw [drawn_len]; exact h.len, by simp, by rw [hs]; exact h.sp⟩
        · split
          · exact h.co fun hn => lay_does (inB_parts hn).1
          · split
            · exact h.co fun hn => break_does (inB_parts hn).1
            · exact h.co fun hn => replace_does (inB_parts hn).1
theorem LG.new {space : List Int} {room : Int} (h : newF space room = true) : LG space (space.map mkSt) [] := by
  unfold newF at h
  rw [Bool.and_eq_true, Bool.and_eq_true] at h
  have ha := List.all_eq_true.1 h.1.2
  refine ⟨⟨fun i hi => ?_, fun i hi => ?_, by simp, by simp, by simp, fun i hi _ => ?_⟩, by simp, by simp, ?_⟩
  · have hi' : i < space.length := by simpa using hi
    simp [hi', mkSt, St.Good, St.Ok, St.all]
  · have hi' : i < space.length := by simpa using hi
    have := inB_parts (ha _ (List.getElem_mem hi'))
    simp [hi', mkSt]; exact this
  · have hi' : i < space.length := by simpa using hi
    simp [hi', mkSt]
  · rw [List.map_map]
    exact (List.map_id' space).symm
/-- What lies while the law goes on. -/
structure BW (w : World) (bb base1 wb base2 : Nat) (room : Int) (space : List Int) (ps : Option Addr) (csz : Nat) (l : List St) (L : BatL) (W : World) : Prop where
  book : ∃ iv, BookAt W bb base1 l room iv ∧ InsAt W base1 iv L
  ref : ∃ gw cw pb cb, Blk W wb #[.bool false, .slice ps space.length csz, .int .i64 room, .slice (some ⟨gw, 0, none⟩) l.length cw, .slice pb L.length cb] 56 ∧ RefAt W base2 space l L ps csz gw cw pb cb
  below : Below w.heap.size w W
  b1 : base1 ≤ W.heap.size
  b2 : base2 ≤ W.heap.size
theorem SrcC.at {w : World} {a : Option Addr} {n cap : Nat} {cs : List CallT} (h : SrcC w (.slice a n cap) cs) {i : Nat} (hi : i < cs.length) : ∃ b off, a = some ⟨b, off, none⟩ ∧ b < w.heap.size ∧ CallT.at w b (off + i * 6) (cs[i]?.getD CallT.zero) := by
  obtain ⟨a', cap', hv, _, h⟩ := h
  simp only [Value.slice.injEq] at hv
  obtain ⟨b, off, ha, h2⟩ := h i hi
  exact ⟨b, off, hv.1.trans ha, h2⟩
theorem BookAt.far5 {W : World} {bb base b : Nat} {l : List St} {room : Int} {iv : Value} {vs : Array Value} {T : TypeId} (h : BookAt W bb base l room iv) (hb : Blk W b vs T) (hT : T ≠ 133) (hT2 : T ≠ 131) (y0 y1 y2 y3 y4 : Value) : BookAt (((((W.setCell ⟨b, 0, none⟩ y0).setCell ⟨b, 1, none⟩ y1).setCell ⟨b, 2, none⟩ y2).setCell ⟨b, 3, none⟩ y3).setCell ⟨b, 4, none⟩ y4) bb base l room iv := by
  obtain ⟨sv, h1, h2⟩ := h
  have hne : bb ≠ b := fun e => by
    subst e
    have h3 := h1.symm.trans hb
    simp at h3
    exact hT2 h3.2.symm
  exact ⟨sv, blk_f5 h1 hne y0 y1 y2 y3 y4, own_set5 h2 (own_ne h2 ⟨_, hb⟩ (Ne.symm hT)) y0 y1 y2 y3 y4⟩
set_option maxRecDepth 100000 in
set_option maxHeartbeats 16000000 in
theorem books_any (v lv : Value) (space : List Int) (room : Int) (cs : List CallT) (w : World) (hs : SrcI w v space) (hc : SrcC w lv cs) :
    Calls Try.prog 5 #[v, .int .i64 room, lv] w fun e w' => e = .returned (.bool true) ∧ Below w.heap.size w w' := by
  obtain ⟨av, capv, rfl⟩ := hs.shape
  obtain ⟨ac, capc, rfl⟩ : ∃ a c, lv = .slice a cs.length c := by obtain ⟨a, c, h, _⟩ := hc; exact ⟨a, c, h⟩
  have HS := Lib.hid hs
  have HC := Lib.hid hc
  have HK := Lib.hid known_any
  clear hs hc
  go_enter Try.func5, Try.ntmps5
  by_cases h25 : 25 < space.length
  · have h25i : (25 : Int) < (space.length : Int) := by omega
    go_wp2_with fail
    refine (HK.out _).mono ?_
    rintro e w99 ⟨rfl, hb99⟩
    have HB99 := Lib.hid (hb99)
    clear hb99
    go_wp2
    go_ret
    exact ⟨rfl, HB99.out⟩
  have h25i : ¬ ((25 : Int) < (space.length : Int)) := by omega
  by_cases h60 : 60 < cs.length
  · have h60i : (60 : Int) < (cs.length : Int) := by omega
    go_wp2_with fail
    refine (HK.out _).mono ?_
    rintro e w99 ⟨rfl, hb99⟩
    have HB99 := Lib.hid (hb99)
    clear hb99
    go_wp2
    go_ret
    exact ⟨rfl, HB99.out⟩
  have h60i : ¬ ((60 : Int) < (cs.length : Int)) := by omega
  go_wp2
  clear h25i h60i
  go_loopw [7] (fun i wr => wr = w ∧ ∃ k : Nat, k ≤ cs.length ∧ i = .int .i64 k ∧ Hid (∀ j, j < k → (cs[j]?.getD CallT.zero).bs.length ≤ 25 ∧ (cs[j]?.getD CallT.zero).br.length ≤ 25)) (fun i _ => cs.length - (intOf i).toNat)
  case atStart => exact ⟨rfl, 0, Nat.zero_le _, rfl, Lib.hid (fun j hj => by omega)⟩
  case round =>
    obtain ⟨hwr, k, hk, rfl, HA⟩ := hrel
    subst wr
    by_cases hlt : k < cs.length
    · obtain ⟨b9, off9, rfl, hb9, hat⟩ := HC.out.at hlt
      obtain ⟨cc, hcc⟩ : ∃ c, cs[k]?.getD CallT.zero = c := ⟨_, rfl⟩
      rw [hcc] at hat
      have HCC := Lib.hid hcc
      obtain ⟨m, kd, n, b, bs, br⟩ := cc
      obtain ⟨c0, c1, c2, c3, vb, vl, c4, c5, s4, s5⟩ := hat
      dsimp only at s4 s5
      obtain ⟨pB, cB, rfl⟩ := s4.shape
      obtain ⟨pL, cL, rfl⟩ := s5.shape
      have hi0 : (0 : Int) ≤ (k : Int) := by omega
      have hi1 : (k : Int) < (cs.length : Int) := by omega
      clear hcc c0 c1 c2 c3 s4 s5
      by_cases hB : 25 < bs.length
      · have hBi : (25 : Int) < (bs.length : Int) := by omega
        go_wp2_with fail
        refine (HK.out _).mono ?_
        rintro e w99 ⟨rfl, hb99⟩
        have HB99 := Lib.hid (hb99)
        clear hb99
        go_wp2
        go_ret
        exact ⟨rfl, HB99.out⟩
      have hBi : ¬ ((25 : Int) < (bs.length : Int)) := by omega
      by_cases hR : 25 < br.length
      · have hRi : (25 : Int) < (br.length : Int) := by omega
        go_wp2_with fail
        refine (HK.out _).mono ?_
        rintro e w99 ⟨rfl, hb99⟩
        have HB99 := Lib.hid (hb99)
        clear hb99
        go_wp2
        go_ret
        exact ⟨rfl, HB99.out⟩
      have hRi : ¬ ((25 : Int) < (br.length : Int)) := by omega
      have HA2 : Hid (∀ j, j < k + 1 → (cs[j]?.getD CallT.zero).bs.length ≤ 25 ∧ (cs[j]?.getD CallT.zero).br.length ≤ 25) := Lib.hid (fun j hj => by
        rcases Nat.lt_or_ge j k with h | h
        · exact HA.out j h
        · obtain rfl : j = k := by omega
          rw [HCC.out]; exact ⟨by dsimp only; omega, by dsimp only; omega⟩)
      go_wp2
      go_roundw
      case rel => exact ⟨trivial, k + 1, by omega, by go_num, HA2⟩
      case measure => simp [intOf]; omega
    · have hke : k = cs.length := by omega
      subst hke
      have HALL := HA
      have h25n : space.length ≤ 25 := by omega
      clear hlt hk HA
      obtain ⟨eb, heb⟩ : ∃ x, w.heap.size = x := ⟨_, rfl⟩
      have B0 := (Below.refl w.heap.size w).alloc (Nat.le_refl _) (.cells #[] 3)
      have HE := Lib.hid (IntsR.empty w w.heap.size eb heb (Nat.le_of_eq heb))
      have HS1 := Lib.hid (HS.out.past B0)
      have HB1 := Lib.hid B0
      have HEB := Lib.hid heb
      obtain ⟨w1, hw1⟩ : ∃ Z, w.alloc (.cells #[] 3) = Z := ⟨_, rfl⟩
      rw [hw1] at HE HS1 HB1
      clear B0
      go_wp2_with (first | (at_builtin; refine stopHere ?_))
      intro _
      try rw [hw1]
      clear hw1 heb
      refine wpList_copyInt rfl _ _ rfl w.heap.size eb rfl HE.out space _ rfl HS1.out (by omega) HB1.out.size ?_
      intro v2 w2 hint hgrow
      obtain ⟨p2, c2, rfl⟩ := hint.shape
      have HNW := Lib.hid (new_any _ space room w2 (hint.ints (by omega)))
      have HB2 := Lib.hid (HB1.out.grown hgrow HB1.out.size (by intro j hj; cases hj; exact Nat.le_of_eq HEB.out))
      obtain ⟨base1, hbase1⟩ : ∃ x, w2.heap.size = x := ⟨_, rfl⟩
      have HB1E := Lib.hid hbase1
      clear hint hgrow hbase1
      go_wp2_with fail
      refine HNW.out.mono ?_
      rintro e w3 ⟨hb3, hcase⟩
      have HB3 := Lib.hid (HB2.out.trans (hb3.mono HB2.out.size))
      have H23 := Lib.hid hb3
      have HRN := Lib.hid (refNew_any (.slice av space.length capv) space room w3 (HS.out.past HB3.out) (by omega))
      clear hb3 HNW
      rcases hcase with ⟨hF, rfl⟩ | ⟨hF, bb, hbb, rfl, hbk⟩
      · have HF := Lib.hid hF
        clear hF
        go_wp2_with fail
        refine HRN.out.mono ?_
        rintro e w4 ⟨hb4, ⟨_, rfl⟩ | ⟨hF2, _⟩⟩
        · have HB4 := Lib.hid (HB3.out.trans (hb4.mono HB3.out.size))
          have HB5 := Lib.hid (HB4.out.alloc HB4.out.size (.cells #[.bool false, .slice none 0 0, .int .i64 0, .slice none 0 0, .slice none 0 0] 56))
          clear hb4
          go_wp2_with fail
          refine (HK.out _).mono ?_
          rintro e w99 ⟨rfl, hb99⟩
          have HB99 := Lib.hid (HB5.out.trans (hb99.mono HB5.out.size))
          clear hb99
          go_wp2
          go_ret
          exact ⟨rfl, HB99.out⟩
        · exact absurd (HF.out.symm.trans hF2) (by simp)
      · have HF := Lib.hid hF
        have HBK3 := Lib.hid hbk
        have HBB := Lib.hid hbb
        obtain ⟨base2, hbase2⟩ : ∃ x, w3.heap.size = x := ⟨_, rfl⟩
        have HB2E := Lib.hid hbase2
        clear hF hbk hbb hbase2
        go_wp2_with fail
        refine HRN.out.mono ?_
        rintro e w4 ⟨hb4, ⟨hF2, _⟩ | ⟨_, ps, csz, gw, cw, rfl, href⟩⟩
        · exact absurd (HF.out.symm.trans hF2) (by simp)
        obtain ⟨wb, hwb⟩ : ∃ x, w4.heap.size = x := ⟨_, rfl⟩
        have HB4 := Lib.hid (HB3.out.trans (hb4.mono HB3.out.size))
        have hbA := (Below.refl w4.heap.size w4).alloc (Nat.le_refl _) (.cells #[.bool false, .slice ps space.length csz, .int .i64 room, .slice (some ⟨gw, 0, none⟩) space.length cw, .slice none 0 0] 56)
        have HBL5 := Lib.hid (Blk.newI w4 wb #[.bool false, .slice ps space.length csz, .int .i64 room, .slice (some ⟨gw, 0, none⟩) space.length cw, .slice none 0 0] 56 hwb)
        have HBK5 := Lib.hid ((HBK3.out.past hb4).past hbA)
        have HRF5 := Lib.hid (href.past hbA)
        have HB5 := Lib.hid (HB4.out.trans (hbA.mono HB4.out.size))
        have HCN : Hid (w.heap.size ≤ base1 ∧ w.heap.size ≤ bb ∧ w.heap.size ≤ base2 ∧ w.heap.size ≤ wb ∧ base2 ≤ wb) := Lib.hid ⟨by rw [← HB1E.out]; exact HB2.out.size, Nat.le_trans HB2.out.size HBB.out, by rw [← HB2E.out]; exact HB3.out.size, by rw [← hwb]; exact HB4.out.size, by rw [← hwb, ← HB2E.out]; exact hb4.size⟩
        have HSZ5 : Hid (base1 ≤ (w4.alloc (.cells #[.bool false, .slice ps space.length csz, .int .i64 room, .slice (some ⟨gw, 0, none⟩) space.length cw, .slice none 0 0] 56)).heap.size ∧ base2 ≤ (w4.alloc (.cells #[.bool false, .slice ps space.length csz, .int .i64 room, .slice (some ⟨gw, 0, none⟩) space.length cw, .slice none 0 0] 56)).heap.size) := Lib.hid ⟨by have h1 := HB1E.out; have h2 := H23.out.size; have h3 := hb4.size; simp; omega, by have h1 := HB2E.out; have h3 := hb4.size; simp; omega⟩
        clear hb4 hbA href
        go_upto_region 10 with fail
        obtain ⟨w5, hw5⟩ : ∃ Z, w4.alloc (.cells #[.bool false, .slice ps space.length csz, .int .i64 room, .slice (some ⟨gw, 0, none⟩) space.length cw, .slice none 0 0] 56) = Z := ⟨_, rfl⟩
        rw [hw5] at HBL5 HBK5 HRF5 HB5 HSZ5
        try rw [hw5]
        clear hw5 hwb
        rw [HB1E.out] at HBK5
        rw [HB2E.out] at HRF5
        have HRM : Hid (0 ≤ room ∧ room ≤ 1000000000) := Lib.hid (by have := HF.out; unfold newF at this; rw [Bool.and_eq_true] at this; exact inB_parts this.2)
        have HL0 : Hid (0 < space.length) := Lib.hid (by have := HF.out; unfold newF at this; rw [Bool.and_eq_true, Bool.and_eq_true] at this; have := inB_parts this.1.1; omega)
        go_wp2
        go_loopw [13] (fun i wr => ∃ (k : Nat) (l : List St) (L : BatL), k ≤ cs.length ∧ i = .int .i64 k ∧ Hid (LG space l L) ∧ Hid (BW w bb base1 wb base2 room space ps csz l L wr)) (fun i _ => cs.length - (intOf i).toNat)
        case atStart => exact ⟨0, space.map mkSt, [], Nat.zero_le _, rfl, Lib.hid (LG.new HF.out), Lib.hid ⟨⟨_, HBK5.out, InsAt.nil _ _⟩, ⟨gw, cw, none, 0, by rw [List.length_map]; exact HBL5.out, HRF5.out⟩, HB5.out, HSZ5.out.1, HSZ5.out.2⟩⟩
        case round =>
          obtain ⟨k, l, L, hk, rfl, HG, HBW⟩ := hrel
          by_cases hlt : k < cs.length
          · obtain ⟨⟨iv, hbk, hin⟩, ⟨gw, cw, pb, cb, hblk, href⟩, hbel, hb1, hb2⟩ := HBW.out
            obtain ⟨b9, off9, rfl, hb9, hat⟩ := HC.out.at hlt
            obtain ⟨cc, hcc⟩ : ∃ c, cs[k]?.getD CallT.zero = c := ⟨_, rfl⟩
            have hfew := HALL.out k hlt
            rw [hcc] at hat hfew
            obtain ⟨m, kd, n, b, bs, br⟩ := cc
            obtain ⟨c0, c1, c2, c3, vb, vl, c4, c5, s4, s5⟩ := hat
            dsimp only at c0 c1 c2 c3 s4 s5 hfew
            obtain ⟨pB, cB, rfl⟩ := s4.shape
            obtain ⟨pL, cL, rfl⟩ := s5.shape
            have hi0 : (0 : Int) ≤ (k : Int) := by omega
            have hi1 : (k : Int) < (cs.length : Int) := by omega
            have HFEW := Lib.hid hfew
            have HBK := Lib.hid hbk
            have HIN := Lib.hid hin
            have HBL := Lib.hid hblk
            have HRF := Lib.hid href
            have HBE := Lib.hid hbel
            have HB12 := Lib.hid (And.intro hb1 hb2)
            have HS4 := Lib.hid s4
            have HS5 := Lib.hid s5
            have HCL := Lib.hid (And.intro c0 (And.intro c1 (And.intro c2 (And.intro c3 (And.intro c4 c5)))))
            clear hcc hfew hbk hin hblk href hbel hb1 hb2 s4 s5 c0 c1 c2 c3 c4 c5
            go_upto_region 18 with fail
            refine region_plain (fun W => W.cell? ⟨b9, off9 + k * 6, none⟩ = some (.int .i64 m) ∧ W.cell? ⟨b9, off9 + k * 6 + 1, none⟩ = some (.int .i64 kd) ∧ W.cell? ⟨b9, off9 + k * 6 + 2, none⟩ = some (.int .i64 n) ∧ W.cell? ⟨b9, off9 + k * 6 + 3, none⟩ = some (.int .i64 b) ∧ W.cell? ⟨b9, off9 + k * 6 + 4, none⟩ = some (.slice pB bs.length cB) ∧ W.cell? ⟨b9, off9 + k * 6 + 5, none⟩ = some (.slice pL br.length cL) ∧ W.cell? ⟨wb, 0, none⟩ = some (.bool false) ∧ W.cell? ⟨wb, 1, none⟩ = some (.slice ps space.length csz) ∧ W.cell? ⟨wb, 2, none⟩ = some (.int .i64 room) ∧ W.cell? ⟨wb, 3, none⟩ = some (.slice (some ⟨gw, 0, none⟩) l.length cw) ∧ W.cell? ⟨wb, 4, none⟩ = some (.slice pb L.length cb)) 12 #[false, false, false, false, false, false, false, false, false, false, false, false] rfl rfl (by kernel_rfl) ?_
            have BD := (Below.refl wr.heap.size wr).drew
            have HBKd := Lib.hid (HBK.out.past BD)
            have HINd := Lib.hid (HIN.out.past BD)
            have HBLd := Lib.hid (HBL.out.past BD)
            have HRFd := Lib.hid (HRF.out.past BD)
            have HBEd := Lib.hid (HBE.out.trans (BD.mono HBE.out.size))
            have HS4d := Lib.hid (HS4.out.past HBEd.out)
            have HS5d := Lib.hid (HS5.out.past HBEd.out)
            have HCLd := Lib.hid (And.intro ((HBEd.out.cell (p := ⟨b9, off9 + k * 6, none⟩) hb9).trans HCL.out.1) (And.intro ((HBEd.out.cell (p := ⟨b9, off9 + k * 6 + 1, none⟩) hb9).trans HCL.out.2.1) (And.intro ((HBEd.out.cell (p := ⟨b9, off9 + k * 6 + 2, none⟩) hb9).trans HCL.out.2.2.1) (And.intro ((HBEd.out.cell (p := ⟨b9, off9 + k * 6 + 3, none⟩) hb9).trans HCL.out.2.2.2.1) (And.intro ((HBEd.out.cell (p := ⟨b9, off9 + k * 6 + 4, none⟩) hb9).trans HCL.out.2.2.2.2.1) ((HBEd.out.cell (p := ⟨b9, off9 + k * 6 + 5, none⟩) hb9).trans HCL.out.2.2.2.2.2))))))
            have hb9d : b9 < wr.drew.heap.size := Nat.lt_of_lt_of_le hb9 HBEd.out.size
            have HB12d : Hid (base1 ≤ wr.drew.heap.size ∧ base2 ≤ wr.drew.heap.size) := HB12
            clear BD
            obtain ⟨wd, hwwd⟩ : ∃ Z, wr.drew = Z := ⟨_, rfl⟩
            rw [hwwd] at HBKd HINd HBLd HRFd HBEd HS4d HS5d HCLd hb9d HB12d
            try rw [hwwd]
            clear hwwd
            have hwbd := HBLd.out.lt
            have hSS : wd.cell? ⟨b9, off9 + k * 6, none⟩ = some (.int .i64 m) ∧ wd.cell? ⟨b9, off9 + k * 6 + 1, none⟩ = some (.int .i64 kd) ∧ wd.cell? ⟨b9, off9 + k * 6 + 2, none⟩ = some (.int .i64 n) ∧ wd.cell? ⟨b9, off9 + k * 6 + 3, none⟩ = some (.int .i64 b) ∧ wd.cell? ⟨b9, off9 + k * 6 + 4, none⟩ = some (.slice pB bs.length cB) ∧ wd.cell? ⟨b9, off9 + k * 6 + 5, none⟩ = some (.slice pL br.length cL) ∧ wd.cell? ⟨wb, 0, none⟩ = some (.bool false) ∧ wd.cell? ⟨wb, 1, none⟩ = some (.slice ps space.length csz) ∧ wd.cell? ⟨wb, 2, none⟩ = some (.int .i64 room) ∧ wd.cell? ⟨wb, 3, none⟩ = some (.slice (some ⟨gw, 0, none⟩) l.length cw) ∧ wd.cell? ⟨wb, 4, none⟩ = some (.slice pb L.length cb) := ⟨HCLd.out.1, HCLd.out.2.1, HCLd.out.2.2.1, HCLd.out.2.2.2.1, HCLd.out.2.2.2.2.1, HCLd.out.2.2.2.2.2, HBLd.out.cell (i := 0) rfl, HBLd.out.cell (i := 1) rfl, HBLd.out.cell (i := 2) rfl, HBLd.out.cell (i := 3) rfl, HBLd.out.cell (i := 4) rfl⟩
            have HSSd := Lib.hid hSS
            refine take_first (i := 0) (v := ?_) rfl (by kernel_rfl) (by kernel_rfl) (by kernel_rfl) (fun _ _ _ h => h) (by rfl) (by assumption) ?_ ?_
            rotate_left 1
            · intro X hSX
              (try dsimp only at hSX)
              first | (go_simp; done) | (go_simp; with_reducible rfl)
            try simp only [Act.put, List.setIfInBounds_toArray, List.set_cons_zero, List.set_cons_succ]
            refine take_first (i := 1) (v := ?_) rfl (by kernel_rfl) (by kernel_rfl) (by kernel_rfl) (fun _ _ _ h => h) (by rfl) (by assumption) ?_ ?_
            rotate_left 1
            · intro X hSX
              (try dsimp only at hSX)
              first | (go_simp; done) | (go_simp; with_reducible rfl)
            try simp only [Act.put, List.setIfInBounds_toArray, List.set_cons_zero, List.set_cons_succ]
            refine take_first (i := 2) (v := ?_) rfl (by kernel_rfl) (by kernel_rfl) (by kernel_rfl) (fun _ _ _ h => h) (by rfl) (by assumption) ?_ ?_
            rotate_left 1
            · intro X hSX
              (try dsimp only at hSX)
              first | (go_simp; done) | (go_simp; with_reducible rfl)
            try simp only [Act.put, List.setIfInBounds_toArray, List.set_cons_zero, List.set_cons_succ]
            refine take_first (i := 3) (v := ?_) rfl (by kernel_rfl) (by kernel_rfl) (by kernel_rfl) (fun _ _ _ h => h) (by rfl) (by assumption) ?_ ?_
            rotate_left 1
            · intro X hSX
              (try dsimp only at hSX)
              first | (go_simp; done) | (go_simp; with_reducible rfl)
            try simp only [Act.put, List.setIfInBounds_toArray, List.set_cons_zero, List.set_cons_succ]
            refine take_first (i := 4) (v := ?_) rfl (by kernel_rfl) (by kernel_rfl) (by kernel_rfl) (fun _ _ _ h => h) (by rfl) (by assumption) ?_ ?_
            rotate_left 1
            · intro X hSX
              (try dsimp only at hSX)
              first | (go_simp; done) | (go_simp; with_reducible rfl)
            try simp only [Act.put, List.setIfInBounds_toArray, List.set_cons_zero, List.set_cons_succ]
            have HG2 := Lib.hid (HG.out.step room m kd n b bs br (by have := HFEW.out.1; omega))
            have hlen := HG.out.len
            have HDO := Lib.hid (fun (W : World) (hW : Below wd.heap.size wd W) => refDo_any ps csz gw cw pb cb base2 space room l L m kd n b _ _ bs br W (HRFd.out.past hW) (Nat.le_trans HB12d.out.2 hW.size) (HS4d.out.past hW) (HS5d.out.past hW) (by have := HFEW.out.2; omega) HG.out.few (by omega) (by have := HL0.out; omega) HG.out.inv HRM.out HG.out.sp)
            have HD := Lib.hid (fun (W : World) (hW : Below wd.heap.size wd W) => do_any bb base1 l room iv L m kd n b _ _ bs br W (HS4d.out.past hW).src (HS5d.out.past hW) (by have := HFEW.out.1; omega) (by have := HFEW.out.2; omega) (HBKd.out.past hW) (HINd.out.past hW) (Nat.le_trans HB12d.out.1 hW.size) (by have := HG.out.few; omega) (by omega) (by have := HL0.out; omega) HG.out.inv)
            obtain ⟨R, hR⟩ : ∃ R, stepF room l L m kd n b bs br = R := ⟨_, rfl⟩
            rw [hR] at HG2 HDO HD
            obtain ⟨er, l2, L2⟩ := R
            dsimp only at HG2
            clear hR hlen
            obtain ⟨nb, hnb⟩ : ∃ x, wd.heap.size = x := ⟨_, rfl⟩
            refine oneB_of_two (i := 5) (j := 9) (by kernel_rfl) rfl rfl (by rfl) (by rfl) ?_ ?_
            · intro K hK
              go_simp
              refine (HDO.out wd (Below.refl _ _)).mono ?_
              rintro e w9 ⟨hb9', gw2, cw2, pb2, cb2, rfl, href2⟩
              dsimp only at href2
              have HR9 := Lib.hid href2
              have HB9 := Lib.hid hb9'
              have HSS9 := Lib.hid (show w9.cell? ⟨b9, off9 + k * 6, none⟩ = some (.int .i64 m) ∧ w9.cell? ⟨b9, off9 + k * 6 + 1, none⟩ = some (.int .i64 kd) ∧ w9.cell? ⟨b9, off9 + k * 6 + 2, none⟩ = some (.int .i64 n) ∧ w9.cell? ⟨b9, off9 + k * 6 + 3, none⟩ = some (.int .i64 b) ∧ w9.cell? ⟨b9, off9 + k * 6 + 4, none⟩ = some (.slice pB bs.length cB) ∧ w9.cell? ⟨b9, off9 + k * 6 + 5, none⟩ = some (.slice pL br.length cL) ∧ w9.cell? ⟨wb, 0, none⟩ = some (.bool false) ∧ w9.cell? ⟨wb, 1, none⟩ = some (.slice ps space.length csz) ∧ w9.cell? ⟨wb, 2, none⟩ = some (.int .i64 room) ∧ w9.cell? ⟨wb, 3, none⟩ = some (.slice (some ⟨gw, 0, none⟩) l.length cw) ∧ w9.cell? ⟨wb, 4, none⟩ = some (.slice pb L.length cb) from ⟨(hb9'.cell (p := ⟨b9, off9 + k * 6, none⟩) hb9d).trans HSSd.out.1, (hb9'.cell (p := ⟨b9, off9 + k * 6 + 1, none⟩) hb9d).trans HSSd.out.2.1, (hb9'.cell (p := ⟨b9, off9 + k * 6 + 2, none⟩) hb9d).trans HSSd.out.2.2.1, (hb9'.cell (p := ⟨b9, off9 + k * 6 + 3, none⟩) hb9d).trans HSSd.out.2.2.2.1, (hb9'.cell (p := ⟨b9, off9 + k * 6 + 4, none⟩) hb9d).trans HSSd.out.2.2.2.2.1, (hb9'.cell (p := ⟨b9, off9 + k * 6 + 5, none⟩) hb9d).trans HSSd.out.2.2.2.2.2.1, (hb9'.cell (p := ⟨wb, 0, none⟩) hwbd).trans HSSd.out.2.2.2.2.2.2.1, (hb9'.cell (p := ⟨wb, 1, none⟩) hwbd).trans HSSd.out.2.2.2.2.2.2.2.1, (hb9'.cell (p := ⟨wb, 2, none⟩) hwbd).trans HSSd.out.2.2.2.2.2.2.2.2.1, (hb9'.cell (p := ⟨wb, 3, none⟩) hwbd).trans HSSd.out.2.2.2.2.2.2.2.2.2.1, (hb9'.cell (p := ⟨wb, 4, none⟩) hwbd).trans HSSd.out.2.2.2.2.2.2.2.2.2.2⟩)
              clear href2 hb9' hSS
              have hSS := HSS9.out
              refine hK.out _ _ hSS ?_
              clear hK K
              try simp only [Act.put, List.setIfInBounds_toArray, List.set_cons_zero, List.set_cons_succ]
              refine take_first (i := 6) (v := ?_) rfl (by kernel_rfl) (by kernel_rfl) (by kernel_rfl) (fun _ _ _ h => h) (by rfl) (by assumption) ?_ ?_
              rotate_left 1
              · intro X hSX
                (try dsimp only at hSX)
                first | (go_simp; done) | (go_simp; with_reducible rfl)
              try simp only [Act.put, List.setIfInBounds_toArray, List.set_cons_zero, List.set_cons_succ]
              refine take_first (i := 7) (v := ?_) rfl (by kernel_rfl) (by kernel_rfl) (by kernel_rfl) (fun _ _ _ h => h) (by rfl) (by assumption) ?_ ?_
              rotate_left 1
              · intro X hSX
                (try dsimp only at hSX)
                first | (go_simp; done) | (go_simp; with_reducible rfl)
              try simp only [Act.put, List.setIfInBounds_toArray, List.set_cons_zero, List.set_cons_succ]
              refine take_first (i := 8) (v := ?_) rfl (by kernel_rfl) (by kernel_rfl) (by kernel_rfl) (fun _ _ _ h => h) (by rfl) (by assumption) ?_ ?_
              rotate_left 1
              · intro X hSX
                (try dsimp only at hSX)
                first | (go_simp; done) | (go_simp; with_reducible rfl)
              try simp only [Act.put, List.setIfInBounds_toArray, List.set_cons_zero, List.set_cons_succ]
              obtain ⟨nz, hnz⟩ : ∃ x, w9.heap.size = x := ⟨_, rfl⟩
              have BA := (Below.refl w9.heap.size w9).alloc (Nat.le_refl _) (.cells #[.bool false, .slice none 0 0, .int .i64 0, .slice none 0 0, .slice none 0 0] 56)
              have HZA := Lib.hid (Blk.newI w9 nz #[.bool false, .slice none 0 0, .int .i64 0, .slice none 0 0, .slice none 0 0] 56 hnz)
              have HRA := Lib.hid (HR9.out.past BA)
              have HBA := Lib.hid (HB9.out.trans (BA.mono HB9.out.size))
              have hnzd : wd.heap.size ≤ nz := by have := HB9.out.size; omega
              clear BA
              have HSSA := Lib.hid (show (w9.alloc (.cells #[.bool false, .slice none 0 0, .int .i64 0, .slice none 0 0, .slice none 0 0] 56)).cell? ⟨b9, off9 + k * 6, none⟩ = some (.int .i64 m) ∧ (w9.alloc (.cells #[.bool false, .slice none 0 0, .int .i64 0, .slice none 0 0, .slice none 0 0] 56)).cell? ⟨b9, off9 + k * 6 + 1, none⟩ = some (.int .i64 kd) ∧ (w9.alloc (.cells #[.bool false, .slice none 0 0, .int .i64 0, .slice none 0 0, .slice none 0 0] 56)).cell? ⟨b9, off9 + k * 6 + 2, none⟩ = some (.int .i64 n) ∧ (w9.alloc (.cells #[.bool false, .slice none 0 0, .int .i64 0, .slice none 0 0, .slice none 0 0] 56)).cell? ⟨b9, off9 + k * 6 + 3, none⟩ = some (.int .i64 b) ∧ (w9.alloc (.cells #[.bool false, .slice none 0 0, .int .i64 0, .slice none 0 0, .slice none 0 0] 56)).cell? ⟨b9, off9 + k * 6 + 4, none⟩ = some (.slice pB bs.length cB) ∧ (w9.alloc (.cells #[.bool false, .slice none 0 0, .int .i64 0, .slice none 0 0, .slice none 0 0] 56)).cell? ⟨b9, off9 + k * 6 + 5, none⟩ = some (.slice pL br.length cL) ∧ (w9.alloc (.cells #[.bool false, .slice none 0 0, .int .i64 0, .slice none 0 0, .slice none 0 0] 56)).cell? ⟨wb, 0, none⟩ = some (.bool false) ∧ (w9.alloc (.cells #[.bool false, .slice none 0 0, .int .i64 0, .slice none 0 0, .slice none 0 0] 56)).cell? ⟨wb, 1, none⟩ = some (.slice ps space.length csz) ∧ (w9.alloc (.cells #[.bool false, .slice none 0 0, .int .i64 0, .slice none 0 0, .slice none 0 0] 56)).cell? ⟨wb, 2, none⟩ = some (.int .i64 room) ∧ (w9.alloc (.cells #[.bool false, .slice none 0 0, .int .i64 0, .slice none 0 0, .slice none 0 0] 56)).cell? ⟨wb, 3, none⟩ = some (.slice (some ⟨gw, 0, none⟩) l.length cw) ∧ (w9.alloc (.cells #[.bool false, .slice none 0 0, .int .i64 0, .slice none 0 0, .slice none 0 0] 56)).cell? ⟨wb, 4, none⟩ = some (.slice pb L.length cb) from ⟨(HBA.out.cell (p := ⟨b9, off9 + k * 6, none⟩) hb9d).trans HSSd.out.1, (HBA.out.cell (p := ⟨b9, off9 + k * 6 + 1, none⟩) hb9d).trans HSSd.out.2.1, (HBA.out.cell (p := ⟨b9, off9 + k * 6 + 2, none⟩) hb9d).trans HSSd.out.2.2.1, (HBA.out.cell (p := ⟨b9, off9 + k * 6 + 3, none⟩) hb9d).trans HSSd.out.2.2.2.1, (HBA.out.cell (p := ⟨b9, off9 + k * 6 + 4, none⟩) hb9d).trans HSSd.out.2.2.2.2.1, (HBA.out.cell (p := ⟨b9, off9 + k * 6 + 5, none⟩) hb9d).trans HSSd.out.2.2.2.2.2.1, (HBA.out.cell (p := ⟨wb, 0, none⟩) hwbd).trans HSSd.out.2.2.2.2.2.2.1, (HBA.out.cell (p := ⟨wb, 1, none⟩) hwbd).trans HSSd.out.2.2.2.2.2.2.2.1, (HBA.out.cell (p := ⟨wb, 2, none⟩) hwbd).trans HSSd.out.2.2.2.2.2.2.2.2.1, (HBA.out.cell (p := ⟨wb, 3, none⟩) hwbd).trans HSSd.out.2.2.2.2.2.2.2.2.2.1, (HBA.out.cell (p := ⟨wb, 4, none⟩) hwbd).trans HSSd.out.2.2.2.2.2.2.2.2.2.2⟩)
              clear hSS
              refine only_one (i := 9) (by kernel_rfl) rfl (by rfl) ?_
              intro K hK
              go_simp
              obtain ⟨wA, hwwA⟩ : ∃ Z, w9.alloc (.cells #[.bool false, .slice none 0 0, .int .i64 0, .slice none 0 0, .slice none 0 0] 56) = Z := ⟨_, rfl⟩
              rw [hwwA] at HZA HRA HBA HSSA
              try rw [hwwA]
              clear hwwA
              have hSS := HSSA.out
              refine hK.out _ _ hSS ?_
              clear hK K
              try simp only [Act.put, List.setIfInBounds_toArray, List.set_cons_zero, List.set_cons_succ]
              clear hSS hnz
              have m0 := HZA.out.cell (i := 0) (v := .bool false) rfl
              have m1 := HZA.out.cell (i := 1) (v := .slice none 0 0) rfl
              have m2 := HZA.out.cell (i := 2) (v := .int .i64 0) rfl
              have m3 := HZA.out.cell (i := 3) (v := .slice none 0 0) rfl
              have m4 := HZA.out.cell (i := 4) (v := .slice none 0 0) rfl
              have p0 := HZA.out.fr (i := 0)
              have p1 := HZA.out.fr (i := 1)
              have p2 := HZA.out.fr (i := 2)
              have p3 := HZA.out.fr (i := 3)
              have p4 := HZA.out.fr (i := 4)
              have HNB := Lib.hid (blk_set5 HZA.out (.bool false) (.slice ps space.length csz) (.int .i64 room) (.slice (some ⟨gw2, 0, none⟩) l2.length cw2) (.slice pb2 L2.length cb2) rfl rfl rfl rfl rfl)
              have HBN := Lib.hid (below_set5 (b := nz) HBA.out (by omega) (.bool false) (.slice ps space.length csz) (.int .i64 room) (.slice (some ⟨gw2, 0, none⟩) l2.length cw2) (.slice pb2 L2.length cb2))
              have HREF := Lib.hid (HRA.out.set5 HZA.out (.bool false) (.slice ps space.length csz) (.int .i64 room) (.slice (some ⟨gw2, 0, none⟩) l2.length cw2) (.slice pb2 L2.length cb2))
              have HSSn := Lib.hid (show (((((wA.setCell ⟨nz, 0, none⟩ (.bool false)).setCell ⟨nz, 1, none⟩ (.slice ps space.length csz)).setCell ⟨nz, 2, none⟩ (.int .i64 room)).setCell ⟨nz, 3, none⟩ (.slice (some ⟨gw2, 0, none⟩) l2.length cw2)).setCell ⟨nz, 4, none⟩ (.slice pb2 L2.length cb2)).cell? ⟨b9, off9 + k * 6, none⟩ = some (.int .i64 m) ∧ (((((wA.setCell ⟨nz, 0, none⟩ (.bool false)).setCell ⟨nz, 1, none⟩ (.slice ps space.length csz)).setCell ⟨nz, 2, none⟩ (.int .i64 room)).setCell ⟨nz, 3, none⟩ (.slice (some ⟨gw2, 0, none⟩) l2.length cw2)).setCell ⟨nz, 4, none⟩ (.slice pb2 L2.length cb2)).cell? ⟨b9, off9 + k * 6 + 1, none⟩ = some (.int .i64 kd) ∧ (((((wA.setCell ⟨nz, 0, none⟩ (.bool false)).setCell ⟨nz, 1, none⟩ (.slice ps space.length csz)).setCell ⟨nz, 2, none⟩ (.int .i64 room)).setCell ⟨nz, 3, none⟩ (.slice (some ⟨gw2, 0, none⟩) l2.length cw2)).setCell ⟨nz, 4, none⟩ (.slice pb2 L2.length cb2)).cell? ⟨b9, off9 + k * 6 + 2, none⟩ = some (.int .i64 n) ∧ (((((wA.setCell ⟨nz, 0, none⟩ (.bool false)).setCell ⟨nz, 1, none⟩ (.slice ps space.length csz)).setCell ⟨nz, 2, none⟩ (.int .i64 room)).setCell ⟨nz, 3, none⟩ (.slice (some ⟨gw2, 0, none⟩) l2.length cw2)).setCell ⟨nz, 4, none⟩ (.slice pb2 L2.length cb2)).cell? ⟨b9, off9 + k * 6 + 3, none⟩ = some (.int .i64 b) ∧ (((((wA.setCell ⟨nz, 0, none⟩ (.bool false)).setCell ⟨nz, 1, none⟩ (.slice ps space.length csz)).setCell ⟨nz, 2, none⟩ (.int .i64 room)).setCell ⟨nz, 3, none⟩ (.slice (some ⟨gw2, 0, none⟩) l2.length cw2)).setCell ⟨nz, 4, none⟩ (.slice pb2 L2.length cb2)).cell? ⟨b9, off9 + k * 6 + 4, none⟩ = some (.slice pB bs.length cB) ∧ (((((wA.setCell ⟨nz, 0, none⟩ (.bool false)).setCell ⟨nz, 1, none⟩ (.slice ps space.length csz)).setCell ⟨nz, 2, none⟩ (.int .i64 room)).setCell ⟨nz, 3, none⟩ (.slice (some ⟨gw2, 0, none⟩) l2.length cw2)).setCell ⟨nz, 4, none⟩ (.slice pb2 L2.length cb2)).cell? ⟨b9, off9 + k * 6 + 5, none⟩ = some (.slice pL br.length cL) ∧ (((((wA.setCell ⟨nz, 0, none⟩ (.bool false)).setCell ⟨nz, 1, none⟩ (.slice ps space.length csz)).setCell ⟨nz, 2, none⟩ (.int .i64 room)).setCell ⟨nz, 3, none⟩ (.slice (some ⟨gw2, 0, none⟩) l2.length cw2)).setCell ⟨nz, 4, none⟩ (.slice pb2 L2.length cb2)).cell? ⟨wb, 0, none⟩ = some (.bool false) ∧ (((((wA.setCell ⟨nz, 0, none⟩ (.bool false)).setCell ⟨nz, 1, none⟩ (.slice ps space.length csz)).setCell ⟨nz, 2, none⟩ (.int .i64 room)).setCell ⟨nz, 3, none⟩ (.slice (some ⟨gw2, 0, none⟩) l2.length cw2)).setCell ⟨nz, 4, none⟩ (.slice pb2 L2.length cb2)).cell? ⟨wb, 1, none⟩ = some (.slice ps space.length csz) ∧ (((((wA.setCell ⟨nz, 0, none⟩ (.bool false)).setCell ⟨nz, 1, none⟩ (.slice ps space.length csz)).setCell ⟨nz, 2, none⟩ (.int .i64 room)).setCell ⟨nz, 3, none⟩ (.slice (some ⟨gw2, 0, none⟩) l2.length cw2)).setCell ⟨nz, 4, none⟩ (.slice pb2 L2.length cb2)).cell? ⟨wb, 2, none⟩ = some (.int .i64 room) ∧ (((((wA.setCell ⟨nz, 0, none⟩ (.bool false)).setCell ⟨nz, 1, none⟩ (.slice ps space.length csz)).setCell ⟨nz, 2, none⟩ (.int .i64 room)).setCell ⟨nz, 3, none⟩ (.slice (some ⟨gw2, 0, none⟩) l2.length cw2)).setCell ⟨nz, 4, none⟩ (.slice pb2 L2.length cb2)).cell? ⟨wb, 3, none⟩ = some (.slice (some ⟨gw, 0, none⟩) l.length cw) ∧ (((((wA.setCell ⟨nz, 0, none⟩ (.bool false)).setCell ⟨nz, 1, none⟩ (.slice ps space.length csz)).setCell ⟨nz, 2, none⟩ (.int .i64 room)).setCell ⟨nz, 3, none⟩ (.slice (some ⟨gw2, 0, none⟩) l2.length cw2)).setCell ⟨nz, 4, none⟩ (.slice pb2 L2.length cb2)).cell? ⟨wb, 4, none⟩ = some (.slice pb L.length cb) from ⟨(HBN.out.cell (p := ⟨b9, off9 + k * 6, none⟩) hb9d).trans HSSd.out.1, (HBN.out.cell (p := ⟨b9, off9 + k * 6 + 1, none⟩) hb9d).trans HSSd.out.2.1, (HBN.out.cell (p := ⟨b9, off9 + k * 6 + 2, none⟩) hb9d).trans HSSd.out.2.2.1, (HBN.out.cell (p := ⟨b9, off9 + k * 6 + 3, none⟩) hb9d).trans HSSd.out.2.2.2.1, (HBN.out.cell (p := ⟨b9, off9 + k * 6 + 4, none⟩) hb9d).trans HSSd.out.2.2.2.2.1, (HBN.out.cell (p := ⟨b9, off9 + k * 6 + 5, none⟩) hb9d).trans HSSd.out.2.2.2.2.2.1, (HBN.out.cell (p := ⟨wb, 0, none⟩) hwbd).trans HSSd.out.2.2.2.2.2.2.1, (HBN.out.cell (p := ⟨wb, 1, none⟩) hwbd).trans HSSd.out.2.2.2.2.2.2.2.1, (HBN.out.cell (p := ⟨wb, 2, none⟩) hwbd).trans HSSd.out.2.2.2.2.2.2.2.2.1, (HBN.out.cell (p := ⟨wb, 3, none⟩) hwbd).trans HSSd.out.2.2.2.2.2.2.2.2.2.1, (HBN.out.cell (p := ⟨wb, 4, none⟩) hwbd).trans HSSd.out.2.2.2.2.2.2.2.2.2.2⟩)
              refine only_one (i := 10) (by kernel_rfl) rfl (by rfl) ?_
              intro K hK
              go_simp
              obtain ⟨wn, hwwn⟩ : ∃ Z, ((((wA.setCell ⟨nz, 0, none⟩ (.bool false)).setCell ⟨nz, 1, none⟩ (.slice ps space.length csz)).setCell ⟨nz, 2, none⟩ (.int .i64 room)).setCell ⟨nz, 3, none⟩ (.slice (some ⟨gw2, 0, none⟩) l2.length cw2)).setCell ⟨nz, 4, none⟩ (.slice pb2 L2.length cb2) = Z := ⟨_, rfl⟩
              rw [hwwn] at HNB HBN HREF HSSn
              try rw [hwwn]
              clear hwwn
              have hSS := HSSn.out
              refine hK.out _ _ hSS ?_
              clear hK K
              try simp only [Act.put, List.setIfInBounds_toArray, List.set_cons_zero, List.set_cons_succ]
              refine take_first (i := 11) (v := ?_) rfl (by kernel_rfl) (by kernel_rfl) (by kernel_rfl) (fun _ _ _ h => h) (by rfl) (by assumption) ?_ ?_
              rotate_left 1
              · intro X hSX
                (try dsimp only at hSX)
                first | (go_simp; done) | (go_simp; with_reducible rfl)
              try simp only [Act.put, List.setIfInBounds_toArray, List.set_cons_zero, List.set_cons_succ]
              refine wpAnyH_done (by kernel_rfl) ?_ _
              clear hSS m0 p0 m1 p1 m2 p2 m3 p3 m4 p4
              have HCLn := Lib.hid (And.intro HSSn.out.1 (And.intro HSSn.out.2.1 (And.intro HSSn.out.2.2.1 (And.intro HSSn.out.2.2.2.1 (And.intro HSSn.out.2.2.2.2.1 HSSn.out.2.2.2.2.2.1)))))
              have k0 := HCLn.out.1
              have k1 := HCLn.out.2.1
              have k2 := HCLn.out.2.2.1
              have k3 := HCLn.out.2.2.2.1
              have k4 := HCLn.out.2.2.2.2.1
              have k5 := HCLn.out.2.2.2.2.2
              have HDn := Lib.hid (HD.out wn HBN.out)
              have HBKn := Lib.hid (HBKd.out.past HBN.out)
              go_upto_region 19 with fail
              go_wp2_with fail
              refine HDn.out.mono ?_
              intro e w10 hbt
              obtain ⟨iv2, hbk2, hin2⟩ := hbt.2.1
              obtain rfl := hbt.1
              have HBK2 := Lib.hid hbk2
              have HIN2 := Lib.hid hin2
              have HNB2 := Lib.hid (hbt.keep HBKn.out HNB.out (by decide) (by decide))
              have HWB2 := Lib.hid (hbt.keep HBKn.out (HBLd.out.past HBN.out) (by decide) (by decide))
              have HRF2 : Hid (RefAt w10 base2 space l2 L2 ps csz gw2 cw2 pb2 cb2) := Lib.hid ⟨hbt.row HBKn.out HREF.out.sp (by decide) (by decide), hbt.row HBKn.out HREF.out.war (by decide) (by decide), hbt.row HBKn.out HREF.out.bat (by decide) (by decide)⟩
              have HBEn := Lib.hid (HBEd.out.trans (HBN.out.mono HBEd.out.size))
              have HBE2 := Lib.hid (HBEn.out.trans (hbt.belowO HCN.out.1 HCN.out.2.1 HBEn.out.size))
              have HSZ2 : Hid (base1 ≤ w10.heap.size ∧ base2 ≤ w10.heap.size) := Lib.hid (by have h1 := hbt.size; have h2 := HBN.out.size; have h3 := HB12d.out; omega)
              clear hbt hbk2 hin2 HDn k0 k1 k2 k3 k4 k5
              have HCL2 := Lib.hid (And.intro ((HBE2.out.cell (p := ⟨b9, off9 + k * 6, none⟩) hb9).trans HCL.out.1) (And.intro ((HBE2.out.cell (p := ⟨b9, off9 + k * 6 + 1, none⟩) hb9).trans HCL.out.2.1) (And.intro ((HBE2.out.cell (p := ⟨b9, off9 + k * 6 + 2, none⟩) hb9).trans HCL.out.2.2.1) (And.intro ((HBE2.out.cell (p := ⟨b9, off9 + k * 6 + 3, none⟩) hb9).trans HCL.out.2.2.2.1) (And.intro ((HBE2.out.cell (p := ⟨b9, off9 + k * 6 + 4, none⟩) hb9).trans HCL.out.2.2.2.2.1) ((HBE2.out.cell (p := ⟨b9, off9 + k * 6 + 5, none⟩) hb9).trans HCL.out.2.2.2.2.2))))))
              have k0 := HCL2.out.1
              have k1 := HCL2.out.2.1
              have k2 := HCL2.out.2.2.1
              have k3 := HCL2.out.2.2.2.1
              have k4 := HCL2.out.2.2.2.2.1
              have k5 := HCL2.out.2.2.2.2.2
              have HDn2 := Lib.hid (do_nil m kd n b _ _ bs br w10 (HS4.out.past HBE2.out).src (HS5.out.past HBE2.out) (by have := HFEW.out.1; omega) (by have := HFEW.out.2; omega))
              go_upto_region 22 with fail
              go_wp2_with fail
              refine HDn2.out.mono ?_
              rintro e w11 ⟨rfl, hb11⟩
              clear HDn2 HCL2 k0 k1 k2 k3 k4 k5
              have HBK3 := Lib.hid (HBK2.out.past hb11)
              have HIN3 := Lib.hid (HIN2.out.past hb11)
              have HNB3 := Lib.hid (HNB2.out.past hb11)
              have HWB3 := Lib.hid (HWB2.out.past hb11)
              have HRF3 := Lib.hid (HRF2.out.past hb11)
              have HBE3 := Lib.hid (HBE2.out.trans (hb11.mono HBE2.out.size))
              have HSZ3 : Hid (base1 ≤ w11.heap.size ∧ base2 ≤ w11.heap.size) := Lib.hid (by have h1 := HSZ2.out; have h2 := hb11.size; omega)
              clear hb11
              have e0 := HNB3.out.cell (i := 0) (v := .bool false) rfl
              have e1 := HNB3.out.cell (i := 1) (v := .slice ps space.length csz) rfl
              have e2 := HNB3.out.cell (i := 2) (v := .int .i64 room) rfl
              have e3 := HNB3.out.cell (i := 3) (v := .slice (some ⟨gw2, 0, none⟩) l2.length cw2) rfl
              have e4 := HNB3.out.cell (i := 4) (v := .slice pb2 L2.length cb2) rfl
              have z0 := HWB3.out.cell (i := 0) (v := .bool false) rfl
              have z1 := HWB3.out.cell (i := 1) (v := .slice ps space.length csz) rfl
              have z2 := HWB3.out.cell (i := 2) (v := .int .i64 room) rfl
              have z3 := HWB3.out.cell (i := 3) (v := .slice (some ⟨gw, 0, none⟩) l.length cw) rfl
              have z4 := HWB3.out.cell (i := 4) (v := .slice pb L.length cb) rfl
              have y0 := HWB3.out.fr (i := 0)
              have y1 := HWB3.out.fr (i := 1)
              have y2 := HWB3.out.fr (i := 2)
              have y3 := HWB3.out.fr (i := 3)
              have y4 := HWB3.out.fr (i := 4)
              have HWB4 := Lib.hid (blk_set5 HWB3.out (.bool false) (.slice ps space.length csz) (.int .i64 room) (.slice (some ⟨gw2, 0, none⟩) l2.length cw2) (.slice pb2 L2.length cb2) rfl rfl rfl rfl rfl)
              have HBK4 := Lib.hid (HBK3.out.far5 HWB3.out (by decide) (by decide) (.bool false) (.slice ps space.length csz) (.int .i64 room) (.slice (some ⟨gw2, 0, none⟩) l2.length cw2) (.slice pb2 L2.length cb2))
              have HIN4 := Lib.hid (own_set5 HIN3.out (own_ne HIN3.out ⟨_, HWB3.out⟩ (by decide)) (.bool false) (.slice ps space.length csz) (.int .i64 room) (.slice (some ⟨gw2, 0, none⟩) l2.length cw2) (.slice pb2 L2.length cb2))
              have HRF4 := Lib.hid (HRF3.out.set5 HWB3.out (.bool false) (.slice ps space.length csz) (.int .i64 room) (.slice (some ⟨gw2, 0, none⟩) l2.length cw2) (.slice pb2 L2.length cb2))
              have HBE4 := Lib.hid (below_set5 (b := wb) HBE3.out HCN.out.2.2.2.1 (.bool false) (.slice ps space.length csz) (.int .i64 room) (.slice (some ⟨gw2, 0, none⟩) l2.length cw2) (.slice pb2 L2.length cb2))
              have HSZ4 : Hid (base1 ≤ (((((w11.setCell ⟨wb, 0, none⟩ (.bool false)).setCell ⟨wb, 1, none⟩ (.slice ps space.length csz)).setCell ⟨wb, 2, none⟩ (.int .i64 room)).setCell ⟨wb, 3, none⟩ (.slice (some ⟨gw2, 0, none⟩) l2.length cw2)).setCell ⟨wb, 4, none⟩ (.slice pb2 L2.length cb2)).heap.size ∧ base2 ≤ (((((w11.setCell ⟨wb, 0, none⟩ (.bool false)).setCell ⟨wb, 1, none⟩ (.slice ps space.length csz)).setCell ⟨wb, 2, none⟩ (.int .i64 room)).setCell ⟨wb, 3, none⟩ (.slice (some ⟨gw2, 0, none⟩) l2.length cw2)).setCell ⟨wb, 4, none⟩ (.slice pb2 L2.length cb2)).heap.size) := Lib.hid (by have h1 := HSZ3.out; have h2 := (below_set5 (b := wb) (Below.refl 0 w11) (Nat.zero_le _) (.bool false) (.slice ps space.length csz) (.int .i64 room) (.slice (some ⟨gw2, 0, none⟩) l2.length cw2) (.slice pb2 L2.length cb2)).size; omega)
              go_upto_region 25 with fail
              obtain ⟨w12, hww12⟩ : ∃ Z, ((((w11.setCell ⟨wb, 0, none⟩ (.bool false)).setCell ⟨wb, 1, none⟩ (.slice ps space.length csz)).setCell ⟨wb, 2, none⟩ (.int .i64 room)).setCell ⟨wb, 3, none⟩ (.slice (some ⟨gw2, 0, none⟩) l2.length cw2)).setCell ⟨wb, 4, none⟩ (.slice pb2 L2.length cb2) = Z := ⟨_, rfl⟩
              rw [hww12] at HWB4 HBK4 HIN4 HRF4 HBE4 HSZ4
              try rw [hww12]
              clear hww12
              clear e0 z0 y0 e1 z1 y1 e2 z2 y2 e3 z3 y3 e4 z4 y4
              go_wp2
              go_loopw [17] (fun i wq => ∃ j : Nat, j ≤ space.length ∧ i = .int .i64 j ∧ Hid (Below w12.heap.size w12 wq)) (fun i _ => space.length - (intOf i).toNat)
              case atStart => exact ⟨0, Nat.zero_le _, rfl, Lib.hid (Below.refl _ _)⟩
              case round =>
                obtain ⟨j, hj, rfl, HJ⟩ := hrel
                have HBK5 := Lib.hid (HBK4.out.past HJ.out)
                have HIN5 := Lib.hid (own_past HIN4.out HJ.out)
                have HWB5 := Lib.hid (HWB4.out.past HJ.out)
                have HRF5 := Lib.hid (HRF4.out.past HJ.out)
                by_cases hjl : j < space.length
                · have hjl2 : j < l2.length := by have := HG2.out.len; omega
                  obtain ⟨s0, hs0⟩ : ∃ s0, l2[j]?.getD St.zero = s0 := ⟨_, rfl⟩
                  have hcf : countF l2 (j : Int) = (s0, 0) := by
                    unfold countF
                    rw [if_pos (by unfold inB; simp; omega)]
                    simp only [Int.toNat_natCast]
                    rw [hs0]
                  have hct := count_book bb base1 l2 room iv2 (j : Int) wr HBK5.out (by have := HG2.out.len; omega)
                  rw [hcf] at hct
                  obtain ⟨y0, y1, y2, y3, y4, y5, y6, y7⟩ := s0
                  have HS0 := Lib.hid hs0
                  dsimp only [St.wares] at hct
                  have HCT := Lib.hid hct
                  clear hcf hct hs0
                  go_wp2_with fail
                  refine HCT.out.mono ?_
                  rintro e w13 ⟨rfl, hb13⟩
                  obtain ⟨tb, htb⟩ : ∃ x, w13.heap.size = x := ⟨_, rfl⟩
                  have BT := (Below.refl w13.heap.size w13).alloc (Nat.le_refl _) (.cells #[.int .i64 y0, .int .i64 y1, .int .i64 y2, .int .i64 y3, .int .i64 y4, .int .i64 y5, .int .i64 y6] 63)
                  have HT := Lib.hid (Blk.newI w13 tb #[.int .i64 y0, .int .i64 y1, .int .i64 y2, .int .i64 y3, .int .i64 y4, .int .i64 y5, .int .i64 y6] 63 htb)
                  have HJ14 := Lib.hid (HJ.out.trans ((hb13.trans (BT.mono hb13.size)).mono HJ.out.size))
                  clear BT hb13 HCT
                  go_upto_region 29 with fail
                  obtain ⟨w14, hww14⟩ : ∃ Z, w13.alloc (.cells #[.int .i64 y0, .int .i64 y1, .int .i64 y2, .int .i64 y3, .int .i64 y4, .int .i64 y5, .int .i64 y6] 63) = Z := ⟨_, rfl⟩
                  rw [hww14] at HT HJ14
                  try rw [hww14]
                  clear hww14
                  clear htb
                  refine region_plain (fun W => W.cell? ⟨tb, 0, none⟩ = some (.int .i64 y0) ∧ W.cell? ⟨tb, 1, none⟩ = some (.int .i64 y1) ∧ W.cell? ⟨tb, 2, none⟩ = some (.int .i64 y2) ∧ W.cell? ⟨tb, 3, none⟩ = some (.int .i64 y3) ∧ W.cell? ⟨tb, 4, none⟩ = some (.int .i64 y4) ∧ W.cell? ⟨tb, 5, none⟩ = some (.int .i64 y5) ∧ W.cell? ⟨tb, 6, none⟩ = some (.int .i64 y6) ∧ W.cell? ⟨wb, 3, none⟩ = some (.slice (some ⟨gw2, 0, none⟩) l2.length cw2) ∧ W.cell? ⟨gw2, j * 7, none⟩ = some (.int .i64 y0) ∧ W.cell? ⟨gw2, j * 7 + 1, none⟩ = some (.int .i64 y1) ∧ W.cell? ⟨gw2, j * 7 + 2, none⟩ = some (.int .i64 y2) ∧ W.cell? ⟨gw2, j * 7 + 3, none⟩ = some (.int .i64 y3) ∧ W.cell? ⟨gw2, j * 7 + 4, none⟩ = some (.int .i64 y4) ∧ W.cell? ⟨gw2, j * 7 + 5, none⟩ = some (.int .i64 y5) ∧ W.cell? ⟨gw2, j * 7 + 6, none⟩ = some (.int .i64 y6)) 11 #[false, false, false, false, false, false, false, false, false, false, false] rfl rfl (by kernel_rfl) ?_
                  have HT15 : Hid (Blk w14.drew tb #[.int .i64 y0, .int .i64 y1, .int .i64 y2, .int .i64 y3, .int .i64 y4, .int .i64 y5, .int .i64 y6] 63) := Lib.hid HT.out.drew
                  have HJ15 : Hid (Below w12.heap.size w12 w14.drew) := Lib.hid HJ14.out.drew
                  obtain ⟨w15, hww15⟩ : ∃ Z, w14.drew = Z := ⟨_, rfl⟩
                  rw [hww15] at HT15 HJ15
                  try rw [hww15]
                  clear hww15
                  have hwq := (HRF4.out.past HJ15.out).war
                  unfold WarR at hwq
                  have q0 : w15.cell? ⟨gw2, j * 7, none⟩ = some (.int .i64 y0) := (World.ownsRow.cellAt hwq (j * 7 + 0) (by omega)).trans ((wl_get l2 j 0 hjl2 (by omega)).trans (by rw [HS0.out]; rfl))
                  have q1 : w15.cell? ⟨gw2, j * 7 + 1, none⟩ = some (.int .i64 y1) := (World.ownsRow.cellAt hwq (j * 7 + 1) (by omega)).trans ((wl_get l2 j 1 hjl2 (by omega)).trans (by rw [HS0.out]; rfl))
                  have q2 : w15.cell? ⟨gw2, j * 7 + 2, none⟩ = some (.int .i64 y2) := (World.ownsRow.cellAt hwq (j * 7 + 2) (by omega)).trans ((wl_get l2 j 2 hjl2 (by omega)).trans (by rw [HS0.out]; rfl))
                  have q3 : w15.cell? ⟨gw2, j * 7 + 3, none⟩ = some (.int .i64 y3) := (World.ownsRow.cellAt hwq (j * 7 + 3) (by omega)).trans ((wl_get l2 j 3 hjl2 (by omega)).trans (by rw [HS0.out]; rfl))
                  have q4 : w15.cell? ⟨gw2, j * 7 + 4, none⟩ = some (.int .i64 y4) := (World.ownsRow.cellAt hwq (j * 7 + 4) (by omega)).trans ((wl_get l2 j 4 hjl2 (by omega)).trans (by rw [HS0.out]; rfl))
                  have q5 : w15.cell? ⟨gw2, j * 7 + 5, none⟩ = some (.int .i64 y5) := (World.ownsRow.cellAt hwq (j * 7 + 5) (by omega)).trans ((wl_get l2 j 5 hjl2 (by omega)).trans (by rw [HS0.out]; rfl))
                  have q6 : w15.cell? ⟨gw2, j * 7 + 6, none⟩ = some (.int .i64 y6) := (World.ownsRow.cellAt hwq (j * 7 + 6) (by omega)).trans ((wl_get l2 j 6 hjl2 (by omega)).trans (by rw [HS0.out]; rfl))
                  have hSS : w15.cell? ⟨tb, 0, none⟩ = some (.int .i64 y0) ∧ w15.cell? ⟨tb, 1, none⟩ = some (.int .i64 y1) ∧ w15.cell? ⟨tb, 2, none⟩ = some (.int .i64 y2) ∧ w15.cell? ⟨tb, 3, none⟩ = some (.int .i64 y3) ∧ w15.cell? ⟨tb, 4, none⟩ = some (.int .i64 y4) ∧ w15.cell? ⟨tb, 5, none⟩ = some (.int .i64 y5) ∧ w15.cell? ⟨tb, 6, none⟩ = some (.int .i64 y6) ∧ w15.cell? ⟨wb, 3, none⟩ = some (.slice (some ⟨gw2, 0, none⟩) l2.length cw2) ∧ w15.cell? ⟨gw2, j * 7, none⟩ = some (.int .i64 y0) ∧ w15.cell? ⟨gw2, j * 7 + 1, none⟩ = some (.int .i64 y1) ∧ w15.cell? ⟨gw2, j * 7 + 2, none⟩ = some (.int .i64 y2) ∧ w15.cell? ⟨gw2, j * 7 + 3, none⟩ = some (.int .i64 y3) ∧ w15.cell? ⟨gw2, j * 7 + 4, none⟩ = some (.int .i64 y4) ∧ w15.cell? ⟨gw2, j * 7 + 5, none⟩ = some (.int .i64 y5) ∧ w15.cell? ⟨gw2, j * 7 + 6, none⟩ = some (.int .i64 y6) := ⟨HT15.out.cell (i := 0) rfl, HT15.out.cell (i := 1) rfl, HT15.out.cell (i := 2) rfl, HT15.out.cell (i := 3) rfl, HT15.out.cell (i := 4) rfl, HT15.out.cell (i := 5) rfl, HT15.out.cell (i := 6) rfl, (HWB4.out.past HJ15.out).cell (i := 3) rfl, q0, q1, q2, q3, q4, q5, q6⟩
                  clear q0 q1 q2 q3 q4 q5 q6 hwq
                  have hj0 : (0 : Int) ≤ (j : Int) := by omega
                  have hj1 : (j : Int) < (l2.length : Int) := by omega
                  refine take_first (i := 0) (v := ?_) rfl (by kernel_rfl) (by kernel_rfl) (by kernel_rfl) (fun _ _ _ h => h) (by rfl) (by assumption) ?_ ?_
                  rotate_left 1
                  · intro X hSX
                    (try dsimp only at hSX)
                    first | (go_simp; done) | (go_simp; with_reducible rfl)
                  try simp only [Act.put, List.setIfInBounds_toArray, List.set_cons_zero, List.set_cons_succ]
                  refine take_first (i := 1) (v := ?_) rfl (by kernel_rfl) (by kernel_rfl) (by kernel_rfl) (fun _ _ _ h => h) (by rfl) (by assumption) ?_ ?_
                  rotate_left 1
                  · intro X hSX
                    (try dsimp only at hSX)
                    first | (go_simp; done) | (go_simp; with_reducible rfl)
                  try simp only [Act.put, List.setIfInBounds_toArray, List.set_cons_zero, List.set_cons_succ]
                  refine take_first (i := 2) (v := ?_) rfl (by kernel_rfl) (by kernel_rfl) (by kernel_rfl) (fun _ _ _ h => h) (by rfl) (by assumption) ?_ ?_
                  rotate_left 1
                  · intro X hSX
                    (try dsimp only at hSX)
                    first | (go_simp; done) | (go_simp; with_reducible rfl)
                  try simp only [Act.put, List.setIfInBounds_toArray, List.set_cons_zero, List.set_cons_succ]
                  refine take_first (i := 3) (v := ?_) rfl (by kernel_rfl) (by kernel_rfl) (by kernel_rfl) (fun _ _ _ h => h) (by rfl) (by assumption) ?_ ?_
                  rotate_left 1
                  · intro X hSX
                    (try dsimp only at hSX)
                    first | (go_simp; done) | (go_simp; with_reducible rfl)
                  try simp only [Act.put, List.setIfInBounds_toArray, List.set_cons_zero, List.set_cons_succ]
                  refine take_first (i := 4) (v := ?_) rfl (by kernel_rfl) (by kernel_rfl) (by kernel_rfl) (fun _ _ _ h => h) (by rfl) (by assumption) ?_ ?_
                  rotate_left 1
                  · intro X hSX
                    (try dsimp only at hSX)
                    first | (go_simp; done) | (go_simp; with_reducible rfl)
                  try simp only [Act.put, List.setIfInBounds_toArray, List.set_cons_zero, List.set_cons_succ]
                  refine take_first (i := 5) (v := ?_) rfl (by kernel_rfl) (by kernel_rfl) (by kernel_rfl) (fun _ _ _ h => h) (by rfl) (by assumption) ?_ ?_
                  rotate_left 1
                  · intro X hSX
                    (try dsimp only at hSX)
                    first | (go_simp; done) | (go_simp; with_reducible rfl)
                  try simp only [Act.put, List.setIfInBounds_toArray, List.set_cons_zero, List.set_cons_succ]
                  refine take_first (i := 6) (v := ?_) rfl (by kernel_rfl) (by kernel_rfl) (by kernel_rfl) (fun _ _ _ h => h) (by rfl) (by assumption) ?_ ?_
                  rotate_left 1
                  · intro X hSX
                    (try dsimp only at hSX)
                    first | (go_simp; done) | (go_simp; with_reducible rfl)
                  try simp only [Act.put, List.setIfInBounds_toArray, List.set_cons_zero, List.set_cons_succ]
                  refine take_first (i := 7) (v := ?_) rfl (by kernel_rfl) (by kernel_rfl) (by kernel_rfl) (fun _ _ _ h => h) (by rfl) (by assumption) ?_ ?_
                  rotate_left 1
                  · intro X hSX
                    (try dsimp only at hSX)
                    first | (go_simp; done) | (go_simp; with_reducible rfl)
                  try simp only [Act.put, List.setIfInBounds_toArray, List.set_cons_zero, List.set_cons_succ]
                  refine take_first (i := 8) (v := ?_) rfl (by kernel_rfl) (by kernel_rfl) (by kernel_rfl) (fun _ _ _ h => h) (by rfl) (by assumption) ?_ ?_
                  rotate_left 1
                  · intro X hSX
                    (try dsimp only at hSX)
                    first | (go_simp; done) | (go_simp; with_reducible rfl)
                  try simp only [Act.put, List.setIfInBounds_toArray, List.set_cons_zero, List.set_cons_succ]
                  refine take_first (i := 9) (v := ?_) rfl (by kernel_rfl) (by kernel_rfl) (by kernel_rfl) (fun _ _ _ h => h) (by rfl) (by assumption) ?_ ?_
                  rotate_left 1
                  · intro X hSX
                    (try dsimp only at hSX)
                    first | (go_simp; done) | (go_simp; with_reducible rfl)
                  try simp only [Act.put, List.setIfInBounds_toArray, List.set_cons_zero, List.set_cons_succ]
                  refine take_first (i := 10) (v := ?_) rfl (by kernel_rfl) (by kernel_rfl) (by kernel_rfl) (fun _ _ _ h => h) (by rfl) (by assumption) ?_ ?_
                  rotate_left 1
                  · intro X hSX
                    (try dsimp only at hSX)
                    first | (go_simp; done) | (go_simp; with_reducible rfl)
                  try simp only [Act.put, List.setIfInBounds_toArray, List.set_cons_zero, List.set_cons_succ]
                  refine wpAnyH_done (by kernel_rfl) ?_ _
                  clear hSS hj0 hj1
                  go_wp2
                  go_roundw
                  case rel => exact ⟨j + 1, by omega, by go_num, HJ15⟩
                  case measure => simp [intOf]; omega
                · have hje : j = space.length := by omega
                  clear hjl
                  go_wp2
                  go_roundw
                  case rel => exact ⟨k + 1, l2, L2, by omega, by go_num, HG2, Lib.hid ⟨⟨iv2, HBK5.out, HIN5.out⟩, ⟨gw2, cw2, pb2, cb2, HWB5.out, HRF5.out⟩, HBE4.out.trans (HJ.out.mono HBE4.out.size), Nat.le_trans HSZ4.out.1 HJ.out.size, Nat.le_trans HSZ4.out.2 HJ.out.size⟩⟩
                  case measure => simp [intOf]; omega
            · intro K hK
              have BA := (Below.refl wd.heap.size wd).alloc (Nat.le_refl _) (.cells #[.bool false, .slice none 0 0, .int .i64 0, .slice none 0 0, .slice none 0 0] 56)
              have HZ0 := Lib.hid (Blk.newI wd nb #[.bool false, .slice none 0 0, .int .i64 0, .slice none 0 0, .slice none 0 0] 56 hnb)
              have HB0 := Lib.hid BA
              have HSS0 := Lib.hid (show (wd.alloc (.cells #[.bool false, .slice none 0 0, .int .i64 0, .slice none 0 0, .slice none 0 0] 56)).cell? ⟨b9, off9 + k * 6, none⟩ = some (.int .i64 m) ∧ (wd.alloc (.cells #[.bool false, .slice none 0 0, .int .i64 0, .slice none 0 0, .slice none 0 0] 56)).cell? ⟨b9, off9 + k * 6 + 1, none⟩ = some (.int .i64 kd) ∧ (wd.alloc (.cells #[.bool false, .slice none 0 0, .int .i64 0, .slice none 0 0, .slice none 0 0] 56)).cell? ⟨b9, off9 + k * 6 + 2, none⟩ = some (.int .i64 n) ∧ (wd.alloc (.cells #[.bool false, .slice none 0 0, .int .i64 0, .slice none 0 0, .slice none 0 0] 56)).cell? ⟨b9, off9 + k * 6 + 3, none⟩ = some (.int .i64 b) ∧ (wd.alloc (.cells #[.bool false, .slice none 0 0, .int .i64 0, .slice none 0 0, .slice none 0 0] 56)).cell? ⟨b9, off9 + k * 6 + 4, none⟩ = some (.slice pB bs.length cB) ∧ (wd.alloc (.cells #[.bool false, .slice none 0 0, .int .i64 0, .slice none 0 0, .slice none 0 0] 56)).cell? ⟨b9, off9 + k * 6 + 5, none⟩ = some (.slice pL br.length cL) ∧ (wd.alloc (.cells #[.bool false, .slice none 0 0, .int .i64 0, .slice none 0 0, .slice none 0 0] 56)).cell? ⟨wb, 0, none⟩ = some (.bool false) ∧ (wd.alloc (.cells #[.bool false, .slice none 0 0, .int .i64 0, .slice none 0 0, .slice none 0 0] 56)).cell? ⟨wb, 1, none⟩ = some (.slice ps space.length csz) ∧ (wd.alloc (.cells #[.bool false, .slice none 0 0, .int .i64 0, .slice none 0 0, .slice none 0 0] 56)).cell? ⟨wb, 2, none⟩ = some (.int .i64 room) ∧ (wd.alloc (.cells #[.bool false, .slice none 0 0, .int .i64 0, .slice none 0 0, .slice none 0 0] 56)).cell? ⟨wb, 3, none⟩ = some (.slice (some ⟨gw, 0, none⟩) l.length cw) ∧ (wd.alloc (.cells #[.bool false, .slice none 0 0, .int .i64 0, .slice none 0 0, .slice none 0 0] 56)).cell? ⟨wb, 4, none⟩ = some (.slice pb L.length cb) from ⟨(BA.cell (p := ⟨b9, off9 + k * 6, none⟩) hb9d).trans HSSd.out.1, (BA.cell (p := ⟨b9, off9 + k * 6 + 1, none⟩) hb9d).trans HSSd.out.2.1, (BA.cell (p := ⟨b9, off9 + k * 6 + 2, none⟩) hb9d).trans HSSd.out.2.2.1, (BA.cell (p := ⟨b9, off9 + k * 6 + 3, none⟩) hb9d).trans HSSd.out.2.2.2.1, (BA.cell (p := ⟨b9, off9 + k * 6 + 4, none⟩) hb9d).trans HSSd.out.2.2.2.2.1, (BA.cell (p := ⟨b9, off9 + k * 6 + 5, none⟩) hb9d).trans HSSd.out.2.2.2.2.2.1, (BA.cell (p := ⟨wb, 0, none⟩) hwbd).trans HSSd.out.2.2.2.2.2.2.1, (BA.cell (p := ⟨wb, 1, none⟩) hwbd).trans HSSd.out.2.2.2.2.2.2.2.1, (BA.cell (p := ⟨wb, 2, none⟩) hwbd).trans HSSd.out.2.2.2.2.2.2.2.2.1, (BA.cell (p := ⟨wb, 3, none⟩) hwbd).trans HSSd.out.2.2.2.2.2.2.2.2.2.1, (BA.cell (p := ⟨wb, 4, none⟩) hwbd).trans HSSd.out.2.2.2.2.2.2.2.2.2.2⟩)
              clear BA hSS
              go_simp
              obtain ⟨w0, hww0⟩ : ∃ Z, wd.alloc (.cells #[.bool false, .slice none 0 0, .int .i64 0, .slice none 0 0, .slice none 0 0] 56) = Z := ⟨_, rfl⟩
              rw [hww0] at HZ0 HB0 HSS0
              try rw [hww0]
              clear hww0
              have hSS := HSS0.out
              refine hK.out _ _ hSS ?_
              clear hK K
              try simp only [Act.put, List.setIfInBounds_toArray, List.set_cons_zero, List.set_cons_succ]
              refine only_one (i := 5) (by kernel_rfl) rfl (by rfl) ?_
              intro K hK
              go_simp
              refine (HDO.out w0 HB0.out).mono ?_
              rintro e w9 ⟨hb9', gw2, cw2, pb2, cb2, rfl, href2⟩
              dsimp only at href2
              have HRA := Lib.hid href2
              have HBA := Lib.hid (HB0.out.trans (hb9'.mono HB0.out.size))
              have HZA := Lib.hid (HZ0.out.past hb9')
              have HSS9 := Lib.hid (show w9.cell? ⟨b9, off9 + k * 6, none⟩ = some (.int .i64 m) ∧ w9.cell? ⟨b9, off9 + k * 6 + 1, none⟩ = some (.int .i64 kd) ∧ w9.cell? ⟨b9, off9 + k * 6 + 2, none⟩ = some (.int .i64 n) ∧ w9.cell? ⟨b9, off9 + k * 6 + 3, none⟩ = some (.int .i64 b) ∧ w9.cell? ⟨b9, off9 + k * 6 + 4, none⟩ = some (.slice pB bs.length cB) ∧ w9.cell? ⟨b9, off9 + k * 6 + 5, none⟩ = some (.slice pL br.length cL) ∧ w9.cell? ⟨wb, 0, none⟩ = some (.bool false) ∧ w9.cell? ⟨wb, 1, none⟩ = some (.slice ps space.length csz) ∧ w9.cell? ⟨wb, 2, none⟩ = some (.int .i64 room) ∧ w9.cell? ⟨wb, 3, none⟩ = some (.slice (some ⟨gw, 0, none⟩) l.length cw) ∧ w9.cell? ⟨wb, 4, none⟩ = some (.slice pb L.length cb) from ⟨(HBA.out.cell (p := ⟨b9, off9 + k * 6, none⟩) hb9d).trans HSSd.out.1, (HBA.out.cell (p := ⟨b9, off9 + k * 6 + 1, none⟩) hb9d).trans HSSd.out.2.1, (HBA.out.cell (p := ⟨b9, off9 + k * 6 + 2, none⟩) hb9d).trans HSSd.out.2.2.1, (HBA.out.cell (p := ⟨b9, off9 + k * 6 + 3, none⟩) hb9d).trans HSSd.out.2.2.2.1, (HBA.out.cell (p := ⟨b9, off9 + k * 6 + 4, none⟩) hb9d).trans HSSd.out.2.2.2.2.1, (HBA.out.cell (p := ⟨b9, off9 + k * 6 + 5, none⟩) hb9d).trans HSSd.out.2.2.2.2.2.1, (HBA.out.cell (p := ⟨wb, 0, none⟩) hwbd).trans HSSd.out.2.2.2.2.2.2.1, (HBA.out.cell (p := ⟨wb, 1, none⟩) hwbd).trans HSSd.out.2.2.2.2.2.2.2.1, (HBA.out.cell (p := ⟨wb, 2, none⟩) hwbd).trans HSSd.out.2.2.2.2.2.2.2.2.1, (HBA.out.cell (p := ⟨wb, 3, none⟩) hwbd).trans HSSd.out.2.2.2.2.2.2.2.2.2.1, (HBA.out.cell (p := ⟨wb, 4, none⟩) hwbd).trans HSSd.out.2.2.2.2.2.2.2.2.2.2⟩)
              clear href2 hb9' hSS
              have hSS := HSS9.out
              refine hK.out _ _ hSS ?_
              clear hK K
              try simp only [Act.put, List.setIfInBounds_toArray, List.set_cons_zero, List.set_cons_succ]
              refine take_first (i := 6) (v := ?_) rfl (by kernel_rfl) (by kernel_rfl) (by kernel_rfl) (fun _ _ _ h => h) (by rfl) (by assumption) ?_ ?_
              rotate_left 1
              · intro X hSX
                (try dsimp only at hSX)
                first | (go_simp; done) | (go_simp; with_reducible rfl)
              try simp only [Act.put, List.setIfInBounds_toArray, List.set_cons_zero, List.set_cons_succ]
              refine take_first (i := 7) (v := ?_) rfl (by kernel_rfl) (by kernel_rfl) (by kernel_rfl) (fun _ _ _ h => h) (by rfl) (by assumption) ?_ ?_
              rotate_left 1
              · intro X hSX
                (try dsimp only at hSX)
                first | (go_simp; done) | (go_simp; with_reducible rfl)
              try simp only [Act.put, List.setIfInBounds_toArray, List.set_cons_zero, List.set_cons_succ]
              refine take_first (i := 8) (v := ?_) rfl (by kernel_rfl) (by kernel_rfl) (by kernel_rfl) (fun _ _ _ h => h) (by rfl) (by assumption) ?_ ?_
              rotate_left 1
              · intro X hSX
                (try dsimp only at hSX)
                first | (go_simp; done) | (go_simp; with_reducible rfl)
              try simp only [Act.put, List.setIfInBounds_toArray, List.set_cons_zero, List.set_cons_succ]
              clear hSS
              have hnzd : wd.heap.size ≤ nb := Nat.le_of_eq hnb
              have m0 := HZA.out.cell (i := 0) (v := .bool false) rfl
              have m1 := HZA.out.cell (i := 1) (v := .slice none 0 0) rfl
              have m2 := HZA.out.cell (i := 2) (v := .int .i64 0) rfl
              have m3 := HZA.out.cell (i := 3) (v := .slice none 0 0) rfl
              have m4 := HZA.out.cell (i := 4) (v := .slice none 0 0) rfl
              have p0 := HZA.out.fr (i := 0)
              have p1 := HZA.out.fr (i := 1)
              have p2 := HZA.out.fr (i := 2)
              have p3 := HZA.out.fr (i := 3)
              have p4 := HZA.out.fr (i := 4)
              have HNB := Lib.hid (blk_set5 HZA.out (.bool false) (.slice ps space.length csz) (.int .i64 room) (.slice (some ⟨gw2, 0, none⟩) l2.length cw2) (.slice pb2 L2.length cb2) rfl rfl rfl rfl rfl)
              have HBN := Lib.hid (below_set5 (b := nb) HBA.out (by omega) (.bool false) (.slice ps space.length csz) (.int .i64 room) (.slice (some ⟨gw2, 0, none⟩) l2.length cw2) (.slice pb2 L2.length cb2))
              have HREF := Lib.hid (HRA.out.set5 HZA.out (.bool false) (.slice ps space.length csz) (.int .i64 room) (.slice (some ⟨gw2, 0, none⟩) l2.length cw2) (.slice pb2 L2.length cb2))
              have HSSn := Lib.hid (show (((((w9.setCell ⟨nb, 0, none⟩ (.bool false)).setCell ⟨nb, 1, none⟩ (.slice ps space.length csz)).setCell ⟨nb, 2, none⟩ (.int .i64 room)).setCell ⟨nb, 3, none⟩ (.slice (some ⟨gw2, 0, none⟩) l2.length cw2)).setCell ⟨nb, 4, none⟩ (.slice pb2 L2.length cb2)).cell? ⟨b9, off9 + k * 6, none⟩ = some (.int .i64 m) ∧ (((((w9.setCell ⟨nb, 0, none⟩ (.bool false)).setCell ⟨nb, 1, none⟩ (.slice ps space.length csz)).setCell ⟨nb, 2, none⟩ (.int .i64 room)).setCell ⟨nb, 3, none⟩ (.slice (some ⟨gw2, 0, none⟩) l2.length cw2)).setCell ⟨nb, 4, none⟩ (.slice pb2 L2.length cb2)).cell? ⟨b9, off9 + k * 6 + 1, none⟩ = some (.int .i64 kd) ∧ (((((w9.setCell ⟨nb, 0, none⟩ (.bool false)).setCell ⟨nb, 1, none⟩ (.slice ps space.length csz)).setCell ⟨nb, 2, none⟩ (.int .i64 room)).setCell ⟨nb, 3, none⟩ (.slice (some ⟨gw2, 0, none⟩) l2.length cw2)).setCell ⟨nb, 4, none⟩ (.slice pb2 L2.length cb2)).cell? ⟨b9, off9 + k * 6 + 2, none⟩ = some (.int .i64 n) ∧ (((((w9.setCell ⟨nb, 0, none⟩ (.bool false)).setCell ⟨nb, 1, none⟩ (.slice ps space.length csz)).setCell ⟨nb, 2, none⟩ (.int .i64 room)).setCell ⟨nb, 3, none⟩ (.slice (some ⟨gw2, 0, none⟩) l2.length cw2)).setCell ⟨nb, 4, none⟩ (.slice pb2 L2.length cb2)).cell? ⟨b9, off9 + k * 6 + 3, none⟩ = some (.int .i64 b) ∧ (((((w9.setCell ⟨nb, 0, none⟩ (.bool false)).setCell ⟨nb, 1, none⟩ (.slice ps space.length csz)).setCell ⟨nb, 2, none⟩ (.int .i64 room)).setCell ⟨nb, 3, none⟩ (.slice (some ⟨gw2, 0, none⟩) l2.length cw2)).setCell ⟨nb, 4, none⟩ (.slice pb2 L2.length cb2)).cell? ⟨b9, off9 + k * 6 + 4, none⟩ = some (.slice pB bs.length cB) ∧ (((((w9.setCell ⟨nb, 0, none⟩ (.bool false)).setCell ⟨nb, 1, none⟩ (.slice ps space.length csz)).setCell ⟨nb, 2, none⟩ (.int .i64 room)).setCell ⟨nb, 3, none⟩ (.slice (some ⟨gw2, 0, none⟩) l2.length cw2)).setCell ⟨nb, 4, none⟩ (.slice pb2 L2.length cb2)).cell? ⟨b9, off9 + k * 6 + 5, none⟩ = some (.slice pL br.length cL) ∧ (((((w9.setCell ⟨nb, 0, none⟩ (.bool false)).setCell ⟨nb, 1, none⟩ (.slice ps space.length csz)).setCell ⟨nb, 2, none⟩ (.int .i64 room)).setCell ⟨nb, 3, none⟩ (.slice (some ⟨gw2, 0, none⟩) l2.length cw2)).setCell ⟨nb, 4, none⟩ (.slice pb2 L2.length cb2)).cell? ⟨wb, 0, none⟩ = some (.bool false) ∧ (((((w9.setCell ⟨nb, 0, none⟩ (.bool false)).setCell ⟨nb, 1, none⟩ (.slice ps space.length csz)).setCell ⟨nb, 2, none⟩ (.int .i64 room)).setCell ⟨nb, 3, none⟩ (.slice (some ⟨gw2, 0, none⟩) l2.length cw2)).setCell ⟨nb, 4, none⟩ (.slice pb2 L2.length cb2)).cell? ⟨wb, 1, none⟩ = some (.slice ps space.length csz) ∧ (((((w9.setCell ⟨nb, 0, none⟩ (.bool false)).setCell ⟨nb, 1, none⟩ (.slice ps space.length csz)).setCell ⟨nb, 2, none⟩ (.int .i64 room)).setCell ⟨nb, 3, none⟩ (.slice (some ⟨gw2, 0, none⟩) l2.length cw2)).setCell ⟨nb, 4, none⟩ (.slice pb2 L2.length cb2)).cell? ⟨wb, 2, none⟩ = some (.int .i64 room) ∧ (((((w9.setCell ⟨nb, 0, none⟩ (.bool false)).setCell ⟨nb, 1, none⟩ (.slice ps space.length csz)).setCell ⟨nb, 2, none⟩ (.int .i64 room)).setCell ⟨nb, 3, none⟩ (.slice (some ⟨gw2, 0, none⟩) l2.length cw2)).setCell ⟨nb, 4, none⟩ (.slice pb2 L2.length cb2)).cell? ⟨wb, 3, none⟩ = some (.slice (some ⟨gw, 0, none⟩) l.length cw) ∧ (((((w9.setCell ⟨nb, 0, none⟩ (.bool false)).setCell ⟨nb, 1, none⟩ (.slice ps space.length csz)).setCell ⟨nb, 2, none⟩ (.int .i64 room)).setCell ⟨nb, 3, none⟩ (.slice (some ⟨gw2, 0, none⟩) l2.length cw2)).setCell ⟨nb, 4, none⟩ (.slice pb2 L2.length cb2)).cell? ⟨wb, 4, none⟩ = some (.slice pb L.length cb) from ⟨(HBN.out.cell (p := ⟨b9, off9 + k * 6, none⟩) hb9d).trans HSSd.out.1, (HBN.out.cell (p := ⟨b9, off9 + k * 6 + 1, none⟩) hb9d).trans HSSd.out.2.1, (HBN.out.cell (p := ⟨b9, off9 + k * 6 + 2, none⟩) hb9d).trans HSSd.out.2.2.1, (HBN.out.cell (p := ⟨b9, off9 + k * 6 + 3, none⟩) hb9d).trans HSSd.out.2.2.2.1, (HBN.out.cell (p := ⟨b9, off9 + k * 6 + 4, none⟩) hb9d).trans HSSd.out.2.2.2.2.1, (HBN.out.cell (p := ⟨b9, off9 + k * 6 + 5, none⟩) hb9d).trans HSSd.out.2.2.2.2.2.1, (HBN.out.cell (p := ⟨wb, 0, none⟩) hwbd).trans HSSd.out.2.2.2.2.2.2.1, (HBN.out.cell (p := ⟨wb, 1, none⟩) hwbd).trans HSSd.out.2.2.2.2.2.2.2.1, (HBN.out.cell (p := ⟨wb, 2, none⟩) hwbd).trans HSSd.out.2.2.2.2.2.2.2.2.1, (HBN.out.cell (p := ⟨wb, 3, none⟩) hwbd).trans HSSd.out.2.2.2.2.2.2.2.2.2.1, (HBN.out.cell (p := ⟨wb, 4, none⟩) hwbd).trans HSSd.out.2.2.2.2.2.2.2.2.2.2⟩)
              refine only_one (i := 10) (by kernel_rfl) rfl (by rfl) ?_
              intro K hK
              go_simp
              obtain ⟨wn, hwwn⟩ : ∃ Z, ((((w9.setCell ⟨nb, 0, none⟩ (.bool false)).setCell ⟨nb, 1, none⟩ (.slice ps space.length csz)).setCell ⟨nb, 2, none⟩ (.int .i64 room)).setCell ⟨nb, 3, none⟩ (.slice (some ⟨gw2, 0, none⟩) l2.length cw2)).setCell ⟨nb, 4, none⟩ (.slice pb2 L2.length cb2) = Z := ⟨_, rfl⟩
              rw [hwwn] at HNB HBN HREF HSSn
              try rw [hwwn]
              clear hwwn
              have hSS := HSSn.out
              refine hK.out _ _ hSS ?_
              clear hK K
              try simp only [Act.put, List.setIfInBounds_toArray, List.set_cons_zero, List.set_cons_succ]
              refine take_first (i := 11) (v := ?_) rfl (by kernel_rfl) (by kernel_rfl) (by kernel_rfl) (fun _ _ _ h => h) (by rfl) (by assumption) ?_ ?_
              rotate_left 1
              · intro X hSX
                (try dsimp only at hSX)
                first | (go_simp; done) | (go_simp; with_reducible rfl)
              try simp only [Act.put, List.setIfInBounds_toArray, List.set_cons_zero, List.set_cons_succ]
              refine wpAnyH_done (by kernel_rfl) ?_ _
              clear hSS m0 p0 m1 p1 m2 p2 m3 p3 m4 p4
              have HCLn := Lib.hid (And.intro HSSn.out.1 (And.intro HSSn.out.2.1 (And.intro HSSn.out.2.2.1 (And.intro HSSn.out.2.2.2.1 (And.intro HSSn.out.2.2.2.2.1 HSSn.out.2.2.2.2.2.1)))))
              have k0 := HCLn.out.1
              have k1 := HCLn.out.2.1
              have k2 := HCLn.out.2.2.1
              have k3 := HCLn.out.2.2.2.1
              have k4 := HCLn.out.2.2.2.2.1
              have k5 := HCLn.out.2.2.2.2.2
              have HDn := Lib.hid (HD.out wn HBN.out)
              have HBKn := Lib.hid (HBKd.out.past HBN.out)
              go_upto_region 19 with fail
              go_wp2_with fail
              refine HDn.out.mono ?_
              intro e w10 hbt
              obtain ⟨iv2, hbk2, hin2⟩ := hbt.2.1
              obtain rfl := hbt.1
              have HBK2 := Lib.hid hbk2
              have HIN2 := Lib.hid hin2
              have HNB2 := Lib.hid (hbt.keep HBKn.out HNB.out (by decide) (by decide))
              have HWB2 := Lib.hid (hbt.keep HBKn.out (HBLd.out.past HBN.out) (by decide) (by decide))
              have HRF2 : Hid (RefAt w10 base2 space l2 L2 ps csz gw2 cw2 pb2 cb2) := Lib.hid ⟨hbt.row HBKn.out HREF.out.sp (by decide) (by decide), hbt.row HBKn.out HREF.out.war (by decide) (by decide), hbt.row HBKn.out HREF.out.bat (by decide) (by decide)⟩
              have HBEn := Lib.hid (HBEd.out.trans (HBN.out.mono HBEd.out.size))
              have HBE2 := Lib.hid (HBEn.out.trans (hbt.belowO HCN.out.1 HCN.out.2.1 HBEn.out.size))
              have HSZ2 : Hid (base1 ≤ w10.heap.size ∧ base2 ≤ w10.heap.size) := Lib.hid (by have h1 := hbt.size; have h2 := HBN.out.size; have h3 := HB12d.out; omega)
              clear hbt hbk2 hin2 HDn k0 k1 k2 k3 k4 k5
              have HCL2 := Lib.hid (And.intro ((HBE2.out.cell (p := ⟨b9, off9 + k * 6, none⟩) hb9).trans HCL.out.1) (And.intro ((HBE2.out.cell (p := ⟨b9, off9 + k * 6 + 1, none⟩) hb9).trans HCL.out.2.1) (And.intro ((HBE2.out.cell (p := ⟨b9, off9 + k * 6 + 2, none⟩) hb9).trans HCL.out.2.2.1) (And.intro ((HBE2.out.cell (p := ⟨b9, off9 + k * 6 + 3, none⟩) hb9).trans HCL.out.2.2.2.1) (And.intro ((HBE2.out.cell (p := ⟨b9, off9 + k * 6 + 4, none⟩) hb9).trans HCL.out.2.2.2.2.1) ((HBE2.out.cell (p := ⟨b9, off9 + k * 6 + 5, none⟩) hb9).trans HCL.out.2.2.2.2.2))))))
              have k0 := HCL2.out.1
              have k1 := HCL2.out.2.1
              have k2 := HCL2.out.2.2.1
              have k3 := HCL2.out.2.2.2.1
              have k4 := HCL2.out.2.2.2.2.1
              have k5 := HCL2.out.2.2.2.2.2
              have HDn2 := Lib.hid (do_nil m kd n b _ _ bs br w10 (HS4.out.past HBE2.out).src (HS5.out.past HBE2.out) (by have := HFEW.out.1; omega) (by have := HFEW.out.2; omega))
              go_upto_region 22 with fail
              go_wp2_with fail
              refine HDn2.out.mono ?_
              rintro e w11 ⟨rfl, hb11⟩
              clear HDn2 HCL2 k0 k1 k2 k3 k4 k5
              have HBK3 := Lib.hid (HBK2.out.past hb11)
              have HIN3 := Lib.hid (HIN2.out.past hb11)
              have HNB3 := Lib.hid (HNB2.out.past hb11)
              have HWB3 := Lib.hid (HWB2.out.past hb11)
              have HRF3 := Lib.hid (HRF2.out.past hb11)
              have HBE3 := Lib.hid (HBE2.out.trans (hb11.mono HBE2.out.size))
              have HSZ3 : Hid (base1 ≤ w11.heap.size ∧ base2 ≤ w11.heap.size) := Lib.hid (by have h1 := HSZ2.out; have h2 := hb11.size; omega)
              clear hb11
              have e0 := HNB3.out.cell (i := 0) (v := .bool false) rfl
              have e1 := HNB3.out.cell (i := 1) (v := .slice ps space.length csz) rfl
              have e2 := HNB3.out.cell (i := 2) (v := .int .i64 room) rfl
              have e3 := HNB3.out.cell (i := 3) (v := .slice (some ⟨gw2, 0, none⟩) l2.length cw2) rfl
              have e4 := HNB3.out.cell (i := 4) (v := .slice pb2 L2.length cb2) rfl
              have z0 := HWB3.out.cell (i := 0) (v := .bool false) rfl
              have z1 := HWB3.out.cell (i := 1) (v := .slice ps space.length csz) rfl
              have z2 := HWB3.out.cell (i := 2) (v := .int .i64 room) rfl
              have z3 := HWB3.out.cell (i := 3) (v := .slice (some ⟨gw, 0, none⟩) l.length cw) rfl
              have z4 := HWB3.out.cell (i := 4) (v := .slice pb L.length cb) rfl
              have y0 := HWB3.out.fr (i := 0)
              have y1 := HWB3.out.fr (i := 1)
              have y2 := HWB3.out.fr (i := 2)
              have y3 := HWB3.out.fr (i := 3)
              have y4 := HWB3.out.fr (i := 4)
              have HWB4 := Lib.hid (blk_set5 HWB3.out (.bool false) (.slice ps space.length csz) (.int .i64 room) (.slice (some ⟨gw2, 0, none⟩) l2.length cw2) (.slice pb2 L2.length cb2) rfl rfl rfl rfl rfl)
              have HBK4 := Lib.hid (HBK3.out.far5 HWB3.out (by decide) (by decide) (.bool false) (.slice ps space.length csz) (.int .i64 room) (.slice (some ⟨gw2, 0, none⟩) l2.length cw2) (.slice pb2 L2.length cb2))
              have HIN4 := Lib.hid (own_set5 HIN3.out (own_ne HIN3.out ⟨_, HWB3.out⟩ (by decide)) (.bool false) (.slice ps space.length csz) (.int .i64 room) (.slice (some ⟨gw2, 0, none⟩) l2.length cw2) (.slice pb2 L2.length cb2))
              have HRF4 := Lib.hid (HRF3.out.set5 HWB3.out (.bool false) (.slice ps space.length csz) (.int .i64 room) (.slice (some ⟨gw2, 0, none⟩) l2.length cw2) (.slice pb2 L2.length cb2))
              have HBE4 := Lib.hid (below_set5 (b := wb) HBE3.out HCN.out.2.2.2.1 (.bool false) (.slice ps space.length csz) (.int .i64 room) (.slice (some ⟨gw2, 0, none⟩) l2.length cw2) (.slice pb2 L2.length cb2))
              have HSZ4 : Hid (base1 ≤ (((((w11.setCell ⟨wb, 0, none⟩ (.bool false)).setCell ⟨wb, 1, none⟩ (.slice ps space.length csz)).setCell ⟨wb, 2, none⟩ (.int .i64 room)).setCell ⟨wb, 3, none⟩ (.slice (some ⟨gw2, 0, none⟩) l2.length cw2)).setCell ⟨wb, 4, none⟩ (.slice pb2 L2.length cb2)).heap.size ∧ base2 ≤ (((((w11.setCell ⟨wb, 0, none⟩ (.bool false)).setCell ⟨wb, 1, none⟩ (.slice ps space.length csz)).setCell ⟨wb, 2, none⟩ (.int .i64 room)).setCell ⟨wb, 3, none⟩ (.slice (some ⟨gw2, 0, none⟩) l2.length cw2)).setCell ⟨wb, 4, none⟩ (.slice pb2 L2.length cb2)).heap.size) := Lib.hid (by have h1 := HSZ3.out; have h2 := (below_set5 (b := wb) (Below.refl 0 w11) (Nat.zero_le _) (.bool false) (.slice ps space.length csz) (.int .i64 room) (.slice (some ⟨gw2, 0, none⟩) l2.length cw2) (.slice pb2 L2.length cb2)).size; omega)
              go_upto_region 25 with fail
              obtain ⟨w12, hww12⟩ : ∃ Z, ((((w11.setCell ⟨wb, 0, none⟩ (.bool false)).setCell ⟨wb, 1, none⟩ (.slice ps space.length csz)).setCell ⟨wb, 2, none⟩ (.int .i64 room)).setCell ⟨wb, 3, none⟩ (.slice (some ⟨gw2, 0, none⟩) l2.length cw2)).setCell ⟨wb, 4, none⟩ (.slice pb2 L2.length cb2) = Z := ⟨_, rfl⟩
              rw [hww12] at HWB4 HBK4 HIN4 HRF4 HBE4 HSZ4
              try rw [hww12]
              clear hww12
              clear e0 z0 y0 e1 z1 y1 e2 z2 y2 e3 z3 y3 e4 z4 y4
              go_wp2
              go_loopw [17] (fun i wq => ∃ j : Nat, j ≤ space.length ∧ i = .int .i64 j ∧ Hid (Below w12.heap.size w12 wq)) (fun i _ => space.length - (intOf i).toNat)
              case atStart => exact ⟨0, Nat.zero_le _, rfl, Lib.hid (Below.refl _ _)⟩
              case round =>
                obtain ⟨j, hj, rfl, HJ⟩ := hrel
                have HBK5 := Lib.hid (HBK4.out.past HJ.out)
                have HIN5 := Lib.hid (own_past HIN4.out HJ.out)
                have HWB5 := Lib.hid (HWB4.out.past HJ.out)
                have HRF5 := Lib.hid (HRF4.out.past HJ.out)
                by_cases hjl : j < space.length
                · have hjl2 : j < l2.length := by have := HG2.out.len; omega
                  obtain ⟨s0, hs0⟩ : ∃ s0, l2[j]?.getD St.zero = s0 := ⟨_, rfl⟩
                  have hcf : countF l2 (j : Int) = (s0, 0) := by
                    unfold countF
                    rw [if_pos (by unfold inB; simp; omega)]
                    simp only [Int.toNat_natCast]
                    rw [hs0]
                  have hct := count_book bb base1 l2 room iv2 (j : Int) wr HBK5.out (by have := HG2.out.len; omega)
                  rw [hcf] at hct
                  obtain ⟨y0, y1, y2, y3, y4, y5, y6, y7⟩ := s0
                  have HS0 := Lib.hid hs0
                  dsimp only [St.wares] at hct
                  have HCT := Lib.hid hct
                  clear hcf hct hs0
                  go_wp2_with fail
                  refine HCT.out.mono ?_
                  rintro e w13 ⟨rfl, hb13⟩
                  obtain ⟨tb, htb⟩ : ∃ x, w13.heap.size = x := ⟨_, rfl⟩
                  have BT := (Below.refl w13.heap.size w13).alloc (Nat.le_refl _) (.cells #[.int .i64 y0, .int .i64 y1, .int .i64 y2, .int .i64 y3, .int .i64 y4, .int .i64 y5, .int .i64 y6] 63)
                  have HT := Lib.hid (Blk.newI w13 tb #[.int .i64 y0, .int .i64 y1, .int .i64 y2, .int .i64 y3, .int .i64 y4, .int .i64 y5, .int .i64 y6] 63 htb)
                  have HJ14 := Lib.hid (HJ.out.trans ((hb13.trans (BT.mono hb13.size)).mono HJ.out.size))
                  clear BT hb13 HCT
                  go_upto_region 29 with fail
                  obtain ⟨w14, hww14⟩ : ∃ Z, w13.alloc (.cells #[.int .i64 y0, .int .i64 y1, .int .i64 y2, .int .i64 y3, .int .i64 y4, .int .i64 y5, .int .i64 y6] 63) = Z := ⟨_, rfl⟩
                  rw [hww14] at HT HJ14
                  try rw [hww14]
                  clear hww14
                  clear htb
                  refine region_plain (fun W => W.cell? ⟨tb, 0, none⟩ = some (.int .i64 y0) ∧ W.cell? ⟨tb, 1, none⟩ = some (.int .i64 y1) ∧ W.cell? ⟨tb, 2, none⟩ = some (.int .i64 y2) ∧ W.cell? ⟨tb, 3, none⟩ = some (.int .i64 y3) ∧ W.cell? ⟨tb, 4, none⟩ = some (.int .i64 y4) ∧ W.cell? ⟨tb, 5, none⟩ = some (.int .i64 y5) ∧ W.cell? ⟨tb, 6, none⟩ = some (.int .i64 y6) ∧ W.cell? ⟨wb, 3, none⟩ = some (.slice (some ⟨gw2, 0, none⟩) l2.length cw2) ∧ W.cell? ⟨gw2, j * 7, none⟩ = some (.int .i64 y0) ∧ W.cell? ⟨gw2, j * 7 + 1, none⟩ = some (.int .i64 y1) ∧ W.cell? ⟨gw2, j * 7 + 2, none⟩ = some (.int .i64 y2) ∧ W.cell? ⟨gw2, j * 7 + 3, none⟩ = some (.int .i64 y3) ∧ W.cell? ⟨gw2, j * 7 + 4, none⟩ = some (.int .i64 y4) ∧ W.cell? ⟨gw2, j * 7 + 5, none⟩ = some (.int .i64 y5) ∧ W.cell? ⟨gw2, j * 7 + 6, none⟩ = some (.int .i64 y6)) 11 #[false, false, false, false, false, false, false, false, false, false, false] rfl rfl (by kernel_rfl) ?_
                  have HT15 : Hid (Blk w14.drew tb #[.int .i64 y0, .int .i64 y1, .int .i64 y2, .int .i64 y3, .int .i64 y4, .int .i64 y5, .int .i64 y6] 63) := Lib.hid HT.out.drew
                  have HJ15 : Hid (Below w12.heap.size w12 w14.drew) := Lib.hid HJ14.out.drew
                  obtain ⟨w15, hww15⟩ : ∃ Z, w14.drew = Z := ⟨_, rfl⟩
                  rw [hww15] at HT15 HJ15
                  try rw [hww15]
                  clear hww15
                  have hwq := (HRF4.out.past HJ15.out).war
                  unfold WarR at hwq
                  have q0 : w15.cell? ⟨gw2, j * 7, none⟩ = some (.int .i64 y0) := (World.ownsRow.cellAt hwq (j * 7 + 0) (by omega)).trans ((wl_get l2 j 0 hjl2 (by omega)).trans (by rw [HS0.out]; rfl))
                  have q1 : w15.cell? ⟨gw2, j * 7 + 1, none⟩ = some (.int .i64 y1) := (World.ownsRow.cellAt hwq (j * 7 + 1) (by omega)).trans ((wl_get l2 j 1 hjl2 (by omega)).trans (by rw [HS0.out]; rfl))
                  have q2 : w15.cell? ⟨gw2, j * 7 + 2, none⟩ = some (.int .i64 y2) := (World.ownsRow.cellAt hwq (j * 7 + 2) (by omega)).trans ((wl_get l2 j 2 hjl2 (by omega)).trans (by rw [HS0.out]; rfl))
                  have q3 : w15.cell? ⟨gw2, j * 7 + 3, none⟩ = some (.int .i64 y3) := (World.ownsRow.cellAt hwq (j * 7 + 3) (by omega)).trans ((wl_get l2 j 3 hjl2 (by omega)).trans (by rw [HS0.out]; rfl))
                  have q4 : w15.cell? ⟨gw2, j * 7 + 4, none⟩ = some (.int .i64 y4) := (World.ownsRow.cellAt hwq (j * 7 + 4) (by omega)).trans ((wl_get l2 j 4 hjl2 (by omega)).trans (by rw [HS0.out]; rfl))
                  have q5 : w15.cell? ⟨gw2, j * 7 + 5, none⟩ = some (.int .i64 y5) := (World.ownsRow.cellAt hwq (j * 7 + 5) (by omega)).trans ((wl_get l2 j 5 hjl2 (by omega)).trans (by rw [HS0.out]; rfl))
                  have q6 : w15.cell? ⟨gw2, j * 7 + 6, none⟩ = some (.int .i64 y6) := (World.ownsRow.cellAt hwq (j * 7 + 6) (by omega)).trans ((wl_get l2 j 6 hjl2 (by omega)).trans (by rw [HS0.out]; rfl))
                  have hSS : w15.cell? ⟨tb, 0, none⟩ = some (.int .i64 y0) ∧ w15.cell? ⟨tb, 1, none⟩ = some (.int .i64 y1) ∧ w15.cell? ⟨tb, 2, none⟩ = some (.int .i64 y2) ∧ w15.cell? ⟨tb, 3, none⟩ = some (.int .i64 y3) ∧ w15.cell? ⟨tb, 4, none⟩ = some (.int .i64 y4) ∧ w15.cell? ⟨tb, 5, none⟩ = some (.int .i64 y5) ∧ w15.cell? ⟨tb, 6, none⟩ = some (.int .i64 y6) ∧ w15.cell? ⟨wb, 3, none⟩ = some (.slice (some ⟨gw2, 0, none⟩) l2.length cw2) ∧ w15.cell? ⟨gw2, j * 7, none⟩ = some (.int .i64 y0) ∧ w15.cell? ⟨gw2, j * 7 + 1, none⟩ = some (.int .i64 y1) ∧ w15.cell? ⟨gw2, j * 7 + 2, none⟩ = some (.int .i64 y2) ∧ w15.cell? ⟨gw2, j * 7 + 3, none⟩ = some (.int .i64 y3) ∧ w15.cell? ⟨gw2, j * 7 + 4, none⟩ = some (.int .i64 y4) ∧ w15.cell? ⟨gw2, j * 7 + 5, none⟩ = some (.int .i64 y5) ∧ w15.cell? ⟨gw2, j * 7 + 6, none⟩ = some (.int .i64 y6) := ⟨HT15.out.cell (i := 0) rfl, HT15.out.cell (i := 1) rfl, HT15.out.cell (i := 2) rfl, HT15.out.cell (i := 3) rfl, HT15.out.cell (i := 4) rfl, HT15.out.cell (i := 5) rfl, HT15.out.cell (i := 6) rfl, (HWB4.out.past HJ15.out).cell (i := 3) rfl, q0, q1, q2, q3, q4, q5, q6⟩
                  clear q0 q1 q2 q3 q4 q5 q6 hwq
                  have hj0 : (0 : Int) ≤ (j : Int) := by omega
                  have hj1 : (j : Int) < (l2.length : Int) := by omega
                  refine take_first (i := 0) (v := ?_) rfl (by kernel_rfl) (by kernel_rfl) (by kernel_rfl) (fun _ _ _ h => h) (by rfl) (by assumption) ?_ ?_
                  rotate_left 1
                  · intro X hSX
                    (try dsimp only at hSX)
                    first | (go_simp; done) | (go_simp; with_reducible rfl)
                  try simp only [Act.put, List.setIfInBounds_toArray, List.set_cons_zero, List.set_cons_succ]
                  refine take_first (i := 1) (v := ?_) rfl (by kernel_rfl) (by kernel_rfl) (by kernel_rfl) (fun _ _ _ h => h) (by rfl) (by assumption) ?_ ?_
                  rotate_left 1
                  · intro X hSX
                    (try dsimp only at hSX)
                    first | (go_simp; done) | (go_simp; with_reducible rfl)
                  try simp only [Act.put, List.setIfInBounds_toArray, List.set_cons_zero, List.set_cons_succ]
                  refine take_first (i := 2) (v := ?_) rfl (by kernel_rfl) (by kernel_rfl) (by kernel_rfl) (fun _ _ _ h => h) (by rfl) (by assumption) ?_ ?_
                  rotate_left 1
                  · intro X hSX
                    (try dsimp only at hSX)
                    first | (go_simp; done) | (go_simp; with_reducible rfl)
                  try simp only [Act.put, List.setIfInBounds_toArray, List.set_cons_zero, List.set_cons_succ]
                  refine take_first (i := 3) (v := ?_) rfl (by kernel_rfl) (by kernel_rfl) (by kernel_rfl) (fun _ _ _ h => h) (by rfl) (by assumption) ?_ ?_
                  rotate_left 1
                  · intro X hSX
                    (try dsimp only at hSX)
                    first | (go_simp; done) | (go_simp; with_reducible rfl)
                  try simp only [Act.put, List.setIfInBounds_toArray, List.set_cons_zero, List.set_cons_succ]
                  refine take_first (i := 4) (v := ?_) rfl (by kernel_rfl) (by kernel_rfl) (by kernel_rfl) (fun _ _ _ h => h) (by rfl) (by assumption) ?_ ?_
                  rotate_left 1
                  · intro X hSX
                    (try dsimp only at hSX)
                    first | (go_simp; done) | (go_simp; with_reducible rfl)
                  try simp only [Act.put, List.setIfInBounds_toArray, List.set_cons_zero, List.set_cons_succ]
                  refine take_first (i := 5) (v := ?_) rfl (by kernel_rfl) (by kernel_rfl) (by kernel_rfl) (fun _ _ _ h => h) (by rfl) (by assumption) ?_ ?_
                  rotate_left 1
                  · intro X hSX
                    (try dsimp only at hSX)
                    first | (go_simp; done) | (go_simp; with_reducible rfl)
                  try simp only [Act.put, List.setIfInBounds_toArray, List.set_cons_zero, List.set_cons_succ]
                  refine take_first (i := 6) (v := ?_) rfl (by kernel_rfl) (by kernel_rfl) (by kernel_rfl) (fun _ _ _ h => h) (by rfl) (by assumption) ?_ ?_
                  rotate_left 1
                  · intro X hSX
                    (try dsimp only at hSX)
                    first | (go_simp; done) | (go_simp; with_reducible rfl)
                  try simp only [Act.put, List.setIfInBounds_toArray, List.set_cons_zero, List.set_cons_succ]
                  refine take_first (i := 7) (v := ?_) rfl (by kernel_rfl) (by kernel_rfl) (by kernel_rfl) (fun _ _ _ h => h) (by rfl) (by assumption) ?_ ?_
                  rotate_left 1
                  · intro X hSX
                    (try dsimp only at hSX)
                    first | (go_simp; done) | (go_simp; with_reducible rfl)
                  try simp only [Act.put, List.setIfInBounds_toArray, List.set_cons_zero, List.set_cons_succ]
                  refine take_first (i := 8) (v := ?_) rfl (by kernel_rfl) (by kernel_rfl) (by kernel_rfl) (fun _ _ _ h => h) (by rfl) (by assumption) ?_ ?_
                  rotate_left 1
                  · intro X hSX
                    (try dsimp only at hSX)
                    first | (go_simp; done) | (go_simp; with_reducible rfl)
                  try simp only [Act.put, List.setIfInBounds_toArray, List.set_cons_zero, List.set_cons_succ]
                  refine take_first (i := 9) (v := ?_) rfl (by kernel_rfl) (by kernel_rfl) (by kernel_rfl) (fun _ _ _ h => h) (by rfl) (by assumption) ?_ ?_
                  rotate_left 1
                  · intro X hSX
                    (try dsimp only at hSX)
                    first | (go_simp; done) | (go_simp; with_reducible rfl)
                  try simp only [Act.put, List.setIfInBounds_toArray, List.set_cons_zero, List.set_cons_succ]
                  refine take_first (i := 10) (v := ?_) rfl (by kernel_rfl) (by kernel_rfl) (by kernel_rfl) (fun _ _ _ h => h) (by rfl) (by assumption) ?_ ?_
                  rotate_left 1
                  · intro X hSX
                    (try dsimp only at hSX)
                    first | (go_simp; done) | (go_simp; with_reducible rfl)
                  try simp only [Act.put, List.setIfInBounds_toArray, List.set_cons_zero, List.set_cons_succ]
                  refine wpAnyH_done (by kernel_rfl) ?_ _
                  clear hSS hj0 hj1
                  go_wp2
                  go_roundw
                  case rel => exact ⟨j + 1, by omega, by go_num, HJ15⟩
                  case measure => simp [intOf]; omega
                · have hje : j = space.length := by omega
                  clear hjl
                  go_wp2
                  go_roundw
                  case rel => exact ⟨k + 1, l2, L2, by omega, by go_num, HG2, Lib.hid ⟨⟨iv2, HBK5.out, HIN5.out⟩, ⟨gw2, cw2, pb2, cb2, HWB5.out, HRF5.out⟩, HBE4.out.trans (HJ.out.mono HBE4.out.size), Nat.le_trans HSZ4.out.1 HJ.out.size, Nat.le_trans HSZ4.out.2 HJ.out.size⟩⟩
                  case measure => simp [intOf]; omega
          · obtain ⟨⟨iv, hbk, hin⟩, _, hbel, hb1, hb2⟩ := HBW.out
            have hlen := HG.out.len
            have hn : countF l (space.length : Int) = (St.zero, 7) := by unfold countF; rw [if_neg (by unfold inB; simp; omega)]
            have hm : countF l (-1) = (St.zero, 7) := by unfold countF; rw [if_neg (by unfold inB; simp)]
            have HC1 := Lib.hid (fun (W : World) (hW : Below wr.heap.size wr W) => count_book bb base1 l room iv (space.length : Int) W (hbk.past hW) (by omega))
            have HC2 := Lib.hid (fun (W : World) (hW : Below wr.heap.size wr W) => count_book bb base1 l room iv (-1) W (hbk.past hW) (by omega))
            rw [hn] at HC1
            rw [hm] at HC2
            have HBE := Lib.hid hbel
            dsimp only [St.wares, St.zero] at HC1 HC2
            clear hn hm hlen hbk hin hbel hb1 hb2
            go_wp2_with fail
            refine (HC1.out wr (Below.refl _ _)).mono ?_
            rintro e w6 ⟨rfl, hb6⟩
            obtain ⟨xa, hxa⟩ : ∃ x, w6.heap.size = x := ⟨_, rfl⟩
            have HA1 := Lib.hid (Blk.newI w6 xa #[.int .i64 0, .int .i64 0, .int .i64 0, .int .i64 0, .int .i64 0, .int .i64 0, .int .i64 0] 63 hxa)
            have H7 := Lib.hid (hb6.alloc hb6.size (.cells #[.int .i64 0, .int .i64 0, .int .i64 0, .int .i64 0, .int .i64 0, .int .i64 0, .int .i64 0] 63))
            clear hb6
            go_upto_region 32 with fail
            obtain ⟨w7, hw7⟩ : ∃ Z, w6.alloc (.cells #[.int .i64 0, .int .i64 0, .int .i64 0, .int .i64 0, .int .i64 0, .int .i64 0, .int .i64 0] 63) = Z := ⟨_, rfl⟩
            rw [hw7] at HA1 H7
            try rw [hw7]
            clear hw7 hxa
            go_wp2_with fail
            refine (HC2.out w7 H7.out).mono ?_
            rintro e w8 ⟨rfl, hb8⟩
            obtain ⟨xc, hxc⟩ : ∃ x, w8.heap.size = x := ⟨_, rfl⟩
            have HA2 := Lib.hid (Blk.newI w8 xc #[.int .i64 0, .int .i64 0, .int .i64 0, .int .i64 0, .int .i64 0, .int .i64 0, .int .i64 0] 63 hxc)
            have h89 := hb8.alloc hb8.size (.cells #[.int .i64 0, .int .i64 0, .int .i64 0, .int .i64 0, .int .i64 0, .int .i64 0, .int .i64 0] 63)
            have HA1b := Lib.hid (HA1.out.past h89)
            have H9 := Lib.hid (H7.out.trans (h89.mono H7.out.size))
            clear hb8 h89
            go_upto_region 33 with fail
            obtain ⟨w9, hw9⟩ : ∃ Z, w8.alloc (.cells #[.int .i64 0, .int .i64 0, .int .i64 0, .int .i64 0, .int .i64 0, .int .i64 0, .int .i64 0] 63) = Z := ⟨_, rfl⟩
            rw [hw9] at HA2 HA1b H9
            try rw [hw9]
            clear hw9 hxc
            have hnc := nil_count 0 w9
            dsimp only [St.wares, St.zero] at hnc
            have HNC := Lib.hid hnc
            clear hnc
            go_wp2_with fail
            refine HNC.out.mono ?_
            rintro e w10 ⟨rfl, hb10⟩
            obtain ⟨xd, hxd⟩ : ∃ x, w10.heap.size = x := ⟨_, rfl⟩
            have HA3 := Lib.hid (Blk.newI w10 xd #[.int .i64 0, .int .i64 0, .int .i64 0, .int .i64 0, .int .i64 0, .int .i64 0, .int .i64 0] 63 hxd)
            have h1011 := hb10.alloc hb10.size (.cells #[.int .i64 0, .int .i64 0, .int .i64 0, .int .i64 0, .int .i64 0, .int .i64 0, .int .i64 0] 63)
            have HA1c := Lib.hid (HA1b.out.past h1011)
            have HA2c := Lib.hid (HA2.out.past h1011)
            have H11 := Lib.hid (H9.out.trans (h1011.mono H9.out.size))
            clear hb10 h1011 HNC
            go_upto_region 34 with fail
            obtain ⟨w11, hw11⟩ : ∃ Z, w10.alloc (.cells #[.int .i64 0, .int .i64 0, .int .i64 0, .int .i64 0, .int .i64 0, .int .i64 0, .int .i64 0] 63) = Z := ⟨_, rfl⟩
            rw [hw11] at HA3 HA1c HA2c H11
            try rw [hw11]
            clear hw11 hxd
            have r0 := HA1c.out.cell (i := 0) (v := .int .i64 0) rfl
            have r1 := HA1c.out.cell (i := 1) (v := .int .i64 0) rfl
            have r2 := HA1c.out.cell (i := 2) (v := .int .i64 0) rfl
            have r3 := HA1c.out.cell (i := 3) (v := .int .i64 0) rfl
            have r4 := HA1c.out.cell (i := 4) (v := .int .i64 0) rfl
            have r5 := HA1c.out.cell (i := 5) (v := .int .i64 0) rfl
            have r6 := HA1c.out.cell (i := 6) (v := .int .i64 0) rfl
            have s0 := HA2c.out.cell (i := 0) (v := .int .i64 0) rfl
            have s1 := HA2c.out.cell (i := 1) (v := .int .i64 0) rfl
            have s2 := HA2c.out.cell (i := 2) (v := .int .i64 0) rfl
            have s3 := HA2c.out.cell (i := 3) (v := .int .i64 0) rfl
            have s4 := HA2c.out.cell (i := 4) (v := .int .i64 0) rfl
            have s5 := HA2c.out.cell (i := 5) (v := .int .i64 0) rfl
            have s6 := HA2c.out.cell (i := 6) (v := .int .i64 0) rfl
            have t0 := HA3.out.cell (i := 0) (v := .int .i64 0) rfl
            have t1 := HA3.out.cell (i := 1) (v := .int .i64 0) rfl
            have t2 := HA3.out.cell (i := 2) (v := .int .i64 0) rfl
            have t3 := HA3.out.cell (i := 3) (v := .int .i64 0) rfl
            have t4 := HA3.out.cell (i := 4) (v := .int .i64 0) rfl
            have t5 := HA3.out.cell (i := 5) (v := .int .i64 0) rfl
            have t6 := HA3.out.cell (i := 6) (v := .int .i64 0) rfl
            go_wp2_with fail
            refine (HK.out _).mono ?_
            rintro e w99 ⟨rfl, hb99⟩
            have HB99 := Lib.hid ((HBE.out.trans (H11.out.mono HBE.out.size)).trans (hb99.mono (HBE.out.trans (H11.out.mono HBE.out.size)).size))
            clear hb99
            go_wp2
            go_ret
            exact ⟨rfl, HB99.out⟩
set_option linter.constructorNameAsVariable false
section
variable {H : Type} {enc : TypeId × Value → H} {W : World}
theorem weightsAll_memB {P : Program} {e : TypeId} {d : DataW H} : ∀ {l : List (DataW H)}, d ∈ l → ∀ n ∈ d.weights P e, n ∈ DataW.weightsAll P e l
  | x :: l, h, n, hn => by
    simp only [DataW.weightsAll, List.mem_append]
    rcases List.mem_cons.1 h with rfl | h
    · exact .inl hn
    · exact .inr (weightsAll_memB h n hn)
theorem choose_listB {α : Type} (p : Nat → α → Prop) : ∀ n, (∀ i, i < n → ∃ x, p i x) → ∃ l : List α, l.length = n ∧ ∀ i, i < n → ∃ x, l[i]? = some x ∧ p i x
  | 0, _ => ⟨[], rfl, fun i hi => by omega⟩
  | n + 1, h => by
    obtain ⟨l, hl, hall⟩ := choose_listB p n (fun i hi => h i (by omega))
    obtain ⟨x, hx⟩ := h n (by omega)
    refine ⟨l ++ [x], by simp [hl], fun i hi => ?_⟩
    by_cases hin : i < n
    · obtain ⟨y, hy, hp⟩ := hall i hin
      exact ⟨y, by rw [List.getElem?_append_left (by omega)]; exact hy, hp⟩
    · obtain rfl : i = n := by omega
      exact ⟨x, by rw [List.getElem?_append_right (by omega), hl]; simp, hx⟩
theorem cell_blkTB {w : World} {a : Addr} {v : Value} (h : w.cell? a = some v) : a.block < w.heap.size := by
  by_cases hb : a.block < w.heap.size
  · exact hb
  · rw [World.cell?, Array.getElem?_eq_none (by omega)] at h
    simp at h
/-- A slice of ints, opened. -/
theorem srcI_openB {n : Nat} {v : Value} {y : DataW H × List MemPlace} (hd : DataW.trod enc Try.prog W 0 (fun _ => true) true n 46 [v] = some y) (hw : (y.1.weights Try.prog 46).all (· ≤ reachBytes) = true) :
    ∃ l, SrcI W v l := by
  rcases open_ints Try.underlying46 Try.underlying3 (by kernel_rfl) hd with ⟨hv, _⟩ | ⟨a, len, cap, zs, hv, _, hle, _, hm, hy, hall, _⟩
  · obtain rfl : v = .slice none 0 0 := by simpa using hv
    exact ⟨[], by simp, .inl ⟨rfl, rfl⟩⟩
  · obtain rfl : v = .slice (some a) len cap := by simpa using hv
    simp only [if_true] at hm
    subst hy
    have hb : Try.prog.bytesOf 3 = 8 := by kernel_rfl
    have hlits : ∀ l : List Int, (lits (H := H) .i64 l).length = l.length := fun l => by simp [lits]
    have hwt : len ≤ 17592186043904 := by
      simp only [DataW.weights, Try.underlying46, List.all_cons, Bool.and_eq_true, decide_eq_true_eq, hb] at hw
      have h1 := hw.1
      rw [hlits, hlits, List.length_take, List.length_drop] at h1
      unfold reachBytes at h1
      omega
    refine ⟨zs.take len, by simp; omega, ?_⟩
    by_cases hl : len = 0
    · subst hl
      exact .inr (.inl ⟨a, cap, rfl, by simp⟩)
    · right; right
      obtain ⟨b, off, spot⟩ := a
      have h00 := hall 0 (by omega)
      have hspot : spot = none := by simpa [Addr.add] using World.cell?_spot h00
      subst hspot
      have hlen : (zs.take len).length = len := by simp; omega
      refine ⟨b, off, cap, by rw [hlen], by omega, cell_blkTB h00, ?_⟩
      intro i hi
      rw [hlen] at hi
      have h0 := hall i (by omega)
      rw [add_plain] at h0
      rw [h0, List.getElem?_take_of_lt hi]
      simp [List.getD]
theorem map_range_pairB {f : Nat → Int × Int} {n i : Nat} (h : i < n) : ((List.range n).map f)[i]?.getD (0, 0) = f i := by simp [h]
theorem list_six {α : Type} {l : List α} (h : l.length = 6) : ∃ a b c d e f, l = [a, b, c, d, e, f] := by
  match l, h with
  | [a, b, c, d, e, f], _ => exact ⟨a, b, c, d, e, f, rfl⟩
set_option maxRecDepth 100000 in
/-- A slice of batches, opened. -/
theorem batches_open {n : Nat} {v : Value} {y : DataW H × List MemPlace} (hd : DataW.trod enc Try.prog W 0 (fun _ => true) true n 48 [v] = some y) (hw : (y.1.weights Try.prog 48).all (· ≤ reachBytes) = true) :
    ∃ l, SrcB W v l := by
  rcases open_slice_pairs Try.underlying48 Try.underlying111 (by kernel_rfl) rfl rfl (by kernel_rfl) (by kernel_rfl) hd with ⟨hv, _⟩ | ⟨a, len, cap, m, k, V0, V1, D0, D1, P0, P1, hv, _, hle, _, hm, hy, hall⟩
  · obtain rfl : v = .slice none 0 0 := by simpa using hv
    exact ⟨[], by simp, .inl ⟨rfl, rfl⟩⟩
  · obtain rfl : v = .slice (some a) len cap := by simpa using hv
    simp only [if_true] at hm
    subst hm
    subst hy
    have hb : Try.prog.bytesOf 111 = 16 := by kernel_rfl
    have hwt : len + (m - len) ≤ 8796093022208 := by
      simp only [DataW.weights, Try.underlying48, List.all_cons, Bool.and_eq_true, decide_eq_true_eq, List.length_map, List.length_range, hb] at hw
      have := hw.1
      unfold reachBytes at this
      omega
    by_cases hl : len = 0
    · subst hl
      exact ⟨[], by simp, .inr (.inl ⟨a, m, rfl, rfl⟩)⟩
    · obtain ⟨b, off, spot⟩ := a
      obtain ⟨h00, _⟩ := hall 0 (by omega)
      have hspot : spot = none := by simpa [Addr.add] using World.cell?_spot h00
      subst hspot
      have hC : PairsC W b off ((List.range len).map fun i => (intOf (V0 i), intOf (V1 i))) := by
        intro i hi
        have hi' : i < len := by simpa using hi
        obtain ⟨h0, h1, t0, t1⟩ := hall i (by omega)
        rw [map_range_pairB hi']
        rw [add_plain] at h0
        refine ⟨?_, ?_⟩
        · rw [h0, ← int_of_trod t0]
        · have h1' : W.cell? ⟨b, off + (i * 2 + 1), none⟩ = some (V1 i) := by rw [← add_plain]; exact h1
          rw [show off + i * 2 + 1 = off + (i * 2 + 1) by omega, h1', ← int_of_trod t1]
      have hlen : ((List.range len).map fun i => (intOf (V0 i), intOf (V1 i))).length = len := by simp
      exact ⟨_, by rw [hlen]; omega, .inr (.inr ⟨b, off, m, by rw [hlen], cell_blkTB h00, hC⟩)⟩
set_option maxRecDepth 100000 in
/-- A slice of calls, opened. -/
theorem calls_open {n : Nat} {v : Value} {y : DataW H × List MemPlace} (hd : DataW.trod enc Try.prog W 0 (fun _ => true) true n 47 [v] = some y) (hw : (y.1.weights Try.prog 47).all (· ≤ reachBytes) = true) :
    ∃ l, SrcC W v l := by
  rcases open_slice Try.underlying47 hd with ⟨hv, _⟩ | ⟨a, len, cap, m, k, D, Pl, hv, _, hle, hcap, hm, hy, hall⟩
  · obtain rfl : v = .slice none 0 0 := by simpa using hv
    exact ⟨[], none, 0, rfl, by simp, fun i hi => by simp at hi⟩
  · obtain rfl : v = .slice (some a) len cap := by simpa using hv
    simp only [if_true] at hm
    subst hm
    subst hy
    have ce : Try.prog.cellsOf 50 = 6 := by kernel_rfl
    have cu : Try.prog.cellsOf 3 = 1 := by kernel_rfl
    have cb : Try.prog.cellsOf 48 = 1 := by kernel_rfl
    have ci : Try.prog.cellsOf 46 = 1 := by kernel_rfl
    have hb : Try.prog.bytesOf 50 = 80 := by kernel_rfl
    simp only [DataW.weights, Try.underlying47, List.all_cons, Bool.and_eq_true, decide_eq_true_eq, List.length_map, List.length_range, hb, List.all_append] at hw
    have hwt : (len + (m - len)) * 80 ≤ 140737488351232 := by
      have h1 := hw.1
      unfold reachBytes at h1
      omega
    have each : ∀ i, i < len → ∃ c : CallT, W.cell? (a.add (i * 6)) = some (.int .i64 c.m) ∧ W.cell? (a.add (i * 6 + 1)) = some (.int .i64 c.k) ∧ W.cell? (a.add (i * 6 + 2)) = some (.int .i64 c.n) ∧ W.cell? (a.add (i * 6 + 3)) = some (.int .i64 c.b) ∧
        ∃ vb vl, W.cell? (a.add (i * 6 + 4)) = some vb ∧ W.cell? (a.add (i * 6 + 5)) = some vl ∧ SrcB W vb c.bs ∧ SrcI W vl c.br := by
      intro i hi
      obtain ⟨cs', h1, h2⟩ := hall i (by omega)
      rw [ce] at h1
      obtain ⟨_, hlen, hcell⟩ := World.cells?_some h1
      have hmem : ∀ z ∈ (D i).weights Try.prog 50, decide (z ≤ reachBytes) = true := fun z hz =>
        List.all_eq_true.1 hw.2.1 z (weightsAll_memB (d := D i) (List.mem_map.2 ⟨i, List.mem_range.2 hi, rfl⟩) z hz)
      obtain ⟨xs, k', _, hx, _, hxl, hf⟩ := DataW.trod_struct Try.underlying50 h2
      have hD : D i = .agg (xs.map (·.1)) := congrArg Prod.fst hx
      have hxl6 : xs.length = 6 := hxl
      clear hx hxl
      obtain ⟨x0, x1, x2, x3, x4, x5, rfl⟩ := list_six hxl6
      obtain ⟨v0, v1, v2, v3, v4, v5, rfl⟩ := list_six hlen
      · skip
        have g0 := hf 0 _ rfl
        have g1 := hf 1 _ rfl
        have g2 := hf 2 _ rfl
        have g3 := hf 3 _ rfl
        have g4 := hf 4 _ rfl
        have g5 := hf 5 _ rfl
        have e0 := hcell 0 (by omega)
        have e1 := hcell 1 (by omega)
        have e2 := hcell 2 (by omega)
        have e3 := hcell 3 (by omega)
        have e4 := hcell 4 (by omega)
        have e5 := hcell 5 (by omega)
        rw [add_add] at e0 e1 e2 e3 e4 e5
        rw [hD] at hmem
        simp only [DataW.weights, Try.underlying50, DataW.weightsEach, List.map_cons, List.map_nil, List.append_nil, List.mem_append] at hmem
        have q0 := int_of_trod (v := v0) (d := x0.1) (p := x0.2) (by simpa [cu] using g0)
        have q1 := int_of_trod (v := v1) (d := x1.1) (p := x1.2) (by simpa [cu] using g1)
        have q2 := int_of_trod (v := v2) (d := x2.1) (p := x2.2) (by simpa [cu] using g2)
        have q3 := int_of_trod (v := v3) (d := x3.1) (p := x3.2) (by simpa [cu] using g3)
        obtain ⟨bs, hbs⟩ := batches_open (v := v4) (y := x4) (by simpa [cb] using g4) (List.all_eq_true.2 fun z hz => hmem z (.inr (.inr (.inr (.inr (.inl hz))))))
        obtain ⟨br, hbr⟩ := srcI_openB (v := v5) (y := x5) (by simpa [ci] using g5) (List.all_eq_true.2 fun z hz => hmem z (.inr (.inr (.inr (.inr (.inr hz))))))
        refine ⟨⟨intOf v0, intOf v1, intOf v2, intOf v3, bs, br⟩, ?_, ?_, ?_, ?_, v4, v5, ?_, ?_, hbs, hbr⟩
        · rw [← q0]; simpa using e0
        · rw [← q1]; simpa using e1
        · rw [← q2]; simpa using e2
        · rw [← q3]; simpa using e3
        · simpa using e4
        · simpa using e5
    obtain ⟨ms, hms, hmsat⟩ := choose_listB (fun i (c : CallT) => W.cell? (a.add (i * 6)) = some (.int .i64 c.m) ∧ W.cell? (a.add (i * 6 + 1)) = some (.int .i64 c.k) ∧ W.cell? (a.add (i * 6 + 2)) = some (.int .i64 c.n) ∧ W.cell? (a.add (i * 6 + 3)) = some (.int .i64 c.b) ∧
        ∃ vb vl, W.cell? (a.add (i * 6 + 4)) = some vb ∧ W.cell? (a.add (i * 6 + 5)) = some vl ∧ SrcB W vb c.bs ∧ SrcI W vl c.br) len each
    refine ⟨ms, some a, m, by rw [hms], by omega, fun i hi => ?_⟩
    rw [hms] at hi
    obtain ⟨b, off, spot⟩ := a
    obtain ⟨x0, _, h00, _⟩ := hmsat 0 (by omega)
    have hspot : spot = none := by simpa [Addr.add] using World.cell?_spot h00
    subst hspot
    obtain ⟨x, hx, c0, c1, c2, c3, vb, vl, c4, c5, sb, sl⟩ := hmsat i hi
    rw [add_plain] at c0 c1 c2 c3 c4 c5
    refine ⟨b, off, rfl, cell_blkTB h00, ?_⟩
    rw [hx]
    exact ⟨c0, by rw [show off + i * 6 + 1 = off + (i * 6 + 1) by omega]; exact c1, by rw [show off + i * 6 + 2 = off + (i * 6 + 2) by omega]; exact c2, by rw [show off + i * 6 + 3 = off + (i * 6 + 3) by omega]; exact c3,
      vb, vl, by rw [show off + i * 6 + 4 = off + (i * 6 + 4) by omega]; exact c4, by rw [show off + i * 6 + 5 = off + (i * 6 + 5) by omega]; exact c5, sb, sl⟩
end
set_option maxRecDepth 100000 in
theorem contract5 (H : Type) (enc : TypeId × Value → H) (W : World) (base : Nat) (args : Array Value) (ds gs : List (DataW H)) (before : List MemPlace)
    (hval : ∀ (j : Nat) t v, Try.f5.params[j]? = some t → args[j]? = some v → Value.okWide Try.prog W .any base t v)
    (hW : DataW.Whole enc Try.prog Try.f5.params.toList Rows.kilnBooksSpec.vars false W args.toList ds gs before)
    (hz : (DataW.weightsEach Try.prog (Try.f5.params.toList ++ Rows.kilnBooksSpec.plain.varTypes Try.prog) (ds ++ gs)).all (· ≤ reachBytes) = true) :
    Calls Try.prog 5 args W fun e W' => ∃ v, e = .returned v ∧ Rows.kilnBooksSpec.post enc Try.prog Try.f5 false true false false W args v W' := by
  have hW' := hW
  obtain ⟨p, q, hA0, hV, rfl, hfz, hnd⟩ := hW
  have hA : DataW.TrodAll enc Try.prog W 0 (fun _ => true) true Try.f5.params.toList args.toList ds p := hA0
  rw [Try.params5] at hA hval hz
  obtain ⟨v0, v1, v2, d0, d1, d2, p0, p1, p2, rfl, rfl, rfl, h0, h1, h2⟩ := trodAll_three hA
  obtain ⟨rfl, rfl⟩ := trodVars_none hV
  have hws : ((d0.weights Try.prog 46).all fun x => decide (x ≤ reachBytes)) = true ∧ ((d2.weights Try.prog 47).all fun x => decide (x ≤ reachBytes)) = true := by
    simp only [List.cons_append, List.nil_append, DataW.weightsEach, List.all_append, Bool.and_eq_true, List.append_nil] at hz
    exact ⟨hz.1, hz.2.2.1⟩
  obtain ⟨room, rfl⟩ := int_open (hval 1 3 v1 rfl rfl) h1
  clear hA0
  simp only [List.append_nil] at hW'
  have h0k := h0
  have h2k := h2
  obtain ⟨fuel0, h0f⟩ := h0
  obtain ⟨fuel2, h2f⟩ := h2
  obtain ⟨sa, sb, sc, rfl⟩ := okWide_slice Try.underlying46 (hval 0 46 v0 rfl rfl)
  obtain ⟨ta, tb, tc, rfl⟩ := okWide_slice Try.underlying47 (hval 2 47 v2 rfl rfl)
  obtain ⟨space, hsp⟩ := srcI_openB (v := .slice sa sb sc) (y := (d0, p0)) (by simpa [Value.cells] using h0f) hws.1
  obtain ⟨calls, hcs⟩ := calls_open (v := .slice ta tb tc) (y := (d2, p2)) (by simpa [Value.cells] using h2f) hws.2
  have hlt : ∀ x ∈ p0 ++ p1 ++ p2, x.block < W.heap.size := fun x hx => by simpa using hW'.lt x (by simpa using hx)
  have g0 : ∀ (W' : World), Below W.heap.size W W' → DataW.Trod enc Try.prog W' 0 (fun b => decide (b < W.heap.size)) true 46 (.slice sa sb sc) d0 p0 :=
    fun W' hn => Below.trod laidOutP (by kernel_rfl) (of_decide_eq_true (by kernel_rfl)) h0k hn (fun x hx => hlt x (by simp [hx]))
  have g1 : ∀ (W' : World), Below W.heap.size W W' → DataW.Trod enc Try.prog W' 0 (fun b => decide (b < W.heap.size)) true 3 (.int .i64 room) d1 p1 :=
    fun W' hn => Below.trod laidOutP (by kernel_rfl) (of_decide_eq_true (by kernel_rfl)) h1 hn (fun x hx => hlt x (by simp [hx]))
  have g2 : ∀ (W' : World), Below W.heap.size W W' → DataW.Trod enc Try.prog W' 0 (fun b => decide (b < W.heap.size)) true 47 (.slice ta tb tc) d2 p2 :=
    fun W' hn => Below.trod laidOutP (by kernel_rfl) (of_decide_eq_true (by kernel_rfl)) h2k hn (fun x hx => hlt x (by simp [hx]))
  refine (books_any _ _ space room calls W hsp hcs).mono fun e W' ⟨he, hb⟩ => ?_
  subst he
  refine ⟨_, rfl, _, _, _, [], (p0 ++ (p1 ++ p2)), [], hW', ?_, ?_, ?_, hb.frame _, fun h => by cases h⟩
  · exact trodAll_mk1 (shut_bool Try.underlying4 _)
  · exact trodAll_mk3 (g0 _ hb) (g1 _ hb) (g2 _ hb)
  · rfl
theorem laid_met5 (os : Os) : laidMet Try.prog Rows.kilnBooksRow.laid ((World.laidAll Try.prog os Rows.kilnBooksRow.laid).forCall (fun _ _ => 0) ⟨#[], #[.slice none 0 0, .int .i64 0, .slice none 0 0], []⟩).memory :=
  laidMet_laidAll _ (by kernel_rfl) (by kernel_rfl)
theorem reads5 (os : Os) {H : Type} (enc : TypeId × Value → H) : ∃ places, DataW.whole enc Try.prog ((World.laidAll Try.prog os Rows.kilnBooksRow.laid).forCall (fun _ _ => 0) ⟨#[], #[.slice none 0 0, .int .i64 0, .slice none 0 0], []⟩).memory Try.f5.params.toList Rows.kilnBooksSpec.vars false (#[.slice none 0 0, .int .i64 0, .slice none 0 0] : Array Value).toList 8 = some ([.nil, .lit (.int .i64 0), .nil], [], places) :=
  ⟨[], by kernel_rfl⟩
set_option maxRecDepth 100000 in
theorem lifted5 (os : Os) (started : os.Started) (H : Type) (enc : TypeId × Value → H) (F : Stop.Interp) :
    ReturnsInHanded {} Try.checked os 5 .any ((OpenSpec.ofChange Rows.kilnBooksSpec).preRow enc Try.prog Try.f5 Rows.kilnBooksRow.domain false Rows.kilnBooksRow.laid) (((OpenSpec.ofChange Rows.kilnBooksSpec).at F).post enc Try.prog Try.f5 false true false false) := by
  obtain ⟨places, hx⟩ := reads5 os enc
  refine returnsInHanded_of_row (C := Try.checked) (s := OpenSpec.ofChange Rows.kilnBooksSpec) ownP started (by kernel_rfl) Try.func5
    (witness_row_at (enc := enc) (C := Try.checked) false (World.laidAll Try.prog os Rows.kilnBooksRow.laid) #[.slice none 0 0, .int .i64 0, .slice none 0 0] (World.laidAll_os _ _ _) (by kernel_rfl) (by kernel_rfl) (by kernel_rfl)
      (OpenSpec.preRow_of_cond 8 hx (by kernel_rfl) (fun k hk => by cases hk) (by kernel_rfl) (laid_met5 os))) ?_
  intro W base args ds gs before hval hW _ _ hz _ _ _
  exact contract5 H enc W base args ds gs before hval hW hz
theorem said5 : Rows.KilnBooksSaid :=
  OpenClaim.holds_of_cond 5 Try.f5 rfl rfl rfl rfl rfl rfl rfl ⟨rfl, rfl, rfl, rfl, rfl⟩ rfl rfl rfl rfl rfl (by kernel_rfl) Try.func5 (by kernel_rfl)
    (of_decide_eq_true (by kernel_rfl)) (by unfold Func.isWrapper; first | (rw [if_pos (by decide +kernel)]; kernel_rfl) | (rw [if_neg (by decide +kernel)]; exact ⟨rfl, rfl⟩))
    (fun os started H enc _ F => by rw [OpenClaim.pre_eq_preRow]; exact lifted5 os started H enc F)
end Go.Proofs.Ytopnlcjbklmicaa
