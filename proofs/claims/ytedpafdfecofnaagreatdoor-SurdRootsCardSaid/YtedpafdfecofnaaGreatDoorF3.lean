/-
  Contracts of the program's own functions (and their plain mathematics), on the way to the law: each for all arguments that its hypotheses let.
-/
import Derived.Test.YtedpafdfecofnaaGreatDoorF2
import Derived.Shelf.SlSortCmp.WholeK
import Derived.Ground.SlsfProg
import Derived.Ground.NamesProg
import Derived.Shelf.Small.Bits
import Derived.WalkKit
import Derived.WalkSpells
import Derived.WalkLawsBesides
import Derived.Deep.QuietTactic
import Derived.BigQuiet
import Derived.Lib.Hide
import Derived.Test.YtedpafdfecofnaaGreatDoorPlain
import Derived.WalkSmall
import Derived.Maps.OwnSet
import Derived.Maps.RangeWalk
import Derived.Deep.RegionWith
import Derived.Deep.RegionHeld3
import Derived.OneCell
import Derived.RangeFuncBox
set_option linter.unusedSimpArgs false
set_option linter.unusedVariables false

/-! ## S10 -/
namespace Go.Proofs
open Go.Shelf Go.RowKit Go.Lib Go.Sort
end Go.Proofs
namespace Go.Proofs.YtedpafdfecofnaaGreatDoor
open Go.Shelf Go.RowKit Go.Sort
theorem sort_none (p : Option Addr) (cap : Nat) (w : World) : Calls Tryz.prog 114 #[.slice p 0 cap, .func (.func 115) #[] #[]] w fun e w' => e = .returned (.tuple #[]) ∧ w' = w := by
  have hl := fun w => (Any.bits_Len Tryz.lays125 0 w (by omega) (by omega))
  change ∀ w, Calls Tryz.prog 131 _ _ _ at hl
  generalize (Lib.bitLen (Int.toNat 0) : Int) = bl at hl
  have HL := Lib.hid hl
  clear hl
  go_enter Tryz.func114, Tryz.ntmps114
  go_wp2_with (first | (go_at_call 131; refine (HL.out _).mono ?_; rintro e w' ⟨rfl, rfl⟩) | go_in)
  refine wp_loop_rounds 1 ?_
  rw [rounds_succ]
  go_wp2
  refine wp_loop_rounds 1 ?_
  rw [rounds_succ]
  go_wp2
  go_end0
  go_wp2
  refine bodyPost_ret (v := .tuple #[]) (by simp [results, Tryz.results130, go_sem]) rfl ?_
  go_wp2
  go_end0
  exact ⟨rfl, rfl⟩

/-- A term whose root lies in bounds. -/
abbrev TR := { t : Int × Int // 0 ≤ t.2 ∧ t.2 ≤ 1000000000000 }
instance : Inhabited TR := ⟨⟨(0, 0), by simp⟩⟩
def encT (x : TR) : List Value := [.int .i64 x.1.1, .int .i64 x.1.2]
def cmpT (x y : TR) : Int := x.1.2 - y.1.2
theorem isAgg34 (w : World) : (isAgg (Tryz.sortT_ren.t 24)).run Tryz.prog w = .ok true w := by kernel_rfl
theorem sizeOf34 (w : World) : (Go.sizeOf (Tryz.sortT_ren.t 24)).run Tryz.prog w = .ok 2 w := by kernel_rfl

theorem closure115 (x y : TR) (W : World) : Calls Tryz.prog 115 #[.agg #[.int .i64 x.1.1, .int .i64 x.1.2], .agg #[.int .i64 y.1.1, .int .i64 y.1.2]] W fun e w' => e = .returned (.int .i64 (cmpT x y)) ∧ ∃ q os', w' = grow (W.drewN q) os' := by
  obtain ⟨⟨a, b⟩, h1, h2⟩ := x
  obtain ⟨⟨c, d⟩, h3, h4⟩ := y
  unfold cmpT
  dsimp only at h1 h2 h3 h4 ⊢
  go_enter Tryz.func115, Tryz.ntmps115
  go_wp2
  go_ret
  exact ⟨rfl, 0, _, by rw [alloc_eq_grow, alloc_eq_grow, grow_grow]; rfl⟩

theorem cmpLaysT (blk off size : Nat) (w : World) : CmpLays Tryz.prog 115 #[] encT 2 cmpT blk off size w := fun _ _ _ _ x y => closure115 x y _

theorem ltT (x y : TR) : ltOf cmpT x y = decide (x.1.2 < y.1.2) := by
  unfold ltOf cmpT
  rw [Bool.eq_iff_iff]; simp; omega
theorem swoT : SWO (ltOf cmpT) where
  irrefl x := by rw [ltT]; simp
  trans x y z h1 h2 := by rw [ltT] at *; simp at *; omega
  ntrans x y z h1 h2 := by rw [ltT] at *; simp at *; omega

theorem flat_enc (d : Array TR) : (flatK encT 2 d).toList = flatT (d.toList.map (·.1)) := by
  apply List.ext_getElem?
  intro t
  by_cases ht : t < d.size * 2
  · have hi : t / 2 < d.size := by omega
    have hf := flatT_get (d.toList.map (·.1)) (t / 2) (by simpa using hi)
    have hg := get_flatK encT 2 d t ht
    have e1 : (d.toList.map (·.1))[t / 2]?.getD (0, 0) = (d[t / 2]!).1 := by
      rw [getElem!_pos d _ hi]; simp [hi]
    rw [e1] at hf
    have e2 : (flatK encT 2 d).toList[t]? = some ((flatK encT 2 d)[t]!) := by
      rw [getElem!_pos _ t (by simpa using ht), Array.getElem?_toList, Array.getElem?_eq_getElem]
    rw [e2, hg]
    rcases Nat.mod_two_eq_zero_or_one t with h | h
    · rw [h]
      have : t = t / 2 * 2 := by omega
      conv => rhs; rw [this]
      rw [hf.1]
      simp [encT]
    · rw [h]
      have : t = t / 2 * 2 + 1 := by omega
      conv => rhs; rw [this]
      rw [hf.2]
      simp [encT]
  · rw [List.getElem?_eq_none (by simp; omega), List.getElem?_eq_none (by rw [flatT_len]; simp; omega)]

theorem heap_sortedT {w : World} {g n : Nat} {os : Array Obj} {cur : Array Value} {e : TypeId} {fr : Nat × Nat} (d : Array Value) (hb : w.heap[g]? = some (.cells cur e fr)) :
    (grow (putRow id (Sort.ahead w n) g 0 d) os).heap[g]? = some (.cells (putCells id 0 d cur) e fr) := by
  have hg : g < w.heap.size := (Array.getElem?_eq_some_iff.1 hb).1
  rw [heap_grow_old _ _ (by simpa using hg)]
  simp [putRow, mapBlock, Sort.ahead, Array.getElem?_modify, hb, onCells]
theorem grownBy_sortedT {w : World} {g n : Nat} {os : Array Obj} (d : Array Value) : w.grownBy (grow (putRow id (Sort.ahead w n) g 0 d) os) (some g) := by
  refine ⟨rfl, rfl, rfl, by simp, fun k hk hne => ?_⟩
  rw [heap_grow_old _ _ (by simpa using hk)]
  have : g ≠ k := fun e => hne (by rw [e])
  simp [putRow, mapBlock, Sort.ahead, Array.getElem?_modify, this]
theorem take_putCellsT (cur : Array Value) (ts : Array Value) (h : ts.size ≤ cur.size) : (putCells id 0 ts cur).toList.take ts.size = ts.toList := by
  apply List.ext_getElem?
  intro j
  by_cases hj : j < ts.size
  · rw [List.getElem?_take_of_lt hj, Array.getElem?_toList]
    simp [putCells, hj, show j < cur.size by omega]
  · rw [List.getElem?_take_eq_none (by omega), List.getElem?_eq_none (by simp; omega)]

set_option maxHeartbeats 1000000 in
theorem sort_any : SortC := by
  intro base v l w ho hl hb
  have ho' := ho
  obtain ⟨hlen, ⟨rfl, h0⟩ | ⟨g, cap, cur, rfl, hbase, hblk, hcap, hmax, hcs, htk⟩⟩ := ho
  · have : l = [] := List.length_eq_zero_iff.1 h0
    subst this
    exact (sort_none none 0 w).mono fun e w' ⟨he, hw⟩ => ⟨he, ⟨[], List.Perm.refl _, List.Pairwise.nil, by rw [hw]; exact ho'⟩, by rw [hw]; exact World.grownBy.refl _ _⟩
  · obtain ⟨d, hd⟩ : ∃ d : Array TR, d.toList.map (·.1) = l := ⟨(l.pmap (fun t h => (⟨t, h⟩ : TR)) hb).toArray, by simp [List.map_pmap]⟩
    have hds : d.size = l.length := by rw [← hd]; simp
    have hfl := flat_enc d
    rw [hd] at hfl
    have hH : HoldsK encT 2 w g 0 d := by
      intro j hj
      have hj' : j < l.length * 2 := by simpa [hds] using hj
      refine ⟨?_, by simp [World.frozen?, hblk]⟩
      have h1 : (cur.toList.take (l.length * 2))[j]? = (flatK encT 2 d).toList[j]? := by rw [htk, hfl]
      rw [List.getElem?_take_of_lt hj'] at h1
      simp only [World.cell?, hblk, Nat.zero_add]
      simp only [Option.isSome_none, Bool.false_eq_true, if_false]
      rw [← Array.getElem?_toList, h1, Array.getElem?_toList, getElem!_pos _ j hj, Array.getElem?_eq_getElem hj]
      rfl
    have eg : ∀ args w, (callFunc 115 args).run Tryz.prog w = .ok (.enter 115 args) w := enters_of Tryz.func115 (by kernel_rfl) rfl
    have hcon := AnyQ.slices_SortFunc Tryz.sortT 2 isAgg34 sizeOf34 encT (fun _ => rfl) (fun x v hv => by simp [encT] at hv; rcases hv with rfl | rfl <;> rfl) cmpT swoT 115 #[] g 0 cap d w eg (cmpLaysT g 0 d.size w) hH (Array.getElem?_eq_some_iff.1 hblk).1 (by omega)
    rw [hds] at hcon
    change Calls Tryz.prog 114 _ _ _ at hcon
    refine hcon.mono ?_
    rintro e w' ⟨rfl, d', n, os, hp, hs, rfl⟩
    have hsz : d'.size = d.size := hp.1
    have hperm : d'.toList.Perm d.toList := by
      have := hp.2.2
      rw [← hds] at this
      have e1 : d'.extract 0 d.size = d' := by rw [← hsz]; simp
      have e2 : d.extract 0 d.size = d := by simp
      rwa [e1, e2] at this
    have hF : (flatK encT 2 d').size = l.length * 2 := by simp [hsz, hds]
    refine ⟨rfl, ⟨d'.toList.map (·.1), by rw [← hd]; exact hperm.map _, ?_, ?_⟩, grownBy_sortedT _⟩
    · rw [List.pairwise_map, List.pairwise_iff_getElem]
      intro i j hi hj hij
      have := hs i j (Nat.zero_le _) hij (by simp at hj; omega)
      rw [ltT] at this
      simp at hi hj
      rw [getElem!_pos d' i hi, getElem!_pos d' j hj] at this
      simp at this
      simpa using this
    · refine ⟨flatT_len _, .inr ⟨g, cap, _, by simp [hsz, hds], hbase, heap_sortedT _ hblk, by simp [hsz, hds]; exact hcap, hmax, by simp [putCells]; exact hcs, ?_⟩⟩
      rw [← flat_enc]
      have := take_putCellsT cur (flatK encT 2 d') (by rw [hF, hcs]; exact Nat.mul_le_mul_right _ hcap)
      rw [hF] at this
      simpa [hsz, hds] using this
end Go.Proofs.YtedpafdfecofnaaGreatDoor

/-! ## S11 -/
namespace Go.Proofs.YtedpafdfecofnaaGreatDoor
open Go.RowKit Go.Maps
theorem TermsAt.drew {w : World} {v : Value} {l : List (Int × Int)} (h : TermsAt w v l) : TermsAt w.drew v l := h.below (Below.refl _ _).drew

/-- The sum and the difference. -/
def addF (s : Int) (dx : Int) (lx : List (Int × Int)) (dy : Int) (ly : List (Int × Int)) (r : Int × List (Int × Int) × Int) : Prop :=
  if validF dx lx = true ∧ validF dy ly = true then ∃ l, IsTerms (combC dx lx dy ly s) l ∧ r = finF (dx * dy) l else r = (0, [], 2)
def NumP (P : Int × List (Int × Int) × Int → Prop) (w : World) (e : Ending) (w' : World) : Prop := ∃ r, P r ∧ NumTo r w e w'

theorem combC_bd {dx dy s : Int} {lx ly : List (Int × Int)} (vldx : Vld dx lx) (vldy : Vld dy ly) (hs : s = 1 ∨ s = -1) :
    (∀ r, combC dx lx dy ly s r ≠ 0 → 0 ≤ r ∧ r ≤ 1000000000000) ∧ ∀ r, -9000000000000000000 ≤ combC dx lx dy ly s r ∧ combC dx lx dy ly s r ≤ 9000000000000000000 := by
  have hd1 := vldx.d1
  have hd2 := vldx.d2
  have hd3 := vldy.d1
  have hd4 := vldy.d2
  have hs1 : -100000 ≤ s * dx := by rcases hs with rfl | rfl <;> omega
  have hs2 : s * dx ≤ 100000 := by rcases hs with rfl | rfl <;> omega
  have hB1 := plus_bd zeroC dy lx 0 100000 100000 (fun r => by simp [zeroC]) (by omega) (by omega) (by omega) (fun t ht => ⟨(vldx.cf t ht).1, (vldx.cf t ht).2.1⟩) (by omega) 4 vldx.len
  have hB1f : ∀ r, -40000000000 ≤ plusC zeroC dy lx r ∧ plusC zeroC dy lx r ≤ 40000000000 := fun r => by have := hB1 lx.length (Nat.le_refl _) r; rw [List.take_length] at this; omega
  have hB2 := plus_bd (plusC zeroC dy lx) (s * dx) ly 40000000000 100000 100000 hB1f (by omega) (by omega) (by omega) (fun t ht => ⟨(vldy.cf t ht).1, (vldy.cf t ht).2.1⟩) (by omega) 4 vldy.len
  have hc0 : ∀ (l : List (Int × Int)) r, (∀ t ∈ l, 0 ≤ t.2 ∧ t.2 ≤ 1000000000000) → coefOf l r ≠ 0 → 0 ≤ r ∧ r ≤ 1000000000000 := by
    intro l r h hn
    have key : ∀ (l : List (Int × Int)) (s : Int), (∀ t ∈ l, t.2 ≠ r) → l.foldl (fun s t => if t.2 = r then s + t.1 else s) s = s := by
      intro l
      induction l with
      | nil => intro s _; rfl
      | cons t l ih => intro s h; simp only [List.foldl_cons]; rw [if_neg (h t (by simp))]; exact ih s (fun u hu => h u (by simp [hu]))
    by_cases hex : ∀ t ∈ l, t.2 ≠ r
    · exact absurd (key l 0 hex) hn
    · simp only [Classical.not_forall] at hex
      obtain ⟨t, ht, he⟩ := hex
      have : t.2 = r := Decidable.not_not.1 he
      rw [← this]; exact h t ht
  constructor
  · intro r hr
    unfold combC plusC at hr
    by_cases h1 : coefOf lx r = 0
    · by_cases h2 : coefOf ly r = 0
      · rw [h1, h2] at hr; simp [zeroC] at hr
      · exact hc0 ly r (fun t ht => by have := vldy.rt t ht; omega) h2
    · exact hc0 lx r (fun t ht => by have := vldx.rt t ht; omega) h1
  · intro r
    have := hB2 ly.length (Nat.le_refl _) r
    rw [List.take_length] at this
    unfold combC
    omega

theorem mul_den (dx dy : Int) (h1 : 1 ≤ dx) (h2 : dx ≤ 100000) (h3 : 1 ≤ dy) (h4 : dy ≤ 100000) : 1 ≤ dx * dy ∧ dx * dy ≤ 10000000000 := by
  constructor
  · have := Int.mul_le_mul h1 h3 (by omega) (by omega); omega
  · have := Int.mul_le_mul h2 h4 (by omega) (by omega); omega

set_option maxRecDepth 100000 in
set_option maxHeartbeats 2000000 in
theorem add_any (hsort : Hid SortC) (dx dy : Int) (vx vy : Value) (lx ly : List (Int × Int)) (w : World) (hx : TermsAt w vx lx) (hy : TermsAt w vy ly) :
    Calls Tryz.prog 24 #[.agg #[.int .i64 dx, vx], .agg #[.int .i64 dy, vy]] w (NumP (addF 1 dx lx dy ly) w) := by
  have HX := Lib.hid hx
  have HY := Lib.hid hy
  clear hx hy
  go_enter Tryz.func24, Tryz.ntmps24
  go_wp2_with fail
  refine (valid_any dx vx lx _ (((HX.out.alloc _).alloc _).alloc _)).mono ?_
  rintro e w1 ⟨rfl, hb⟩
  have X1 : Two w1 w.heap.size (.int .i64 dx) vx 24 := (((Two.new w (.int .i64 dx) vx 24).alloc _).alloc _).below hb (by simp; omega)
  have Y1 : Two w1 (w.heap.size + 1) (.int .i64 dy) vy 24 := by
    have := ((Two.new (w.alloc (.cells #[.int .i64 dx, vx] 24)) (.int .i64 dy) vy 24).alloc (.cells #[.int .i64 0, .slice none 0 0] 24)).below hb (by simp)
    simpa using this
  have R1 : Two w1 (w.heap.size + 1 + 1) (.int .i64 0) (.slice none 0 0) 24 := by
    have := (Two.new ((w.alloc (.cells #[.int .i64 dx, vx] 24)).alloc (.cells #[.int .i64 dy, vy] 24)) (.int .i64 0) (.slice none 0 0) 24).below hb (by simp)
    simpa [Nat.add_assoc] using this
  have B1 : Below w.heap.size w w1 := ((((Below.refl _ _).alloc (Nat.le_refl _) _).alloc (by simp) _).alloc (by simp; omega) _).trans (hb.mono (by simp; omega))
  have XX := Lib.hid X1
  have YY := Lib.hid Y1
  have RR := Lib.hid R1
  have BB := Lib.hid B1
  have x0 := X1.c0
  have x1 := X1.c1
  have y0 := Y1.c0
  have y1 := Y1.c1
  have r0 := R1.c0
  have r1 := R1.c1
  have f0 := R1.fr (i := 0)
  have f1 := R1.fr (i := 1)
  clear hb X1 Y1 R1 B1
  cases hvx : validF dx lx
  · have HP : Hid (addF 1 dx lx dy ly (0, [], 2)) := Lib.hid (by simp [addF, hvx])
    clear hvx
    go_wp2
    obtain ⟨d0, d1, d2, hg⟩ := two_after RR.out (.int .i64 0) (.slice none 0 0) rfl
    refine bodyPost_ret (v := .tuple #[.agg #[.int .i64 0, .slice none 0 0], .int .i64 2]) ?_ rfl ?_
    · simp [results, Tryz.results24, go_sem, d0, d1, d2]
    · exact ⟨_, HP.out, _, rfl, termsAt_nil _, BB.out.grown hg BB.out.size (by intro k hk; cases hk; omega), fun k hk => by cases hk⟩
  · have HVX := Lib.hid hvx
    clear hvx
    go_wp2_with fail
    refine (valid_any dy vy ly _ (HY.out.below BB.out)).mono ?_
    rintro e w2 ⟨rfl, hb⟩
    have X2 := XX.out.below hb XX.out.lt
    have Y2 := YY.out.below hb YY.out.lt
    have R2 := RR.out.below hb RR.out.lt
    have B2 := BB.out.trans (hb.mono BB.out.size)
    have XX2 := Lib.hid X2
    have YY2 := Lib.hid Y2
    have RR2 := Lib.hid R2
    have BB2 := Lib.hid B2
    clear x0 x1 y0 y1 r0 r1 f0 f1 XX YY RR
    have x0 := X2.c0
    have x1 := X2.c1
    have y0 := Y2.c0
    have y1 := Y2.c1
    have r0 := R2.c0
    have r1 := R2.c1
    have f0 := R2.fr (i := 0)
    have f1 := R2.fr (i := 1)
    clear hb X2 Y2 R2 B2
    cases hvy : validF dy ly
    · have HP : Hid (addF 1 dx lx dy ly (0, [], 2)) := Lib.hid (by simp [addF, hvy])
      clear hvy
      go_wp2
      obtain ⟨d0, d1, d2, hg⟩ := two_after RR2.out (.int .i64 0) (.slice none 0 0) rfl
      refine bodyPost_ret (v := .tuple #[.agg #[.int .i64 0, .slice none 0 0], .int .i64 2]) ?_ rfl ?_
      · simp [results, Tryz.results24, go_sem, d0, d1, d2]
      · exact ⟨_, HP.out, _, rfl, termsAt_nil _, BB2.out.grown hg BB2.out.size (by intro k hk; cases hk; omega), fun k hk => by cases hk⟩
    · have HP : Hid (∀ l, IsTerms (combC dx lx dy ly 1) l → addF 1 dx lx dy ly (finF (dx * dy) l)) := Lib.hid (fun l hl => by simp only [addF]; rw [if_pos ⟨HVX.out, hvy⟩]; exact ⟨l, hl, rfl⟩)
      have VX := vld_of HVX.out
      have VY := vld_of hvy
      have hmd := mul_den dx dy VX.d1 VX.d2 VY.d1 VY.d2
      have hcb := combC_bd VX VY (s := 1) (.inl rfl)
      obtain ⟨hmd1, hmd2⟩ := hmd
      have dm : DomM dx dy := by unfold DomM; omega
      have hp := domM_wrap
      have HVX2 := Lib.hid VX
      have HVY2 := Lib.hid VY
      have HCB1 := Lib.hid hcb.1
      have HCB2 := Lib.hid hcb.2
      have hsz2 : w.heap.size + 2 < w2.heap.size := RR2.out.lt
      clear hcb hvy VX VY HVX BB
      go_wp2_with fail
      go_region_held3 (fun w' => w'.cell? ⟨w.heap.size, 0, none⟩ = some (.int .i64 dx) ∧ w'.cell? ⟨w.heap.size, 1, none⟩ = some vx ∧ w'.cell? ⟨w.heap.size + 1, 0, none⟩ = some (.int .i64 dy) ∧ w'.cell? ⟨w.heap.size + 1, 1, none⟩ = some vy)
        (first | exact ⟨(X4.kept (two_after R4 _ _ rfl).2.2.2 (fun e => by have := Option.some.inj e; omega)).c0, (X4.kept (two_after R4 _ _ rfl).2.2.2 (fun e => by have := Option.some.inj e; omega)).c1, (Y4.kept (two_after R4 _ _ rfl).2.2.2 (fun e => by have := Option.some.inj e; omega)).c0, (Y4.kept (two_after R4 _ _ rfl).2.2.2 (fun e => by have := Option.some.inj e; omega)).c1⟩ | exact ⟨X4.c0, X4.c1, Y4.c0, Y4.c1⟩ | exact ⟨X3.c0, X3.c1, Y3.c0, Y3.c1⟩ | (go_keep; done))
        (first
          | (go_at_call 59; refine (combined_any dx dy 1 vx vy lx ly _ (HX.out.below BB2.out).drew (HY.out.below BB2.out).drew HVX2.out HVY2.out (.inl rfl)).mono ?_; rintro e w3 ⟨B, rfl, ho3, hb3⟩; have X3 := Two.below (w := w2.drew) XX2.out hb3 XX2.out.lt; have Y3 := Two.below (w := w2.drew) YY2.out hb3 YY2.out.lt; have R3 := Two.below (w := w2.drew) RR2.out hb3 RR2.out.lt; have B3 := BB2.out.drew.trans (hb3.mono BB2.out.size))
          | (go_at_call 54; refine (finish_any hsort (dx * dy) B 1000 _ _ ho3 (Nat.le_refl _) (by omega) (by omega) (by omega) HCB1 HCB2).mono ?_; rintro e w4 ⟨l, hit, hlen, v, rfl, hta, hb4, hfr⟩; obtain ⟨a4, cap4, rfl, _⟩ := hta.placed; have X4 := X3.below hb4 X3.lt; have Y4 := Y3.below hb4 Y3.lt; have R4 := R3.below hb4 R3.lt; have B4 := B3.trans (hb4.mono B3.size); have r0 := R4.c0; have r1 := R4.c1; have f0 := R4.fr (i := 0); have f1 := R4.fr (i := 1)))
      go_wp2
      obtain ⟨d0, d1, d2, hg⟩ := two_after R4 (.int .i64 (finF (dx * dy) l).1) (.slice a4 (finF (dx * dy) l).2.1.length cap4) rfl
      refine bodyPost_ret (v := .tuple #[.agg #[.int .i64 (finF (dx * dy) l).1, .slice a4 (finF (dx * dy) l).2.1.length cap4], .int .i64 (finF (dx * dy) l).2.2]) ?_ rfl ?_
      · simp [results, Tryz.results24, go_sem, d0, d1, d2]
      · refine ⟨_, HP.out l hit, _, rfl, hta.kept hg ?_, B4.grown hg B4.size (by intro k hk; cases hk; omega), fun k hk => ?_⟩
        · cases hv : (Value.slice a4 (finF (dx * dy) l).2.1.length cap4).ownBlock with
          | none => exact .inl rfl
          | some k => right; have := hfr k hv; have := R3.lt; simp; omega
        · have := hfr k hk; have := R3.lt; omega

set_option maxRecDepth 100000 in
set_option maxHeartbeats 2000000 in
theorem sub_any (hsort : Hid SortC) (dx dy : Int) (vx vy : Value) (lx ly : List (Int × Int)) (w : World) (hx : TermsAt w vx lx) (hy : TermsAt w vy ly) :
    Calls Tryz.prog 25 #[.agg #[.int .i64 dx, vx], .agg #[.int .i64 dy, vy]] w (NumP (addF (-1) dx lx dy ly) w) := by
  have HX := Lib.hid hx
  have HY := Lib.hid hy
  clear hx hy
  go_enter Tryz.func25, Tryz.ntmps25
  go_wp2_with fail
  refine (valid_any dx vx lx _ (((HX.out.alloc _).alloc _).alloc _)).mono ?_
  rintro e w1 ⟨rfl, hb⟩
  have X1 : Two w1 w.heap.size (.int .i64 dx) vx 24 := (((Two.new w (.int .i64 dx) vx 24).alloc _).alloc _).below hb (by simp; omega)
  have Y1 : Two w1 (w.heap.size + 1) (.int .i64 dy) vy 24 := by
    have := ((Two.new (w.alloc (.cells #[.int .i64 dx, vx] 24)) (.int .i64 dy) vy 24).alloc (.cells #[.int .i64 0, .slice none 0 0] 24)).below hb (by simp)
    simpa using this
  have R1 : Two w1 (w.heap.size + 1 + 1) (.int .i64 0) (.slice none 0 0) 24 := by
    have := (Two.new ((w.alloc (.cells #[.int .i64 dx, vx] 24)).alloc (.cells #[.int .i64 dy, vy] 24)) (.int .i64 0) (.slice none 0 0) 24).below hb (by simp)
    simpa [Nat.add_assoc] using this
  have B1 : Below w.heap.size w w1 := ((((Below.refl _ _).alloc (Nat.le_refl _) _).alloc (by simp) _).alloc (by simp; omega) _).trans (hb.mono (by simp; omega))
  have XX := Lib.hid X1
  have YY := Lib.hid Y1
  have RR := Lib.hid R1
  have BB := Lib.hid B1
  have x0 := X1.c0
  have x1 := X1.c1
  have y0 := Y1.c0
  have y1 := Y1.c1
  have r0 := R1.c0
  have r1 := R1.c1
  have f0 := R1.fr (i := 0)
  have f1 := R1.fr (i := 1)
  clear hb X1 Y1 R1 B1
  cases hvx : validF dx lx
  · have HP : Hid (addF (-1) dx lx dy ly (0, [], 2)) := Lib.hid (by simp [addF, hvx])
    clear hvx
    go_wp2
    obtain ⟨d0, d1, d2, hg⟩ := two_after RR.out (.int .i64 0) (.slice none 0 0) rfl
    refine bodyPost_ret (v := .tuple #[.agg #[.int .i64 0, .slice none 0 0], .int .i64 2]) ?_ rfl ?_
    · simp [results, Tryz.results25, go_sem, d0, d1, d2]
    · exact ⟨_, HP.out, _, rfl, termsAt_nil _, BB.out.grown hg BB.out.size (by intro k hk; cases hk; omega), fun k hk => by cases hk⟩
  · have HVX := Lib.hid hvx
    clear hvx
    go_wp2_with fail
    refine (valid_any dy vy ly _ (HY.out.below BB.out)).mono ?_
    rintro e w2 ⟨rfl, hb⟩
    have X2 := XX.out.below hb XX.out.lt
    have Y2 := YY.out.below hb YY.out.lt
    have R2 := RR.out.below hb RR.out.lt
    have B2 := BB.out.trans (hb.mono BB.out.size)
    have XX2 := Lib.hid X2
    have YY2 := Lib.hid Y2
    have RR2 := Lib.hid R2
    have BB2 := Lib.hid B2
    clear x0 x1 y0 y1 r0 r1 f0 f1 XX YY RR
    have x0 := X2.c0
    have x1 := X2.c1
    have y0 := Y2.c0
    have y1 := Y2.c1
    have r0 := R2.c0
    have r1 := R2.c1
    have f0 := R2.fr (i := 0)
    have f1 := R2.fr (i := 1)
    clear hb X2 Y2 R2 B2
    cases hvy : validF dy ly
    · have HP : Hid (addF (-1) dx lx dy ly (0, [], 2)) := Lib.hid (by simp [addF, hvy])
      clear hvy
      go_wp2
      obtain ⟨d0, d1, d2, hg⟩ := two_after RR2.out (.int .i64 0) (.slice none 0 0) rfl
      refine bodyPost_ret (v := .tuple #[.agg #[.int .i64 0, .slice none 0 0], .int .i64 2]) ?_ rfl ?_
      · simp [results, Tryz.results25, go_sem, d0, d1, d2]
      · exact ⟨_, HP.out, _, rfl, termsAt_nil _, BB2.out.grown hg BB2.out.size (by intro k hk; cases hk; omega), fun k hk => by cases hk⟩
    · have HP : Hid (∀ l, IsTerms (combC dx lx dy ly (-1)) l → addF (-1) dx lx dy ly (finF (dx * dy) l)) := Lib.hid (fun l hl => by simp only [addF]; rw [if_pos ⟨HVX.out, hvy⟩]; exact ⟨l, hl, rfl⟩)
      have VX := vld_of HVX.out
      have VY := vld_of hvy
      have hmd := mul_den dx dy VX.d1 VX.d2 VY.d1 VY.d2
      have hcb := combC_bd VX VY (s := -1) (.inr rfl)
      obtain ⟨hmd1, hmd2⟩ := hmd
      have dm : DomM dx dy := by unfold DomM; omega
      have hp := domM_wrap
      have HVX2 := Lib.hid VX
      have HVY2 := Lib.hid VY
      have HCB1 := Lib.hid hcb.1
      have HCB2 := Lib.hid hcb.2
      have hsz2 : w.heap.size + 2 < w2.heap.size := RR2.out.lt
      clear hcb hvy VX VY HVX BB
      go_wp2_with fail
      go_region_held3 (fun w' => w'.cell? ⟨w.heap.size, 0, none⟩ = some (.int .i64 dx) ∧ w'.cell? ⟨w.heap.size, 1, none⟩ = some vx ∧ w'.cell? ⟨w.heap.size + 1, 0, none⟩ = some (.int .i64 dy) ∧ w'.cell? ⟨w.heap.size + 1, 1, none⟩ = some vy)
        (first | exact ⟨(X4.kept (two_after R4 _ _ rfl).2.2.2 (fun e => by have := Option.some.inj e; omega)).c0, (X4.kept (two_after R4 _ _ rfl).2.2.2 (fun e => by have := Option.some.inj e; omega)).c1, (Y4.kept (two_after R4 _ _ rfl).2.2.2 (fun e => by have := Option.some.inj e; omega)).c0, (Y4.kept (two_after R4 _ _ rfl).2.2.2 (fun e => by have := Option.some.inj e; omega)).c1⟩ | exact ⟨X4.c0, X4.c1, Y4.c0, Y4.c1⟩ | exact ⟨X3.c0, X3.c1, Y3.c0, Y3.c1⟩ | (go_keep; done))
        (first
          | (go_at_call 59; refine (combined_any dx dy (-1) vx vy lx ly _ (HX.out.below BB2.out).drew (HY.out.below BB2.out).drew HVX2.out HVY2.out (.inr rfl)).mono ?_; rintro e w3 ⟨B, rfl, ho3, hb3⟩; have X3 := Two.below (w := w2.drew) XX2.out hb3 XX2.out.lt; have Y3 := Two.below (w := w2.drew) YY2.out hb3 YY2.out.lt; have R3 := Two.below (w := w2.drew) RR2.out hb3 RR2.out.lt; have B3 := BB2.out.drew.trans (hb3.mono BB2.out.size))
          | (go_at_call 54; refine (finish_any hsort (dx * dy) B 1000 _ _ ho3 (Nat.le_refl _) (by omega) (by omega) (by omega) HCB1 HCB2).mono ?_; rintro e w4 ⟨l, hit, hlen, v, rfl, hta, hb4, hfr⟩; obtain ⟨a4, cap4, rfl, _⟩ := hta.placed; have X4 := X3.below hb4 X3.lt; have Y4 := Y3.below hb4 Y3.lt; have R4 := R3.below hb4 R3.lt; have B4 := B3.trans (hb4.mono B3.size); have r0 := R4.c0; have r1 := R4.c1; have f0 := R4.fr (i := 0); have f1 := R4.fr (i := 1)))
      go_wp2
      obtain ⟨d0, d1, d2, hg⟩ := two_after R4 (.int .i64 (finF (dx * dy) l).1) (.slice a4 (finF (dx * dy) l).2.1.length cap4) rfl
      refine bodyPost_ret (v := .tuple #[.agg #[.int .i64 (finF (dx * dy) l).1, .slice a4 (finF (dx * dy) l).2.1.length cap4], .int .i64 (finF (dx * dy) l).2.2]) ?_ rfl ?_
      · simp [results, Tryz.results25, go_sem, d0, d1, d2]
      · refine ⟨_, HP.out l hit, _, rfl, hta.kept hg ?_, B4.grown hg B4.size (by intro k hk; cases hk; omega), fun k hk => ?_⟩
        · cases hv : (Value.slice a4 (finF (dx * dy) l).2.1.length cap4).ownBlock with
          | none => exact .inl rfl
          | some k => right; have := hfr k hv; have := R3.lt; simp; omega
        · have := hfr k hk; have := R3.lt; omega

end Go.Proofs.YtedpafdfecofnaaGreatDoor

/-! ## S12 -/
namespace Go.Proofs.YtedpafdfecofnaaGreatDoor
open Go.RowKit Go.Maps
def mulF (dx : Int) (lx : List (Int × Int)) (dy : Int) (ly : List (Int × Int)) (r : Int × List (Int × Int) × Int) : Prop :=
  if validF dx lx = true ∧ validF dy ly = true then ∃ l, IsTerms (plusC zeroC 1 (prodL lx ly)) l ∧ r = finF (dx * dy) l else r = (0, [], 2)
theorem vld_pt {d : Int} {l : List (Int × Int)} (h : Vld d l) : ∀ t ∈ l, (-100000 ≤ t.1 ∧ t.1 ≤ 100000) ∧ (1 ≤ t.2 ∧ t.2 ≤ 1000) := fun t ht => ⟨⟨(h.cf t ht).1, (h.cf t ht).2.1⟩, h.rt t ht⟩
theorem coefOf_ne {l : List (Int × Int)} {r : Int} (hn : coefOf l r ≠ 0) : ∃ t ∈ l, t.2 = r := by
  have key : ∀ (l : List (Int × Int)) (s : Int), (∀ t ∈ l, t.2 ≠ r) → l.foldl (fun s t => if t.2 = r then s + t.1 else s) s = s := by
    intro l
    induction l with
    | nil => intro s _; rfl
    | cons t l ih => intro s h; simp only [List.foldl_cons]; rw [if_neg (h t (by simp))]; exact ih s (fun u hu => h u (by simp [hu]))
  by_cases hex : ∀ t ∈ l, t.2 ≠ r
  · exact absurd (key l 0 hex) hn
  · simp only [Classical.not_forall] at hex
    obtain ⟨t, ht, he⟩ := hex
    exact ⟨t, ht, Decidable.not_not.1 he⟩
theorem prodC_bd {m M : Int} {lx ly : List (Int × Int)} (hm1 : -M ≤ m) (hm2 : m ≤ M) (hM : M ≤ 100000) (hM0 : 0 ≤ M) (hML : M * (10000000000000 * ((lx.length * ly.length : Nat) : Int)) ≤ 9000000000000000000)
    (hcx : ∀ t ∈ lx, (-100000 ≤ t.1 ∧ t.1 ≤ 100000) ∧ (1 ≤ t.2 ∧ t.2 ≤ 1000)) (hcy : ∀ t ∈ ly, (-100000 ≤ t.1 ∧ t.1 ≤ 100000) ∧ (1 ≤ t.2 ∧ t.2 ≤ 1000)) :
    (∀ r, plusC zeroC m (prodL lx ly) r ≠ 0 → 0 ≤ r ∧ r ≤ 1000000000000) ∧ ∀ r, -9000000000000000000 ≤ plusC zeroC m (prodL lx ly) r ∧ plusC zeroC m (prodL lx ly) r ≤ 9000000000000000000 := by
  have hb : ∀ t ∈ prodL lx ly, (-10000000000000 ≤ t.1 ∧ t.1 ≤ 10000000000000) ∧ 0 ≤ t.2 ∧ t.2 ≤ 1000000 := by
    intro t ht
    unfold prodL at ht
    obtain ⟨t1, h1, ht⟩ := List.mem_flatMap.1 ht
    obtain ⟨t2, h2, rfl⟩ := List.mem_map.1 ht
    have a1 := hcx t1 h1
    have a2 := hcy t2 h2
    have := mulT_bd t1 t2 a1.1 a2.1 a1.2 a2.2
    omega
  constructor
  · intro r hr
    have : coefOf (prodL lx ly) r ≠ 0 := by intro h; unfold plusC at hr; rw [h] at hr; simp [zeroC] at hr
    obtain ⟨t, ht, rfl⟩ := coefOf_ne this
    have := hb t ht
    omega
  · intro r
    exact zero_plus_bd m M _ _ hm1 hm2 hM0 (by rw [prodL_len]; exact Nat.le_refl _) hML (fun t ht => (hb t ht).1) r

set_option maxRecDepth 100000 in
set_option maxHeartbeats 2000000 in
theorem mul_any (hsort : Hid SortC) (dx dy : Int) (vx vy : Value) (lx ly : List (Int × Int)) (w : World) (hx : TermsAt w vx lx) (hy : TermsAt w vy ly) :
    Calls Tryz.prog 27 #[.agg #[.int .i64 dx, vx], .agg #[.int .i64 dy, vy]] w (NumP (mulF dx lx dy ly) w) := by
  have HX := Lib.hid hx
  have HY := Lib.hid hy
  clear hx hy
  go_enter Tryz.func27, Tryz.ntmps27
  go_wp2_with fail
  refine (valid_any dx vx lx _ (((HX.out.alloc _).alloc _).alloc _)).mono ?_
  rintro e w1 ⟨rfl, hb⟩
  have X1 : Two w1 w.heap.size (.int .i64 dx) vx 24 := (((Two.new w (.int .i64 dx) vx 24).alloc _).alloc _).below hb (by simp; omega)
  have Y1 : Two w1 (w.heap.size + 1) (.int .i64 dy) vy 24 := by
    have := ((Two.new (w.alloc (.cells #[.int .i64 dx, vx] 24)) (.int .i64 dy) vy 24).alloc (.cells #[.int .i64 0, .slice none 0 0] 24)).below hb (by simp)
    simpa using this
  have R1 : Two w1 (w.heap.size + 1 + 1) (.int .i64 0) (.slice none 0 0) 24 := by
    have := (Two.new ((w.alloc (.cells #[.int .i64 dx, vx] 24)).alloc (.cells #[.int .i64 dy, vy] 24)) (.int .i64 0) (.slice none 0 0) 24).below hb (by simp)
    simpa [Nat.add_assoc] using this
  have B1 : Below w.heap.size w w1 := ((((Below.refl _ _).alloc (Nat.le_refl _) _).alloc (by simp) _).alloc (by simp; omega) _).trans (hb.mono (by simp; omega))
  have XX := Lib.hid X1
  have YY := Lib.hid Y1
  have RR := Lib.hid R1
  have BB := Lib.hid B1
  have x0 := X1.c0
  have x1 := X1.c1
  have y0 := Y1.c0
  have y1 := Y1.c1
  have r0 := R1.c0
  have r1 := R1.c1
  have f0 := R1.fr (i := 0)
  have f1 := R1.fr (i := 1)
  clear hb X1 Y1 R1 B1
  cases hvx : validF dx lx
  · have HP : Hid (mulF dx lx dy ly (0, [], 2)) := Lib.hid (by simp [mulF, hvx])
    clear hvx
    go_wp2
    obtain ⟨d0, d1, d2, hg⟩ := two_after RR.out (.int .i64 0) (.slice none 0 0) rfl
    refine bodyPost_ret (v := .tuple #[.agg #[.int .i64 0, .slice none 0 0], .int .i64 2]) ?_ rfl ?_
    · simp [results, Tryz.results27, go_sem, d0, d1, d2]
    · exact ⟨_, HP.out, _, rfl, termsAt_nil _, BB.out.grown hg BB.out.size (by intro k hk; cases hk; omega), fun k hk => by cases hk⟩
  · have HVX := Lib.hid hvx
    clear hvx
    go_wp2_with fail
    refine (valid_any dy vy ly _ (HY.out.below BB.out)).mono ?_
    rintro e w2 ⟨rfl, hb⟩
    have X2 := XX.out.below hb XX.out.lt
    have Y2 := YY.out.below hb YY.out.lt
    have R2 := RR.out.below hb RR.out.lt
    have B2 := BB.out.trans (hb.mono BB.out.size)
    have XX2 := Lib.hid X2
    have YY2 := Lib.hid Y2
    have RR2 := Lib.hid R2
    have BB2 := Lib.hid B2
    clear x0 x1 y0 y1 r0 r1 f0 f1 XX YY RR
    have x0 := X2.c0
    have x1 := X2.c1
    have y0 := Y2.c0
    have y1 := Y2.c1
    have r0 := R2.c0
    have r1 := R2.c1
    have f0 := R2.fr (i := 0)
    have f1 := R2.fr (i := 1)
    clear hb X2 Y2 R2 B2
    cases hvy : validF dy ly
    · have HP : Hid (mulF dx lx dy ly (0, [], 2)) := Lib.hid (by simp [mulF, hvy])
      clear hvy
      go_wp2
      obtain ⟨d0, d1, d2, hg⟩ := two_after RR2.out (.int .i64 0) (.slice none 0 0) rfl
      refine bodyPost_ret (v := .tuple #[.agg #[.int .i64 0, .slice none 0 0], .int .i64 2]) ?_ rfl ?_
      · simp [results, Tryz.results27, go_sem, d0, d1, d2]
      · exact ⟨_, HP.out, _, rfl, termsAt_nil _, BB2.out.grown hg BB2.out.size (by intro k hk; cases hk; omega), fun k hk => by cases hk⟩
    · have HP : Hid (∀ l, IsTerms (plusC zeroC 1 (prodL lx ly)) l → mulF dx lx dy ly (finF (dx * dy) l)) := Lib.hid (fun l hl => by simp only [mulF]; rw [if_pos ⟨HVX.out, hvy⟩]; exact ⟨l, hl, rfl⟩)
      have VX := vld_of HVX.out
      have VY := vld_of hvy
      have HML : Hid ((1 : Int) * (10000000000000 * ((lx.length * ly.length : Nat) : Int)) ≤ 9000000000000000000) := Lib.hid (by have : lx.length * ly.length ≤ 4 * 4 := Nat.mul_le_mul VX.len VY.len; omega)
      have hmd := mul_den dx dy VX.d1 VX.d2 VY.d1 VY.d2
      have hcb := prodC_bd (m := 1) (M := 1) (lx := lx) (ly := ly) (by omega) (by omega) (by omega) (by omega) HML.out (fun t ht => vld_pt VX t ht) (fun t ht => vld_pt VY t ht)
      have HCX := Lib.hid (fun t ht => vld_pt VX t ht)
      have HCY := Lib.hid (fun t ht => vld_pt VY t ht)
      obtain ⟨hmd1, hmd2⟩ := hmd
      have dm : DomM dx dy := by unfold DomM; omega
      have hp := domM_wrap
      have HVX2 := Lib.hid VX
      have HVY2 := Lib.hid VY
      have HCB1 := Lib.hid hcb.1
      have HCB2 := Lib.hid hcb.2
      have hsz2 : w.heap.size + 2 < w2.heap.size := RR2.out.lt
      clear hcb hvy VX VY HVX BB
      go_wp2_with fail
      go_region_held3 (fun w' => w'.cell? ⟨w.heap.size, 0, none⟩ = some (.int .i64 dx) ∧ w'.cell? ⟨w.heap.size, 1, none⟩ = some vx ∧ w'.cell? ⟨w.heap.size + 1, 0, none⟩ = some (.int .i64 dy) ∧ w'.cell? ⟨w.heap.size + 1, 1, none⟩ = some vy)
        (first | exact ⟨(X4.kept (two_after R4 _ _ rfl).2.2.2 (fun e => by have := Option.some.inj e; omega)).c0, (X4.kept (two_after R4 _ _ rfl).2.2.2 (fun e => by have := Option.some.inj e; omega)).c1, (Y4.kept (two_after R4 _ _ rfl).2.2.2 (fun e => by have := Option.some.inj e; omega)).c0, (Y4.kept (two_after R4 _ _ rfl).2.2.2 (fun e => by have := Option.some.inj e; omega)).c1⟩ | exact ⟨X4.c0, X4.c1, Y4.c0, Y4.c1⟩ | exact ⟨X3.c0, X3.c1, Y3.c0, Y3.c1⟩ | (go_keep; done))
        (first
          | (go_at_call 60; refine (product_any 1 1 vx vy lx ly _ (HX.out.below BB2.out).drew (HY.out.below BB2.out).drew HVX2.out.len HVY2.out.len (by omega) (by omega) (by omega) (by omega) HML.out HCX HCY).mono ?_; rintro e w3 ⟨B, rfl, ho3, hb3⟩; have X3 := Two.below (w := w2.drew) XX2.out hb3 XX2.out.lt; have Y3 := Two.below (w := w2.drew) YY2.out hb3 YY2.out.lt; have R3 := Two.below (w := w2.drew) RR2.out hb3 RR2.out.lt; have B3 := BB2.out.drew.trans (hb3.mono BB2.out.size))
          | (go_at_call 54; refine (finish_any hsort (dx * dy) B 1000 _ _ ho3 (Nat.le_refl _) (by omega) (by omega) (by omega) HCB1 HCB2).mono ?_; rintro e w4 ⟨l, hit, hlen, v, rfl, hta, hb4, hfr⟩; obtain ⟨a4, cap4, rfl, _⟩ := hta.placed; have X4 := X3.below hb4 X3.lt; have Y4 := Y3.below hb4 Y3.lt; have R4 := R3.below hb4 R3.lt; have B4 := B3.trans (hb4.mono B3.size); have r0 := R4.c0; have r1 := R4.c1; have f0 := R4.fr (i := 0); have f1 := R4.fr (i := 1)))
      go_wp2
      obtain ⟨d0, d1, d2, hg⟩ := two_after R4 (.int .i64 (finF (dx * dy) l).1) (.slice a4 (finF (dx * dy) l).2.1.length cap4) rfl
      refine bodyPost_ret (v := .tuple #[.agg #[.int .i64 (finF (dx * dy) l).1, .slice a4 (finF (dx * dy) l).2.1.length cap4], .int .i64 (finF (dx * dy) l).2.2]) ?_ rfl ?_
      · simp [results, Tryz.results27, go_sem, d0, d1, d2]
      · refine ⟨_, HP.out l hit, _, rfl, hta.kept hg ?_, B4.grown hg B4.size (by intro k hk; cases hk; omega), fun k hk => ?_⟩
        · cases hv : (Value.slice a4 (finF (dx * dy) l).2.1.length cap4).ownBlock with
          | none => exact .inl rfl
          | some k => right; have := hfr k hv; have := R3.lt; simp; omega
        · have := hfr k hk; have := R3.lt; omega


end Go.Proofs.YtedpafdfecofnaaGreatDoor
