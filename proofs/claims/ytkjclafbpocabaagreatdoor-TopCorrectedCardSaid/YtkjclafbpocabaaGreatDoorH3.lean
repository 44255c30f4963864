/-
  Contracts of the program's own functions (and their plain mathematics), on the way to the law: each for all arguments that its hypotheses let.
-/
import Derived.Test.YtkjclafbpocabaaGreatDoorH2
import Derived.Test.YtkjclafbpocabaaGreatDoorG6
import Derived.Test.YtkjclafbpocabaaGreatDoorG8
import Derived.Deep.RegionLaw
import Derived.WalkKit
import Derived.WalkSpells
import Derived.WalkLawsBesides
import Derived.Deep.QuietTactic
import Derived.BigQuiet
import Derived.Lib.Hide
import Derived.WalkSmall
import Derived.Maps.OwnSet
import Derived.Maps.RangeWalk
import Derived.Deep.RegionWith
import Derived.Deep.RegionHeld3
import Derived.Deep.DrawnRows
import Derived.Deep.DeepCutAuto
import Derived.OneCell
import Derived.KernelRfl
import Derived.Laws.StructEq
import Derived.StillTailTactics
import Derived.Laws.Externs
import Derived.RangeFuncBox
set_option linter.unusedSimpArgs false
set_option linter.unusedVariables false

/-! ## ZC3 -/
namespace Go.Proofs.YtkjclafbpocabaaGreatDoor
open Go.RowKit Go.Maps
/-- What adding pieces gives, one after another. -/
inductive WithP : Int × List (Int × Int) → PiecesL → Int × List (Int × Int) × Int → Prop
  | done (x : Int × List (Int × Int)) : WithP x [] (x.1, x.2, 0)
  | over {x : Int × List (Int × Int)} {p : Bool × List Int} {ps : PiecesL} (h : 100000 < prodF p.2) : WithP x (p :: ps) (0, [], 10)
  | err {x : Int × List (Int × Int)} {p : Bool × List Int} {ps : PiecesL} {f s : Int × List (Int × Int) × Int} (h : prodF p.2 ≤ 100000) (hf : makeF (prodF p.2) [(signI p.1, 1)] f) (ha : addF 1 x.1 x.2 f.1 f.2.1 s) (he : s.2.2 ≠ 0) : WithP x (p :: ps) (0, [], s.2.2)
  | more {x : Int × List (Int × Int)} {p : Bool × List Int} {ps : PiecesL} {f s r : Int × List (Int × Int) × Int} (h : prodF p.2 ≤ 100000) (hf : makeF (prodF p.2) [(signI p.1, 1)] f) (ha : addF 1 x.1 x.2 f.1 f.2.1 s) (he : s.2.2 = 0) (t : WithP (s.1, s.2.1) ps r) : WithP x (p :: ps) r
/-- A number, its block from B on. -/
def NumB (B : Nat) (r : Int × List (Int × Int) × Int) (w : World) (e : Ending) (w' : World) : Prop :=
  ∃ v, e = .returned (.tuple #[.agg #[.int .i64 r.1, v], .int .i64 r.2.2]) ∧ TermsAt w' v r.2.1 ∧ Below w.heap.size w w' ∧ ∀ k, v.ownBlock = some k → B ≤ k
theorem SignsAt.look2 {w : World} {B : Nat} (h : SignsAt w B) (m : Bool) : ∃ fb, (Instr.lookup 172 (.map (some B)) (.bool m) false).run Tryz.prog w = .ok (.agg #[.int .i64 (signI m), .string fb]) w ∧ fb = ⟨(if m = true then [45, 49, 47] else [43, 49, 47] : List UInt8).toArray⟩ := ⟨_, h.look m, rfl⟩
theorem two_gone {w P w' : World} {b : Nat} {x y : Value} {T : TypeId} (h : Two w b x y T) (hb : Below P.heap.size P w') (hP : P.heap = w.heap) : Two w' b x y T := by
  have h2 : Two P b x y T := by unfold Two at h ⊢; rw [hP]; exact h
  exact h2.below hb h2.lt
theorem terms_gone {w P w' : World} {v : Value} {l : List (Int × Int)} (h : TermsAt w v l) (hb : Below P.heap.size P w') (hP : P.heap = w.heap) : TermsAt w' v l := by
  have hc : ∀ a, P.cell? a = w.cell? a := fun a => by unfold World.cell?; rw [hP]
  have h2 : TermsAt P v l := by
    obtain ⟨hl, h | ⟨b, off, cap, hv, hcap, hbb, ht⟩⟩ := h
    · exact ⟨hl, .inl h⟩
    · exact ⟨hl, .inr ⟨b, off, cap, hv, hcap, by rw [hP]; exact hbb, fun i hi => ⟨(hc _).trans (ht i hi).1, (hc _).trans (ht i hi).2⟩⟩⟩
  exact h2.below hb
theorem fraction_num (hsort : Hid SortC) (num den : Int) (w : World) :
    Calls Tryz.prog 74 #[.int .i64 num, .int .i64 den] w fun e w' => ∃ r : Int × List (Int × Int) × Int, makeF den [(num, 1)] r ∧ ∃ v, e = .returned (.agg #[.int .i64 r.1, v]) ∧ TermsAt w' v r.2.1 ∧ Below w.heap.size w w' ∧ ∀ k, v.ownBlock = some k → w.heap.size ≤ k := fraction_any hsort num den w
theorem SignsAt.alloc {w : World} {B : Nat} (h : SignsAt w B) (o : Obj) : SignsAt (w.alloc o) B := by
  have hB : B < w.heap.size := (Array.getElem?_eq_some_iff.1 h).1
  exact (((Below.refl _ w).alloc (Nat.le_refl _) o).block B hB).trans h
theorem terms_lt {w : World} {v : Value} {l : List (Int × Int)} (h : TermsAt w v l) (hl : l ≠ []) : ∀ q, v.ownBlock = some q → q < w.heap.size := by
  obtain ⟨_, ⟨h, _⟩ | ⟨b, off, cap, rfl, hcap, hb, hc⟩⟩ := h
  · exact absurd h hl
  · intro q hq; cases hq; exact hb
theorem sign_coef (s : Int) (fb : ByteArray) (w : World) : (Instr.field 171 (.agg #[.int .i64 s, .string fb]) 0).run Tryz.prog w = .ok (.int .i64 s) w := by kernel_rfl
theorem sign_front (s : Int) (fb : ByteArray) (w : World) : (Instr.field 171 (.agg #[.int .i64 s, .string fb]) 1).run Tryz.prog w = .ok (.string fb) w := by kernel_rfl
set_option maxRecDepth 100000 in
set_option maxHeartbeats 4000000 in
theorem withPieces_any (hsort : Hid SortC) (B0 : Nat) (d : Int) (v : Value) (l : List (Int × Int)) (vp : Value) (ps : PiecesL) (w : World) (ht : TermsAt w v l) (hv : ∀ q, v.ownBlock = some q → B0 ≤ q ∧ (l ≠ [] → q < w.heap.size)) (hB0 : B0 ≤ w.heap.size) (hp : PiecesAtz w vp ps) (ho : PiecesOk ps) :
    Calls Tryz.prog 73 #[.agg #[.int .i64 d, v], vp] w fun e w' => ∃ r, WithP (d, l) ps r ∧ NumB B0 r w e w' := by
  obtain ⟨a, cap, rfl, hl, hpl⟩ := hp.placed
  have HP := Lib.hid hpl
  have HO := Lib.hid ho
  have W2 : Below w.heap.size w ((w.alloc (.cells #[.int .i64 d, v] 34)).alloc (.cells #[.int .i64 0, .slice none 0 0] 34)) := ((Below.refl _ w).alloc (Nat.le_refl _) _).alloc (by simp) _
  have X := (Two.new w (.int .i64 d) v 34).alloc (.cells #[.int .i64 0, .slice none 0 0] 34)
  have R : Two ((w.alloc (.cells #[.int .i64 d, v] 34)).alloc (.cells #[.int .i64 0, .slice none 0 0] 34)) (w.heap.size + 1) (.int .i64 0) (.slice none 0 0) 34 := by
    have := Two.new (w.alloc (.cells #[.int .i64 d, v] 34)) (.int .i64 0) (.slice none 0 0) 34
    simpa using this
  have HX := Lib.hid X
  have HR := Lib.hid R
  have HB := Lib.hid W2
  have HT := Lib.hid (ht.below W2)
  have HV : Hid (∀ q, v.ownBlock = some q → B0 ≤ q ∧ (l ≠ [] → q ≠ w.heap.size ∧ q ≠ w.heap.size + 1)) := Lib.hid (fun q hq => ⟨(hv q hq).1, fun h => by have := (hv q hq).2 h; omega⟩)
  clear ht hp hpl ho X R W2 hv
  go_enter Tryz.func73, Tryz.ntmps73
  go_wp2
  go_loopw [13] (fun i wr => ∃ (k : Nat) (d' : Int) (v' : Value) (l' : List (Int × Int)), k ≤ ps.length ∧ i = .int .i64 k ∧ Hid (∀ r, WithP (d', l') (ps.drop k) r → WithP (d, l) ps r) ∧ Hid (Two wr w.heap.size (.int .i64 d') v' 34) ∧ Hid (Two wr (w.heap.size + 1) (.int .i64 0) (.slice none 0 0) 34) ∧ Hid (TermsAt wr v' l') ∧ Hid (∀ q, v'.ownBlock = some q → B0 ≤ q ∧ (l' ≠ [] → q ≠ w.heap.size ∧ q ≠ w.heap.size + 1)) ∧ Hid (Below w.heap.size w wr)) (fun i _ => ps.length - (intOf i).toNat)
  case atStart => exact ⟨0, d, v, l, Nat.zero_le _, rfl, Lib.hid (fun r h => by simpa using h), HX, HR, HT, HV, HB⟩
  case round =>
    obtain ⟨k, d', v', l', hk, rfl, HW, HX1, HR1, HT1, HV1, HB1⟩ := hrel
    clear HX HR HT HV HB
    by_cases hlt : k < ps.length
    · obtain ⟨b, off, rfl, hbb, c1, vm, c2, hm⟩ := HP.out k hlt
      have c1 := (HB1.out.cell (p := ⟨b, _, none⟩) hbb).trans c1
      have c2 := (HB1.out.cell (p := ⟨b, _, none⟩) hbb).trans c2
      obtain ⟨⟨m, ml⟩, hel⟩ : ∃ t, ps[k]?.getD (false, []) = t := ⟨_, rfl⟩
      have hdrop : ps.drop k = (m, ml) :: ps.drop (k + 1) := by
        rw [List.drop_eq_getElem_cons hlt]
        have : ps[k] = (m, ml) := by rw [← hel]; simp [hlt]
        rw [this]
      have hok := (HO.out (m, ml) (by have := List.mem_of_mem_drop (l := ps) (i := k) (a := (m, ml)) (by rw [hdrop]; simp); exact this)).1
      rw [hel] at c1 hm
      simp only at c1 hm hok
      have HM := Lib.hid (hm.below HB1.out)
      have HD := Lib.hid hdrop
      have HOK := Lib.hid hok
      obtain ⟨am, cm, rfl, _⟩ := hm.placed
      clear hel hdrop hok hm
      have BP : Below w.heap.size w (wr.alloc (.cells #[.bool m, .slice am ml.length cm] 87)) := HB1.out.alloc HB1.out.size _
      have PP := Two.new wr (.bool m) (.slice am ml.length cm) 87
      have XP := HX1.out.alloc (.cells #[.bool m, .slice am ml.length cm] 87)
      have RP := HR1.out.alloc (.cells #[.bool m, .slice am ml.length cm] 87)
      have TP := HT1.out.alloc (.cells #[.bool m, .slice am ml.length cm] 87)
      have hpr := product_any' _ ml _ (HM.out.alloc (.cells #[.bool m, .slice am ml.length cm] 87)) HOK.out
      have hbd := HOK.out.prod
      have hsw := HX1.out.lt
      have hsr := HR1.out.lt
      obtain ⟨pr, hprd⟩ : ∃ pr, prodF ml = pr := ⟨_, rfl⟩
      rw [hprd] at hpr hbd
      have HPR := Lib.hid hpr
      have HPD := Lib.hid hprd
      have HXP := Lib.hid XP
      have HRP := Lib.hid RP
      have HTP := Lib.hid TP
      have HPP := Lib.hid PP
      have HBP := Lib.hid BP
      obtain ⟨hbd1, hbd2⟩ := hbd
      clear hpr hprd XP RP TP PP BP HX1 HR1 HT1 HM HOK
      go_wp2_with fail
      refine HPR.out.mono ?_
      rintro e w2 ⟨rfl, hb2⟩
      have X2 := HXP.out.below hb2 HXP.out.lt
      have R2 := HRP.out.below hb2 HRP.out.lt
      have P2 := HPP.out.below hb2 HPP.out.lt
      have T2 := HTP.out.below hb2
      have B2 := HBP.out.trans (hb2.mono HBP.out.size)
      have hs2 : wr.heap.size < w2.heap.size := P2.lt
      clear HXP HRP HPP HTP HBP hb2 HPR
      by_cases hgt : 100000 < pr
      · have HWP : Hid (WithP (d, l) ps (0, [], 10)) := Lib.hid (HW.out _ (by rw [HD.out]; exact .over (by rw [HPD.out]; exact hgt)))
        have HR2 := Lib.hid R2
        have HB2 := Lib.hid B2
        have r0 := R2.c0
        have r1 := R2.c1
        have f0 := R2.fr (i := 0)
        have f1 := R2.fr (i := 1)
        clear X2 R2 P2 T2 B2 HW HD c1 c2
        go_wp2
        obtain ⟨d0, d1, d2, hg⟩ := two_after HR2.out (.int .i64 0) (.slice none 0 0) rfl
        refine bodyPost_ret (v := .tuple #[.agg #[.int .i64 0, .slice none 0 0], .int .i64 10]) ?_ rfl ?_
        · simp [results, Tryz.results73, go_sem, d0, d1, d2]
        · exact ⟨_, HWP.out, _, rfl, termsAt_nil _, HB2.out.grown hg HB2.out.size (by intro k hk; cases hk; omega), fun k hk => by cases hk⟩
      · have x0 := X2.c0
        have x1 := X2.c1
        have p0 := P2.c0
        clear c1 c2
        have hsf := sign_coef
        go_wp2_with fail
        go_region_held3 (fun W => W.cell? ⟨w.heap.size, 0, none⟩ = some (.int .i64 d') ∧ W.cell? ⟨w.heap.size, 1, none⟩ = some v' ∧ W.cell? ⟨wr.heap.size, 0, none⟩ = some (.bool m))
          (first | exact ⟨X2.c0, X2.c1, P2.c0⟩ | exact ⟨(X2.alloc _).c0, (X2.alloc _).c1, (P2.alloc _).c0⟩ | exact ⟨(X2.kept (two_after N2 _ _ rfl).2.2.2 (fun e => by have := Option.some.inj e; omega)).c0, (X2.kept (two_after N2 _ _ rfl).2.2.2 (fun e => by have := Option.some.inj e; omega)).c1, (P2.kept (two_after N2 _ _ rfl).2.2.2 (fun e => by have := Option.some.inj e; omega)).c0⟩ | (go_keep; done))
          (first
          | (go_at_call 130; refine (signs_any _).mono ?_; rintro e ws ⟨B, rfl, hB1, hB2, hsg, hbs⟩; have hlk := hsg.look2 m; obtain ⟨fb, hlk, hfb⟩ := hlk; clear hfb; (try have hlka := (hsg.alloc (.cells #[.int .i64 0, .slice none 0 0] 34)).look2 m; obtain ⟨fba, hlka, hfba⟩ := hlka; clear hfba); have lxhbs := X2.lt; have lphbs := P2.lt; have lrhbs := R2.lt; replace X2 := (by first | exact two_gone X2 hbs rfl | exact two_gone (X2.alloc _) hbs rfl | exact two_gone (X2.drew.alloc _) hbs rfl); replace R2 := (by first | exact two_gone R2 hbs rfl | exact two_gone (R2.alloc _) hbs rfl | exact two_gone (R2.drew.alloc _) hbs rfl); replace P2 := (by first | exact two_gone P2 hbs rfl | exact two_gone (P2.alloc _) hbs rfl | exact two_gone (P2.drew.alloc _) hbs rfl); replace T2 := (by first | exact terms_gone T2 hbs rfl | exact terms_gone (T2.alloc _) hbs rfl | exact terms_gone (T2.drew.alloc _) hbs rfl); (try (replace N2 := two_gone N2 hbs rfl)); (try (have N2 := two_gone (Two.new _ (.int .i64 0) (.slice none 0 0) 34) hbs rfl)); replace B2 := (by first | exact B2.trans (hbs.mono B2.size) | exact (B2.alloc B2.size _).trans (hbs.mono (by have := B2.size; simp; omega)) | exact B2.drew.trans (hbs.mono B2.drew.size) | exact (B2.drew.alloc B2.drew.size _).trans (hbs.mono (by have := B2.size; simp; omega)) : Below w.heap.size w _); have x0s := X2.c0; have x1s := X2.c1; have p0s := P2.c0; have xas := (X2.alloc (.cells #[.int .i64 0, .slice none 0 0] 34)).c0; have xbs := (X2.alloc (.cells #[.int .i64 0, .slice none 0 0] 34)).c1; have pas := (P2.alloc (.cells #[.int .i64 0, .slice none 0 0] 34)).c0)
          | (go_at_call 74; refine (fraction_num hsort (signI m) pr _).mono ?_; rintro e wf ⟨f, hf, vf, rfl, htf, hbf, hff⟩; obtain ⟨af, cf, rfl, _⟩ := htf.placed; have lxhbf := X2.lt; have lphbf := P2.lt; have lrhbf := R2.lt; replace X2 := (by first | exact two_gone X2 hbf rfl | exact two_gone (X2.alloc _) hbf rfl | exact two_gone (X2.drew.alloc _) hbf rfl); replace R2 := (by first | exact two_gone R2 hbf rfl | exact two_gone (R2.alloc _) hbf rfl | exact two_gone (R2.drew.alloc _) hbf rfl); replace P2 := (by first | exact two_gone P2 hbf rfl | exact two_gone (P2.alloc _) hbf rfl | exact two_gone (P2.drew.alloc _) hbf rfl); replace T2 := (by first | exact terms_gone T2 hbf rfl | exact terms_gone (T2.alloc _) hbf rfl | exact terms_gone (T2.drew.alloc _) hbf rfl); (try (replace N2 := two_gone N2 hbf rfl)); (try (have N2 := two_gone (Two.new _ (.int .i64 0) (.slice none 0 0) 34) hbf rfl)); replace B2 := (by first | exact B2.trans (hbf.mono B2.size) | exact (B2.alloc B2.size _).trans (hbf.mono (by have := B2.size; simp; omega)) | exact B2.drew.trans (hbf.mono B2.drew.size) | exact (B2.drew.alloc B2.drew.size _).trans (hbf.mono (by have := B2.size; simp; omega)) : Below w.heap.size w _); have x0f := X2.c0; have x1f := X2.c1; have p0f := P2.c0; have xaf := (X2.alloc (.cells #[.int .i64 0, .slice none 0 0] 34)).c0; have xbf := (X2.alloc (.cells #[.int .i64 0, .slice none 0 0] 34)).c1; have paf := (P2.alloc (.cells #[.int .i64 0, .slice none 0 0] 34)).c0)
          | (go_at_call 59; (try have hnlt := N2.lt); refine (add_any hsort d' f.1 v' _ l' f.2.1 _ (by first | exact T2 | exact T2.alloc _) (by first | exact htf | exact htf.alloc _)).mono ?_; rintro e wa ⟨sm, hsm, va, rfl, hta, hba, hfa⟩; obtain ⟨aa, ca, rfl, _⟩ := hta.placed; have hsz3 := B2.size; have HBA : Hid (w.heap.size ≤ wa.heap.size) := Lib.hid (by have h1 := hba.size; have h2 := hsz3; (try simp at h1); (try simp at h2); omega); have lxhba := X2.lt; have lphba := P2.lt; have lrhba := R2.lt; replace X2 := (by first | exact two_gone X2 hba rfl | exact two_gone (X2.alloc _) hba rfl | exact two_gone (X2.drew.alloc _) hba rfl); replace R2 := (by first | exact two_gone R2 hba rfl | exact two_gone (R2.alloc _) hba rfl | exact two_gone (R2.drew.alloc _) hba rfl); replace P2 := (by first | exact two_gone P2 hba rfl | exact two_gone (P2.alloc _) hba rfl | exact two_gone (P2.drew.alloc _) hba rfl); replace T2 := (by first | exact terms_gone T2 hba rfl | exact terms_gone (T2.alloc _) hba rfl | exact terms_gone (T2.drew.alloc _) hba rfl); (try (replace N2 := two_gone N2 hba rfl)); (try (have N2 := two_gone (Two.new _ (.int .i64 0) (.slice none 0 0) 34) hba rfl)); replace B2 := (by first | exact B2.trans (hba.mono B2.size) | exact (B2.alloc B2.size _).trans (hba.mono (by have := B2.size; simp; omega)) | exact B2.drew.trans (hba.mono B2.drew.size) | exact (B2.drew.alloc B2.drew.size _).trans (hba.mono (by have := B2.size; simp; omega)) : Below w.heap.size w _); (try (have n0 := N2.c0; have n1 := N2.c1; have nf0 := N2.fr (i := 0); have nf1 := N2.fr (i := 1)))))
        all_goals
          first
          | skip
            have N3 := (N2.set0 (.int .i64 sm.1)).set1 (.slice aa sm.2.1.length ca) rfl
            have hg3 := (two_after N2 (.int .i64 sm.1) (.slice aa sm.2.1.length ca) rfl).2.2.2
            have X3 := X2.kept hg3 (fun e => by have := Option.some.inj e; omega)
            have R3 := R2.kept hg3 (fun e => by have := Option.some.inj e; omega)
            have T3 := hta.kept hg3 (by
              cases hv : (Value.slice aa sm.2.1.length ca).ownBlock with
              | none => exact .inl rfl
              | some q =>
                right
                have h1 := hfa q hv
                (try simp at h1)
                intro e
                have := Option.some.inj e
                omega)
            have B3 := B2.grown hg3 B2.size (fun q hq => by have := Option.some.inj hq; omega)
          | skip
            have N3 := Two.new wa (.int .i64 sm.1) (.slice aa sm.2.1.length ca) 34
            have X3 := X2.alloc (.cells #[.int .i64 sm.1, (.slice aa sm.2.1.length ca)] 34)
            have R3 := R2.alloc (.cells #[.int .i64 sm.1, (.slice aa sm.2.1.length ca)] 34)
            have T3 := hta.alloc (.cells #[.int .i64 sm.1, (.slice aa sm.2.1.length ca)] 34)
            have B3 := B2.alloc B2.size (.cells #[.int .i64 sm.1, (.slice aa sm.2.1.length ca)] 34)
          have HW3 : Hid (∀ q, (Value.slice aa sm.2.1.length ca).ownBlock = some q → B0 ≤ q ∧ q ≠ w.heap.size ∧ q ≠ w.heap.size + 1) := Lib.hid (fun q hq => by have h1 := hfa q hq; (try simp at h1); omega)
          have HF : Hid (makeF (prodF ml) [(signI m, 1)] f) := Lib.hid (by rw [HPD.out]; exact hf)
          have HS := Lib.hid hsm
          have HGT : Hid (prodF ml ≤ 100000) := Lib.hid (by rw [HPD.out]; omega)
          have HN3 := Lib.hid N3
          have HX3 := Lib.hid X3
          have HR3 := Lib.hid R3
          have HT3 := Lib.hid T3
          have HB3 := Lib.hid B3
          clear hf hsm T2 hta hfa hff htf hba hbf hbs hsg B3 T3
          obtain ⟨er, her⟩ : ∃ er, sm.2.2 = er := ⟨_, rfl⟩
          rw [her]
          have HER := Lib.hid her
          clear her
          by_cases h0 : er = 0
          · subst h0
            have n0' := N3.c0
            have n1' := N3.c1
            have x0' := X3.c0
            have x1' := X3.c1
            have xf0 := X3.fr (i := 0)
            have xf1 := X3.fr (i := 1)
            clear N3 X3 R3
            go_wp2
            have X4 := (HX3.out.set0 (.int .i64 sm.1)).set1 (.slice aa sm.2.1.length ca) rfl
            have hg4 := (two_after HX3.out (.int .i64 sm.1) (.slice aa sm.2.1.length ca) rfl).2.2.2
            have R4 := HR3.out.kept hg4 (fun e => by have := Option.some.inj e; omega)
            have T4 := HT3.out.kept hg4 (by
              cases hv : (Value.slice aa sm.2.1.length ca).ownBlock with
              | none => exact .inl rfl
              | some q => right; have h1 := HW3.out q hv; intro e; have := Option.some.inj e; omega)
            have B4 := HB3.out.grown hg4 HB3.out.size (fun q hq => by have := Option.some.inj hq; omega)
            go_roundw
            case rel => exact ⟨k + 1, sm.1, _, sm.2.1, by omega, by go_num, Lib.hid (fun r h => HW.out r (by rw [HD.out]; exact .more HGT.out HF.out HS.out HER.out h)), Lib.hid X4, Lib.hid R4, Lib.hid T4, Lib.hid (fun q hq => ⟨(HW3.out q hq).1, fun _ => (HW3.out q hq).2⟩), Lib.hid B4⟩
            case measure => simp [intOf]; omega
          · have H0 := Lib.hid h0
            have r0 := R3.c0
            have r1 := R3.c1
            have f0 := R3.fr (i := 0)
            have f1 := R3.fr (i := 1)
            clear N3 X3 R3
            go_wp2
            obtain ⟨d0, d1, d2, hg⟩ := two_after HR3.out (.int .i64 0) (.slice none 0 0) rfl
            refine bodyPost_ret (v := .tuple #[.agg #[.int .i64 0, .slice none 0 0], .int .i64 er]) ?_ rfl ?_
            · simp [results, Tryz.results73, go_sem, d0, d1, d2]
            · exact ⟨(0, [], er), HW.out _ (by rw [HD.out, ← HER.out]; exact .err HGT.out HF.out HS.out (by rw [HER.out]; exact H0.out)), _, rfl, termsAt_nil _, HB3.out.grown hg HB3.out.size (by intro q hk; cases hk; omega), fun q hk => by cases hk⟩
    · have hke : k = ps.length := by omega
      have HW5 : Hid (WithP (d, l) ps (d', l', 0)) := Lib.hid (HW.out _ (by rw [hke, List.drop_length]; exact .done _))
      obtain ⟨av, cv, rfl, _⟩ := HT1.out.placed
      have x0 := HX1.out.c0
      have x1 := HX1.out.c1
      have r0 := HR1.out.c0
      have r1 := HR1.out.c1
      have f0 := HR1.out.fr (i := 0)
      have f1 := HR1.out.fr (i := 1)
      clear hke HW
      go_wp2
      obtain ⟨d0, d1, d2, hg⟩ := two_after HR1.out (.int .i64 d') (.slice av l'.length cv) rfl
      refine bodyPost_ret (v := .tuple #[.agg #[.int .i64 d', .slice av l'.length cv], .int .i64 0]) ?_ rfl ?_
      · simp [results, Tryz.results73, go_sem, d0, d1, d2]
      · refine ⟨_, HW5.out, _, rfl, ?_, HB1.out.grown hg HB1.out.size (by intro q hk; cases hk; omega), fun q hk => (HV1.out q hk).1⟩
        by_cases hl0 : l' = []
        · subst hl0
          exact ⟨by simp, .inl ⟨rfl, av, cv, rfl⟩⟩
        · refine HT1.out.kept hg ?_
          cases hv : (Value.slice av l'.length cv).ownBlock with
          | none => exact .inl rfl
          | some q => right; have h1 := (HV1.out q hv).2 hl0; intro e; have := Option.some.inj e; omega
end Go.Proofs.YtkjclafbpocabaaGreatDoor
