/- Texts put together, in build order: J6, J7, J8, J9, J10, N3, N4, M8. -/
import Derived.Test.YtodkehpldlmgaaaDoorZq4
import Derived.Test.YtodkehpldlmgaaaDoorZq2
import Derived.Test.YtodkehpldlmgaaaDoorZq3
import Derived.Lib.SliceRun
import Derived.Deep.Cut
import Derived.Laws.AppendOwn
/- jlti, where one way alone is gone. -/
namespace Go.Proofs.YtodkehpldlmgaaaDoor
open Go.RowKit
set_option maxRecDepth 10000 in
set_option maxHeartbeats 2000000 in
theorem jlti_10 (i : Ins) (c : Int) (k : Kn) (d : Nat) (w : World) (hdst : i.dst = (d : Int)) (hdn : d < 10) (hk0 : k.r d ≠ noR) (hok : (k.r d).Ok) (him : i.imm < 4294967296) (ha : (k.r d).least < i.imm) (hb : ¬ i.imm ≤ (k.r d).great) :
    Calls Tryd.prog 62 #[.agg (stA i c k)] w fun e w' => e = .returned (two (noK) (k.set d (atMostR (k.r d) (i.imm - 1)))) ∧ Below w.heap.size w w' := by
  obtain ⟨W0, hW0⟩ : ∃ W0, W0 = ((w.alloc (.cells (stA i c k) 82)).alloc (.cells noK.a 43)).alloc (.cells noK.a 43) := ⟨_, rfl⟩
  obtain ⟨hst, h3, h4, hB0, hz0⟩ := ways_world i c k w W0 hW0
  have HZ : Hid (W0.heap.size = w.heap.size + 3) := hz0
  clear hz0
  go_enter Tryd.func62, Tryd.ntmps62
  go_upto_region 1 with fail
  refine named2 (p := fun X => Code.wp _ _ _ _ X) ?_
  intro W9 hW9
  have hW : W0 = W9 := hW0.trans hW9.symm
  subst hW
  clear hW9 hW0
  refine wp_region_inv (Φ := fun l vs X => Vals (fun q => match q with | 0 => some (.agg (stA i c k)) | 1 => some ((k.r d).v) | 2 => some (.pointer (some ⟨w.heap.size, 0, none⟩)) | 3 => some (.pointer (some ⟨w.heap.size, 4, none⟩)) | 4 => some (.int .u32 (i.imm : Int)) | 7 => some (.int .u32 (i.imm : Int)) | _ => none) l vs ∧ Ph1 6 (Two W0.heap.size 40 noR.a W0 5 99) (fun vs X => Held W0.heap.size 40 (k.r d).a W0 (vs 5) X) l vs X) (PQ := fun _ _ => False)
    (by kernel_rfl) (by kernel_rfl) (by kernel_rfl) (by kernel_rfl) ⟨Vals.none _ _, Ph1.start (Two.start ((Below.refl _ _).drew) (Nat.le_refl _))⟩ ?hop ?hend (fun _ _ _ _ h => h.elim)
  case hop =>
    refine ⟨?_, ?_, ?_, ?_, ?_, ?_, ?_, ?_, trivial⟩
    · intro l vs X A hA ⟨hV, hS⟩ hl hd hcl
      have hk := notYet (k := 6) hcl (by kernel_rfl) hl
      have hX := hS.1 hk
      have hB := hX.below
      have a1 := eval_old hA 1 (by kernel_rfl) rfl
      refine show_value (v := .agg (stA i c k)) (X' := X) (run_ld 82 _ rfl _ a1 (ld_row (l := stCells i c k) (has_whole (hst.below hB hst.lt)) (by kernel_rfl))) ⟨hV.upd (fun _ h => Option.some.inj h), Ph1.keep hk (by decide) (hX.grow (Below.refl _ _) (by decide) (by decide) _)⟩
    · intro l vs X A hA ⟨hV, hS⟩ hl hd hcl
      have hk := notYet (k := 6) hcl (by kernel_rfl) hl
      have hX := hS.1 hk
      have hB := hX.below
      have a6 := eval_new hA 6 0 (by kernel_rfl) (by kernel_rfl) (by kernel_rfl) (hd 0 (by kernel_rfl)) (hV 0 _ (hd 0 (by kernel_rfl)) rfl)
      have aF0 : A.eval (.func 80) = .func (.func 80) #[] #[] := rfl
      refine show_call (f := 80) (args := #[.agg (stA i c k)]) ?_ (dst_ok i c k d X hdst hdn hk0) ?_
      · generalize A.eval = ρ at *
        clear hA hl hd hcl hV hS
        go_simp
      · rintro e X' ⟨rfl, hB1⟩
        exact .inl ⟨_, rfl, hV.upd (fun _ h => Option.some.inj h), Ph1.keep hk (by decide) (hX.grow hB1 (by decide) (by decide) _)⟩
    · intro l vs X A hA ⟨hV, hS⟩ hl hd hcl
      have a1 := eval_old hA 1 (by kernel_rfl) rfl
      have hB : Below W0.heap.size W0 X := by
        cases hk : l 6 with
        | true => exact (hS.2 hk).choose_spec.2.2.2
        | false => exact (hS.1 hk).below
      have hP : ∀ v, Ph1 6 (Two W0.heap.size 40 noR.a W0 5 99) (fun vs X => Held W0.heap.size 40 (k.r d).a W0 (vs 5) X) (upd l 2 true) (upd vs 2 v) X := fun v => by
        cases hk : l 6 with
        | true => exact Ph1.keepT hk (by decide) (hS.2 hk)
        | false => exact Ph1.keep hk (by decide) ((hS.1 hk).grow (Below.refl _ _) (by decide) (by decide) _)
      refine show_value (v := .pointer (some ⟨w.heap.size, 0, none⟩)) (X' := X) ?_ ⟨hV.upd (fun _ h => Option.some.inj h), hP _⟩
      clear hP
      generalize A.eval = ρ at *
      clear hA hl hd hcl hV hS
      go_simp
    · intro l vs X A hA ⟨hV, hS⟩ hl hd hcl
      have a8 := eval_new hA 8 2 (by kernel_rfl) (by kernel_rfl) (by kernel_rfl) (hd 2 (by kernel_rfl)) (hV 2 _ (hd 2 (by kernel_rfl)) rfl)
      have hB : Below W0.heap.size W0 X := by
        cases hk : l 6 with
        | true => exact (hS.2 hk).choose_spec.2.2.2
        | false => exact (hS.1 hk).below
      have hP : ∀ v, Ph1 6 (Two W0.heap.size 40 noR.a W0 5 99) (fun vs X => Held W0.heap.size 40 (k.r d).a W0 (vs 5) X) (upd l 3 true) (upd vs 3 v) X := fun v => by
        cases hk : l 6 with
        | true => exact Ph1.keepT hk (by decide) (hS.2 hk)
        | false => exact Ph1.keep hk (by decide) ((hS.1 hk).grow (Below.refl _ _) (by decide) (by decide) _)
      refine show_value (v := .pointer (some ⟨w.heap.size, 4, none⟩)) (X' := X) ?_ ⟨hV.upd (fun _ h => Option.some.inj h), hP _⟩
      clear hP
      generalize A.eval = ρ at *
      clear hA hl hd hcl hV hS
      go_simp
    · intro l vs X A hA ⟨hV, hS⟩ hl hd hcl
      have a9 := eval_new hA 9 3 (by kernel_rfl) (by kernel_rfl) (by kernel_rfl) (hd 3 (by kernel_rfl)) (hV 3 _ (hd 3 (by kernel_rfl)) rfl)
      have hB : Below W0.heap.size W0 X := by
        cases hk : l 6 with
        | true => exact (hS.2 hk).choose_spec.2.2.2
        | false => exact (hS.1 hk).below
      have hP : ∀ v, Ph1 6 (Two W0.heap.size 40 noR.a W0 5 99) (fun vs X => Held W0.heap.size 40 (k.r d).a W0 (vs 5) X) (upd l 4 true) (upd vs 4 v) X := fun v => by
        cases hk : l 6 with
        | true => exact Ph1.keepT hk (by decide) (hS.2 hk)
        | false => exact Ph1.keep hk (by decide) ((hS.1 hk).grow (Below.refl _ _) (by decide) (by decide) _)
      have cc : X.cell? ⟨w.heap.size, 4, none⟩ = some (.int .u32 (i.imm : Int)) := (hst.below hB hst.lt).cell 4
      refine show_value (v := .int .u32 (i.imm : Int)) (X' := X) ?_ ⟨hV.upd (fun _ h => Option.some.inj h), hP _⟩
      clear hP
      generalize A.eval = ρ at *
      clear hA hl hd hcl hV hS
      go_simp
    · intro l vs X A hA ⟨hV, hS⟩ hl hd hcl
      have hk := notYet (k := 6) hcl (by kernel_rfl) hl
      have hX := hS.1 hk
      have hB := hX.below
      refine show_value (v := .pointer (some ⟨X.heap.size, 0, none⟩)) (X' := X.alloc (.cells noR.a 40)) ?_ ⟨hV.upd (fun _ h => by cases h), Ph1.keep hk (by decide) (hX.mkFst (by decide))⟩
      generalize A.eval = ρ at *
      clear hA hl hd hcl hV hS
      rfl
    · intro l vs X A hA ⟨hV, hS⟩ hl hd hcl
      have hX := hS.1 hl
      have hB := hX.below
      have a4 := eval_new hA 4 5 (by kernel_rfl) (by kernel_rfl) (by kernel_rfl) (hd 5 (by kernel_rfl)) (rfl : vs 5 = vs 5)
      have a7 := eval_new hA 7 1 (by kernel_rfl) (by kernel_rfl) (by kernel_rfl) (hd 1 (by kernel_rfl)) (hV 1 _ (hd 1 (by kernel_rfl)) rfl)
      obtain ⟨b, hb, hH, hT⟩ := hX.held (hd 5 (by kernel_rfl)) ((k.r d).a)
      rw [hb] at a4
      exact show_skip (run_st_row 40 _ _ rfl b _ _ _ a4 a7 hH (by kernel_rfl) (by kernel_rfl) (Rg.a_one _)) ⟨hV.upd (fun _ h => by cases h), Ph1.last hT⟩
    · intro l vs X A hA ⟨hV, hS⟩ hl hd hcl
      have a10 := eval_new hA 10 4 (by kernel_rfl) (by kernel_rfl) (by kernel_rfl) (hd 4 (by kernel_rfl)) (hV 4 _ (hd 4 (by kernel_rfl)) rfl)
      have hB : Below W0.heap.size W0 X := by
        cases hk : l 6 with
        | true => exact (hS.2 hk).choose_spec.2.2.2
        | false => exact (hS.1 hk).below
      have hP : ∀ v, Ph1 6 (Two W0.heap.size 40 noR.a W0 5 99) (fun vs X => Held W0.heap.size 40 (k.r d).a W0 (vs 5) X) (upd l 7 true) (upd vs 7 v) X := fun v => by
        cases hk : l 6 with
        | true => exact Ph1.keepT hk (by decide) (hS.2 hk)
        | false => exact Ph1.keep hk (by decide) ((hS.1 hk).grow (Below.refl _ _) (by decide) (by decide) _)
      refine show_value (v := .int .u32 (i.imm : Int)) (X' := X) ?_ ⟨hV.upd (fun _ h => Option.some.inj h), hP _⟩
      clear hP
      generalize A.eval = ρ at *
      clear hA hl hd hcl hV hS
      go_simp
  case hend =>
    intro l vs X hl ⟨hV, hS⟩
    have hX := hS.2 (hl 6 (by decide))
    have v0 := hV 0 _ (hl 0 (by decide)) rfl
    have v1 := hV 1 _ (hl 1 (by decide)) rfl
    have v2 := hV 2 _ (hl 2 (by decide)) rfl
    have v3 := hV 3 _ (hl 3 (by decide)) rfl
    have v4 := hV 4 _ (hl 4 (by decide)) rfl
    have v7 := hV 7 _ (hl 7 (by decide)) rfl
    clear hV hS hl
    obtain ⟨b6, u6, g6, hb6, hB9⟩ := hX
    simp only [canonL, if_true, v0, v1, v2, v3, v4, v7, u6]
    clear v0 v1 v2 v3 v4 v7 u6
    go_simp
    have hJ : JW w i c k (noK) (noK) b6 b6 (k.r d) (k.r d) X := ⟨hst.below hB9 hst.lt, h3.below hB9 h3.lt, h4.below hB9 h4.lt, hb6, hb6, hB0.trans (hB9.mono hB0.size), by have := HZ.out; omega, by have := HZ.out; omega⟩
    obtain ⟨W1, hren⟩ : ∃ Z, Z = X := ⟨_, rfl⟩
    subst hren
    clear hst h3 h4 hb6 hB9 g6 hB0 HZ
    have hz1 := hJ.size
    have c1 : W1.cell? ⟨b6, 1, none⟩ = some (.int .u32 ((k.r d).least : Int)) := hJ.d.cell 1
    have ha' : (((k.r d).least : Int) < (i.imm : Int)) := by omega
    have HA : Hid (((k.r d).least < i.imm)) := ha
    clear ha
    have HBB : Hid (¬ (i.imm ≤ (k.r d).great)) := hb
    clear hb
    have HIM : Hid (i.imm < 4294967296) := him
    clear him
    go_upto_region 3 with fail
    clear c1 ha'
    refine wp_region_inv (Φ := fun l vs X => Vals (fun q => match q with | 0 => some (.agg (stA i c k)) | 1 => some ((k.r d).v) | 2 => some (.int .u32 (i.imm : Int)) | 3 => some (.int .u32 ((i.imm - 1 : Nat) : Int)) | 4 => some ((atMostR (k.r d) (i.imm - 1)).v) | 5 => some (.agg (k.set d (atMostR (k.r d) (i.imm - 1))).a) | _ => none) l vs ∧ Pre1 6 (Below W1.heap.size W1) (JW w i c k (noK) (k.set d (atMostR (k.r d) (i.imm - 1))) b6 b6 (k.r d) (k.r d)) l X) (PQ := fun _ _ => False)
      (by kernel_rfl) (by kernel_rfl) (by kernel_rfl) (by kernel_rfl) ⟨Vals.none _ _, Pre1.start ((Below.refl _ _).drew)⟩ ?hop ?hend (fun _ _ _ _ h => h.elim)
    case hop =>
      refine ⟨?_, ?_, ?_, ?_, ?_, ?_, ?_, trivial⟩
      · intro l vs X A hA ⟨hV, hS⟩ hl hd hcl
        have hk := notYet (k := 6) hcl (by kernel_rfl) hl
        have hX := hS.1 hk
        have hB := hX
        have a1 := eval_old hA 1 (by kernel_rfl) rfl
        refine show_value (v := .agg (stA i c k)) (X' := X) (run_ld 82 _ rfl _ a1 (ld_row (l := stCells i c k) (has_whole (hJ.grow hB).st) (by kernel_rfl))) ⟨hV.upd (fun _ h => Option.some.inj h), Pre1.keep hk (by decide) (hX)⟩
      · intro l vs X A hA ⟨hV, hS⟩ hl hd hcl
        have hk := notYet (k := 6) hcl (by kernel_rfl) hl
        have hX := hS.1 hk
        have hB := hX
        have a4 := eval_old hA 4 (by kernel_rfl) rfl
        refine show_value (v := (k.r d).v) (X' := X) (run_ld 40 _ rfl _ a4 (ld_row (l := (k.r d).cells) (has_whole (hJ.grow hB).d) (by kernel_rfl))) ⟨hV.upd (fun _ h => Option.some.inj h), Pre1.keep hk (by decide) (hX)⟩
      · intro l vs X A hA ⟨hV, hS⟩ hl hd hcl
        have hk := notYet (k := 6) hcl (by kernel_rfl) hl
        have hX := hS.1 hk
        have hB := hX
        have a5 := eval_old hA 5 (by kernel_rfl) rfl
        refine show_value (v := .int .u32 (i.imm : Int)) (X' := X) ?_ ⟨hV.upd (fun _ h => Option.some.inj h), Pre1.keep hk (by decide) (hX)⟩
        generalize A.eval = ρ at *
        clear hA hl hd hcl hV hS
        go_simp
      · intro l vs X A hA ⟨hV, hS⟩ hl hd hcl
        have hk := notYet (k := 6) hcl (by kernel_rfl) hl
        have hX := hS.1 hk
        have hB := hX
        have a17 := eval_new hA 17 2 (by kernel_rfl) (by kernel_rfl) (by kernel_rfl) (hd 2 (by kernel_rfl)) (hV 2 _ (hd 2 (by kernel_rfl)) rfl)
        have aC0 : A.eval (.const (.int .u32 1)) = (.int .u32 1) := rfl
        have q1 : IntKind.u32.wrap ((i.imm : Int) - 1) = ((i.imm - 1 : Nat) : Int) := by have := HA.out; have := HIM.out; rw [IntKind.wrap_u32]; omega
        refine show_value (v := .int .u32 ((i.imm - 1 : Nat) : Int)) (X' := X) ?_ ⟨hV.upd (fun _ h => Option.some.inj h), Pre1.keep hk (by decide) (hX)⟩
        generalize ((i.imm - 1 : Nat) : Int) = z at *
        generalize A.eval = ρ at *
        clear hA hl hd hcl hV hS
        go_simp
      · intro l vs X A hA ⟨hV, hS⟩ hl hd hcl
        have hk := notYet (k := 6) hcl (by kernel_rfl) hl
        have hX := hS.1 hk
        have hB := hX
        have a16 := eval_new hA 16 1 (by kernel_rfl) (by kernel_rfl) (by kernel_rfl) (hd 1 (by kernel_rfl)) (hV 1 _ (hd 1 (by kernel_rfl)) rfl)
        have a18 := eval_new hA 18 3 (by kernel_rfl) (by kernel_rfl) (by kernel_rfl) (hd 3 (by kernel_rfl)) (hV 3 _ (hd 3 (by kernel_rfl)) rfl)
        have aF0 : A.eval (.func 90) = .func (.func 90) #[] #[] := rfl
        refine show_call (f := 90) (args := #[(k.r d).v, .int .u32 ((i.imm - 1 : Nat) : Int)]) ?_ (atMost_any (k.r d) (i.imm - 1) hok X) ?_
        · generalize A.eval = ρ at *
          clear hA hl hd hcl hV hS
          go_simp
        · rintro e X' ⟨rfl, hB1⟩
          exact .inl ⟨_, rfl, hV.upd (fun _ h => Option.some.inj h), Pre1.keep hk (by decide) (hX.trans (hB1.mono hX.size))⟩
      · intro l vs X A hA ⟨hV, hS⟩ hl hd hcl
        have hk := notYet (k := 6) hcl (by kernel_rfl) hl
        have hX := hS.1 hk
        have hB := hX
        have a15 := eval_new hA 15 0 (by kernel_rfl) (by kernel_rfl) (by kernel_rfl) (hd 0 (by kernel_rfl)) (hV 0 _ (hd 0 (by kernel_rfl)) rfl)
        have a19 := eval_new hA 19 4 (by kernel_rfl) (by kernel_rfl) (by kernel_rfl) (hd 4 (by kernel_rfl)) (hV 4 _ (hd 4 (by kernel_rfl)) rfl)
        have aF0 : A.eval (.func 76) = .func (.func 76) #[] #[] := rfl
        refine show_call (f := 76) (args := #[.agg (stA i c k), (atMostR (k.r d) (i.imm - 1)).v]) ?_ (with_any i c k d (atMostR (k.r d) (i.imm - 1)) X hdst hdn) ?_
        · generalize A.eval = ρ at *
          clear hA hl hd hcl hV hS
          go_simp
        · rintro e X' ⟨rfl, hB1⟩
          exact .inl ⟨_, rfl, hV.upd (fun _ h => Option.some.inj h), Pre1.keep hk (by decide) (hX.trans (hB1.mono hX.size))⟩
      · intro l vs X A hA ⟨hV, hS⟩ hl hd hcl
        have hX := hS.1 hl
        have hB := hX
        have a3 := eval_old hA 3 (by kernel_rfl) rfl
        have a20 := eval_new hA 20 5 (by kernel_rfl) (by kernel_rfl) (by kernel_rfl) (hd 5 (by kernel_rfl)) (hV 5 _ (hd 5 (by kernel_rfl)) rfl)
        have hg := hJ.grow hX
        refine show_skip (X' := X.setRow (w.heap.size + 2) (k.set d (atMostR (k.r d) (i.imm - 1))).a) (run_st_row 43 _ _ rfl (w.heap.size + 2) _ _ _ a3 a20 hg.j (by kernel_rfl) (by kernel_rfl) (Kn.a_one _)) ⟨hV.upd (fun _ h => by cases h), Pre1.last (hg.setJ _)⟩
    case hend =>
      intro l vs X hl ⟨hV, hS⟩
      have hX := hS.2 (hl 6 (by decide))
      have v0 := hV 0 _ (hl 0 (by decide)) rfl
      have v1 := hV 1 _ (hl 1 (by decide)) rfl
      have v2 := hV 2 _ (hl 2 (by decide)) rfl
      have v3 := hV 3 _ (hl 3 (by decide)) rfl
      have v4 := hV 4 _ (hl 4 (by decide)) rfl
      have v5 := hV 5 _ (hl 5 (by decide)) rfl
      clear hV hS hl
      simp only [canonL, if_true, v0, v1, v2, v3, v4, v5]
      clear v0 v1 v2 v3 v4 v5
      go_simp
      clear hJ hz1
      have hJ := hX
      clear hX
      obtain ⟨W2, hren⟩ : ∃ Z, Z = X := ⟨_, rfl⟩
      subst hren
      have hz2 := hJ.size
      go_upto_region 4 with fail
      have c2 : W2.cell? ⟨b6, 2, none⟩ = some (.int .u32 ((k.r d).great : Int)) := hJ.d.cell 2
      have hb' : ¬ ((i.imm : Int) ≤ ((k.r d).great : Int)) := by have := HBB.out; omega
      go_upto_region 6 with fail
      clear c2 hb'
      refine wp_region_inv (Φ := fun l vs X => Vals (fun q => match q with | 0 => some (.agg (noK).a) | 1 => some (.agg (k.set d (atMostR (k.r d) (i.imm - 1))).a) | _ => none) l vs ∧ Pre2 2 3 (Below W2.heap.size W2) (JW w i c k (noK) (k.set d (atMostR (k.r d) (i.imm - 1))) b6 b6 (k.r d) (k.r d)) (JW w i c k (noK) (k.set d (atMostR (k.r d) (i.imm - 1))) b6 b6 (k.r d) (k.r d)) l X) (PQ := fun _ _ => False)
        (by kernel_rfl) (by kernel_rfl) (by kernel_rfl) (by kernel_rfl) ⟨Vals.none _ _, Pre2.start ((Below.refl _ _).drew)⟩ ?hop ?hend (fun _ _ _ _ h => h.elim)
      case hop =>
        refine ⟨?_, ?_, ?_, ?_, trivial⟩
        · intro l vs X A hA ⟨hV, hS⟩ hl hd hcl
          have hj := notYet (k := 2) hcl (by kernel_rfl) hl
          have hk := notYet (k := 3) hcl (by kernel_rfl) hl
          have hX := hS.1 hj
          have hB := hX
          have a2 := eval_old hA 2 (by kernel_rfl) rfl
          refine show_value (v := .agg (noK).a) (X' := X) (run_ld 43 _ rfl _ a2 (ld_row (l := (noK).cells) (has_whole (hJ.grow hB).n) (by kernel_rfl))) ⟨hV.upd (fun _ h => Option.some.inj h), Pre2.keep hj hk (by decide) (by decide) (hX)⟩
        · intro l vs X A hA ⟨hV, hS⟩ hl hd hcl
          have hk := notYet (k := 3) hcl (by kernel_rfl) hl
          have a3 := eval_old hA 3 (by kernel_rfl) rfl
          cases hj : l 2 with
          | true =>
            have hX := hS.2.1 hj hk
            exact show_value (v := .agg (k.set d (atMostR (k.r d) (i.imm - 1))).a) (X' := X) (run_ld 43 _ rfl _ a3 (ld_row (l := (k.set d (atMostR (k.r d) (i.imm - 1))).cells) (has_whole hX.j) (by kernel_rfl))) ⟨hV.upd (fun _ h => Option.some.inj h), Pre2.keepMid hj hk (by decide) (by decide) hX⟩
          | false =>
            have hX := hS.1 hj
            have hB := hX
            exact show_value (v := .agg (k.set d (atMostR (k.r d) (i.imm - 1))).a) (X' := X) (run_ld 43 _ rfl _ a3 (ld_row (l := (k.set d (atMostR (k.r d) (i.imm - 1))).cells) (has_whole (hJ.grow hB).j) (by kernel_rfl))) ⟨hV.upd (fun _ h => Option.some.inj h), Pre2.keep hj hk (by decide) (by decide) hX⟩
        · intro l vs X A hA ⟨hV, hS⟩ hl hd hcl
          have hk := notYet (k := 3) hcl (by kernel_rfl) hl
          have hX := hS.1 hl
          have a2 := eval_old hA 2 (by kernel_rfl) rfl
          have a30 := eval_new hA 30 0 (by kernel_rfl) (by kernel_rfl) (by kernel_rfl) (hd 0 (by kernel_rfl)) (hV 0 _ (hd 0 (by kernel_rfl)) rfl)
          have hg := hJ.grow hX
          refine show_skip (X' := X.setRow (w.heap.size + 1) (noK).a) (run_st_row 43 _ _ rfl (w.heap.size + 1) _ _ _ a2 a30 hg.n (by kernel_rfl) (by kernel_rfl) (Kn.a_one _)) ⟨hV.upd (fun _ h => by cases h), Pre2.mid hk (by decide) (hg.setN _)⟩
        · intro l vs X A hA ⟨hV, hS⟩ hl hd hcl
          have hX := hS.2.1 (hd 2 (by kernel_rfl)) hl
          have a3 := eval_old hA 3 (by kernel_rfl) rfl
          have a31 := eval_new hA 31 1 (by kernel_rfl) (by kernel_rfl) (by kernel_rfl) (hd 1 (by kernel_rfl)) (hV 1 _ (hd 1 (by kernel_rfl)) rfl)
          refine show_skip (X' := X.setRow (w.heap.size + 2) (k.set d (atMostR (k.r d) (i.imm - 1))).a) (run_st_row 43 _ _ rfl (w.heap.size + 2) _ _ _ a3 a31 hX.j (by kernel_rfl) (by kernel_rfl) (Kn.a_one _)) ⟨hV.upd (fun _ h => by cases h), Pre2.last (hd 2 (by kernel_rfl)) (hX.setJ _)⟩
      case hend =>
        intro l vs X hl ⟨hV, hS⟩
        have hX := hS.2.2 (hl 3 (by decide))
        have v0 := hV 0 _ (hl 0 (by decide)) rfl
        have v1 := hV 1 _ (hl 1 (by decide)) rfl
        clear hV hS hl
        simp only [canonL, if_true, v0, v1]
        clear v0 v1
        go_simp
        go_wp2_with fail
        refine bodyPost_ret (results_rows2 rfl _ _ (w.heap.size + 1) (w.heap.size + 2) 43 _ _ _ rfl rfl hX.n hX.j Tryd.underlying43 rfl (by kernel_rfl) (by kernel_rfl)) rfl ?_
        exact ⟨rfl, hX.below⟩
set_option maxRecDepth 10000 in
set_option maxHeartbeats 2000000 in
theorem jlti_01 (i : Ins) (c : Int) (k : Kn) (d : Nat) (w : World) (hdst : i.dst = (d : Int)) (hdn : d < 10) (hk0 : k.r d ≠ noR) (hok : (k.r d).Ok) (him : i.imm < 4294967296) (ha : ¬ (k.r d).least < i.imm) (hb : i.imm ≤ (k.r d).great) :
    Calls Tryd.prog 62 #[.agg (stA i c k)] w fun e w' => e = .returned (two (k.set d (atLeastR (k.r d) i.imm)) (noK)) ∧ Below w.heap.size w w' := by
  obtain ⟨W0, hW0⟩ : ∃ W0, W0 = ((w.alloc (.cells (stA i c k) 82)).alloc (.cells noK.a 43)).alloc (.cells noK.a 43) := ⟨_, rfl⟩
  obtain ⟨hst, h3, h4, hB0, hz0⟩ := ways_world i c k w W0 hW0
  have HZ : Hid (W0.heap.size = w.heap.size + 3) := hz0
  clear hz0
  go_enter Tryd.func62, Tryd.ntmps62
  go_upto_region 1 with fail
  refine named2 (p := fun X => Code.wp _ _ _ _ X) ?_
  intro W9 hW9
  have hW : W0 = W9 := hW0.trans hW9.symm
  subst hW
  clear hW9 hW0
  refine wp_region_inv (Φ := fun l vs X => Vals (fun q => match q with | 0 => some (.agg (stA i c k)) | 1 => some ((k.r d).v) | 2 => some (.pointer (some ⟨w.heap.size, 0, none⟩)) | 3 => some (.pointer (some ⟨w.heap.size, 4, none⟩)) | 4 => some (.int .u32 (i.imm : Int)) | 7 => some (.int .u32 (i.imm : Int)) | _ => none) l vs ∧ Ph1 6 (Two W0.heap.size 40 noR.a W0 5 99) (fun vs X => Held W0.heap.size 40 (k.r d).a W0 (vs 5) X) l vs X) (PQ := fun _ _ => False)
    (by kernel_rfl) (by kernel_rfl) (by kernel_rfl) (by kernel_rfl) ⟨Vals.none _ _, Ph1.start (Two.start ((Below.refl _ _).drew) (Nat.le_refl _))⟩ ?hop ?hend (fun _ _ _ _ h => h.elim)
  case hop =>
    refine ⟨?_, ?_, ?_, ?_, ?_, ?_, ?_, ?_, trivial⟩
    · intro l vs X A hA ⟨hV, hS⟩ hl hd hcl
      have hk := notYet (k := 6) hcl (by kernel_rfl) hl
      have hX := hS.1 hk
      have hB := hX.below
      have a1 := eval_old hA 1 (by kernel_rfl) rfl
      refine show_value (v := .agg (stA i c k)) (X' := X) (run_ld 82 _ rfl _ a1 (ld_row (l := stCells i c k) (has_whole (hst.below hB hst.lt)) (by kernel_rfl))) ⟨hV.upd (fun _ h => Option.some.inj h), Ph1.keep hk (by decide) (hX.grow (Below.refl _ _) (by decide) (by decide) _)⟩
    · intro l vs X A hA ⟨hV, hS⟩ hl hd hcl
      have hk := notYet (k := 6) hcl (by kernel_rfl) hl
      have hX := hS.1 hk
      have hB := hX.below
      have a6 := eval_new hA 6 0 (by kernel_rfl) (by kernel_rfl) (by kernel_rfl) (hd 0 (by kernel_rfl)) (hV 0 _ (hd 0 (by kernel_rfl)) rfl)
      have aF0 : A.eval (.func 80) = .func (.func 80) #[] #[] := rfl
      refine show_call (f := 80) (args := #[.agg (stA i c k)]) ?_ (dst_ok i c k d X hdst hdn hk0) ?_
      · generalize A.eval = ρ at *
        clear hA hl hd hcl hV hS
        go_simp
      · rintro e X' ⟨rfl, hB1⟩
        exact .inl ⟨_, rfl, hV.upd (fun _ h => Option.some.inj h), Ph1.keep hk (by decide) (hX.grow hB1 (by decide) (by decide) _)⟩
    · intro l vs X A hA ⟨hV, hS⟩ hl hd hcl
      have a1 := eval_old hA 1 (by kernel_rfl) rfl
      have hB : Below W0.heap.size W0 X := by
        cases hk : l 6 with
        | true => exact (hS.2 hk).choose_spec.2.2.2
        | false => exact (hS.1 hk).below
      have hP : ∀ v, Ph1 6 (Two W0.heap.size 40 noR.a W0 5 99) (fun vs X => Held W0.heap.size 40 (k.r d).a W0 (vs 5) X) (upd l 2 true) (upd vs 2 v) X := fun v => by
        cases hk : l 6 with
        | true => exact Ph1.keepT hk (by decide) (hS.2 hk)
        | false => exact Ph1.keep hk (by decide) ((hS.1 hk).grow (Below.refl _ _) (by decide) (by decide) _)
      refine show_value (v := .pointer (some ⟨w.heap.size, 0, none⟩)) (X' := X) ?_ ⟨hV.upd (fun _ h => Option.some.inj h), hP _⟩
      clear hP
      generalize A.eval = ρ at *
      clear hA hl hd hcl hV hS
      go_simp
    · intro l vs X A hA ⟨hV, hS⟩ hl hd hcl
      have a8 := eval_new hA 8 2 (by kernel_rfl) (by kernel_rfl) (by kernel_rfl) (hd 2 (by kernel_rfl)) (hV 2 _ (hd 2 (by kernel_rfl)) rfl)
      have hB : Below W0.heap.size W0 X := by
        cases hk : l 6 with
        | true => exact (hS.2 hk).choose_spec.2.2.2
        | false => exact (hS.1 hk).below
      have hP : ∀ v, Ph1 6 (Two W0.heap.size 40 noR.a W0 5 99) (fun vs X => Held W0.heap.size 40 (k.r d).a W0 (vs 5) X) (upd l 3 true) (upd vs 3 v) X := fun v => by
        cases hk : l 6 with
        | true => exact Ph1.keepT hk (by decide) (hS.2 hk)
        | false => exact Ph1.keep hk (by decide) ((hS.1 hk).grow (Below.refl _ _) (by decide) (by decide) _)
      refine show_value (v := .pointer (some ⟨w.heap.size, 4, none⟩)) (X' := X) ?_ ⟨hV.upd (fun _ h => Option.some.inj h), hP _⟩
      clear hP
      generalize A.eval = ρ at *
      clear hA hl hd hcl hV hS
      go_simp
    · intro l vs X A hA ⟨hV, hS⟩ hl hd hcl
      have a9 := eval_new hA 9 3 (by kernel_rfl) (by kernel_rfl) (by kernel_rfl) (hd 3 (by kernel_rfl)) (hV 3 _ (hd 3 (by kernel_rfl)) rfl)
      have hB : Below W0.heap.size W0 X := by
        cases hk : l 6 with
        | true => exact (hS.2 hk).choose_spec.2.2.2
        | false => exact (hS.1 hk).below
      have hP : ∀ v, Ph1 6 (Two W0.heap.size 40 noR.a W0 5 99) (fun vs X => Held W0.heap.size 40 (k.r d).a W0 (vs 5) X) (upd l 4 true) (upd vs 4 v) X := fun v => by
        cases hk : l 6 with
        | true => exact Ph1.keepT hk (by decide) (hS.2 hk)
        | false => exact Ph1.keep hk (by decide) ((hS.1 hk).grow (Below.refl _ _) (by decide) (by decide) _)
      have cc : X.cell? ⟨w.heap.size, 4, none⟩ = some (.int .u32 (i.imm : Int)) := (hst.below hB hst.lt).cell 4
      refine show_value (v := .int .u32 (i.imm : Int)) (X' := X) ?_ ⟨hV.upd (fun _ h => Option.some.inj h), hP _⟩
      clear hP
      generalize A.eval = ρ at *
      clear hA hl hd hcl hV hS
      go_simp
    · intro l vs X A hA ⟨hV, hS⟩ hl hd hcl
      have hk := notYet (k := 6) hcl (by kernel_rfl) hl
      have hX := hS.1 hk
      have hB := hX.below
      refine show_value (v := .pointer (some ⟨X.heap.size, 0, none⟩)) (X' := X.alloc (.cells noR.a 40)) ?_ ⟨hV.upd (fun _ h => by cases h), Ph1.keep hk (by decide) (hX.mkFst (by decide))⟩
      generalize A.eval = ρ at *
      clear hA hl hd hcl hV hS
      rfl
    · intro l vs X A hA ⟨hV, hS⟩ hl hd hcl
      have hX := hS.1 hl
      have hB := hX.below
      have a4 := eval_new hA 4 5 (by kernel_rfl) (by kernel_rfl) (by kernel_rfl) (hd 5 (by kernel_rfl)) (rfl : vs 5 = vs 5)
      have a7 := eval_new hA 7 1 (by kernel_rfl) (by kernel_rfl) (by kernel_rfl) (hd 1 (by kernel_rfl)) (hV 1 _ (hd 1 (by kernel_rfl)) rfl)
      obtain ⟨b, hb, hH, hT⟩ := hX.held (hd 5 (by kernel_rfl)) ((k.r d).a)
      rw [hb] at a4
      exact show_skip (run_st_row 40 _ _ rfl b _ _ _ a4 a7 hH (by kernel_rfl) (by kernel_rfl) (Rg.a_one _)) ⟨hV.upd (fun _ h => by cases h), Ph1.last hT⟩
    · intro l vs X A hA ⟨hV, hS⟩ hl hd hcl
      have a10 := eval_new hA 10 4 (by kernel_rfl) (by kernel_rfl) (by kernel_rfl) (hd 4 (by kernel_rfl)) (hV 4 _ (hd 4 (by kernel_rfl)) rfl)
      have hB : Below W0.heap.size W0 X := by
        cases hk : l 6 with
        | true => exact (hS.2 hk).choose_spec.2.2.2
        | false => exact (hS.1 hk).below
      have hP : ∀ v, Ph1 6 (Two W0.heap.size 40 noR.a W0 5 99) (fun vs X => Held W0.heap.size 40 (k.r d).a W0 (vs 5) X) (upd l 7 true) (upd vs 7 v) X := fun v => by
        cases hk : l 6 with
        | true => exact Ph1.keepT hk (by decide) (hS.2 hk)
        | false => exact Ph1.keep hk (by decide) ((hS.1 hk).grow (Below.refl _ _) (by decide) (by decide) _)
      refine show_value (v := .int .u32 (i.imm : Int)) (X' := X) ?_ ⟨hV.upd (fun _ h => Option.some.inj h), hP _⟩
      clear hP
      generalize A.eval = ρ at *
      clear hA hl hd hcl hV hS
      go_simp
  case hend =>
    intro l vs X hl ⟨hV, hS⟩
    have hX := hS.2 (hl 6 (by decide))
    have v0 := hV 0 _ (hl 0 (by decide)) rfl
    have v1 := hV 1 _ (hl 1 (by decide)) rfl
    have v2 := hV 2 _ (hl 2 (by decide)) rfl
    have v3 := hV 3 _ (hl 3 (by decide)) rfl
    have v4 := hV 4 _ (hl 4 (by decide)) rfl
    have v7 := hV 7 _ (hl 7 (by decide)) rfl
    clear hV hS hl
    obtain ⟨b6, u6, g6, hb6, hB9⟩ := hX
    simp only [canonL, if_true, v0, v1, v2, v3, v4, v7, u6]
    clear v0 v1 v2 v3 v4 v7 u6
    go_simp
    have hJ : JW w i c k (noK) (noK) b6 b6 (k.r d) (k.r d) X := ⟨hst.below hB9 hst.lt, h3.below hB9 h3.lt, h4.below hB9 h4.lt, hb6, hb6, hB0.trans (hB9.mono hB0.size), by have := HZ.out; omega, by have := HZ.out; omega⟩
    obtain ⟨W1, hren⟩ : ∃ Z, Z = X := ⟨_, rfl⟩
    subst hren
    clear hst h3 h4 hb6 hB9 g6 hB0 HZ
    have hz1 := hJ.size
    have c1 : W1.cell? ⟨b6, 1, none⟩ = some (.int .u32 ((k.r d).least : Int)) := hJ.d.cell 1
    have ha' : ¬ (((k.r d).least : Int) < (i.imm : Int)) := by omega
    have HA : Hid (¬ ((k.r d).least < i.imm)) := ha
    clear ha
    have HBB : Hid ((i.imm ≤ (k.r d).great)) := hb
    clear hb
    have HIM : Hid (i.imm < 4294967296) := him
    clear him
    go_upto_region 4 with fail
    clear c1 ha'
    have c2 : W1.cell? ⟨b6, 2, none⟩ = some (.int .u32 ((k.r d).great : Int)) := hJ.d.cell 2
    have hb' : ((i.imm : Int) ≤ ((k.r d).great : Int)) := by have := HBB.out; omega
    go_upto_region 5 with fail
    clear c2 hb'
    refine wp_region_inv (Φ := fun l vs X => Vals (fun q => match q with | 0 => some (.agg (stA i c k)) | 1 => some ((k.r d).v) | 2 => some (.int .u32 (i.imm : Int)) | 3 => some ((atLeastR (k.r d) i.imm).v) | 4 => some (.agg (k.set d (atLeastR (k.r d) i.imm)).a) | _ => none) l vs ∧ Pre1 5 (Below W1.heap.size W1) (JW w i c k (k.set d (atLeastR (k.r d) i.imm)) (noK) b6 b6 (k.r d) (k.r d)) l X) (PQ := fun _ _ => False)
      (by kernel_rfl) (by kernel_rfl) (by kernel_rfl) (by kernel_rfl) ⟨Vals.none _ _, Pre1.start ((Below.refl _ _).drew)⟩ ?hop ?hend (fun _ _ _ _ h => h.elim)
    case hop =>
      refine ⟨?_, ?_, ?_, ?_, ?_, ?_, trivial⟩
      · intro l vs X A hA ⟨hV, hS⟩ hl hd hcl
        have hk := notYet (k := 5) hcl (by kernel_rfl) hl
        have hX := hS.1 hk
        have hB := hX
        have a1 := eval_old hA 1 (by kernel_rfl) rfl
        refine show_value (v := .agg (stA i c k)) (X' := X) (run_ld 82 _ rfl _ a1 (ld_row (l := stCells i c k) (has_whole (hJ.grow hB).st) (by kernel_rfl))) ⟨hV.upd (fun _ h => Option.some.inj h), Pre1.keep hk (by decide) (hX)⟩
      · intro l vs X A hA ⟨hV, hS⟩ hl hd hcl
        have hk := notYet (k := 5) hcl (by kernel_rfl) hl
        have hX := hS.1 hk
        have hB := hX
        have a4 := eval_old hA 4 (by kernel_rfl) rfl
        refine show_value (v := (k.r d).v) (X' := X) (run_ld 40 _ rfl _ a4 (ld_row (l := (k.r d).cells) (has_whole (hJ.grow hB).d) (by kernel_rfl))) ⟨hV.upd (fun _ h => Option.some.inj h), Pre1.keep hk (by decide) (hX)⟩
      · intro l vs X A hA ⟨hV, hS⟩ hl hd hcl
        have hk := notYet (k := 5) hcl (by kernel_rfl) hl
        have hX := hS.1 hk
        have hB := hX
        have a5 := eval_old hA 5 (by kernel_rfl) rfl
        refine show_value (v := .int .u32 (i.imm : Int)) (X' := X) ?_ ⟨hV.upd (fun _ h => Option.some.inj h), Pre1.keep hk (by decide) (hX)⟩
        generalize A.eval = ρ at *
        clear hA hl hd hcl hV hS
        go_simp
      · intro l vs X A hA ⟨hV, hS⟩ hl hd hcl
        have hk := notYet (k := 5) hcl (by kernel_rfl) hl
        have hX := hS.1 hk
        have hB := hX
        have a26 := eval_new hA 26 1 (by kernel_rfl) (by kernel_rfl) (by kernel_rfl) (hd 1 (by kernel_rfl)) (hV 1 _ (hd 1 (by kernel_rfl)) rfl)
        have a27 := eval_new hA 27 2 (by kernel_rfl) (by kernel_rfl) (by kernel_rfl) (hd 2 (by kernel_rfl)) (hV 2 _ (hd 2 (by kernel_rfl)) rfl)
        have aF0 : A.eval (.func 91) = .func (.func 91) #[] #[] := rfl
        refine show_call (f := 91) (args := #[(k.r d).v, .int .u32 (i.imm : Int)]) ?_ (atLeast_any (k.r d) i.imm hok X) ?_
        · generalize A.eval = ρ at *
          clear hA hl hd hcl hV hS
          go_simp
        · rintro e X' ⟨rfl, hB1⟩
          exact .inl ⟨_, rfl, hV.upd (fun _ h => Option.some.inj h), Pre1.keep hk (by decide) (hX.trans (hB1.mono hX.size))⟩
      · intro l vs X A hA ⟨hV, hS⟩ hl hd hcl
        have hk := notYet (k := 5) hcl (by kernel_rfl) hl
        have hX := hS.1 hk
        have hB := hX
        have a25 := eval_new hA 25 0 (by kernel_rfl) (by kernel_rfl) (by kernel_rfl) (hd 0 (by kernel_rfl)) (hV 0 _ (hd 0 (by kernel_rfl)) rfl)
        have a28 := eval_new hA 28 3 (by kernel_rfl) (by kernel_rfl) (by kernel_rfl) (hd 3 (by kernel_rfl)) (hV 3 _ (hd 3 (by kernel_rfl)) rfl)
        have aF0 : A.eval (.func 76) = .func (.func 76) #[] #[] := rfl
        refine show_call (f := 76) (args := #[.agg (stA i c k), (atLeastR (k.r d) i.imm).v]) ?_ (with_any i c k d (atLeastR (k.r d) i.imm) X hdst hdn) ?_
        · generalize A.eval = ρ at *
          clear hA hl hd hcl hV hS
          go_simp
        · rintro e X' ⟨rfl, hB1⟩
          exact .inl ⟨_, rfl, hV.upd (fun _ h => Option.some.inj h), Pre1.keep hk (by decide) (hX.trans (hB1.mono hX.size))⟩
      · intro l vs X A hA ⟨hV, hS⟩ hl hd hcl
        have hX := hS.1 hl
        have hB := hX
        have a2 := eval_old hA 2 (by kernel_rfl) rfl
        have a29 := eval_new hA 29 4 (by kernel_rfl) (by kernel_rfl) (by kernel_rfl) (hd 4 (by kernel_rfl)) (hV 4 _ (hd 4 (by kernel_rfl)) rfl)
        have hg := hJ.grow hX
        refine show_skip (X' := X.setRow (w.heap.size + 1) (k.set d (atLeastR (k.r d) i.imm)).a) (run_st_row 43 _ _ rfl (w.heap.size + 1) _ _ _ a2 a29 hg.n (by kernel_rfl) (by kernel_rfl) (Kn.a_one _)) ⟨hV.upd (fun _ h => by cases h), Pre1.last (hg.setN _)⟩
    case hend =>
      intro l vs X hl ⟨hV, hS⟩
      have hX := hS.2 (hl 5 (by decide))
      have v0 := hV 0 _ (hl 0 (by decide)) rfl
      have v1 := hV 1 _ (hl 1 (by decide)) rfl
      have v2 := hV 2 _ (hl 2 (by decide)) rfl
      have v3 := hV 3 _ (hl 3 (by decide)) rfl
      have v4 := hV 4 _ (hl 4 (by decide)) rfl
      clear hV hS hl
      simp only [canonL, if_true, v0, v1, v2, v3, v4]
      clear v0 v1 v2 v3 v4
      go_simp
      clear hJ
      have hJ := hX
      clear hX
      obtain ⟨W5, hren⟩ : ∃ Z, Z = X := ⟨_, rfl⟩
      subst hren
      have hz5 := hJ.size
      go_upto_region 6 with fail
      refine wp_region_inv (Φ := fun l vs X => Vals (fun q => match q with | 0 => some (.agg (k.set d (atLeastR (k.r d) i.imm)).a) | 1 => some (.agg (noK).a) | _ => none) l vs ∧ Pre2 2 3 (Below W5.heap.size W5) (JW w i c k (k.set d (atLeastR (k.r d) i.imm)) (noK) b6 b6 (k.r d) (k.r d)) (JW w i c k (k.set d (atLeastR (k.r d) i.imm)) (noK) b6 b6 (k.r d) (k.r d)) l X) (PQ := fun _ _ => False)
        (by kernel_rfl) (by kernel_rfl) (by kernel_rfl) (by kernel_rfl) ⟨Vals.none _ _, Pre2.start ((Below.refl _ _).drew)⟩ ?hop ?hend (fun _ _ _ _ h => h.elim)
      case hop =>
        refine ⟨?_, ?_, ?_, ?_, trivial⟩
        · intro l vs X A hA ⟨hV, hS⟩ hl hd hcl
          have hj := notYet (k := 2) hcl (by kernel_rfl) hl
          have hk := notYet (k := 3) hcl (by kernel_rfl) hl
          have hX := hS.1 hj
          have hB := hX
          have a2 := eval_old hA 2 (by kernel_rfl) rfl
          refine show_value (v := .agg (k.set d (atLeastR (k.r d) i.imm)).a) (X' := X) (run_ld 43 _ rfl _ a2 (ld_row (l := (k.set d (atLeastR (k.r d) i.imm)).cells) (has_whole (hJ.grow hB).n) (by kernel_rfl))) ⟨hV.upd (fun _ h => Option.some.inj h), Pre2.keep hj hk (by decide) (by decide) (hX)⟩
        · intro l vs X A hA ⟨hV, hS⟩ hl hd hcl
          have hk := notYet (k := 3) hcl (by kernel_rfl) hl
          have a3 := eval_old hA 3 (by kernel_rfl) rfl
          cases hj : l 2 with
          | true =>
            have hX := hS.2.1 hj hk
            exact show_value (v := .agg (noK).a) (X' := X) (run_ld 43 _ rfl _ a3 (ld_row (l := (noK).cells) (has_whole hX.j) (by kernel_rfl))) ⟨hV.upd (fun _ h => Option.some.inj h), Pre2.keepMid hj hk (by decide) (by decide) hX⟩
          | false =>
            have hX := hS.1 hj
            have hB := hX
            exact show_value (v := .agg (noK).a) (X' := X) (run_ld 43 _ rfl _ a3 (ld_row (l := (noK).cells) (has_whole (hJ.grow hB).j) (by kernel_rfl))) ⟨hV.upd (fun _ h => Option.some.inj h), Pre2.keep hj hk (by decide) (by decide) hX⟩
        · intro l vs X A hA ⟨hV, hS⟩ hl hd hcl
          have hk := notYet (k := 3) hcl (by kernel_rfl) hl
          have hX := hS.1 hl
          have a2 := eval_old hA 2 (by kernel_rfl) rfl
          have a30 := eval_new hA 30 0 (by kernel_rfl) (by kernel_rfl) (by kernel_rfl) (hd 0 (by kernel_rfl)) (hV 0 _ (hd 0 (by kernel_rfl)) rfl)
          have hg := hJ.grow hX
          refine show_skip (X' := X.setRow (w.heap.size + 1) (k.set d (atLeastR (k.r d) i.imm)).a) (run_st_row 43 _ _ rfl (w.heap.size + 1) _ _ _ a2 a30 hg.n (by kernel_rfl) (by kernel_rfl) (Kn.a_one _)) ⟨hV.upd (fun _ h => by cases h), Pre2.mid hk (by decide) (hg.setN _)⟩
        · intro l vs X A hA ⟨hV, hS⟩ hl hd hcl
          have hX := hS.2.1 (hd 2 (by kernel_rfl)) hl
          have a3 := eval_old hA 3 (by kernel_rfl) rfl
          have a31 := eval_new hA 31 1 (by kernel_rfl) (by kernel_rfl) (by kernel_rfl) (hd 1 (by kernel_rfl)) (hV 1 _ (hd 1 (by kernel_rfl)) rfl)
          refine show_skip (X' := X.setRow (w.heap.size + 2) (noK).a) (run_st_row 43 _ _ rfl (w.heap.size + 2) _ _ _ a3 a31 hX.j (by kernel_rfl) (by kernel_rfl) (Kn.a_one _)) ⟨hV.upd (fun _ h => by cases h), Pre2.last (hd 2 (by kernel_rfl)) (hX.setJ _)⟩
      case hend =>
        intro l vs X hl ⟨hV, hS⟩
        have hX := hS.2.2 (hl 3 (by decide))
        have v0 := hV 0 _ (hl 0 (by decide)) rfl
        have v1 := hV 1 _ (hl 1 (by decide)) rfl
        clear hV hS hl
        simp only [canonL, if_true, v0, v1]
        clear v0 v1
        go_simp
        go_wp2_with fail
        refine bodyPost_ret (results_rows2 rfl _ _ (w.heap.size + 1) (w.heap.size + 2) 43 _ _ _ rfl rfl hX.n hX.j Tryd.underlying43 rfl (by kernel_rfl) (by kernel_rfl)) rfl ?_
        exact ⟨rfl, hX.below⟩
end Go.Proofs.YtodkehpldlmgaaaDoor
/- sts. -/
namespace Go.Proofs.YtodkehpldlmgaaaDoor
open Go.RowKit
set_option maxRecDepth 10000 in
set_option maxHeartbeats 2000000 in
theorem sts_dno (i : Ins) (c : Int) (k : Kn) (d : Nat) (w : World) (hdst : i.dst = (d : Int)) (hdn : d < 10) (hk0 : k.r d = noR) :
    Calls Tryd.prog 59 #[.agg (stA i c k)] w fun e w' => e = .panicked Wrong.unset.entry ∧ Below w.heap.size w w' := by
  obtain ⟨W0, hW0⟩ : ∃ W0, W0 = ((w.alloc (.cells (stA i c k) 82)).alloc (.cells noK.a 43)).alloc (.cells noK.a 43) := ⟨_, rfl⟩
  obtain ⟨hst, h3, h4, hB0, hz0⟩ := ways_world i c k w W0 hW0
  have HZ : Hid (W0.heap.size = w.heap.size + 3) := hz0
  clear hz0
  go_enter Tryd.func59, Tryd.ntmps59
  go_upto_region 1 with fail
  refine named2 (p := fun X => Code.wp _ _ _ _ X) ?_
  intro W9 hW9
  have hW : W0 = W9 := hW0.trans hW9.symm
  subst hW
  clear hW9 hW0
  refine wp_region_inv (Φ := fun l vs X => Vals (fun q => match q with | 0 => some (.agg (stA i c k)) | 2 => some (.agg (stA i c k)) | _ => none) l vs ∧ Ph2 6 7 (Two W0.heap.size 40 noR.a W0 4 5) (fun vs X => Both W0.heap.size 40 noR.a noR.a W0 (vs 4) (vs 5) X) (fun vs X => Both W0.heap.size 40 noR.a noR.a W0 (vs 4) (vs 5) X) l vs X ∧ l 1 = false) (PQ := fun q X => q = Wrong.unset.entry ∧ Below W0.heap.size W0 X)
    (by kernel_rfl) (by kernel_rfl) (by kernel_rfl) (by kernel_rfl) ⟨Vals.none _ _, Ph2.start (Two.start ((Below.refl _ _).drew) (Nat.le_refl _)), rfl⟩ ?hop ?hend (fun c a X hq hp => ⟨hq, by rw [hp.1]; exact ⟨rfl, hB0.trans (hp.2.mono hB0.size)⟩⟩)
  case hop =>
    refine ⟨?_, ?_, ?_, ?_, ?_, ?_, ?_, ?_, trivial⟩
    · intro l vs X A hA ⟨hV, hS, hN1⟩ hl hd hcl
      have hj := notYet (k := 6) hcl (by kernel_rfl) hl
      have hk := notYet (k := 7) hcl (by kernel_rfl) hl
      have hX := hS.1 hj
      have hB := hX.below
      have a1 := eval_old hA 1 (by kernel_rfl) rfl
      refine show_value (v := .agg (stA i c k)) (X' := X) (run_ld 82 _ rfl _ a1 (ld_row (l := stCells i c k) (has_whole (hst.below hB hst.lt)) (by kernel_rfl))) ⟨hV.upd (fun _ h => Option.some.inj h), Ph2.keep hj hk (by decide) (by decide) (hX.grow (Below.refl _ _) (by decide) (by decide) _), (upd_other _ _ (by decide)).trans hN1⟩
    · intro l vs X A hA ⟨hV, hS, hN1⟩ hl hd hcl
      have hj := notYet (k := 6) hcl (by kernel_rfl) hl
      have hk := notYet (k := 7) hcl (by kernel_rfl) hl
      have hX := hS.1 hj
      have hB := hX.below
      have a6 := eval_new hA 6 0 (by kernel_rfl) (by kernel_rfl) (by kernel_rfl) (hd 0 (by kernel_rfl)) (hV 0 _ (hd 0 (by kernel_rfl)) rfl)
      have aF0 : A.eval (.func 80) = .func (.func 80) #[] #[] := rfl
      refine show_call (f := 80) (args := #[.agg (stA i c k)]) ?_ (dst_no i c k d X hdst hdn hk0) ?_
      · generalize A.eval = ρ at *
        clear hA hl hd hcl hV hS
        go_simp
      · rintro e X' ⟨rfl, hB1⟩
        exact .inr ⟨_, rfl, rfl, hB.trans (hB1.mono hX.size)⟩
    · intro l vs X A hA ⟨hV, hS, hN1⟩ hl hd hcl
      have hj := notYet (k := 6) hcl (by kernel_rfl) hl
      have hk := notYet (k := 7) hcl (by kernel_rfl) hl
      have hX := hS.1 hj
      have hB := hX.below
      have a1 := eval_old hA 1 (by kernel_rfl) rfl
      refine show_value (v := .agg (stA i c k)) (X' := X) (run_ld 82 _ rfl _ a1 (ld_row (l := stCells i c k) (has_whole (hst.below hB hst.lt)) (by kernel_rfl))) ⟨hV.upd (fun _ h => Option.some.inj h), Ph2.keep hj hk (by decide) (by decide) (hX.grow (Below.refl _ _) (by decide) (by decide) _), (upd_other _ _ (by decide)).trans hN1⟩
    · intro l vs X A hA ⟨hV, hS, hN1⟩ hl hd hcl
      have hj := notYet (k := 6) hcl (by kernel_rfl) hl
      have hk := notYet (k := 7) hcl (by kernel_rfl) hl
      have hX := hS.1 hj
      have hB := hX.below
      exact absurd (hd 1 (by kernel_rfl)) (by rw [hN1]; decide)
    · intro l vs X A hA ⟨hV, hS, hN1⟩ hl hd hcl
      have hj := notYet (k := 6) hcl (by kernel_rfl) hl
      have hk := notYet (k := 7) hcl (by kernel_rfl) hl
      have hX := hS.1 hj
      have hB := hX.below
      refine show_value (v := .pointer (some ⟨X.heap.size, 0, none⟩)) (X' := X.alloc (.cells noR.a 40)) ?_ ⟨hV.upd (fun _ h => by cases h), Ph2.keep hj hk (by decide) (by decide) (hX.mkFst (by decide)), (upd_other _ _ (by decide)).trans hN1⟩
      generalize A.eval = ρ at *
      clear hA hl hd hcl hV hS
      rfl
    · intro l vs X A hA ⟨hV, hS, hN1⟩ hl hd hcl
      have hj := notYet (k := 6) hcl (by kernel_rfl) hl
      have hk := notYet (k := 7) hcl (by kernel_rfl) hl
      have hX := hS.1 hj
      have hB := hX.below
      refine show_value (v := .pointer (some ⟨X.heap.size, 0, none⟩)) (X' := X.alloc (.cells noR.a 40)) ?_ ⟨hV.upd (fun _ h => by cases h), Ph2.keep hj hk (by decide) (by decide) (hX.mkSnd (by decide)), (upd_other _ _ (by decide)).trans hN1⟩
      generalize A.eval = ρ at *
      clear hA hl hd hcl hV hS
      rfl
    · intro l vs X A hA ⟨hV, hS, hN1⟩ hl hd hcl
      have hk := notYet (k := 7) hcl (by kernel_rfl) hl
      have hX := hS.1 hl
      exact absurd (hd 1 (by kernel_rfl)) (by rw [hN1]; decide)
    · intro l vs X A hA ⟨hV, hS, hN1⟩ hl hd hcl
      have hX := hS.2.1 (hd 6 (by kernel_rfl)) hl
      exact absurd (hd 1 (by kernel_rfl)) (by rw [hN1]; decide)
  case hend =>
    intro l vs X hl ⟨hV, hS, hN1⟩
    exact absurd (hl 1 (by decide)) (by rw [hN1]; decide)
set_option maxRecDepth 10000 in
set_option maxHeartbeats 2000000 in
theorem sts_sno (i : Ins) (c : Int) (k : Kn) (d s : Nat) (w : World) (hdst : i.dst = (d : Int)) (hdn : d < 10) (hsrc : i.src = (s : Int)) (hsn : s < 10) (hk0 : k.r d ≠ noR) (hs0 : k.r s = noR) :
    Calls Tryd.prog 59 #[.agg (stA i c k)] w fun e w' => e = .panicked Wrong.unset.entry ∧ Below w.heap.size w w' := by
  obtain ⟨W0, hW0⟩ : ∃ W0, W0 = ((w.alloc (.cells (stA i c k) 82)).alloc (.cells noK.a 43)).alloc (.cells noK.a 43) := ⟨_, rfl⟩
  obtain ⟨hst, h3, h4, hB0, hz0⟩ := ways_world i c k w W0 hW0
  have HZ : Hid (W0.heap.size = w.heap.size + 3) := hz0
  clear hz0
  go_enter Tryd.func59, Tryd.ntmps59
  go_upto_region 1 with fail
  refine named2 (p := fun X => Code.wp _ _ _ _ X) ?_
  intro W9 hW9
  have hW : W0 = W9 := hW0.trans hW9.symm
  subst hW
  clear hW9 hW0
  refine wp_region_inv (Φ := fun l vs X => Vals (fun q => match q with | 0 => some (.agg (stA i c k)) | 1 => some ((k.r d).v) | 2 => some (.agg (stA i c k)) | _ => none) l vs ∧ Ph2 6 7 (Two W0.heap.size 40 noR.a W0 4 5) (fun vs X => Both W0.heap.size 40 (k.r d).a noR.a W0 (vs 4) (vs 5) X) (fun vs X => Both W0.heap.size 40 (k.r d).a noR.a W0 (vs 4) (vs 5) X) l vs X ∧ l 3 = false) (PQ := fun q X => q = Wrong.unset.entry ∧ Below W0.heap.size W0 X)
    (by kernel_rfl) (by kernel_rfl) (by kernel_rfl) (by kernel_rfl) ⟨Vals.none _ _, Ph2.start (Two.start ((Below.refl _ _).drew) (Nat.le_refl _)), rfl⟩ ?hop ?hend (fun c a X hq hp => ⟨hq, by rw [hp.1]; exact ⟨rfl, hB0.trans (hp.2.mono hB0.size)⟩⟩)
  case hop =>
    refine ⟨?_, ?_, ?_, ?_, ?_, ?_, ?_, ?_, trivial⟩
    · intro l vs X A hA ⟨hV, hS, hN3⟩ hl hd hcl
      have hj := notYet (k := 6) hcl (by kernel_rfl) hl
      have hk := notYet (k := 7) hcl (by kernel_rfl) hl
      have hX := hS.1 hj
      have hB := hX.below
      have a1 := eval_old hA 1 (by kernel_rfl) rfl
      refine show_value (v := .agg (stA i c k)) (X' := X) (run_ld 82 _ rfl _ a1 (ld_row (l := stCells i c k) (has_whole (hst.below hB hst.lt)) (by kernel_rfl))) ⟨hV.upd (fun _ h => Option.some.inj h), Ph2.keep hj hk (by decide) (by decide) (hX.grow (Below.refl _ _) (by decide) (by decide) _), (upd_other _ _ (by decide)).trans hN3⟩
    · intro l vs X A hA ⟨hV, hS, hN3⟩ hl hd hcl
      have hj := notYet (k := 6) hcl (by kernel_rfl) hl
      have hk := notYet (k := 7) hcl (by kernel_rfl) hl
      have hX := hS.1 hj
      have hB := hX.below
      have a6 := eval_new hA 6 0 (by kernel_rfl) (by kernel_rfl) (by kernel_rfl) (hd 0 (by kernel_rfl)) (hV 0 _ (hd 0 (by kernel_rfl)) rfl)
      have aF0 : A.eval (.func 80) = .func (.func 80) #[] #[] := rfl
      refine show_call (f := 80) (args := #[.agg (stA i c k)]) ?_ (dst_ok i c k d X hdst hdn hk0) ?_
      · generalize A.eval = ρ at *
        clear hA hl hd hcl hV hS
        go_simp
      · rintro e X' ⟨rfl, hB1⟩
        exact .inl ⟨_, rfl, hV.upd (fun _ h => Option.some.inj h), Ph2.keep hj hk (by decide) (by decide) (hX.grow hB1 (by decide) (by decide) _), (upd_other _ _ (by decide)).trans hN3⟩
    · intro l vs X A hA ⟨hV, hS, hN3⟩ hl hd hcl
      have hj := notYet (k := 6) hcl (by kernel_rfl) hl
      have hk := notYet (k := 7) hcl (by kernel_rfl) hl
      have hX := hS.1 hj
      have hB := hX.below
      have a1 := eval_old hA 1 (by kernel_rfl) rfl
      refine show_value (v := .agg (stA i c k)) (X' := X) (run_ld 82 _ rfl _ a1 (ld_row (l := stCells i c k) (has_whole (hst.below hB hst.lt)) (by kernel_rfl))) ⟨hV.upd (fun _ h => Option.some.inj h), Ph2.keep hj hk (by decide) (by decide) (hX.grow (Below.refl _ _) (by decide) (by decide) _), (upd_other _ _ (by decide)).trans hN3⟩
    · intro l vs X A hA ⟨hV, hS, hN3⟩ hl hd hcl
      have hj := notYet (k := 6) hcl (by kernel_rfl) hl
      have hk := notYet (k := 7) hcl (by kernel_rfl) hl
      have hX := hS.1 hj
      have hB := hX.below
      have a8 := eval_new hA 8 2 (by kernel_rfl) (by kernel_rfl) (by kernel_rfl) (hd 2 (by kernel_rfl)) (hV 2 _ (hd 2 (by kernel_rfl)) rfl)
      have aF0 : A.eval (.func 46) = .func (.func 46) #[] #[] := rfl
      refine show_call (f := 46) (args := #[.agg (stA i c k)]) ?_ (src_no i c k s X hsrc hsn hs0) ?_
      · generalize A.eval = ρ at *
        clear hA hl hd hcl hV hS
        go_simp
      · rintro e X' ⟨rfl, hB1⟩
        exact .inr ⟨_, rfl, rfl, hB.trans (hB1.mono hX.size)⟩
    · intro l vs X A hA ⟨hV, hS, hN3⟩ hl hd hcl
      have hj := notYet (k := 6) hcl (by kernel_rfl) hl
      have hk := notYet (k := 7) hcl (by kernel_rfl) hl
      have hX := hS.1 hj
      have hB := hX.below
      refine show_value (v := .pointer (some ⟨X.heap.size, 0, none⟩)) (X' := X.alloc (.cells noR.a 40)) ?_ ⟨hV.upd (fun _ h => by cases h), Ph2.keep hj hk (by decide) (by decide) (hX.mkFst (by decide)), (upd_other _ _ (by decide)).trans hN3⟩
      generalize A.eval = ρ at *
      clear hA hl hd hcl hV hS
      rfl
    · intro l vs X A hA ⟨hV, hS, hN3⟩ hl hd hcl
      have hj := notYet (k := 6) hcl (by kernel_rfl) hl
      have hk := notYet (k := 7) hcl (by kernel_rfl) hl
      have hX := hS.1 hj
      have hB := hX.below
      refine show_value (v := .pointer (some ⟨X.heap.size, 0, none⟩)) (X' := X.alloc (.cells noR.a 40)) ?_ ⟨hV.upd (fun _ h => by cases h), Ph2.keep hj hk (by decide) (by decide) (hX.mkSnd (by decide)), (upd_other _ _ (by decide)).trans hN3⟩
      generalize A.eval = ρ at *
      clear hA hl hd hcl hV hS
      rfl
    · intro l vs X A hA ⟨hV, hS, hN3⟩ hl hd hcl
      have hk := notYet (k := 7) hcl (by kernel_rfl) hl
      have hX := hS.1 hl
      exact absurd (hd 3 (by kernel_rfl)) (by rw [hN3]; decide)
    · intro l vs X A hA ⟨hV, hS, hN3⟩ hl hd hcl
      have hX := hS.2.1 (hd 6 (by kernel_rfl)) hl
      exact absurd (hd 3 (by kernel_rfl)) (by rw [hN3]; decide)
  case hend =>
    intro l vs X hl ⟨hV, hS, hN3⟩
    exact absurd (hl 3 (by decide)) (by rw [hN3]; decide)
set_option maxRecDepth 10000 in
set_option maxHeartbeats 2000000 in
theorem sts_ok (i : Ins) (c : Int) (k : Kn) (d s : Nat) (w : World) (hdst : i.dst = (d : Int)) (hdn : d < 10) (hsrc : i.src = (s : Int)) (hsn : s < 10) (hk0 : k.r d ≠ noR) (hs0 : k.r s ≠ noR) (off : Int) (hok : (k.r d).Ok) (ho : i.off = off) (ho1 : -32768 ≤ off) (ho2 : off ≤ 32767) (hf : fits (k.r d) off 64 = true) :
    Calls Tryd.prog 59 #[.agg (stA i c k)] w fun e w' => e = .returned (two k noK) ∧ Below w.heap.size w w' := by
  obtain ⟨W0, hW0⟩ : ∃ W0, W0 = ((w.alloc (.cells (stA i c k) 82)).alloc (.cells noK.a 43)).alloc (.cells noK.a 43) := ⟨_, rfl⟩
  obtain ⟨hst, h3, h4, hB0, hz0⟩ := ways_world i c k w W0 hW0
  have HZ : Hid (W0.heap.size = w.heap.size + 3) := hz0
  clear hz0
  go_enter Tryd.func59, Tryd.ntmps59
  go_upto_region 1 with fail
  refine named2 (p := fun X => Code.wp _ _ _ _ X) ?_
  intro W9 hW9
  have hW : W0 = W9 := hW0.trans hW9.symm
  subst hW
  clear hW9 hW0
  refine wp_region_inv (Φ := fun l vs X => Vals (fun q => match q with | 0 => some (.agg (stA i c k)) | 1 => some ((k.r d).v) | 2 => some (.agg (stA i c k)) | 3 => some ((k.r s).v) | _ => none) l vs ∧ Ph2 6 7 (Two W0.heap.size 40 noR.a W0 4 5) (fun vs X => Both W0.heap.size 40 (k.r d).a noR.a W0 (vs 4) (vs 5) X) (fun vs X => Both W0.heap.size 40 (k.r d).a (k.r s).a W0 (vs 4) (vs 5) X) l vs X) (PQ := fun _ _ => False)
    (by kernel_rfl) (by kernel_rfl) (by kernel_rfl) (by kernel_rfl) ⟨Vals.none _ _, Ph2.start (Two.start ((Below.refl _ _).drew) (Nat.le_refl _))⟩ ?hop ?hend (fun _ _ _ _ h => h.elim)
  case hop =>
    refine ⟨?_, ?_, ?_, ?_, ?_, ?_, ?_, ?_, trivial⟩
    · intro l vs X A hA ⟨hV, hS⟩ hl hd hcl
      have hj := notYet (k := 6) hcl (by kernel_rfl) hl
      have hk := notYet (k := 7) hcl (by kernel_rfl) hl
      have hX := hS.1 hj
      have hB := hX.below
      have a1 := eval_old hA 1 (by kernel_rfl) rfl
      refine show_value (v := .agg (stA i c k)) (X' := X) (run_ld 82 _ rfl _ a1 (ld_row (l := stCells i c k) (has_whole (hst.below hB hst.lt)) (by kernel_rfl))) ⟨hV.upd (fun _ h => Option.some.inj h), Ph2.keep hj hk (by decide) (by decide) (hX.grow (Below.refl _ _) (by decide) (by decide) _)⟩
    · intro l vs X A hA ⟨hV, hS⟩ hl hd hcl
      have hj := notYet (k := 6) hcl (by kernel_rfl) hl
      have hk := notYet (k := 7) hcl (by kernel_rfl) hl
      have hX := hS.1 hj
      have hB := hX.below
      have a6 := eval_new hA 6 0 (by kernel_rfl) (by kernel_rfl) (by kernel_rfl) (hd 0 (by kernel_rfl)) (hV 0 _ (hd 0 (by kernel_rfl)) rfl)
      have aF0 : A.eval (.func 80) = .func (.func 80) #[] #[] := rfl
      refine show_call (f := 80) (args := #[.agg (stA i c k)]) ?_ (dst_ok i c k d X hdst hdn hk0) ?_
      · generalize A.eval = ρ at *
        clear hA hl hd hcl hV hS
        go_simp
      · rintro e X' ⟨rfl, hB1⟩
        exact .inl ⟨_, rfl, hV.upd (fun _ h => Option.some.inj h), Ph2.keep hj hk (by decide) (by decide) (hX.grow hB1 (by decide) (by decide) _)⟩
    · intro l vs X A hA ⟨hV, hS⟩ hl hd hcl
      have hj := notYet (k := 6) hcl (by kernel_rfl) hl
      have hk := notYet (k := 7) hcl (by kernel_rfl) hl
      have hX := hS.1 hj
      have hB := hX.below
      have a1 := eval_old hA 1 (by kernel_rfl) rfl
      refine show_value (v := .agg (stA i c k)) (X' := X) (run_ld 82 _ rfl _ a1 (ld_row (l := stCells i c k) (has_whole (hst.below hB hst.lt)) (by kernel_rfl))) ⟨hV.upd (fun _ h => Option.some.inj h), Ph2.keep hj hk (by decide) (by decide) (hX.grow (Below.refl _ _) (by decide) (by decide) _)⟩
    · intro l vs X A hA ⟨hV, hS⟩ hl hd hcl
      have hj := notYet (k := 6) hcl (by kernel_rfl) hl
      have hk := notYet (k := 7) hcl (by kernel_rfl) hl
      have hX := hS.1 hj
      have hB := hX.below
      have a8 := eval_new hA 8 2 (by kernel_rfl) (by kernel_rfl) (by kernel_rfl) (hd 2 (by kernel_rfl)) (hV 2 _ (hd 2 (by kernel_rfl)) rfl)
      have aF0 : A.eval (.func 46) = .func (.func 46) #[] #[] := rfl
      refine show_call (f := 46) (args := #[.agg (stA i c k)]) ?_ (src_ok i c k s X hsrc hsn hs0) ?_
      · generalize A.eval = ρ at *
        clear hA hl hd hcl hV hS
        go_simp
      · rintro e X' ⟨rfl, hB1⟩
        exact .inl ⟨_, rfl, hV.upd (fun _ h => Option.some.inj h), Ph2.keep hj hk (by decide) (by decide) (hX.grow hB1 (by decide) (by decide) _)⟩
    · intro l vs X A hA ⟨hV, hS⟩ hl hd hcl
      have hj := notYet (k := 6) hcl (by kernel_rfl) hl
      have hk := notYet (k := 7) hcl (by kernel_rfl) hl
      have hX := hS.1 hj
      have hB := hX.below
      refine show_value (v := .pointer (some ⟨X.heap.size, 0, none⟩)) (X' := X.alloc (.cells noR.a 40)) ?_ ⟨hV.upd (fun _ h => by cases h), Ph2.keep hj hk (by decide) (by decide) (hX.mkFst (by decide))⟩
      generalize A.eval = ρ at *
      clear hA hl hd hcl hV hS
      rfl
    · intro l vs X A hA ⟨hV, hS⟩ hl hd hcl
      have hj := notYet (k := 6) hcl (by kernel_rfl) hl
      have hk := notYet (k := 7) hcl (by kernel_rfl) hl
      have hX := hS.1 hj
      have hB := hX.below
      refine show_value (v := .pointer (some ⟨X.heap.size, 0, none⟩)) (X' := X.alloc (.cells noR.a 40)) ?_ ⟨hV.upd (fun _ h => by cases h), Ph2.keep hj hk (by decide) (by decide) (hX.mkSnd (by decide))⟩
      generalize A.eval = ρ at *
      clear hA hl hd hcl hV hS
      rfl
    · intro l vs X A hA ⟨hV, hS⟩ hl hd hcl
      have hk := notYet (k := 7) hcl (by kernel_rfl) hl
      have hX := hS.1 hl
      have a4 := eval_new hA 4 4 (by kernel_rfl) (by kernel_rfl) (by kernel_rfl) (hd 4 (by kernel_rfl)) (rfl : vs 4 = vs 4)
      have a7 := eval_new hA 7 1 (by kernel_rfl) (by kernel_rfl) (by kernel_rfl) (hd 1 (by kernel_rfl)) (hV 1 _ (hd 1 (by kernel_rfl)) rfl)
      obtain ⟨b, hb, hH, hT⟩ := (hX.both (hd 4 (by kernel_rfl)) (hd 5 (by kernel_rfl))).setFst (x' := (k.r d).a)
      rw [hb] at a4
      refine show_skip (run_st_row 40 _ _ rfl b _ _ _ a4 a7 hH (by kernel_rfl) (by kernel_rfl) (Rg.a_one _)) ⟨hV.upd (fun _ h => by cases h), Ph2.mid hk (by decide) ?_⟩
      exact hT
    · intro l vs X A hA ⟨hV, hS⟩ hl hd hcl
      have hX := hS.2.1 (hd 6 (by kernel_rfl)) hl
      have a5 := eval_new hA 5 5 (by kernel_rfl) (by kernel_rfl) (by kernel_rfl) (hd 5 (by kernel_rfl)) (rfl : vs 5 = vs 5)
      have a9 := eval_new hA 9 3 (by kernel_rfl) (by kernel_rfl) (by kernel_rfl) (hd 3 (by kernel_rfl)) (hV 3 _ (hd 3 (by kernel_rfl)) rfl)
      obtain ⟨b, hb, hH, hT⟩ := hX.setSnd (y' := (k.r s).a)
      rw [hb] at a5
      refine show_skip (run_st_row 40 _ _ rfl b _ _ _ a5 a9 hH (by kernel_rfl) (by kernel_rfl) (Rg.a_one _)) ⟨hV.upd (fun _ h => by cases h), Ph2.last (hd 6 (by kernel_rfl)) ?_⟩
      exact hT
  case hend =>
    intro l vs X hl ⟨hV, hS⟩
    have hX := hS.2.2 (hl 7 (by decide))
    have v0 := hV 0 _ (hl 0 (by decide)) rfl
    have v1 := hV 1 _ (hl 1 (by decide)) rfl
    have v2 := hV 2 _ (hl 2 (by decide)) rfl
    have v3 := hV 3 _ (hl 3 (by decide)) rfl
    clear hV hS hl
    obtain ⟨b6, b7, u6, u7, g6, g7, hne, hb6, hb7, hB9⟩ := hX
    simp only [canonL, if_true, v0, v1, v2, v3, u6, u7]
    clear v0 v1 v2 v3 u6 u7
    go_simp
    have hJ : JW w i c k (noK) (noK) b6 b7 (k.r d) (k.r s) X := ⟨hst.below hB9 hst.lt, h3.below hB9 h3.lt, h4.below hB9 h4.lt, hb6, hb7, hB0.trans (hB9.mono hB0.size), by have := HZ.out; omega, by have := HZ.out; omega⟩
    obtain ⟨W1, hren⟩ : ∃ Z, Z = X := ⟨_, rfl⟩
    subst hren
    clear hst h3 h4 hb6 hb7 hB9 g6 g7 hB0 HZ
    have hz1 := hJ.size
    go_upto_region 2 with fail
    have hi : ∀ X, _ := fun X => inside_ok i c k (k.r d) 64 off X hok ho ho1 ho2 hf
    have hs6 := hJ.st
    have hd6 := hJ.d
    go_upto_region 3 with (first | refine wpList_load_row rfl 82 _ rfl w.heap.size rfl 82 (stA i c k) (0, 0) _ hs6 Tryd.underlying82 rfl (by kernel_rfl) ?_ | refine wpList_load_row rfl 40 _ rfl b6 rfl 40 ((k.r d).a) (0, 0) _ hd6 Tryd.underlying40 rfl (by kernel_rfl) ?_ | (go_at_call 86; refine (hi _).mono ?_; rintro e W2 ⟨rfl, hB2⟩; clear hs6 hd6 hi))
    replace hJ := hJ.grow hB2
    clear hB2 hz1
    have hz2 := hJ.size
    refine wp_region_inv (Φ := fun l vs X => Vals (fun q => match q with | 0 => some (.pointer (some ⟨w.heap.size, 6, none⟩)) | 1 => some (.agg k.a) | 2 => some (.agg noK.a) | _ => none) l vs ∧ Pre2 3 4 (Below W2.heap.size W2) (JW w i c k (k) (noK) b6 b7 (k.r d) (k.r s)) (JW w i c k (k) (noK) b6 b7 (k.r d) (k.r s)) l X) (PQ := fun _ _ => False)
      (by kernel_rfl) (by kernel_rfl) (by kernel_rfl) (by kernel_rfl) ⟨Vals.none _ _, Pre2.start ((Below.refl _ _).drew)⟩ ?hop ?hend (fun _ _ _ _ h => h.elim)
    case hop =>
      refine ⟨?_, ?_, ?_, ?_, ?_, trivial⟩
      · intro l vs X A hA ⟨hV, hS⟩ hl hd hcl
        have hj := notYet (k := 3) hcl (by kernel_rfl) hl
        have hk := notYet (k := 4) hcl (by kernel_rfl) hl
        have hX := hS.1 hj
        have hB := hX
        have a1 := eval_old hA 1 (by kernel_rfl) rfl
        refine show_value (v := .pointer (some ⟨w.heap.size, 6, none⟩)) (X' := X) ?_ ⟨hV.upd (fun _ h => Option.some.inj h), Pre2.keep hj hk (by decide) (by decide) (hX)⟩
        generalize A.eval = ρ at *
        clear hA hl hd hcl hV hS
        go_simp
      · intro l vs X A hA ⟨hV, hS⟩ hl hd hcl
        have hj := notYet (k := 3) hcl (by kernel_rfl) hl
        have hk := notYet (k := 4) hcl (by kernel_rfl) hl
        have hX := hS.1 hj
        have hB := hX
        have a13 := eval_new hA 13 0 (by kernel_rfl) (by kernel_rfl) (by kernel_rfl) (hd 0 (by kernel_rfl)) (hV 0 _ (hd 0 (by kernel_rfl)) rfl)
        refine show_value (v := .agg k.a) (X' := X) (run_ld 43 _ rfl _ a13 (ld_row (l := k.cells) (st_range (hJ.grow hB).st) (by kernel_rfl))) ⟨hV.upd (fun _ h => Option.some.inj h), Pre2.keep hj hk (by decide) (by decide) (hX)⟩
      · intro l vs X A hA ⟨hV, hS⟩ hl hd hcl
        have hk := notYet (k := 4) hcl (by kernel_rfl) hl
        have a3 := eval_old hA 3 (by kernel_rfl) rfl
        cases hj : l 3 with
        | true =>
          have hX := hS.2.1 hj hk
          exact show_value (v := .agg noK.a) (X' := X) (run_ld 43 _ rfl _ a3 (ld_row (l := noK.cells) (has_whole hX.j) (by kernel_rfl))) ⟨hV.upd (fun _ h => Option.some.inj h), Pre2.keepMid hj hk (by decide) (by decide) hX⟩
        | false =>
          have hX := hS.1 hj
          have hB := hX
          exact show_value (v := .agg noK.a) (X' := X) (run_ld 43 _ rfl _ a3 (ld_row (l := noK.cells) (has_whole (hJ.grow hB).j) (by kernel_rfl))) ⟨hV.upd (fun _ h => Option.some.inj h), Pre2.keep hj hk (by decide) (by decide) hX⟩
      · intro l vs X A hA ⟨hV, hS⟩ hl hd hcl
        have hk := notYet (k := 4) hcl (by kernel_rfl) hl
        have hX := hS.1 hl
        have a2 := eval_old hA 2 (by kernel_rfl) rfl
        have a14 := eval_new hA 14 1 (by kernel_rfl) (by kernel_rfl) (by kernel_rfl) (hd 1 (by kernel_rfl)) (hV 1 _ (hd 1 (by kernel_rfl)) rfl)
        have hg := hJ.grow hX
        refine show_skip (X' := X.setRow (w.heap.size + 1) k.a) (run_st_row 43 _ _ rfl (w.heap.size + 1) _ _ _ a2 a14 hg.n (by kernel_rfl) (by kernel_rfl) (Kn.a_one _)) ⟨hV.upd (fun _ h => by cases h), Pre2.mid hk (by decide) (hg.setN k)⟩
      · intro l vs X A hA ⟨hV, hS⟩ hl hd hcl
        have hX := hS.2.1 (hd 3 (by kernel_rfl)) hl
        have a3 := eval_old hA 3 (by kernel_rfl) rfl
        have a15 := eval_new hA 15 2 (by kernel_rfl) (by kernel_rfl) (by kernel_rfl) (hd 2 (by kernel_rfl)) (hV 2 _ (hd 2 (by kernel_rfl)) rfl)
        refine show_skip (X' := X.setRow (w.heap.size + 2) noK.a) (run_st_row 43 _ _ rfl (w.heap.size + 2) _ _ _ a3 a15 hX.j (by kernel_rfl) (by kernel_rfl) (Kn.a_one _)) ⟨hV.upd (fun _ h => by cases h), Pre2.last (hd 3 (by kernel_rfl)) (hX.setJ noK)⟩
    case hend =>
      intro l vs X hl ⟨hV, hS⟩
      have hX := hS.2.2 (hl 4 (by decide))
      have v0 := hV 0 _ (hl 0 (by decide)) rfl
      have v1 := hV 1 _ (hl 1 (by decide)) rfl
      have v2 := hV 2 _ (hl 2 (by decide)) rfl
      clear hV hS hl
      simp only [canonL, if_true, v0, v1, v2]
      clear v0 v1 v2
      go_simp
      go_wp2_with fail
      refine bodyPost_ret (results_rows2 rfl _ _ (w.heap.size + 1) (w.heap.size + 2) 43 _ _ _ rfl rfl hX.n hX.j Tryd.underlying43 rfl (by kernel_rfl) (by kernel_rfl)) rfl ?_
      exact ⟨rfl, hX.below⟩
set_option maxRecDepth 10000 in
set_option maxHeartbeats 2000000 in
theorem sts_bno (i : Ins) (c : Int) (k : Kn) (d s : Nat) (w : World) (hdst : i.dst = (d : Int)) (hdn : d < 10) (hsrc : i.src = (s : Int)) (hsn : s < 10) (hk0 : k.r d ≠ noR) (hs0 : k.r s ≠ noR) (off : Int) (hok : (k.r d).Ok) (ho : i.off = off) (ho1 : -32768 ≤ off) (ho2 : off ≤ 32767) (hf : fits (k.r d) off 64 = false) :
    Calls Tryd.prog 59 #[.agg (stA i c k)] w fun e w' => e = .panicked Wrong.beyond.entry ∧ Below w.heap.size w w' := by
  obtain ⟨W0, hW0⟩ : ∃ W0, W0 = ((w.alloc (.cells (stA i c k) 82)).alloc (.cells noK.a 43)).alloc (.cells noK.a 43) := ⟨_, rfl⟩
  obtain ⟨hst, h3, h4, hB0, hz0⟩ := ways_world i c k w W0 hW0
  have HZ : Hid (W0.heap.size = w.heap.size + 3) := hz0
  clear hz0
  go_enter Tryd.func59, Tryd.ntmps59
  go_upto_region 1 with fail
  refine named2 (p := fun X => Code.wp _ _ _ _ X) ?_
  intro W9 hW9
  have hW : W0 = W9 := hW0.trans hW9.symm
  subst hW
  clear hW9 hW0
  refine wp_region_inv (Φ := fun l vs X => Vals (fun q => match q with | 0 => some (.agg (stA i c k)) | 1 => some ((k.r d).v) | 2 => some (.agg (stA i c k)) | 3 => some ((k.r s).v) | _ => none) l vs ∧ Ph2 6 7 (Two W0.heap.size 40 noR.a W0 4 5) (fun vs X => Both W0.heap.size 40 (k.r d).a noR.a W0 (vs 4) (vs 5) X) (fun vs X => Both W0.heap.size 40 (k.r d).a (k.r s).a W0 (vs 4) (vs 5) X) l vs X) (PQ := fun _ _ => False)
    (by kernel_rfl) (by kernel_rfl) (by kernel_rfl) (by kernel_rfl) ⟨Vals.none _ _, Ph2.start (Two.start ((Below.refl _ _).drew) (Nat.le_refl _))⟩ ?hop ?hend (fun _ _ _ _ h => h.elim)
  case hop =>
    refine ⟨?_, ?_, ?_, ?_, ?_, ?_, ?_, ?_, trivial⟩
    · intro l vs X A hA ⟨hV, hS⟩ hl hd hcl
      have hj := notYet (k := 6) hcl (by kernel_rfl) hl
      have hk := notYet (k := 7) hcl (by kernel_rfl) hl
      have hX := hS.1 hj
      have hB := hX.below
      have a1 := eval_old hA 1 (by kernel_rfl) rfl
      refine show_value (v := .agg (stA i c k)) (X' := X) (run_ld 82 _ rfl _ a1 (ld_row (l := stCells i c k) (has_whole (hst.below hB hst.lt)) (by kernel_rfl))) ⟨hV.upd (fun _ h => Option.some.inj h), Ph2.keep hj hk (by decide) (by decide) (hX.grow (Below.refl _ _) (by decide) (by decide) _)⟩
    · intro l vs X A hA ⟨hV, hS⟩ hl hd hcl
      have hj := notYet (k := 6) hcl (by kernel_rfl) hl
      have hk := notYet (k := 7) hcl (by kernel_rfl) hl
      have hX := hS.1 hj
      have hB := hX.below
      have a6 := eval_new hA 6 0 (by kernel_rfl) (by kernel_rfl) (by kernel_rfl) (hd 0 (by kernel_rfl)) (hV 0 _ (hd 0 (by kernel_rfl)) rfl)
      have aF0 : A.eval (.func 80) = .func (.func 80) #[] #[] := rfl
      refine show_call (f := 80) (args := #[.agg (stA i c k)]) ?_ (dst_ok i c k d X hdst hdn hk0) ?_
      · generalize A.eval = ρ at *
        clear hA hl hd hcl hV hS
        go_simp
      · rintro e X' ⟨rfl, hB1⟩
        exact .inl ⟨_, rfl, hV.upd (fun _ h => Option.some.inj h), Ph2.keep hj hk (by decide) (by decide) (hX.grow hB1 (by decide) (by decide) _)⟩
    · intro l vs X A hA ⟨hV, hS⟩ hl hd hcl
      have hj := notYet (k := 6) hcl (by kernel_rfl) hl
      have hk := notYet (k := 7) hcl (by kernel_rfl) hl
      have hX := hS.1 hj
      have hB := hX.below
      have a1 := eval_old hA 1 (by kernel_rfl) rfl
      refine show_value (v := .agg (stA i c k)) (X' := X) (run_ld 82 _ rfl _ a1 (ld_row (l := stCells i c k) (has_whole (hst.below hB hst.lt)) (by kernel_rfl))) ⟨hV.upd (fun _ h => Option.some.inj h), Ph2.keep hj hk (by decide) (by decide) (hX.grow (Below.refl _ _) (by decide) (by decide) _)⟩
    · intro l vs X A hA ⟨hV, hS⟩ hl hd hcl
      have hj := notYet (k := 6) hcl (by kernel_rfl) hl
      have hk := notYet (k := 7) hcl (by kernel_rfl) hl
      have hX := hS.1 hj
      have hB := hX.below
      have a8 := eval_new hA 8 2 (by kernel_rfl) (by kernel_rfl) (by kernel_rfl) (hd 2 (by kernel_rfl)) (hV 2 _ (hd 2 (by kernel_rfl)) rfl)
      have aF0 : A.eval (.func 46) = .func (.func 46) #[] #[] := rfl
      refine show_call (f := 46) (args := #[.agg (stA i c k)]) ?_ (src_ok i c k s X hsrc hsn hs0) ?_
      · generalize A.eval = ρ at *
        clear hA hl hd hcl hV hS
        go_simp
      · rintro e X' ⟨rfl, hB1⟩
        exact .inl ⟨_, rfl, hV.upd (fun _ h => Option.some.inj h), Ph2.keep hj hk (by decide) (by decide) (hX.grow hB1 (by decide) (by decide) _)⟩
    · intro l vs X A hA ⟨hV, hS⟩ hl hd hcl
      have hj := notYet (k := 6) hcl (by kernel_rfl) hl
      have hk := notYet (k := 7) hcl (by kernel_rfl) hl
      have hX := hS.1 hj
      have hB := hX.below
      refine show_value (v := .pointer (some ⟨X.heap.size, 0, none⟩)) (X' := X.alloc (.cells noR.a 40)) ?_ ⟨hV.upd (fun _ h => by cases h), Ph2.keep hj hk (by decide) (by decide) (hX.mkFst (by decide))⟩
      generalize A.eval = ρ at *
      clear hA hl hd hcl hV hS
      rfl
    · intro l vs X A hA ⟨hV, hS⟩ hl hd hcl
      have hj := notYet (k := 6) hcl (by kernel_rfl) hl
      have hk := notYet (k := 7) hcl (by kernel_rfl) hl
      have hX := hS.1 hj
      have hB := hX.below
      refine show_value (v := .pointer (some ⟨X.heap.size, 0, none⟩)) (X' := X.alloc (.cells noR.a 40)) ?_ ⟨hV.upd (fun _ h => by cases h), Ph2.keep hj hk (by decide) (by decide) (hX.mkSnd (by decide))⟩
      generalize A.eval = ρ at *
      clear hA hl hd hcl hV hS
      rfl
    · intro l vs X A hA ⟨hV, hS⟩ hl hd hcl
      have hk := notYet (k := 7) hcl (by kernel_rfl) hl
      have hX := hS.1 hl
      have a4 := eval_new hA 4 4 (by kernel_rfl) (by kernel_rfl) (by kernel_rfl) (hd 4 (by kernel_rfl)) (rfl : vs 4 = vs 4)
      have a7 := eval_new hA 7 1 (by kernel_rfl) (by kernel_rfl) (by kernel_rfl) (hd 1 (by kernel_rfl)) (hV 1 _ (hd 1 (by kernel_rfl)) rfl)
      obtain ⟨b, hb, hH, hT⟩ := (hX.both (hd 4 (by kernel_rfl)) (hd 5 (by kernel_rfl))).setFst (x' := (k.r d).a)
      rw [hb] at a4
      refine show_skip (run_st_row 40 _ _ rfl b _ _ _ a4 a7 hH (by kernel_rfl) (by kernel_rfl) (Rg.a_one _)) ⟨hV.upd (fun _ h => by cases h), Ph2.mid hk (by decide) ?_⟩
      exact hT
    · intro l vs X A hA ⟨hV, hS⟩ hl hd hcl
      have hX := hS.2.1 (hd 6 (by kernel_rfl)) hl
      have a5 := eval_new hA 5 5 (by kernel_rfl) (by kernel_rfl) (by kernel_rfl) (hd 5 (by kernel_rfl)) (rfl : vs 5 = vs 5)
      have a9 := eval_new hA 9 3 (by kernel_rfl) (by kernel_rfl) (by kernel_rfl) (hd 3 (by kernel_rfl)) (hV 3 _ (hd 3 (by kernel_rfl)) rfl)
      obtain ⟨b, hb, hH, hT⟩ := hX.setSnd (y' := (k.r s).a)
      rw [hb] at a5
      refine show_skip (run_st_row 40 _ _ rfl b _ _ _ a5 a9 hH (by kernel_rfl) (by kernel_rfl) (Rg.a_one _)) ⟨hV.upd (fun _ h => by cases h), Ph2.last (hd 6 (by kernel_rfl)) ?_⟩
      exact hT
  case hend =>
    intro l vs X hl ⟨hV, hS⟩
    have hX := hS.2.2 (hl 7 (by decide))
    have v0 := hV 0 _ (hl 0 (by decide)) rfl
    have v1 := hV 1 _ (hl 1 (by decide)) rfl
    have v2 := hV 2 _ (hl 2 (by decide)) rfl
    have v3 := hV 3 _ (hl 3 (by decide)) rfl
    clear hV hS hl
    obtain ⟨b6, b7, u6, u7, g6, g7, hne, hb6, hb7, hB9⟩ := hX
    simp only [canonL, if_true, v0, v1, v2, v3, u6, u7]
    clear v0 v1 v2 v3 u6 u7
    go_simp
    have hJ : JW w i c k (noK) (noK) b6 b7 (k.r d) (k.r s) X := ⟨hst.below hB9 hst.lt, h3.below hB9 h3.lt, h4.below hB9 h4.lt, hb6, hb7, hB0.trans (hB9.mono hB0.size), by have := HZ.out; omega, by have := HZ.out; omega⟩
    obtain ⟨W1, hren⟩ : ∃ Z, Z = X := ⟨_, rfl⟩
    subst hren
    clear hst h3 h4 hb6 hb7 hB9 g6 g7 hB0 HZ
    have hz1 := hJ.size
    go_upto_region 2 with fail
    have hi : ∀ X, _ := fun X => inside_no i c k (k.r d) 64 off X hok ho ho1 ho2 hf
    have hs6 := hJ.st
    have hd6 := hJ.d
    go_upto_region 3 with (first | refine wpList_load_row rfl 82 _ rfl w.heap.size rfl 82 (stA i c k) (0, 0) _ hs6 Tryd.underlying82 rfl (by kernel_rfl) ?_ | refine wpList_load_row rfl 40 _ rfl b6 rfl 40 ((k.r d).a) (0, 0) _ hd6 Tryd.underlying40 rfl (by kernel_rfl) ?_ | (go_at_call 86; refine (hi _).mono ?_; rintro e W2 ⟨rfl, hB2⟩; clear hs6 hd6 hi))
    exact ⟨rfl, rfl, hJ.below.trans (hB2.mono hJ.below.size)⟩
end Go.Proofs.YtodkehpldlmgaaaDoor
/- jlt. -/
namespace Go.Proofs.YtodkehpldlmgaaaDoor
open Go.RowKit
set_option maxRecDepth 10000 in
set_option maxHeartbeats 2000000 in
theorem jlt_dno (i : Ins) (c : Int) (k : Kn) (d : Nat) (w : World) (hdst : i.dst = (d : Int)) (hdn : d < 10) (hk0 : k.r d = noR) :
    Calls Tryd.prog 63 #[.agg (stA i c k)] w fun e w' => e = .panicked Wrong.unset.entry ∧ Below w.heap.size w w' := by
  obtain ⟨W0, hW0⟩ : ∃ W0, W0 = ((w.alloc (.cells (stA i c k) 82)).alloc (.cells noK.a 43)).alloc (.cells noK.a 43) := ⟨_, rfl⟩
  obtain ⟨hst, h3, h4, hB0, hz0⟩ := ways_world i c k w W0 hW0
  have HZ : Hid (W0.heap.size = w.heap.size + 3) := hz0
  clear hz0
  go_enter Tryd.func63, Tryd.ntmps63
  go_upto_region 1 with fail
  refine named2 (p := fun X => Code.wp _ _ _ _ X) ?_
  intro W9 hW9
  have hW : W0 = W9 := hW0.trans hW9.symm
  subst hW
  clear hW9 hW0
  refine wp_region_inv (Φ := fun l vs X => Vals (fun q => match q with | 0 => some (.agg (stA i c k)) | 2 => some (.agg (stA i c k)) | _ => none) l vs ∧ Ph2 6 7 (Two W0.heap.size 40 noR.a W0 4 5) (fun vs X => Both W0.heap.size 40 noR.a noR.a W0 (vs 4) (vs 5) X) (fun vs X => Both W0.heap.size 40 noR.a noR.a W0 (vs 4) (vs 5) X) l vs X ∧ l 1 = false) (PQ := fun q X => q = Wrong.unset.entry ∧ Below W0.heap.size W0 X)
    (by kernel_rfl) (by kernel_rfl) (by kernel_rfl) (by kernel_rfl) ⟨Vals.none _ _, Ph2.start (Two.start ((Below.refl _ _).drew) (Nat.le_refl _)), rfl⟩ ?hop ?hend (fun c a X hq hp => ⟨hq, by rw [hp.1]; exact ⟨rfl, hB0.trans (hp.2.mono hB0.size)⟩⟩)
  case hop =>
    refine ⟨?_, ?_, ?_, ?_, ?_, ?_, ?_, ?_, trivial⟩
    · intro l vs X A hA ⟨hV, hS, hN1⟩ hl hd hcl
      have hj := notYet (k := 6) hcl (by kernel_rfl) hl
      have hk := notYet (k := 7) hcl (by kernel_rfl) hl
      have hX := hS.1 hj
      have hB := hX.below
      have a1 := eval_old hA 1 (by kernel_rfl) rfl
      refine show_value (v := .agg (stA i c k)) (X' := X) (run_ld 82 _ rfl _ a1 (ld_row (l := stCells i c k) (has_whole (hst.below hB hst.lt)) (by kernel_rfl))) ⟨hV.upd (fun _ h => Option.some.inj h), Ph2.keep hj hk (by decide) (by decide) (hX.grow (Below.refl _ _) (by decide) (by decide) _), (upd_other _ _ (by decide)).trans hN1⟩
    · intro l vs X A hA ⟨hV, hS, hN1⟩ hl hd hcl
      have hj := notYet (k := 6) hcl (by kernel_rfl) hl
      have hk := notYet (k := 7) hcl (by kernel_rfl) hl
      have hX := hS.1 hj
      have hB := hX.below
      have a6 := eval_new hA 6 0 (by kernel_rfl) (by kernel_rfl) (by kernel_rfl) (hd 0 (by kernel_rfl)) (hV 0 _ (hd 0 (by kernel_rfl)) rfl)
      have aF0 : A.eval (.func 80) = .func (.func 80) #[] #[] := rfl
      refine show_call (f := 80) (args := #[.agg (stA i c k)]) ?_ (dst_no i c k d X hdst hdn hk0) ?_
      · generalize A.eval = ρ at *
        clear hA hl hd hcl hV hS
        go_simp
      · rintro e X' ⟨rfl, hB1⟩
        exact .inr ⟨_, rfl, rfl, hB.trans (hB1.mono hX.size)⟩
    · intro l vs X A hA ⟨hV, hS, hN1⟩ hl hd hcl
      have hj := notYet (k := 6) hcl (by kernel_rfl) hl
      have hk := notYet (k := 7) hcl (by kernel_rfl) hl
      have hX := hS.1 hj
      have hB := hX.below
      have a1 := eval_old hA 1 (by kernel_rfl) rfl
      refine show_value (v := .agg (stA i c k)) (X' := X) (run_ld 82 _ rfl _ a1 (ld_row (l := stCells i c k) (has_whole (hst.below hB hst.lt)) (by kernel_rfl))) ⟨hV.upd (fun _ h => Option.some.inj h), Ph2.keep hj hk (by decide) (by decide) (hX.grow (Below.refl _ _) (by decide) (by decide) _), (upd_other _ _ (by decide)).trans hN1⟩
    · intro l vs X A hA ⟨hV, hS, hN1⟩ hl hd hcl
      have hj := notYet (k := 6) hcl (by kernel_rfl) hl
      have hk := notYet (k := 7) hcl (by kernel_rfl) hl
      have hX := hS.1 hj
      have hB := hX.below
      exact absurd (hd 1 (by kernel_rfl)) (by rw [hN1]; decide)
    · intro l vs X A hA ⟨hV, hS, hN1⟩ hl hd hcl
      have hj := notYet (k := 6) hcl (by kernel_rfl) hl
      have hk := notYet (k := 7) hcl (by kernel_rfl) hl
      have hX := hS.1 hj
      have hB := hX.below
      refine show_value (v := .pointer (some ⟨X.heap.size, 0, none⟩)) (X' := X.alloc (.cells noR.a 40)) ?_ ⟨hV.upd (fun _ h => by cases h), Ph2.keep hj hk (by decide) (by decide) (hX.mkFst (by decide)), (upd_other _ _ (by decide)).trans hN1⟩
      generalize A.eval = ρ at *
      clear hA hl hd hcl hV hS
      rfl
    · intro l vs X A hA ⟨hV, hS, hN1⟩ hl hd hcl
      have hj := notYet (k := 6) hcl (by kernel_rfl) hl
      have hk := notYet (k := 7) hcl (by kernel_rfl) hl
      have hX := hS.1 hj
      have hB := hX.below
      refine show_value (v := .pointer (some ⟨X.heap.size, 0, none⟩)) (X' := X.alloc (.cells noR.a 40)) ?_ ⟨hV.upd (fun _ h => by cases h), Ph2.keep hj hk (by decide) (by decide) (hX.mkSnd (by decide)), (upd_other _ _ (by decide)).trans hN1⟩
      generalize A.eval = ρ at *
      clear hA hl hd hcl hV hS
      rfl
    · intro l vs X A hA ⟨hV, hS, hN1⟩ hl hd hcl
      have hk := notYet (k := 7) hcl (by kernel_rfl) hl
      have hX := hS.1 hl
      exact absurd (hd 1 (by kernel_rfl)) (by rw [hN1]; decide)
    · intro l vs X A hA ⟨hV, hS, hN1⟩ hl hd hcl
      have hX := hS.2.1 (hd 6 (by kernel_rfl)) hl
      exact absurd (hd 1 (by kernel_rfl)) (by rw [hN1]; decide)
  case hend =>
    intro l vs X hl ⟨hV, hS, hN1⟩
    exact absurd (hl 1 (by decide)) (by rw [hN1]; decide)
set_option maxRecDepth 10000 in
set_option maxHeartbeats 2000000 in
theorem jlt_sno (i : Ins) (c : Int) (k : Kn) (d s : Nat) (w : World) (hdst : i.dst = (d : Int)) (hdn : d < 10) (hsrc : i.src = (s : Int)) (hsn : s < 10) (hk0 : k.r d ≠ noR) (hs0 : k.r s = noR) :
    Calls Tryd.prog 63 #[.agg (stA i c k)] w fun e w' => e = .panicked Wrong.unset.entry ∧ Below w.heap.size w w' := by
  obtain ⟨W0, hW0⟩ : ∃ W0, W0 = ((w.alloc (.cells (stA i c k) 82)).alloc (.cells noK.a 43)).alloc (.cells noK.a 43) := ⟨_, rfl⟩
  obtain ⟨hst, h3, h4, hB0, hz0⟩ := ways_world i c k w W0 hW0
  have HZ : Hid (W0.heap.size = w.heap.size + 3) := hz0
  clear hz0
  go_enter Tryd.func63, Tryd.ntmps63
  go_upto_region 1 with fail
  refine named2 (p := fun X => Code.wp _ _ _ _ X) ?_
  intro W9 hW9
  have hW : W0 = W9 := hW0.trans hW9.symm
  subst hW
  clear hW9 hW0
  refine wp_region_inv (Φ := fun l vs X => Vals (fun q => match q with | 0 => some (.agg (stA i c k)) | 1 => some ((k.r d).v) | 2 => some (.agg (stA i c k)) | _ => none) l vs ∧ Ph2 6 7 (Two W0.heap.size 40 noR.a W0 4 5) (fun vs X => Both W0.heap.size 40 (k.r d).a noR.a W0 (vs 4) (vs 5) X) (fun vs X => Both W0.heap.size 40 (k.r d).a noR.a W0 (vs 4) (vs 5) X) l vs X ∧ l 3 = false) (PQ := fun q X => q = Wrong.unset.entry ∧ Below W0.heap.size W0 X)
    (by kernel_rfl) (by kernel_rfl) (by kernel_rfl) (by kernel_rfl) ⟨Vals.none _ _, Ph2.start (Two.start ((Below.refl _ _).drew) (Nat.le_refl _)), rfl⟩ ?hop ?hend (fun c a X hq hp => ⟨hq, by rw [hp.1]; exact ⟨rfl, hB0.trans (hp.2.mono hB0.size)⟩⟩)
  case hop =>
    refine ⟨?_, ?_, ?_, ?_, ?_, ?_, ?_, ?_, trivial⟩
    · intro l vs X A hA ⟨hV, hS, hN3⟩ hl hd hcl
      have hj := notYet (k := 6) hcl (by kernel_rfl) hl
      have hk := notYet (k := 7) hcl (by kernel_rfl) hl
      have hX := hS.1 hj
      have hB := hX.below
      have a1 := eval_old hA 1 (by kernel_rfl) rfl
      refine show_value (v := .agg (stA i c k)) (X' := X) (run_ld 82 _ rfl _ a1 (ld_row (l := stCells i c k) (has_whole (hst.below hB hst.lt)) (by kernel_rfl))) ⟨hV.upd (fun _ h => Option.some.inj h), Ph2.keep hj hk (by decide) (by decide) (hX.grow (Below.refl _ _) (by decide) (by decide) _), (upd_other _ _ (by decide)).trans hN3⟩
    · intro l vs X A hA ⟨hV, hS, hN3⟩ hl hd hcl
      have hj := notYet (k := 6) hcl (by kernel_rfl) hl
      have hk := notYet (k := 7) hcl (by kernel_rfl) hl
      have hX := hS.1 hj
      have hB := hX.below
      have a6 := eval_new hA 6 0 (by kernel_rfl) (by kernel_rfl) (by kernel_rfl) (hd 0 (by kernel_rfl)) (hV 0 _ (hd 0 (by kernel_rfl)) rfl)
      have aF0 : A.eval (.func 80) = .func (.func 80) #[] #[] := rfl
      refine show_call (f := 80) (args := #[.agg (stA i c k)]) ?_ (dst_ok i c k d X hdst hdn hk0) ?_
      · generalize A.eval = ρ at *
        clear hA hl hd hcl hV hS
        go_simp
      · rintro e X' ⟨rfl, hB1⟩
        exact .inl ⟨_, rfl, hV.upd (fun _ h => Option.some.inj h), Ph2.keep hj hk (by decide) (by decide) (hX.grow hB1 (by decide) (by decide) _), (upd_other _ _ (by decide)).trans hN3⟩
    · intro l vs X A hA ⟨hV, hS, hN3⟩ hl hd hcl
      have hj := notYet (k := 6) hcl (by kernel_rfl) hl
      have hk := notYet (k := 7) hcl (by kernel_rfl) hl
      have hX := hS.1 hj
      have hB := hX.below
      have a1 := eval_old hA 1 (by kernel_rfl) rfl
      refine show_value (v := .agg (stA i c k)) (X' := X) (run_ld 82 _ rfl _ a1 (ld_row (l := stCells i c k) (has_whole (hst.below hB hst.lt)) (by kernel_rfl))) ⟨hV.upd (fun _ h => Option.some.inj h), Ph2.keep hj hk (by decide) (by decide) (hX.grow (Below.refl _ _) (by decide) (by decide) _), (upd_other _ _ (by decide)).trans hN3⟩
    · intro l vs X A hA ⟨hV, hS, hN3⟩ hl hd hcl
      have hj := notYet (k := 6) hcl (by kernel_rfl) hl
      have hk := notYet (k := 7) hcl (by kernel_rfl) hl
      have hX := hS.1 hj
      have hB := hX.below
      have a8 := eval_new hA 8 2 (by kernel_rfl) (by kernel_rfl) (by kernel_rfl) (hd 2 (by kernel_rfl)) (hV 2 _ (hd 2 (by kernel_rfl)) rfl)
      have aF0 : A.eval (.func 46) = .func (.func 46) #[] #[] := rfl
      refine show_call (f := 46) (args := #[.agg (stA i c k)]) ?_ (src_no i c k s X hsrc hsn hs0) ?_
      · generalize A.eval = ρ at *
        clear hA hl hd hcl hV hS
        go_simp
      · rintro e X' ⟨rfl, hB1⟩
        exact .inr ⟨_, rfl, rfl, hB.trans (hB1.mono hX.size)⟩
    · intro l vs X A hA ⟨hV, hS, hN3⟩ hl hd hcl
      have hj := notYet (k := 6) hcl (by kernel_rfl) hl
      have hk := notYet (k := 7) hcl (by kernel_rfl) hl
      have hX := hS.1 hj
      have hB := hX.below
      refine show_value (v := .pointer (some ⟨X.heap.size, 0, none⟩)) (X' := X.alloc (.cells noR.a 40)) ?_ ⟨hV.upd (fun _ h => by cases h), Ph2.keep hj hk (by decide) (by decide) (hX.mkFst (by decide)), (upd_other _ _ (by decide)).trans hN3⟩
      generalize A.eval = ρ at *
      clear hA hl hd hcl hV hS
      rfl
    · intro l vs X A hA ⟨hV, hS, hN3⟩ hl hd hcl
      have hj := notYet (k := 6) hcl (by kernel_rfl) hl
      have hk := notYet (k := 7) hcl (by kernel_rfl) hl
      have hX := hS.1 hj
      have hB := hX.below
      refine show_value (v := .pointer (some ⟨X.heap.size, 0, none⟩)) (X' := X.alloc (.cells noR.a 40)) ?_ ⟨hV.upd (fun _ h => by cases h), Ph2.keep hj hk (by decide) (by decide) (hX.mkSnd (by decide)), (upd_other _ _ (by decide)).trans hN3⟩
      generalize A.eval = ρ at *
      clear hA hl hd hcl hV hS
      rfl
    · intro l vs X A hA ⟨hV, hS, hN3⟩ hl hd hcl
      have hk := notYet (k := 7) hcl (by kernel_rfl) hl
      have hX := hS.1 hl
      exact absurd (hd 3 (by kernel_rfl)) (by rw [hN3]; decide)
    · intro l vs X A hA ⟨hV, hS, hN3⟩ hl hd hcl
      have hX := hS.2.1 (hd 6 (by kernel_rfl)) hl
      exact absurd (hd 3 (by kernel_rfl)) (by rw [hN3]; decide)
  case hend =>
    intro l vs X hl ⟨hV, hS, hN3⟩
    exact absurd (hl 3 (by decide)) (by rw [hN3]; decide)
set_option maxRecDepth 10000 in
set_option maxHeartbeats 2000000 in
theorem jlt_same (i : Ins) (c : Int) (k : Kn) (d s : Nat) (w : World) (hdst : i.dst = (d : Int)) (hdn : d < 10) (hsrc : i.src = (s : Int)) (hsn : s < 10) (hk0 : k.r d ≠ noR) (hs0 : k.r s ≠ noR) (hds : d = s) :
    Calls Tryd.prog 63 #[.agg (stA i c k)] w fun e w' => e = .returned (two (k) (noK)) ∧ Below w.heap.size w w' := by
  obtain ⟨W0, hW0⟩ : ∃ W0, W0 = ((w.alloc (.cells (stA i c k) 82)).alloc (.cells noK.a 43)).alloc (.cells noK.a 43) := ⟨_, rfl⟩
  obtain ⟨hst, h3, h4, hB0, hz0⟩ := ways_world i c k w W0 hW0
  have HZ : Hid (W0.heap.size = w.heap.size + 3) := hz0
  clear hz0
  go_enter Tryd.func63, Tryd.ntmps63
  go_upto_region 1 with fail
  refine named2 (p := fun X => Code.wp _ _ _ _ X) ?_
  intro W9 hW9
  have hW : W0 = W9 := hW0.trans hW9.symm
  subst hW
  clear hW9 hW0
  refine wp_region_inv (Φ := fun l vs X => Vals (fun q => match q with | 0 => some (.agg (stA i c k)) | 1 => some ((k.r d).v) | 2 => some (.agg (stA i c k)) | 3 => some ((k.r s).v) | _ => none) l vs ∧ Ph2 6 7 (Two W0.heap.size 40 noR.a W0 4 5) (fun vs X => Both W0.heap.size 40 (k.r d).a noR.a W0 (vs 4) (vs 5) X) (fun vs X => Both W0.heap.size 40 (k.r d).a (k.r s).a W0 (vs 4) (vs 5) X) l vs X) (PQ := fun _ _ => False)
    (by kernel_rfl) (by kernel_rfl) (by kernel_rfl) (by kernel_rfl) ⟨Vals.none _ _, Ph2.start (Two.start ((Below.refl _ _).drew) (Nat.le_refl _))⟩ ?hop ?hend (fun _ _ _ _ h => h.elim)
  case hop =>
    refine ⟨?_, ?_, ?_, ?_, ?_, ?_, ?_, ?_, trivial⟩
    · intro l vs X A hA ⟨hV, hS⟩ hl hd hcl
      have hj := notYet (k := 6) hcl (by kernel_rfl) hl
      have hk := notYet (k := 7) hcl (by kernel_rfl) hl
      have hX := hS.1 hj
      have hB := hX.below
      have a1 := eval_old hA 1 (by kernel_rfl) rfl
      refine show_value (v := .agg (stA i c k)) (X' := X) (run_ld 82 _ rfl _ a1 (ld_row (l := stCells i c k) (has_whole (hst.below hB hst.lt)) (by kernel_rfl))) ⟨hV.upd (fun _ h => Option.some.inj h), Ph2.keep hj hk (by decide) (by decide) (hX.grow (Below.refl _ _) (by decide) (by decide) _)⟩
    · intro l vs X A hA ⟨hV, hS⟩ hl hd hcl
      have hj := notYet (k := 6) hcl (by kernel_rfl) hl
      have hk := notYet (k := 7) hcl (by kernel_rfl) hl
      have hX := hS.1 hj
      have hB := hX.below
      have a6 := eval_new hA 6 0 (by kernel_rfl) (by kernel_rfl) (by kernel_rfl) (hd 0 (by kernel_rfl)) (hV 0 _ (hd 0 (by kernel_rfl)) rfl)
      have aF0 : A.eval (.func 80) = .func (.func 80) #[] #[] := rfl
      refine show_call (f := 80) (args := #[.agg (stA i c k)]) ?_ (dst_ok i c k d X hdst hdn hk0) ?_
      · generalize A.eval = ρ at *
        clear hA hl hd hcl hV hS
        go_simp
      · rintro e X' ⟨rfl, hB1⟩
        exact .inl ⟨_, rfl, hV.upd (fun _ h => Option.some.inj h), Ph2.keep hj hk (by decide) (by decide) (hX.grow hB1 (by decide) (by decide) _)⟩
    · intro l vs X A hA ⟨hV, hS⟩ hl hd hcl
      have hj := notYet (k := 6) hcl (by kernel_rfl) hl
      have hk := notYet (k := 7) hcl (by kernel_rfl) hl
      have hX := hS.1 hj
      have hB := hX.below
      have a1 := eval_old hA 1 (by kernel_rfl) rfl
      refine show_value (v := .agg (stA i c k)) (X' := X) (run_ld 82 _ rfl _ a1 (ld_row (l := stCells i c k) (has_whole (hst.below hB hst.lt)) (by kernel_rfl))) ⟨hV.upd (fun _ h => Option.some.inj h), Ph2.keep hj hk (by decide) (by decide) (hX.grow (Below.refl _ _) (by decide) (by decide) _)⟩
    · intro l vs X A hA ⟨hV, hS⟩ hl hd hcl
      have hj := notYet (k := 6) hcl (by kernel_rfl) hl
      have hk := notYet (k := 7) hcl (by kernel_rfl) hl
      have hX := hS.1 hj
      have hB := hX.below
      have a8 := eval_new hA 8 2 (by kernel_rfl) (by kernel_rfl) (by kernel_rfl) (hd 2 (by kernel_rfl)) (hV 2 _ (hd 2 (by kernel_rfl)) rfl)
      have aF0 : A.eval (.func 46) = .func (.func 46) #[] #[] := rfl
      refine show_call (f := 46) (args := #[.agg (stA i c k)]) ?_ (src_ok i c k s X hsrc hsn hs0) ?_
      · generalize A.eval = ρ at *
        clear hA hl hd hcl hV hS
        go_simp
      · rintro e X' ⟨rfl, hB1⟩
        exact .inl ⟨_, rfl, hV.upd (fun _ h => Option.some.inj h), Ph2.keep hj hk (by decide) (by decide) (hX.grow hB1 (by decide) (by decide) _)⟩
    · intro l vs X A hA ⟨hV, hS⟩ hl hd hcl
      have hj := notYet (k := 6) hcl (by kernel_rfl) hl
      have hk := notYet (k := 7) hcl (by kernel_rfl) hl
      have hX := hS.1 hj
      have hB := hX.below
      refine show_value (v := .pointer (some ⟨X.heap.size, 0, none⟩)) (X' := X.alloc (.cells noR.a 40)) ?_ ⟨hV.upd (fun _ h => by cases h), Ph2.keep hj hk (by decide) (by decide) (hX.mkFst (by decide))⟩
      generalize A.eval = ρ at *
      clear hA hl hd hcl hV hS
      rfl
    · intro l vs X A hA ⟨hV, hS⟩ hl hd hcl
      have hj := notYet (k := 6) hcl (by kernel_rfl) hl
      have hk := notYet (k := 7) hcl (by kernel_rfl) hl
      have hX := hS.1 hj
      have hB := hX.below
      refine show_value (v := .pointer (some ⟨X.heap.size, 0, none⟩)) (X' := X.alloc (.cells noR.a 40)) ?_ ⟨hV.upd (fun _ h => by cases h), Ph2.keep hj hk (by decide) (by decide) (hX.mkSnd (by decide))⟩
      generalize A.eval = ρ at *
      clear hA hl hd hcl hV hS
      rfl
    · intro l vs X A hA ⟨hV, hS⟩ hl hd hcl
      have hk := notYet (k := 7) hcl (by kernel_rfl) hl
      have hX := hS.1 hl
      have a4 := eval_new hA 4 4 (by kernel_rfl) (by kernel_rfl) (by kernel_rfl) (hd 4 (by kernel_rfl)) (rfl : vs 4 = vs 4)
      have a7 := eval_new hA 7 1 (by kernel_rfl) (by kernel_rfl) (by kernel_rfl) (hd 1 (by kernel_rfl)) (hV 1 _ (hd 1 (by kernel_rfl)) rfl)
      obtain ⟨b, hb, hH, hT⟩ := (hX.both (hd 4 (by kernel_rfl)) (hd 5 (by kernel_rfl))).setFst (x' := (k.r d).a)
      rw [hb] at a4
      refine show_skip (run_st_row 40 _ _ rfl b _ _ _ a4 a7 hH (by kernel_rfl) (by kernel_rfl) (Rg.a_one _)) ⟨hV.upd (fun _ h => by cases h), Ph2.mid hk (by decide) ?_⟩
      exact hT
    · intro l vs X A hA ⟨hV, hS⟩ hl hd hcl
      have hX := hS.2.1 (hd 6 (by kernel_rfl)) hl
      have a5 := eval_new hA 5 5 (by kernel_rfl) (by kernel_rfl) (by kernel_rfl) (hd 5 (by kernel_rfl)) (rfl : vs 5 = vs 5)
      have a9 := eval_new hA 9 3 (by kernel_rfl) (by kernel_rfl) (by kernel_rfl) (hd 3 (by kernel_rfl)) (hV 3 _ (hd 3 (by kernel_rfl)) rfl)
      obtain ⟨b, hb, hH, hT⟩ := hX.setSnd (y' := (k.r s).a)
      rw [hb] at a5
      refine show_skip (run_st_row 40 _ _ rfl b _ _ _ a5 a9 hH (by kernel_rfl) (by kernel_rfl) (Rg.a_one _)) ⟨hV.upd (fun _ h => by cases h), Ph2.last (hd 6 (by kernel_rfl)) ?_⟩
      exact hT
  case hend =>
    intro l vs X hl ⟨hV, hS⟩
    have hX := hS.2.2 (hl 7 (by decide))
    have v0 := hV 0 _ (hl 0 (by decide)) rfl
    have v1 := hV 1 _ (hl 1 (by decide)) rfl
    have v2 := hV 2 _ (hl 2 (by decide)) rfl
    have v3 := hV 3 _ (hl 3 (by decide)) rfl
    clear hV hS hl
    obtain ⟨b6, b7, u6, u7, g6, g7, hne, hb6, hb7, hB9⟩ := hX
    simp only [canonL, if_true, v0, v1, v2, v3, u6, u7]
    clear v0 v1 v2 v3 u6 u7
    go_simp
    have hJ : JW w i c k (noK) (noK) b6 b7 (k.r d) (k.r s) X := ⟨hst.below hB9 hst.lt, h3.below hB9 h3.lt, h4.below hB9 h4.lt, hb6, hb7, hB0.trans (hB9.mono hB0.size), by have := HZ.out; omega, by have := HZ.out; omega⟩
    obtain ⟨W1, hren⟩ : ∃ Z, Z = X := ⟨_, rfl⟩
    subst hren
    clear hst h3 h4 hb6 hb7 hB9 g6 g7 hB0 HZ
    have hz1 := hJ.size
    go_upto_region 2 with fail
    have c1 : W1.cell? ⟨w.heap.size, 1, none⟩ = some (.int .i64 (d : Int)) := by rw [← hdst]; exact hJ.st.cell 1
    have c2 : W1.cell? ⟨w.heap.size, 2, none⟩ = some (.int .i64 (s : Int)) := by rw [← hsrc]; exact hJ.st.cell 2
    have hq : ((d : Int) == (s : Int)) = true := by simp; omega
    clear hds
    go_upto_region 3 with fail
    clear c1 c2 hq
    refine wp_region_inv (Φ := fun l vs X => Vals (fun q => match q with | 0 => some (.pointer (some ⟨w.heap.size, 6, none⟩)) | 1 => some (.agg k.a) | 2 => some (.agg noK.a) | _ => none) l vs ∧ Pre2 3 4 (Below W1.heap.size W1) (JW w i c k (k) (noK) b6 b7 (k.r d) (k.r s)) (JW w i c k (k) (noK) b6 b7 (k.r d) (k.r s)) l X) (PQ := fun _ _ => False)
      (by kernel_rfl) (by kernel_rfl) (by kernel_rfl) (by kernel_rfl) ⟨Vals.none _ _, Pre2.start ((Below.refl _ _).drew)⟩ ?hop ?hend (fun _ _ _ _ h => h.elim)
    case hop =>
      refine ⟨?_, ?_, ?_, ?_, ?_, trivial⟩
      · intro l vs X A hA ⟨hV, hS⟩ hl hd hcl
        have hj := notYet (k := 3) hcl (by kernel_rfl) hl
        have hk := notYet (k := 4) hcl (by kernel_rfl) hl
        have hX := hS.1 hj
        have hB := hX
        have a1 := eval_old hA 1 (by kernel_rfl) rfl
        refine show_value (v := .pointer (some ⟨w.heap.size, 6, none⟩)) (X' := X) ?_ ⟨hV.upd (fun _ h => Option.some.inj h), Pre2.keep hj hk (by decide) (by decide) (hX)⟩
        generalize A.eval = ρ at *
        clear hA hl hd hcl hV hS
        go_simp
      · intro l vs X A hA ⟨hV, hS⟩ hl hd hcl
        have hj := notYet (k := 3) hcl (by kernel_rfl) hl
        have hk := notYet (k := 4) hcl (by kernel_rfl) hl
        have hX := hS.1 hj
        have hB := hX
        have a17 := eval_new hA 17 0 (by kernel_rfl) (by kernel_rfl) (by kernel_rfl) (hd 0 (by kernel_rfl)) (hV 0 _ (hd 0 (by kernel_rfl)) rfl)
        refine show_value (v := .agg k.a) (X' := X) (run_ld 43 _ rfl _ a17 (ld_row (l := k.cells) (st_range (hJ.grow hB).st) (by kernel_rfl))) ⟨hV.upd (fun _ h => Option.some.inj h), Pre2.keep hj hk (by decide) (by decide) (hX)⟩
      · intro l vs X A hA ⟨hV, hS⟩ hl hd hcl
        have hk := notYet (k := 4) hcl (by kernel_rfl) hl
        have a3 := eval_old hA 3 (by kernel_rfl) rfl
        cases hj : l 3 with
        | true =>
          have hX := hS.2.1 hj hk
          exact show_value (v := .agg noK.a) (X' := X) (run_ld 43 _ rfl _ a3 (ld_row (l := noK.cells) (has_whole hX.j) (by kernel_rfl))) ⟨hV.upd (fun _ h => Option.some.inj h), Pre2.keepMid hj hk (by decide) (by decide) hX⟩
        | false =>
          have hX := hS.1 hj
          have hB := hX
          exact show_value (v := .agg noK.a) (X' := X) (run_ld 43 _ rfl _ a3 (ld_row (l := noK.cells) (has_whole (hJ.grow hB).j) (by kernel_rfl))) ⟨hV.upd (fun _ h => Option.some.inj h), Pre2.keep hj hk (by decide) (by decide) hX⟩
      · intro l vs X A hA ⟨hV, hS⟩ hl hd hcl
        have hk := notYet (k := 4) hcl (by kernel_rfl) hl
        have hX := hS.1 hl
        have a2 := eval_old hA 2 (by kernel_rfl) rfl
        have a18 := eval_new hA 18 1 (by kernel_rfl) (by kernel_rfl) (by kernel_rfl) (hd 1 (by kernel_rfl)) (hV 1 _ (hd 1 (by kernel_rfl)) rfl)
        have hg := hJ.grow hX
        refine show_skip (X' := X.setRow (w.heap.size + 1) k.a) (run_st_row 43 _ _ rfl (w.heap.size + 1) _ _ _ a2 a18 hg.n (by kernel_rfl) (by kernel_rfl) (Kn.a_one _)) ⟨hV.upd (fun _ h => by cases h), Pre2.mid hk (by decide) (hg.setN k)⟩
      · intro l vs X A hA ⟨hV, hS⟩ hl hd hcl
        have hX := hS.2.1 (hd 3 (by kernel_rfl)) hl
        have a3 := eval_old hA 3 (by kernel_rfl) rfl
        have a19 := eval_new hA 19 2 (by kernel_rfl) (by kernel_rfl) (by kernel_rfl) (hd 2 (by kernel_rfl)) (hV 2 _ (hd 2 (by kernel_rfl)) rfl)
        refine show_skip (X' := X.setRow (w.heap.size + 2) noK.a) (run_st_row 43 _ _ rfl (w.heap.size + 2) _ _ _ a3 a19 hX.j (by kernel_rfl) (by kernel_rfl) (Kn.a_one _)) ⟨hV.upd (fun _ h => by cases h), Pre2.last (hd 3 (by kernel_rfl)) (hX.setJ noK)⟩
    case hend =>
      intro l vs X hl ⟨hV, hS⟩
      have hX := hS.2.2 (hl 4 (by decide))
      have v0 := hV 0 _ (hl 0 (by decide)) rfl
      have v1 := hV 1 _ (hl 1 (by decide)) rfl
      have v2 := hV 2 _ (hl 2 (by decide)) rfl
      clear hV hS hl
      simp only [canonL, if_true, v0, v1, v2]
      clear v0 v1 v2
      go_simp
      go_wp2_with fail
      refine bodyPost_ret (results_rows2 rfl _ _ (w.heap.size + 1) (w.heap.size + 2) 43 _ _ _ rfl rfl hX.n hX.j Tryd.underlying43 rfl (by kernel_rfl) (by kernel_rfl)) rfl ?_
      exact ⟨rfl, hX.below⟩
end Go.Proofs.YtodkehpldlmgaaaDoor
/- jlt, by both ways. -/
namespace Go.Proofs.YtodkehpldlmgaaaDoor
open Go.RowKit
set_option maxRecDepth 10000 in
set_option maxHeartbeats 2000000 in
theorem jlt_11 (i : Ins) (c : Int) (k : Kn) (d s : Nat) (w : World) (hdst : i.dst = (d : Int)) (hdn : d < 10) (hsrc : i.src = (s : Int)) (hsn : s < 10) (hk0 : k.r d ≠ noR) (hs0 : k.r s ≠ noR) (hds : d ≠ s) (hok : (k.r d).Ok) (hoks : (k.r s).Ok) (ha : (k.r d).least < (k.r s).great) (hb : (k.r s).least ≤ (k.r d).great) :
    Calls Tryd.prog 63 #[.agg (stA i c k)] w fun e w' => e = .returned (two ((k.set d (atLeastR (k.r d) (k.r s).least)).set s (atMostR (k.r s) (k.r d).great)) ((k.set d (atMostR (k.r d) ((k.r s).great - 1))).set s (atLeastR (k.r s) ((k.r d).least + 1)))) ∧ Below w.heap.size w w' := by
  obtain ⟨W0, hW0⟩ : ∃ W0, W0 = ((w.alloc (.cells (stA i c k) 82)).alloc (.cells noK.a 43)).alloc (.cells noK.a 43) := ⟨_, rfl⟩
  obtain ⟨hst, h3, h4, hB0, hz0⟩ := ways_world i c k w W0 hW0
  have HZ : Hid (W0.heap.size = w.heap.size + 3) := hz0
  clear hz0
  go_enter Tryd.func63, Tryd.ntmps63
  go_upto_region 1 with fail
  refine named2 (p := fun X => Code.wp _ _ _ _ X) ?_
  intro W9 hW9
  have hW : W0 = W9 := hW0.trans hW9.symm
  subst hW
  clear hW9 hW0
  refine wp_region_inv (Φ := fun l vs X => Vals (fun q => match q with | 0 => some (.agg (stA i c k)) | 1 => some ((k.r d).v) | 2 => some (.agg (stA i c k)) | 3 => some ((k.r s).v) | _ => none) l vs ∧ Ph2 6 7 (Two W0.heap.size 40 noR.a W0 4 5) (fun vs X => Both W0.heap.size 40 (k.r d).a noR.a W0 (vs 4) (vs 5) X) (fun vs X => Both W0.heap.size 40 (k.r d).a (k.r s).a W0 (vs 4) (vs 5) X) l vs X) (PQ := fun _ _ => False)
    (by kernel_rfl) (by kernel_rfl) (by kernel_rfl) (by kernel_rfl) ⟨Vals.none _ _, Ph2.start (Two.start ((Below.refl _ _).drew) (Nat.le_refl _))⟩ ?hop ?hend (fun _ _ _ _ h => h.elim)
  case hop =>
    refine ⟨?_, ?_, ?_, ?_, ?_, ?_, ?_, ?_, trivial⟩
    · intro l vs X A hA ⟨hV, hS⟩ hl hd hcl
      have hj := notYet (k := 6) hcl (by kernel_rfl) hl
      have hk := notYet (k := 7) hcl (by kernel_rfl) hl
      have hX := hS.1 hj
      have hB := hX.below
      have a1 := eval_old hA 1 (by kernel_rfl) rfl
      refine show_value (v := .agg (stA i c k)) (X' := X) (run_ld 82 _ rfl _ a1 (ld_row (l := stCells i c k) (has_whole (hst.below hB hst.lt)) (by kernel_rfl))) ⟨hV.upd (fun _ h => Option.some.inj h), Ph2.keep hj hk (by decide) (by decide) (hX.grow (Below.refl _ _) (by decide) (by decide) _)⟩
    · intro l vs X A hA ⟨hV, hS⟩ hl hd hcl
      have hj := notYet (k := 6) hcl (by kernel_rfl) hl
      have hk := notYet (k := 7) hcl (by kernel_rfl) hl
      have hX := hS.1 hj
      have hB := hX.below
      have a6 := eval_new hA 6 0 (by kernel_rfl) (by kernel_rfl) (by kernel_rfl) (hd 0 (by kernel_rfl)) (hV 0 _ (hd 0 (by kernel_rfl)) rfl)
      have aF0 : A.eval (.func 80) = .func (.func 80) #[] #[] := rfl
      refine show_call (f := 80) (args := #[.agg (stA i c k)]) ?_ (dst_ok i c k d X hdst hdn hk0) ?_
      · generalize A.eval = ρ at *
        clear hA hl hd hcl hV hS
        go_simp
      · rintro e X' ⟨rfl, hB1⟩
        exact .inl ⟨_, rfl, hV.upd (fun _ h => Option.some.inj h), Ph2.keep hj hk (by decide) (by decide) (hX.grow hB1 (by decide) (by decide) _)⟩
    · intro l vs X A hA ⟨hV, hS⟩ hl hd hcl
      have hj := notYet (k := 6) hcl (by kernel_rfl) hl
      have hk := notYet (k := 7) hcl (by kernel_rfl) hl
      have hX := hS.1 hj
      have hB := hX.below
      have a1 := eval_old hA 1 (by kernel_rfl) rfl
      refine show_value (v := .agg (stA i c k)) (X' := X) (run_ld 82 _ rfl _ a1 (ld_row (l := stCells i c k) (has_whole (hst.below hB hst.lt)) (by kernel_rfl))) ⟨hV.upd (fun _ h => Option.some.inj h), Ph2.keep hj hk (by decide) (by decide) (hX.grow (Below.refl _ _) (by decide) (by decide) _)⟩
    · intro l vs X A hA ⟨hV, hS⟩ hl hd hcl
      have hj := notYet (k := 6) hcl (by kernel_rfl) hl
      have hk := notYet (k := 7) hcl (by kernel_rfl) hl
      have hX := hS.1 hj
      have hB := hX.below
      have a8 := eval_new hA 8 2 (by kernel_rfl) (by kernel_rfl) (by kernel_rfl) (hd 2 (by kernel_rfl)) (hV 2 _ (hd 2 (by kernel_rfl)) rfl)
      have aF0 : A.eval (.func 46) = .func (.func 46) #[] #[] := rfl
      refine show_call (f := 46) (args := #[.agg (stA i c k)]) ?_ (src_ok i c k s X hsrc hsn hs0) ?_
      · generalize A.eval = ρ at *
        clear hA hl hd hcl hV hS
        go_simp
      · rintro e X' ⟨rfl, hB1⟩
        exact .inl ⟨_, rfl, hV.upd (fun _ h => Option.some.inj h), Ph2.keep hj hk (by decide) (by decide) (hX.grow hB1 (by decide) (by decide) _)⟩
    · intro l vs X A hA ⟨hV, hS⟩ hl hd hcl
      have hj := notYet (k := 6) hcl (by kernel_rfl) hl
      have hk := notYet (k := 7) hcl (by kernel_rfl) hl
      have hX := hS.1 hj
      have hB := hX.below
      refine show_value (v := .pointer (some ⟨X.heap.size, 0, none⟩)) (X' := X.alloc (.cells noR.a 40)) ?_ ⟨hV.upd (fun _ h => by cases h), Ph2.keep hj hk (by decide) (by decide) (hX.mkFst (by decide))⟩
      generalize A.eval = ρ at *
      clear hA hl hd hcl hV hS
      rfl
    · intro l vs X A hA ⟨hV, hS⟩ hl hd hcl
      have hj := notYet (k := 6) hcl (by kernel_rfl) hl
      have hk := notYet (k := 7) hcl (by kernel_rfl) hl
      have hX := hS.1 hj
      have hB := hX.below
      refine show_value (v := .pointer (some ⟨X.heap.size, 0, none⟩)) (X' := X.alloc (.cells noR.a 40)) ?_ ⟨hV.upd (fun _ h => by cases h), Ph2.keep hj hk (by decide) (by decide) (hX.mkSnd (by decide))⟩
      generalize A.eval = ρ at *
      clear hA hl hd hcl hV hS
      rfl
    · intro l vs X A hA ⟨hV, hS⟩ hl hd hcl
      have hk := notYet (k := 7) hcl (by kernel_rfl) hl
      have hX := hS.1 hl
      have a4 := eval_new hA 4 4 (by kernel_rfl) (by kernel_rfl) (by kernel_rfl) (hd 4 (by kernel_rfl)) (rfl : vs 4 = vs 4)
      have a7 := eval_new hA 7 1 (by kernel_rfl) (by kernel_rfl) (by kernel_rfl) (hd 1 (by kernel_rfl)) (hV 1 _ (hd 1 (by kernel_rfl)) rfl)
      obtain ⟨b, hb, hH, hT⟩ := (hX.both (hd 4 (by kernel_rfl)) (hd 5 (by kernel_rfl))).setFst (x' := (k.r d).a)
      rw [hb] at a4
      refine show_skip (run_st_row 40 _ _ rfl b _ _ _ a4 a7 hH (by kernel_rfl) (by kernel_rfl) (Rg.a_one _)) ⟨hV.upd (fun _ h => by cases h), Ph2.mid hk (by decide) ?_⟩
      exact hT
    · intro l vs X A hA ⟨hV, hS⟩ hl hd hcl
      have hX := hS.2.1 (hd 6 (by kernel_rfl)) hl
      have a5 := eval_new hA 5 5 (by kernel_rfl) (by kernel_rfl) (by kernel_rfl) (hd 5 (by kernel_rfl)) (rfl : vs 5 = vs 5)
      have a9 := eval_new hA 9 3 (by kernel_rfl) (by kernel_rfl) (by kernel_rfl) (hd 3 (by kernel_rfl)) (hV 3 _ (hd 3 (by kernel_rfl)) rfl)
      obtain ⟨b, hb, hH, hT⟩ := hX.setSnd (y' := (k.r s).a)
      rw [hb] at a5
      refine show_skip (run_st_row 40 _ _ rfl b _ _ _ a5 a9 hH (by kernel_rfl) (by kernel_rfl) (Rg.a_one _)) ⟨hV.upd (fun _ h => by cases h), Ph2.last (hd 6 (by kernel_rfl)) ?_⟩
      exact hT
  case hend =>
    intro l vs X hl ⟨hV, hS⟩
    have hX := hS.2.2 (hl 7 (by decide))
    have v0 := hV 0 _ (hl 0 (by decide)) rfl
    have v1 := hV 1 _ (hl 1 (by decide)) rfl
    have v2 := hV 2 _ (hl 2 (by decide)) rfl
    have v3 := hV 3 _ (hl 3 (by decide)) rfl
    clear hV hS hl
    obtain ⟨b6, b7, u6, u7, g6, g7, hne, hb6, hb7, hB9⟩ := hX
    simp only [canonL, if_true, v0, v1, v2, v3, u6, u7]
    clear v0 v1 v2 v3 u6 u7
    go_simp
    have hJ : JW w i c k (noK) (noK) b6 b7 (k.r d) (k.r s) X := ⟨hst.below hB9 hst.lt, h3.below hB9 h3.lt, h4.below hB9 h4.lt, hb6, hb7, hB0.trans (hB9.mono hB0.size), by have := HZ.out; omega, by have := HZ.out; omega⟩
    obtain ⟨W1, hren⟩ : ∃ Z, Z = X := ⟨_, rfl⟩
    subst hren
    clear hst h3 h4 hb6 hb7 hB9 g6 g7 hB0 HZ
    have hz1 := hJ.size
    go_upto_region 2 with fail
    have c1 : W1.cell? ⟨w.heap.size, 1, none⟩ = some (.int .i64 (d : Int)) := by rw [← hdst]; exact hJ.st.cell 1
    have c2 : W1.cell? ⟨w.heap.size, 2, none⟩ = some (.int .i64 (s : Int)) := by rw [← hsrc]; exact hJ.st.cell 2
    have hq : ((d : Int) == (s : Int)) = false := by simp; omega
    clear hds
    go_upto_region 4 with fail
    clear c1 c2 hq
    have HA : Hid (((k.r d).least < (k.r s).great)) := ha
    have HBB : Hid (((k.r s).least ≤ (k.r d).great)) := hb
    clear ha hb
    have c1 : W1.cell? ⟨b6, 1, none⟩ = some (.int .u32 ((k.r d).least : Int)) := hJ.d.cell 1
    have c2 : W1.cell? ⟨b7, 2, none⟩ = some (.int .u32 ((k.r s).great : Int)) := hJ.o.cell 2
    have ha' : (((k.r d).least : Int) < ((k.r s).great : Int)) := by have := HA.out; omega
    go_upto_region 5 with fail
    clear c1 c2 ha'
    refine wp_region_inv (Φ := fun l vs X => Vals (fun q => match q with | 0 => some (.agg (stA i c k)) | 1 => some ((k.r d).v) | 2 => some (.pointer (some ⟨b7, 2, none⟩)) | 3 => some (.int .u32 ((k.r s).great : Int)) | 4 => some (.int .u32 (((k.r s).great - 1 : Nat) : Int)) | 5 => some ((atMostR (k.r d) ((k.r s).great - 1)).v) | 6 => some ((k.r s).v) | 7 => some (.pointer (some ⟨b6, 1, none⟩)) | 8 => some (.int .u32 ((k.r d).least : Int)) | 9 => some (.int .u32 (((k.r d).least + 1 : Nat) : Int)) | 10 => some ((atLeastR (k.r s) ((k.r d).least + 1)).v) | 11 => some (.agg ((k.set d (atMostR (k.r d) ((k.r s).great - 1))).set s (atLeastR (k.r s) ((k.r d).least + 1))).a) | _ => none) l vs ∧ Pre1 12 (Below W1.heap.size W1) (JW w i c k (noK) ((k.set d (atMostR (k.r d) ((k.r s).great - 1))).set s (atLeastR (k.r s) ((k.r d).least + 1))) b6 b7 (k.r d) (k.r s)) l X) (PQ := fun _ _ => False)
      (by kernel_rfl) (by kernel_rfl) (by kernel_rfl) (by kernel_rfl) ⟨Vals.none _ _, Pre1.start ((Below.refl _ _).drew)⟩ ?hop ?hend (fun _ _ _ _ h => h.elim)
    case hop =>
      refine ⟨?_, ?_, ?_, ?_, ?_, ?_, ?_, ?_, ?_, ?_, ?_, ?_, ?_, trivial⟩
      · intro l vs X A hA ⟨hV, hS⟩ hl hd hcl
        have hk := notYet (k := 12) hcl (by kernel_rfl) hl
        have hX := hS.1 hk
        have hB := hX
        have a1 := eval_old hA 1 (by kernel_rfl) rfl
        refine show_value (v := .agg (stA i c k)) (X' := X) (run_ld 82 _ rfl _ a1 (ld_row (l := stCells i c k) (has_whole (hJ.grow hB).st) (by kernel_rfl))) ⟨hV.upd (fun _ h => Option.some.inj h), Pre1.keep hk (by decide) (hX)⟩
      · intro l vs X A hA ⟨hV, hS⟩ hl hd hcl
        have hk := notYet (k := 12) hcl (by kernel_rfl) hl
        have hX := hS.1 hk
        have hB := hX
        have a4 := eval_old hA 4 (by kernel_rfl) rfl
        refine show_value (v := (k.r d).v) (X' := X) (run_ld 40 _ rfl _ a4 (ld_row (l := (k.r d).cells) (has_whole (hJ.grow hB).d) (by kernel_rfl))) ⟨hV.upd (fun _ h => Option.some.inj h), Pre1.keep hk (by decide) (hX)⟩
      · intro l vs X A hA ⟨hV, hS⟩ hl hd hcl
        have hk := notYet (k := 12) hcl (by kernel_rfl) hl
        have hX := hS.1 hk
        have hB := hX
        have a5 := eval_old hA 5 (by kernel_rfl) rfl
        refine show_value (v := .pointer (some ⟨b7, 2, none⟩)) (X' := X) ?_ ⟨hV.upd (fun _ h => Option.some.inj h), Pre1.keep hk (by decide) (hX)⟩
        generalize A.eval = ρ at *
        clear hA hl hd hcl hV hS
        go_simp
      · intro l vs X A hA ⟨hV, hS⟩ hl hd hcl
        have hk := notYet (k := 12) hcl (by kernel_rfl) hl
        have hX := hS.1 hk
        have hB := hX
        have a27 := eval_new hA 27 2 (by kernel_rfl) (by kernel_rfl) (by kernel_rfl) (hd 2 (by kernel_rfl)) (hV 2 _ (hd 2 (by kernel_rfl)) rfl)
        have hg := hJ.grow hB
        have cc : X.cell? ⟨b7, 2, none⟩ = some (.int .u32 ((k.r s).great : Int)) := hg.o.cell 2
        refine show_value (v := .int .u32 ((k.r s).great : Int)) (X' := X) ?_ ⟨hV.upd (fun _ h => Option.some.inj h), Pre1.keep hk (by decide) (hX)⟩
        clear hg
        generalize A.eval = ρ at *
        clear hA hl hd hcl hV hS
        go_simp
      · intro l vs X A hA ⟨hV, hS⟩ hl hd hcl
        have hk := notYet (k := 12) hcl (by kernel_rfl) hl
        have hX := hS.1 hk
        have hB := hX
        have a28 := eval_new hA 28 3 (by kernel_rfl) (by kernel_rfl) (by kernel_rfl) (hd 3 (by kernel_rfl)) (hV 3 _ (hd 3 (by kernel_rfl)) rfl)
        have aC0 : A.eval (.const (.int .u32 1)) = (.int .u32 1) := rfl
        have q1 : IntKind.u32.wrap (((k.r s).great : Int) - 1) = (((k.r s).great - 1 : Nat) : Int) := by have := HA.out; have := hok.least; have := hoks.great; rw [IntKind.wrap_u32]; omega
        refine show_value (v := .int .u32 (((k.r s).great - 1 : Nat) : Int)) (X' := X) ?_ ⟨hV.upd (fun _ h => Option.some.inj h), Pre1.keep hk (by decide) (hX)⟩
        clear hok hoks
        generalize (((k.r s).great - 1 : Nat) : Int) = z at *
        generalize A.eval = ρ at *
        clear hA hl hd hcl hV hS
        go_simp
      · intro l vs X A hA ⟨hV, hS⟩ hl hd hcl
        have hk := notYet (k := 12) hcl (by kernel_rfl) hl
        have hX := hS.1 hk
        have hB := hX
        have a26 := eval_new hA 26 1 (by kernel_rfl) (by kernel_rfl) (by kernel_rfl) (hd 1 (by kernel_rfl)) (hV 1 _ (hd 1 (by kernel_rfl)) rfl)
        have a29 := eval_new hA 29 4 (by kernel_rfl) (by kernel_rfl) (by kernel_rfl) (hd 4 (by kernel_rfl)) (hV 4 _ (hd 4 (by kernel_rfl)) rfl)
        have aF0 : A.eval (.func 90) = .func (.func 90) #[] #[] := rfl
        refine show_call (f := 90) (args := #[(k.r d).v, .int .u32 (((k.r s).great - 1 : Nat) : Int)]) ?_ (atMost_any (k.r d) ((k.r s).great - 1) hok X) ?_
        · generalize A.eval = ρ at *
          clear hA hl hd hcl hV hS
          go_simp
        · rintro e X' ⟨rfl, hB1⟩
          exact .inl ⟨_, rfl, hV.upd (fun _ h => Option.some.inj h), Pre1.keep hk (by decide) (hX.trans (hB1.mono hX.size))⟩
      · intro l vs X A hA ⟨hV, hS⟩ hl hd hcl
        have hk := notYet (k := 12) hcl (by kernel_rfl) hl
        have hX := hS.1 hk
        have hB := hX
        have a5 := eval_old hA 5 (by kernel_rfl) rfl
        refine show_value (v := (k.r s).v) (X' := X) (run_ld 40 _ rfl _ a5 (ld_row (l := (k.r s).cells) (has_whole (hJ.grow hB).o) (by kernel_rfl))) ⟨hV.upd (fun _ h => Option.some.inj h), Pre1.keep hk (by decide) (hX)⟩
      · intro l vs X A hA ⟨hV, hS⟩ hl hd hcl
        have hk := notYet (k := 12) hcl (by kernel_rfl) hl
        have hX := hS.1 hk
        have hB := hX
        have a4 := eval_old hA 4 (by kernel_rfl) rfl
        refine show_value (v := .pointer (some ⟨b6, 1, none⟩)) (X' := X) ?_ ⟨hV.upd (fun _ h => Option.some.inj h), Pre1.keep hk (by decide) (hX)⟩
        generalize A.eval = ρ at *
        clear hA hl hd hcl hV hS
        go_simp
      · intro l vs X A hA ⟨hV, hS⟩ hl hd hcl
        have hk := notYet (k := 12) hcl (by kernel_rfl) hl
        have hX := hS.1 hk
        have hB := hX
        have a32 := eval_new hA 32 7 (by kernel_rfl) (by kernel_rfl) (by kernel_rfl) (hd 7 (by kernel_rfl)) (hV 7 _ (hd 7 (by kernel_rfl)) rfl)
        have hg := hJ.grow hB
        have cc : X.cell? ⟨b6, 1, none⟩ = some (.int .u32 ((k.r d).least : Int)) := hg.d.cell 1
        refine show_value (v := .int .u32 ((k.r d).least : Int)) (X' := X) ?_ ⟨hV.upd (fun _ h => Option.some.inj h), Pre1.keep hk (by decide) (hX)⟩
        clear hg
        generalize A.eval = ρ at *
        clear hA hl hd hcl hV hS
        go_simp
      · intro l vs X A hA ⟨hV, hS⟩ hl hd hcl
        have hk := notYet (k := 12) hcl (by kernel_rfl) hl
        have hX := hS.1 hk
        have hB := hX
        have a33 := eval_new hA 33 8 (by kernel_rfl) (by kernel_rfl) (by kernel_rfl) (hd 8 (by kernel_rfl)) (hV 8 _ (hd 8 (by kernel_rfl)) rfl)
        have aC0 : A.eval (.const (.int .u32 1)) = (.int .u32 1) := rfl
        have q1 : IntKind.u32.wrap (((k.r d).least : Int) + 1) = (((k.r d).least + 1 : Nat) : Int) := by have := HA.out; have := hok.least; have := hoks.great; rw [IntKind.wrap_u32]; omega
        refine show_value (v := .int .u32 (((k.r d).least + 1 : Nat) : Int)) (X' := X) ?_ ⟨hV.upd (fun _ h => Option.some.inj h), Pre1.keep hk (by decide) (hX)⟩
        clear hok hoks
        generalize (((k.r d).least + 1 : Nat) : Int) = z at *
        generalize A.eval = ρ at *
        clear hA hl hd hcl hV hS
        go_simp
      · intro l vs X A hA ⟨hV, hS⟩ hl hd hcl
        have hk := notYet (k := 12) hcl (by kernel_rfl) hl
        have hX := hS.1 hk
        have hB := hX
        have a31 := eval_new hA 31 6 (by kernel_rfl) (by kernel_rfl) (by kernel_rfl) (hd 6 (by kernel_rfl)) (hV 6 _ (hd 6 (by kernel_rfl)) rfl)
        have a34 := eval_new hA 34 9 (by kernel_rfl) (by kernel_rfl) (by kernel_rfl) (hd 9 (by kernel_rfl)) (hV 9 _ (hd 9 (by kernel_rfl)) rfl)
        have aF0 : A.eval (.func 91) = .func (.func 91) #[] #[] := rfl
        refine show_call (f := 91) (args := #[(k.r s).v, .int .u32 (((k.r d).least + 1 : Nat) : Int)]) ?_ (atLeast_any (k.r s) ((k.r d).least + 1) hoks X) ?_
        · generalize A.eval = ρ at *
          clear hA hl hd hcl hV hS
          go_simp
        · rintro e X' ⟨rfl, hB1⟩
          exact .inl ⟨_, rfl, hV.upd (fun _ h => Option.some.inj h), Pre1.keep hk (by decide) (hX.trans (hB1.mono hX.size))⟩
      · intro l vs X A hA ⟨hV, hS⟩ hl hd hcl
        have hk := notYet (k := 12) hcl (by kernel_rfl) hl
        have hX := hS.1 hk
        have hB := hX
        have a25 := eval_new hA 25 0 (by kernel_rfl) (by kernel_rfl) (by kernel_rfl) (hd 0 (by kernel_rfl)) (hV 0 _ (hd 0 (by kernel_rfl)) rfl)
        have a30 := eval_new hA 30 5 (by kernel_rfl) (by kernel_rfl) (by kernel_rfl) (hd 5 (by kernel_rfl)) (hV 5 _ (hd 5 (by kernel_rfl)) rfl)
        have a35 := eval_new hA 35 10 (by kernel_rfl) (by kernel_rfl) (by kernel_rfl) (hd 10 (by kernel_rfl)) (hV 10 _ (hd 10 (by kernel_rfl)) rfl)
        have aF0 : A.eval (.func 92) = .func (.func 92) #[] #[] := rfl
        refine show_call (f := 92) (args := #[.agg (stA i c k), (atMostR (k.r d) ((k.r s).great - 1)).v, (atLeastR (k.r s) ((k.r d).least + 1)).v]) ?_ (both_any i c k d s (atMostR (k.r d) ((k.r s).great - 1)) (atLeastR (k.r s) ((k.r d).least + 1)) X hdst hdn hsrc hsn) ?_
        · generalize A.eval = ρ at *
          clear hA hl hd hcl hV hS
          go_simp
        · rintro e X' ⟨rfl, hB1⟩
          exact .inl ⟨_, rfl, hV.upd (fun _ h => Option.some.inj h), Pre1.keep hk (by decide) (hX.trans (hB1.mono hX.size))⟩
      · intro l vs X A hA ⟨hV, hS⟩ hl hd hcl
        have hX := hS.1 hl
        have hB := hX
        have a3 := eval_old hA 3 (by kernel_rfl) rfl
        have a36 := eval_new hA 36 11 (by kernel_rfl) (by kernel_rfl) (by kernel_rfl) (hd 11 (by kernel_rfl)) (hV 11 _ (hd 11 (by kernel_rfl)) rfl)
        have hg := hJ.grow hX
        refine show_skip (X' := X.setRow (w.heap.size + 2) ((k.set d (atMostR (k.r d) ((k.r s).great - 1))).set s (atLeastR (k.r s) ((k.r d).least + 1))).a) (run_st_row 43 _ _ rfl (w.heap.size + 2) _ _ _ a3 a36 hg.j (by kernel_rfl) (by kernel_rfl) (Kn.a_one _)) ⟨hV.upd (fun _ h => by cases h), Pre1.last (hg.setJ _)⟩
    case hend =>
      intro l vs X hl ⟨hV, hS⟩
      have hX := hS.2 (hl 12 (by decide))
      have v0 := hV 0 _ (hl 0 (by decide)) rfl
      have v1 := hV 1 _ (hl 1 (by decide)) rfl
      have v2 := hV 2 _ (hl 2 (by decide)) rfl
      have v3 := hV 3 _ (hl 3 (by decide)) rfl
      have v4 := hV 4 _ (hl 4 (by decide)) rfl
      have v5 := hV 5 _ (hl 5 (by decide)) rfl
      have v6 := hV 6 _ (hl 6 (by decide)) rfl
      have v7 := hV 7 _ (hl 7 (by decide)) rfl
      have v8 := hV 8 _ (hl 8 (by decide)) rfl
      have v9 := hV 9 _ (hl 9 (by decide)) rfl
      have v10 := hV 10 _ (hl 10 (by decide)) rfl
      have v11 := hV 11 _ (hl 11 (by decide)) rfl
      clear hV hS hl
      simp only [canonL, if_true, v0, v1, v2, v3, v4, v5, v6, v7, v8, v9, v10, v11]
      clear v0 v1 v2 v3 v4 v5 v6 v7 v8 v9 v10 v11
      go_simp
      clear hJ
      have hJ := hX
      clear hX
      obtain ⟨W2, hren⟩ : ∃ Z, Z = X := ⟨_, rfl⟩
      subst hren
      have hz2 := hJ.size
      go_upto_region 6 with fail
      have c1 : W2.cell? ⟨b6, 2, none⟩ = some (.int .u32 ((k.r d).great : Int)) := hJ.d.cell 2
      have c2 : W2.cell? ⟨b7, 1, none⟩ = some (.int .u32 ((k.r s).least : Int)) := hJ.o.cell 1
      have hb' : (((k.r s).least : Int) ≤ ((k.r d).great : Int)) := by have := HBB.out; omega
      go_upto_region 7 with fail
      clear c1 c2 hb'
      refine wp_region_inv (Φ := fun l vs X => Vals (fun q => match q with | 0 => some (.agg (stA i c k)) | 1 => some ((k.r d).v) | 2 => some (.pointer (some ⟨b7, 1, none⟩)) | 3 => some (.int .u32 ((k.r s).least : Int)) | 4 => some ((atLeastR (k.r d) (k.r s).least).v) | 5 => some ((k.r s).v) | 6 => some (.pointer (some ⟨b6, 2, none⟩)) | 7 => some (.int .u32 ((k.r d).great : Int)) | 8 => some ((atMostR (k.r s) (k.r d).great).v) | 9 => some (.agg ((k.set d (atLeastR (k.r d) (k.r s).least)).set s (atMostR (k.r s) (k.r d).great)).a) | _ => none) l vs ∧ Pre1 10 (Below W2.heap.size W2) (JW w i c k ((k.set d (atLeastR (k.r d) (k.r s).least)).set s (atMostR (k.r s) (k.r d).great)) ((k.set d (atMostR (k.r d) ((k.r s).great - 1))).set s (atLeastR (k.r s) ((k.r d).least + 1))) b6 b7 (k.r d) (k.r s)) l X) (PQ := fun _ _ => False)
        (by kernel_rfl) (by kernel_rfl) (by kernel_rfl) (by kernel_rfl) ⟨Vals.none _ _, Pre1.start ((Below.refl _ _).drew)⟩ ?hop ?hend (fun _ _ _ _ h => h.elim)
      case hop =>
        refine ⟨?_, ?_, ?_, ?_, ?_, ?_, ?_, ?_, ?_, ?_, ?_, trivial⟩
        · intro l vs X A hA ⟨hV, hS⟩ hl hd hcl
          have hk := notYet (k := 10) hcl (by kernel_rfl) hl
          have hX := hS.1 hk
          have hB := hX
          have a1 := eval_old hA 1 (by kernel_rfl) rfl
          refine show_value (v := .agg (stA i c k)) (X' := X) (run_ld 82 _ rfl _ a1 (ld_row (l := stCells i c k) (has_whole (hJ.grow hB).st) (by kernel_rfl))) ⟨hV.upd (fun _ h => Option.some.inj h), Pre1.keep hk (by decide) (hX)⟩
        · intro l vs X A hA ⟨hV, hS⟩ hl hd hcl
          have hk := notYet (k := 10) hcl (by kernel_rfl) hl
          have hX := hS.1 hk
          have hB := hX
          have a4 := eval_old hA 4 (by kernel_rfl) rfl
          refine show_value (v := (k.r d).v) (X' := X) (run_ld 40 _ rfl _ a4 (ld_row (l := (k.r d).cells) (has_whole (hJ.grow hB).d) (by kernel_rfl))) ⟨hV.upd (fun _ h => Option.some.inj h), Pre1.keep hk (by decide) (hX)⟩
        · intro l vs X A hA ⟨hV, hS⟩ hl hd hcl
          have hk := notYet (k := 10) hcl (by kernel_rfl) hl
          have hX := hS.1 hk
          have hB := hX
          have a5 := eval_old hA 5 (by kernel_rfl) rfl
          refine show_value (v := .pointer (some ⟨b7, 1, none⟩)) (X' := X) ?_ ⟨hV.upd (fun _ h => Option.some.inj h), Pre1.keep hk (by decide) (hX)⟩
          generalize A.eval = ρ at *
          clear hA hl hd hcl hV hS
          go_simp
        · intro l vs X A hA ⟨hV, hS⟩ hl hd hcl
          have hk := notYet (k := 10) hcl (by kernel_rfl) hl
          have hX := hS.1 hk
          have hB := hX
          have a44 := eval_new hA 44 2 (by kernel_rfl) (by kernel_rfl) (by kernel_rfl) (hd 2 (by kernel_rfl)) (hV 2 _ (hd 2 (by kernel_rfl)) rfl)
          have hg := hJ.grow hB
          have cc : X.cell? ⟨b7, 1, none⟩ = some (.int .u32 ((k.r s).least : Int)) := hg.o.cell 1
          refine show_value (v := .int .u32 ((k.r s).least : Int)) (X' := X) ?_ ⟨hV.upd (fun _ h => Option.some.inj h), Pre1.keep hk (by decide) (hX)⟩
          clear hg
          generalize A.eval = ρ at *
          clear hA hl hd hcl hV hS
          go_simp
        · intro l vs X A hA ⟨hV, hS⟩ hl hd hcl
          have hk := notYet (k := 10) hcl (by kernel_rfl) hl
          have hX := hS.1 hk
          have hB := hX
          have a43 := eval_new hA 43 1 (by kernel_rfl) (by kernel_rfl) (by kernel_rfl) (hd 1 (by kernel_rfl)) (hV 1 _ (hd 1 (by kernel_rfl)) rfl)
          have a45 := eval_new hA 45 3 (by kernel_rfl) (by kernel_rfl) (by kernel_rfl) (hd 3 (by kernel_rfl)) (hV 3 _ (hd 3 (by kernel_rfl)) rfl)
          have aF0 : A.eval (.func 91) = .func (.func 91) #[] #[] := rfl
          refine show_call (f := 91) (args := #[(k.r d).v, .int .u32 ((k.r s).least : Int)]) ?_ (atLeast_any (k.r d) (k.r s).least hok X) ?_
          · generalize A.eval = ρ at *
            clear hA hl hd hcl hV hS
            go_simp
          · rintro e X' ⟨rfl, hB1⟩
            exact .inl ⟨_, rfl, hV.upd (fun _ h => Option.some.inj h), Pre1.keep hk (by decide) (hX.trans (hB1.mono hX.size))⟩
        · intro l vs X A hA ⟨hV, hS⟩ hl hd hcl
          have hk := notYet (k := 10) hcl (by kernel_rfl) hl
          have hX := hS.1 hk
          have hB := hX
          have a5 := eval_old hA 5 (by kernel_rfl) rfl
          refine show_value (v := (k.r s).v) (X' := X) (run_ld 40 _ rfl _ a5 (ld_row (l := (k.r s).cells) (has_whole (hJ.grow hB).o) (by kernel_rfl))) ⟨hV.upd (fun _ h => Option.some.inj h), Pre1.keep hk (by decide) (hX)⟩
        · intro l vs X A hA ⟨hV, hS⟩ hl hd hcl
          have hk := notYet (k := 10) hcl (by kernel_rfl) hl
          have hX := hS.1 hk
          have hB := hX
          have a4 := eval_old hA 4 (by kernel_rfl) rfl
          refine show_value (v := .pointer (some ⟨b6, 2, none⟩)) (X' := X) ?_ ⟨hV.upd (fun _ h => Option.some.inj h), Pre1.keep hk (by decide) (hX)⟩
          generalize A.eval = ρ at *
          clear hA hl hd hcl hV hS
          go_simp
        · intro l vs X A hA ⟨hV, hS⟩ hl hd hcl
          have hk := notYet (k := 10) hcl (by kernel_rfl) hl
          have hX := hS.1 hk
          have hB := hX
          have a48 := eval_new hA 48 6 (by kernel_rfl) (by kernel_rfl) (by kernel_rfl) (hd 6 (by kernel_rfl)) (hV 6 _ (hd 6 (by kernel_rfl)) rfl)
          have hg := hJ.grow hB
          have cc : X.cell? ⟨b6, 2, none⟩ = some (.int .u32 ((k.r d).great : Int)) := hg.d.cell 2
          refine show_value (v := .int .u32 ((k.r d).great : Int)) (X' := X) ?_ ⟨hV.upd (fun _ h => Option.some.inj h), Pre1.keep hk (by decide) (hX)⟩
          clear hg
          generalize A.eval = ρ at *
          clear hA hl hd hcl hV hS
          go_simp
        · intro l vs X A hA ⟨hV, hS⟩ hl hd hcl
          have hk := notYet (k := 10) hcl (by kernel_rfl) hl
          have hX := hS.1 hk
          have hB := hX
          have a47 := eval_new hA 47 5 (by kernel_rfl) (by kernel_rfl) (by kernel_rfl) (hd 5 (by kernel_rfl)) (hV 5 _ (hd 5 (by kernel_rfl)) rfl)
          have a49 := eval_new hA 49 7 (by kernel_rfl) (by kernel_rfl) (by kernel_rfl) (hd 7 (by kernel_rfl)) (hV 7 _ (hd 7 (by kernel_rfl)) rfl)
          have aF0 : A.eval (.func 90) = .func (.func 90) #[] #[] := rfl
          refine show_call (f := 90) (args := #[(k.r s).v, .int .u32 ((k.r d).great : Int)]) ?_ (atMost_any (k.r s) (k.r d).great hoks X) ?_
          · generalize A.eval = ρ at *
            clear hA hl hd hcl hV hS
            go_simp
          · rintro e X' ⟨rfl, hB1⟩
            exact .inl ⟨_, rfl, hV.upd (fun _ h => Option.some.inj h), Pre1.keep hk (by decide) (hX.trans (hB1.mono hX.size))⟩
        · intro l vs X A hA ⟨hV, hS⟩ hl hd hcl
          have hk := notYet (k := 10) hcl (by kernel_rfl) hl
          have hX := hS.1 hk
          have hB := hX
          have a42 := eval_new hA 42 0 (by kernel_rfl) (by kernel_rfl) (by kernel_rfl) (hd 0 (by kernel_rfl)) (hV 0 _ (hd 0 (by kernel_rfl)) rfl)
          have a46 := eval_new hA 46 4 (by kernel_rfl) (by kernel_rfl) (by kernel_rfl) (hd 4 (by kernel_rfl)) (hV 4 _ (hd 4 (by kernel_rfl)) rfl)
          have a50 := eval_new hA 50 8 (by kernel_rfl) (by kernel_rfl) (by kernel_rfl) (hd 8 (by kernel_rfl)) (hV 8 _ (hd 8 (by kernel_rfl)) rfl)
          have aF0 : A.eval (.func 92) = .func (.func 92) #[] #[] := rfl
          refine show_call (f := 92) (args := #[.agg (stA i c k), (atLeastR (k.r d) (k.r s).least).v, (atMostR (k.r s) (k.r d).great).v]) ?_ (both_any i c k d s (atLeastR (k.r d) (k.r s).least) (atMostR (k.r s) (k.r d).great) X hdst hdn hsrc hsn) ?_
          · generalize A.eval = ρ at *
            clear hA hl hd hcl hV hS
            go_simp
          · rintro e X' ⟨rfl, hB1⟩
            exact .inl ⟨_, rfl, hV.upd (fun _ h => Option.some.inj h), Pre1.keep hk (by decide) (hX.trans (hB1.mono hX.size))⟩
        · intro l vs X A hA ⟨hV, hS⟩ hl hd hcl
          have hX := hS.1 hl
          have hB := hX
          have a2 := eval_old hA 2 (by kernel_rfl) rfl
          have a51 := eval_new hA 51 9 (by kernel_rfl) (by kernel_rfl) (by kernel_rfl) (hd 9 (by kernel_rfl)) (hV 9 _ (hd 9 (by kernel_rfl)) rfl)
          have hg := hJ.grow hX
          refine show_skip (X' := X.setRow (w.heap.size + 1) ((k.set d (atLeastR (k.r d) (k.r s).least)).set s (atMostR (k.r s) (k.r d).great)).a) (run_st_row 43 _ _ rfl (w.heap.size + 1) _ _ _ a2 a51 hg.n (by kernel_rfl) (by kernel_rfl) (Kn.a_one _)) ⟨hV.upd (fun _ h => by cases h), Pre1.last (hg.setN _)⟩
      case hend =>
        intro l vs X hl ⟨hV, hS⟩
        have hX := hS.2 (hl 10 (by decide))
        have v0 := hV 0 _ (hl 0 (by decide)) rfl
        have v1 := hV 1 _ (hl 1 (by decide)) rfl
        have v2 := hV 2 _ (hl 2 (by decide)) rfl
        have v3 := hV 3 _ (hl 3 (by decide)) rfl
        have v4 := hV 4 _ (hl 4 (by decide)) rfl
        have v5 := hV 5 _ (hl 5 (by decide)) rfl
        have v6 := hV 6 _ (hl 6 (by decide)) rfl
        have v7 := hV 7 _ (hl 7 (by decide)) rfl
        have v8 := hV 8 _ (hl 8 (by decide)) rfl
        have v9 := hV 9 _ (hl 9 (by decide)) rfl
        clear hV hS hl
        simp only [canonL, if_true, v0, v1, v2, v3, v4, v5, v6, v7, v8, v9]
        clear v0 v1 v2 v3 v4 v5 v6 v7 v8 v9
        go_simp
        clear hJ
        have hJ := hX
        clear hX
        obtain ⟨W5, hren⟩ : ∃ Z, Z = X := ⟨_, rfl⟩
        subst hren
        have hz5 := hJ.size
        go_upto_region 8 with fail
        refine wp_region_inv (Φ := fun l vs X => Vals (fun q => match q with | 0 => some (.agg ((k.set d (atLeastR (k.r d) (k.r s).least)).set s (atMostR (k.r s) (k.r d).great)).a) | 1 => some (.agg ((k.set d (atMostR (k.r d) ((k.r s).great - 1))).set s (atLeastR (k.r s) ((k.r d).least + 1))).a) | _ => none) l vs ∧ Pre2 2 3 (Below W5.heap.size W5) (JW w i c k ((k.set d (atLeastR (k.r d) (k.r s).least)).set s (atMostR (k.r s) (k.r d).great)) ((k.set d (atMostR (k.r d) ((k.r s).great - 1))).set s (atLeastR (k.r s) ((k.r d).least + 1))) b6 b7 (k.r d) (k.r s)) (JW w i c k ((k.set d (atLeastR (k.r d) (k.r s).least)).set s (atMostR (k.r s) (k.r d).great)) ((k.set d (atMostR (k.r d) ((k.r s).great - 1))).set s (atLeastR (k.r s) ((k.r d).least + 1))) b6 b7 (k.r d) (k.r s)) l X) (PQ := fun _ _ => False)
          (by kernel_rfl) (by kernel_rfl) (by kernel_rfl) (by kernel_rfl) ⟨Vals.none _ _, Pre2.start ((Below.refl _ _).drew)⟩ ?hop ?hend (fun _ _ _ _ h => h.elim)
        case hop =>
          refine ⟨?_, ?_, ?_, ?_, trivial⟩
          · intro l vs X A hA ⟨hV, hS⟩ hl hd hcl
            have hj := notYet (k := 2) hcl (by kernel_rfl) hl
            have hk := notYet (k := 3) hcl (by kernel_rfl) hl
            have hX := hS.1 hj
            have hB := hX
            have a2 := eval_old hA 2 (by kernel_rfl) rfl
            refine show_value (v := .agg ((k.set d (atLeastR (k.r d) (k.r s).least)).set s (atMostR (k.r s) (k.r d).great)).a) (X' := X) (run_ld 43 _ rfl _ a2 (ld_row (l := ((k.set d (atLeastR (k.r d) (k.r s).least)).set s (atMostR (k.r s) (k.r d).great)).cells) (has_whole (hJ.grow hB).n) (by kernel_rfl))) ⟨hV.upd (fun _ h => Option.some.inj h), Pre2.keep hj hk (by decide) (by decide) (hX)⟩
          · intro l vs X A hA ⟨hV, hS⟩ hl hd hcl
            have hk := notYet (k := 3) hcl (by kernel_rfl) hl
            have a3 := eval_old hA 3 (by kernel_rfl) rfl
            cases hj : l 2 with
            | true =>
              have hX := hS.2.1 hj hk
              exact show_value (v := .agg ((k.set d (atMostR (k.r d) ((k.r s).great - 1))).set s (atLeastR (k.r s) ((k.r d).least + 1))).a) (X' := X) (run_ld 43 _ rfl _ a3 (ld_row (l := ((k.set d (atMostR (k.r d) ((k.r s).great - 1))).set s (atLeastR (k.r s) ((k.r d).least + 1))).cells) (has_whole hX.j) (by kernel_rfl))) ⟨hV.upd (fun _ h => Option.some.inj h), Pre2.keepMid hj hk (by decide) (by decide) hX⟩
            | false =>
              have hX := hS.1 hj
              have hB := hX
              exact show_value (v := .agg ((k.set d (atMostR (k.r d) ((k.r s).great - 1))).set s (atLeastR (k.r s) ((k.r d).least + 1))).a) (X' := X) (run_ld 43 _ rfl _ a3 (ld_row (l := ((k.set d (atMostR (k.r d) ((k.r s).great - 1))).set s (atLeastR (k.r s) ((k.r d).least + 1))).cells) (has_whole (hJ.grow hB).j) (by kernel_rfl))) ⟨hV.upd (fun _ h => Option.some.inj h), Pre2.keep hj hk (by decide) (by decide) hX⟩
          · intro l vs X A hA ⟨hV, hS⟩ hl hd hcl
            have hk := notYet (k := 3) hcl (by kernel_rfl) hl
            have hX := hS.1 hl
            have a2 := eval_old hA 2 (by kernel_rfl) rfl
            have a52 := eval_new hA 52 0 (by kernel_rfl) (by kernel_rfl) (by kernel_rfl) (hd 0 (by kernel_rfl)) (hV 0 _ (hd 0 (by kernel_rfl)) rfl)
            have hg := hJ.grow hX
            refine show_skip (X' := X.setRow (w.heap.size + 1) ((k.set d (atLeastR (k.r d) (k.r s).least)).set s (atMostR (k.r s) (k.r d).great)).a) (run_st_row 43 _ _ rfl (w.heap.size + 1) _ _ _ a2 a52 hg.n (by kernel_rfl) (by kernel_rfl) (Kn.a_one _)) ⟨hV.upd (fun _ h => by cases h), Pre2.mid hk (by decide) (hg.setN _)⟩
          · intro l vs X A hA ⟨hV, hS⟩ hl hd hcl
            have hX := hS.2.1 (hd 2 (by kernel_rfl)) hl
            have a3 := eval_old hA 3 (by kernel_rfl) rfl
            have a53 := eval_new hA 53 1 (by kernel_rfl) (by kernel_rfl) (by kernel_rfl) (hd 1 (by kernel_rfl)) (hV 1 _ (hd 1 (by kernel_rfl)) rfl)
            refine show_skip (X' := X.setRow (w.heap.size + 2) ((k.set d (atMostR (k.r d) ((k.r s).great - 1))).set s (atLeastR (k.r s) ((k.r d).least + 1))).a) (run_st_row 43 _ _ rfl (w.heap.size + 2) _ _ _ a3 a53 hX.j (by kernel_rfl) (by kernel_rfl) (Kn.a_one _)) ⟨hV.upd (fun _ h => by cases h), Pre2.last (hd 2 (by kernel_rfl)) (hX.setJ _)⟩
        case hend =>
          intro l vs X hl ⟨hV, hS⟩
          have hX := hS.2.2 (hl 3 (by decide))
          have v0 := hV 0 _ (hl 0 (by decide)) rfl
          have v1 := hV 1 _ (hl 1 (by decide)) rfl
          clear hV hS hl
          simp only [canonL, if_true, v0, v1]
          clear v0 v1
          go_simp
          go_wp2_with fail
          refine bodyPost_ret (results_rows2 rfl _ _ (w.heap.size + 1) (w.heap.size + 2) 43 _ _ _ rfl rfl hX.n hX.j Tryd.underlying43 rfl (by kernel_rfl) (by kernel_rfl)) rfl ?_
          exact ⟨rfl, hX.below⟩
end Go.Proofs.YtodkehpldlmgaaaDoor
/- jlt, by one way. -/
namespace Go.Proofs.YtodkehpldlmgaaaDoor
open Go.RowKit
set_option maxRecDepth 10000 in
set_option maxHeartbeats 2000000 in
theorem jlt_10 (i : Ins) (c : Int) (k : Kn) (d s : Nat) (w : World) (hdst : i.dst = (d : Int)) (hdn : d < 10) (hsrc : i.src = (s : Int)) (hsn : s < 10) (hk0 : k.r d ≠ noR) (hs0 : k.r s ≠ noR) (hds : d ≠ s) (hok : (k.r d).Ok) (hoks : (k.r s).Ok) (ha : (k.r d).least < (k.r s).great) (hb : ¬ (k.r s).least ≤ (k.r d).great) :
    Calls Tryd.prog 63 #[.agg (stA i c k)] w fun e w' => e = .returned (two (noK) ((k.set d (atMostR (k.r d) ((k.r s).great - 1))).set s (atLeastR (k.r s) ((k.r d).least + 1)))) ∧ Below w.heap.size w w' := by
  obtain ⟨W0, hW0⟩ : ∃ W0, W0 = ((w.alloc (.cells (stA i c k) 82)).alloc (.cells noK.a 43)).alloc (.cells noK.a 43) := ⟨_, rfl⟩
  obtain ⟨hst, h3, h4, hB0, hz0⟩ := ways_world i c k w W0 hW0
  have HZ : Hid (W0.heap.size = w.heap.size + 3) := hz0
  clear hz0
  go_enter Tryd.func63, Tryd.ntmps63
  go_upto_region 1 with fail
  refine named2 (p := fun X => Code.wp _ _ _ _ X) ?_
  intro W9 hW9
  have hW : W0 = W9 := hW0.trans hW9.symm
  subst hW
  clear hW9 hW0
  refine wp_region_inv (Φ := fun l vs X => Vals (fun q => match q with | 0 => some (.agg (stA i c k)) | 1 => some ((k.r d).v) | 2 => some (.agg (stA i c k)) | 3 => some ((k.r s).v) | _ => none) l vs ∧ Ph2 6 7 (Two W0.heap.size 40 noR.a W0 4 5) (fun vs X => Both W0.heap.size 40 (k.r d).a noR.a W0 (vs 4) (vs 5) X) (fun vs X => Both W0.heap.size 40 (k.r d).a (k.r s).a W0 (vs 4) (vs 5) X) l vs X) (PQ := fun _ _ => False)
    (by kernel_rfl) (by kernel_rfl) (by kernel_rfl) (by kernel_rfl) ⟨Vals.none _ _, Ph2.start (Two.start ((Below.refl _ _).drew) (Nat.le_refl _))⟩ ?hop ?hend (fun _ _ _ _ h => h.elim)
  case hop =>
    refine ⟨?_, ?_, ?_, ?_, ?_, ?_, ?_, ?_, trivial⟩
    · intro l vs X A hA ⟨hV, hS⟩ hl hd hcl
      have hj := notYet (k := 6) hcl (by kernel_rfl) hl
      have hk := notYet (k := 7) hcl (by kernel_rfl) hl
      have hX := hS.1 hj
      have hB := hX.below
      have a1 := eval_old hA 1 (by kernel_rfl) rfl
      refine show_value (v := .agg (stA i c k)) (X' := X) (run_ld 82 _ rfl _ a1 (ld_row (l := stCells i c k) (has_whole (hst.below hB hst.lt)) (by kernel_rfl))) ⟨hV.upd (fun _ h => Option.some.inj h), Ph2.keep hj hk (by decide) (by decide) (hX.grow (Below.refl _ _) (by decide) (by decide) _)⟩
    · intro l vs X A hA ⟨hV, hS⟩ hl hd hcl
      have hj := notYet (k := 6) hcl (by kernel_rfl) hl
      have hk := notYet (k := 7) hcl (by kernel_rfl) hl
      have hX := hS.1 hj
      have hB := hX.below
      have a6 := eval_new hA 6 0 (by kernel_rfl) (by kernel_rfl) (by kernel_rfl) (hd 0 (by kernel_rfl)) (hV 0 _ (hd 0 (by kernel_rfl)) rfl)
      have aF0 : A.eval (.func 80) = .func (.func 80) #[] #[] := rfl
      refine show_call (f := 80) (args := #[.agg (stA i c k)]) ?_ (dst_ok i c k d X hdst hdn hk0) ?_
      · generalize A.eval = ρ at *
        clear hA hl hd hcl hV hS
        go_simp
      · rintro e X' ⟨rfl, hB1⟩
        exact .inl ⟨_, rfl, hV.upd (fun _ h => Option.some.inj h), Ph2.keep hj hk (by decide) (by decide) (hX.grow hB1 (by decide) (by decide) _)⟩
    · intro l vs X A hA ⟨hV, hS⟩ hl hd hcl
      have hj := notYet (k := 6) hcl (by kernel_rfl) hl
      have hk := notYet (k := 7) hcl (by kernel_rfl) hl
      have hX := hS.1 hj
      have hB := hX.below
      have a1 := eval_old hA 1 (by kernel_rfl) rfl
      refine show_value (v := .agg (stA i c k)) (X' := X) (run_ld 82 _ rfl _ a1 (ld_row (l := stCells i c k) (has_whole (hst.below hB hst.lt)) (by kernel_rfl))) ⟨hV.upd (fun _ h => Option.some.inj h), Ph2.keep hj hk (by decide) (by decide) (hX.grow (Below.refl _ _) (by decide) (by decide) _)⟩
    · intro l vs X A hA ⟨hV, hS⟩ hl hd hcl
      have hj := notYet (k := 6) hcl (by kernel_rfl) hl
      have hk := notYet (k := 7) hcl (by kernel_rfl) hl
      have hX := hS.1 hj
      have hB := hX.below
      have a8 := eval_new hA 8 2 (by kernel_rfl) (by kernel_rfl) (by kernel_rfl) (hd 2 (by kernel_rfl)) (hV 2 _ (hd 2 (by kernel_rfl)) rfl)
      have aF0 : A.eval (.func 46) = .func (.func 46) #[] #[] := rfl
      refine show_call (f := 46) (args := #[.agg (stA i c k)]) ?_ (src_ok i c k s X hsrc hsn hs0) ?_
      · generalize A.eval = ρ at *
        clear hA hl hd hcl hV hS
        go_simp
      · rintro e X' ⟨rfl, hB1⟩
        exact .inl ⟨_, rfl, hV.upd (fun _ h => Option.some.inj h), Ph2.keep hj hk (by decide) (by decide) (hX.grow hB1 (by decide) (by decide) _)⟩
    · intro l vs X A hA ⟨hV, hS⟩ hl hd hcl
      have hj := notYet (k := 6) hcl (by kernel_rfl) hl
      have hk := notYet (k := 7) hcl (by kernel_rfl) hl
      have hX := hS.1 hj
      have hB := hX.below
      refine show_value (v := .pointer (some ⟨X.heap.size, 0, none⟩)) (X' := X.alloc (.cells noR.a 40)) ?_ ⟨hV.upd (fun _ h => by cases h), Ph2.keep hj hk (by decide) (by decide) (hX.mkFst (by decide))⟩
      generalize A.eval = ρ at *
      clear hA hl hd hcl hV hS
      rfl
    · intro l vs X A hA ⟨hV, hS⟩ hl hd hcl
      have hj := notYet (k := 6) hcl (by kernel_rfl) hl
      have hk := notYet (k := 7) hcl (by kernel_rfl) hl
      have hX := hS.1 hj
      have hB := hX.below
      refine show_value (v := .pointer (some ⟨X.heap.size, 0, none⟩)) (X' := X.alloc (.cells noR.a 40)) ?_ ⟨hV.upd (fun _ h => by cases h), Ph2.keep hj hk (by decide) (by decide) (hX.mkSnd (by decide))⟩
      generalize A.eval = ρ at *
      clear hA hl hd hcl hV hS
      rfl
    · intro l vs X A hA ⟨hV, hS⟩ hl hd hcl
      have hk := notYet (k := 7) hcl (by kernel_rfl) hl
      have hX := hS.1 hl
      have a4 := eval_new hA 4 4 (by kernel_rfl) (by kernel_rfl) (by kernel_rfl) (hd 4 (by kernel_rfl)) (rfl : vs 4 = vs 4)
      have a7 := eval_new hA 7 1 (by kernel_rfl) (by kernel_rfl) (by kernel_rfl) (hd 1 (by kernel_rfl)) (hV 1 _ (hd 1 (by kernel_rfl)) rfl)
      obtain ⟨b, hb, hH, hT⟩ := (hX.both (hd 4 (by kernel_rfl)) (hd 5 (by kernel_rfl))).setFst (x' := (k.r d).a)
      rw [hb] at a4
      refine show_skip (run_st_row 40 _ _ rfl b _ _ _ a4 a7 hH (by kernel_rfl) (by kernel_rfl) (Rg.a_one _)) ⟨hV.upd (fun _ h => by cases h), Ph2.mid hk (by decide) ?_⟩
      exact hT
    · intro l vs X A hA ⟨hV, hS⟩ hl hd hcl
      have hX := hS.2.1 (hd 6 (by kernel_rfl)) hl
      have a5 := eval_new hA 5 5 (by kernel_rfl) (by kernel_rfl) (by kernel_rfl) (hd 5 (by kernel_rfl)) (rfl : vs 5 = vs 5)
      have a9 := eval_new hA 9 3 (by kernel_rfl) (by kernel_rfl) (by kernel_rfl) (hd 3 (by kernel_rfl)) (hV 3 _ (hd 3 (by kernel_rfl)) rfl)
      obtain ⟨b, hb, hH, hT⟩ := hX.setSnd (y' := (k.r s).a)
      rw [hb] at a5
      refine show_skip (run_st_row 40 _ _ rfl b _ _ _ a5 a9 hH (by kernel_rfl) (by kernel_rfl) (Rg.a_one _)) ⟨hV.upd (fun _ h => by cases h), Ph2.last (hd 6 (by kernel_rfl)) ?_⟩
      exact hT
  case hend =>
    intro l vs X hl ⟨hV, hS⟩
    have hX := hS.2.2 (hl 7 (by decide))
    have v0 := hV 0 _ (hl 0 (by decide)) rfl
    have v1 := hV 1 _ (hl 1 (by decide)) rfl
    have v2 := hV 2 _ (hl 2 (by decide)) rfl
    have v3 := hV 3 _ (hl 3 (by decide)) rfl
    clear hV hS hl
    obtain ⟨b6, b7, u6, u7, g6, g7, hne, hb6, hb7, hB9⟩ := hX
    simp only [canonL, if_true, v0, v1, v2, v3, u6, u7]
    clear v0 v1 v2 v3 u6 u7
    go_simp
    have hJ : JW w i c k (noK) (noK) b6 b7 (k.r d) (k.r s) X := ⟨hst.below hB9 hst.lt, h3.below hB9 h3.lt, h4.below hB9 h4.lt, hb6, hb7, hB0.trans (hB9.mono hB0.size), by have := HZ.out; omega, by have := HZ.out; omega⟩
    obtain ⟨W1, hren⟩ : ∃ Z, Z = X := ⟨_, rfl⟩
    subst hren
    clear hst h3 h4 hb6 hb7 hB9 g6 g7 hB0 HZ
    have hz1 := hJ.size
    go_upto_region 2 with fail
    have c1 : W1.cell? ⟨w.heap.size, 1, none⟩ = some (.int .i64 (d : Int)) := by rw [← hdst]; exact hJ.st.cell 1
    have c2 : W1.cell? ⟨w.heap.size, 2, none⟩ = some (.int .i64 (s : Int)) := by rw [← hsrc]; exact hJ.st.cell 2
    have hq : ((d : Int) == (s : Int)) = false := by simp; omega
    clear hds
    go_upto_region 4 with fail
    clear c1 c2 hq
    have HA : Hid (((k.r d).least < (k.r s).great)) := ha
    have HBB : Hid (¬ ((k.r s).least ≤ (k.r d).great)) := hb
    clear ha hb
    have c1 : W1.cell? ⟨b6, 1, none⟩ = some (.int .u32 ((k.r d).least : Int)) := hJ.d.cell 1
    have c2 : W1.cell? ⟨b7, 2, none⟩ = some (.int .u32 ((k.r s).great : Int)) := hJ.o.cell 2
    have ha' : (((k.r d).least : Int) < ((k.r s).great : Int)) := by have := HA.out; omega
    go_upto_region 5 with fail
    clear c1 c2 ha'
    refine wp_region_inv (Φ := fun l vs X => Vals (fun q => match q with | 0 => some (.agg (stA i c k)) | 1 => some ((k.r d).v) | 2 => some (.pointer (some ⟨b7, 2, none⟩)) | 3 => some (.int .u32 ((k.r s).great : Int)) | 4 => some (.int .u32 (((k.r s).great - 1 : Nat) : Int)) | 5 => some ((atMostR (k.r d) ((k.r s).great - 1)).v) | 6 => some ((k.r s).v) | 7 => some (.pointer (some ⟨b6, 1, none⟩)) | 8 => some (.int .u32 ((k.r d).least : Int)) | 9 => some (.int .u32 (((k.r d).least + 1 : Nat) : Int)) | 10 => some ((atLeastR (k.r s) ((k.r d).least + 1)).v) | 11 => some (.agg ((k.set d (atMostR (k.r d) ((k.r s).great - 1))).set s (atLeastR (k.r s) ((k.r d).least + 1))).a) | _ => none) l vs ∧ Pre1 12 (Below W1.heap.size W1) (JW w i c k (noK) ((k.set d (atMostR (k.r d) ((k.r s).great - 1))).set s (atLeastR (k.r s) ((k.r d).least + 1))) b6 b7 (k.r d) (k.r s)) l X) (PQ := fun _ _ => False)
      (by kernel_rfl) (by kernel_rfl) (by kernel_rfl) (by kernel_rfl) ⟨Vals.none _ _, Pre1.start ((Below.refl _ _).drew)⟩ ?hop ?hend (fun _ _ _ _ h => h.elim)
    case hop =>
      refine ⟨?_, ?_, ?_, ?_, ?_, ?_, ?_, ?_, ?_, ?_, ?_, ?_, ?_, trivial⟩
      · intro l vs X A hA ⟨hV, hS⟩ hl hd hcl
        have hk := notYet (k := 12) hcl (by kernel_rfl) hl
        have hX := hS.1 hk
        have hB := hX
        have a1 := eval_old hA 1 (by kernel_rfl) rfl
        refine show_value (v := .agg (stA i c k)) (X' := X) (run_ld 82 _ rfl _ a1 (ld_row (l := stCells i c k) (has_whole (hJ.grow hB).st) (by kernel_rfl))) ⟨hV.upd (fun _ h => Option.some.inj h), Pre1.keep hk (by decide) (hX)⟩
      · intro l vs X A hA ⟨hV, hS⟩ hl hd hcl
        have hk := notYet (k := 12) hcl (by kernel_rfl) hl
        have hX := hS.1 hk
        have hB := hX
        have a4 := eval_old hA 4 (by kernel_rfl) rfl
        refine show_value (v := (k.r d).v) (X' := X) (run_ld 40 _ rfl _ a4 (ld_row (l := (k.r d).cells) (has_whole (hJ.grow hB).d) (by kernel_rfl))) ⟨hV.upd (fun _ h => Option.some.inj h), Pre1.keep hk (by decide) (hX)⟩
      · intro l vs X A hA ⟨hV, hS⟩ hl hd hcl
        have hk := notYet (k := 12) hcl (by kernel_rfl) hl
        have hX := hS.1 hk
        have hB := hX
        have a5 := eval_old hA 5 (by kernel_rfl) rfl
        refine show_value (v := .pointer (some ⟨b7, 2, none⟩)) (X' := X) ?_ ⟨hV.upd (fun _ h => Option.some.inj h), Pre1.keep hk (by decide) (hX)⟩
        generalize A.eval = ρ at *
        clear hA hl hd hcl hV hS
        go_simp
      · intro l vs X A hA ⟨hV, hS⟩ hl hd hcl
        have hk := notYet (k := 12) hcl (by kernel_rfl) hl
        have hX := hS.1 hk
        have hB := hX
        have a27 := eval_new hA 27 2 (by kernel_rfl) (by kernel_rfl) (by kernel_rfl) (hd 2 (by kernel_rfl)) (hV 2 _ (hd 2 (by kernel_rfl)) rfl)
        have hg := hJ.grow hB
        have cc : X.cell? ⟨b7, 2, none⟩ = some (.int .u32 ((k.r s).great : Int)) := hg.o.cell 2
        refine show_value (v := .int .u32 ((k.r s).great : Int)) (X' := X) ?_ ⟨hV.upd (fun _ h => Option.some.inj h), Pre1.keep hk (by decide) (hX)⟩
        clear hg
        generalize A.eval = ρ at *
        clear hA hl hd hcl hV hS
        go_simp
      · intro l vs X A hA ⟨hV, hS⟩ hl hd hcl
        have hk := notYet (k := 12) hcl (by kernel_rfl) hl
        have hX := hS.1 hk
        have hB := hX
        have a28 := eval_new hA 28 3 (by kernel_rfl) (by kernel_rfl) (by kernel_rfl) (hd 3 (by kernel_rfl)) (hV 3 _ (hd 3 (by kernel_rfl)) rfl)
        have aC0 : A.eval (.const (.int .u32 1)) = (.int .u32 1) := rfl
        have q1 : IntKind.u32.wrap (((k.r s).great : Int) - 1) = (((k.r s).great - 1 : Nat) : Int) := by have := HA.out; have := hok.least; have := hoks.great; rw [IntKind.wrap_u32]; omega
        refine show_value (v := .int .u32 (((k.r s).great - 1 : Nat) : Int)) (X' := X) ?_ ⟨hV.upd (fun _ h => Option.some.inj h), Pre1.keep hk (by decide) (hX)⟩
        clear hok hoks
        generalize (((k.r s).great - 1 : Nat) : Int) = z at *
        generalize A.eval = ρ at *
        clear hA hl hd hcl hV hS
        go_simp
      · intro l vs X A hA ⟨hV, hS⟩ hl hd hcl
        have hk := notYet (k := 12) hcl (by kernel_rfl) hl
        have hX := hS.1 hk
        have hB := hX
        have a26 := eval_new hA 26 1 (by kernel_rfl) (by kernel_rfl) (by kernel_rfl) (hd 1 (by kernel_rfl)) (hV 1 _ (hd 1 (by kernel_rfl)) rfl)
        have a29 := eval_new hA 29 4 (by kernel_rfl) (by kernel_rfl) (by kernel_rfl) (hd 4 (by kernel_rfl)) (hV 4 _ (hd 4 (by kernel_rfl)) rfl)
        have aF0 : A.eval (.func 90) = .func (.func 90) #[] #[] := rfl
        refine show_call (f := 90) (args := #[(k.r d).v, .int .u32 (((k.r s).great - 1 : Nat) : Int)]) ?_ (atMost_any (k.r d) ((k.r s).great - 1) hok X) ?_
        · generalize A.eval = ρ at *
          clear hA hl hd hcl hV hS
          go_simp
        · rintro e X' ⟨rfl, hB1⟩
          exact .inl ⟨_, rfl, hV.upd (fun _ h => Option.some.inj h), Pre1.keep hk (by decide) (hX.trans (hB1.mono hX.size))⟩
      · intro l vs X A hA ⟨hV, hS⟩ hl hd hcl
        have hk := notYet (k := 12) hcl (by kernel_rfl) hl
        have hX := hS.1 hk
        have hB := hX
        have a5 := eval_old hA 5 (by kernel_rfl) rfl
        refine show_value (v := (k.r s).v) (X' := X) (run_ld 40 _ rfl _ a5 (ld_row (l := (k.r s).cells) (has_whole (hJ.grow hB).o) (by kernel_rfl))) ⟨hV.upd (fun _ h => Option.some.inj h), Pre1.keep hk (by decide) (hX)⟩
      · intro l vs X A hA ⟨hV, hS⟩ hl hd hcl
        have hk := notYet (k := 12) hcl (by kernel_rfl) hl
        have hX := hS.1 hk
        have hB := hX
        have a4 := eval_old hA 4 (by kernel_rfl) rfl
        refine show_value (v := .pointer (some ⟨b6, 1, none⟩)) (X' := X) ?_ ⟨hV.upd (fun _ h => Option.some.inj h), Pre1.keep hk (by decide) (hX)⟩
        generalize A.eval = ρ at *
        clear hA hl hd hcl hV hS
        go_simp
      · intro l vs X A hA ⟨hV, hS⟩ hl hd hcl
        have hk := notYet (k := 12) hcl (by kernel_rfl) hl
        have hX := hS.1 hk
        have hB := hX
        have a32 := eval_new hA 32 7 (by kernel_rfl) (by kernel_rfl) (by kernel_rfl) (hd 7 (by kernel_rfl)) (hV 7 _ (hd 7 (by kernel_rfl)) rfl)
        have hg := hJ.grow hB
        have cc : X.cell? ⟨b6, 1, none⟩ = some (.int .u32 ((k.r d).least : Int)) := hg.d.cell 1
        refine show_value (v := .int .u32 ((k.r d).least : Int)) (X' := X) ?_ ⟨hV.upd (fun _ h => Option.some.inj h), Pre1.keep hk (by decide) (hX)⟩
        clear hg
        generalize A.eval = ρ at *
        clear hA hl hd hcl hV hS
        go_simp
      · intro l vs X A hA ⟨hV, hS⟩ hl hd hcl
        have hk := notYet (k := 12) hcl (by kernel_rfl) hl
        have hX := hS.1 hk
        have hB := hX
        have a33 := eval_new hA 33 8 (by kernel_rfl) (by kernel_rfl) (by kernel_rfl) (hd 8 (by kernel_rfl)) (hV 8 _ (hd 8 (by kernel_rfl)) rfl)
        have aC0 : A.eval (.const (.int .u32 1)) = (.int .u32 1) := rfl
        have q1 : IntKind.u32.wrap (((k.r d).least : Int) + 1) = (((k.r d).least + 1 : Nat) : Int) := by have := HA.out; have := hok.least; have := hoks.great; rw [IntKind.wrap_u32]; omega
        refine show_value (v := .int .u32 (((k.r d).least + 1 : Nat) : Int)) (X' := X) ?_ ⟨hV.upd (fun _ h => Option.some.inj h), Pre1.keep hk (by decide) (hX)⟩
        clear hok hoks
        generalize (((k.r d).least + 1 : Nat) : Int) = z at *
        generalize A.eval = ρ at *
        clear hA hl hd hcl hV hS
        go_simp
      · intro l vs X A hA ⟨hV, hS⟩ hl hd hcl
        have hk := notYet (k := 12) hcl (by kernel_rfl) hl
        have hX := hS.1 hk
        have hB := hX
        have a31 := eval_new hA 31 6 (by kernel_rfl) (by kernel_rfl) (by kernel_rfl) (hd 6 (by kernel_rfl)) (hV 6 _ (hd 6 (by kernel_rfl)) rfl)
        have a34 := eval_new hA 34 9 (by kernel_rfl) (by kernel_rfl) (by kernel_rfl) (hd 9 (by kernel_rfl)) (hV 9 _ (hd 9 (by kernel_rfl)) rfl)
        have aF0 : A.eval (.func 91) = .func (.func 91) #[] #[] := rfl
        refine show_call (f := 91) (args := #[(k.r s).v, .int .u32 (((k.r d).least + 1 : Nat) : Int)]) ?_ (atLeast_any (k.r s) ((k.r d).least + 1) hoks X) ?_
        · generalize A.eval = ρ at *
          clear hA hl hd hcl hV hS
          go_simp
        · rintro e X' ⟨rfl, hB1⟩
          exact .inl ⟨_, rfl, hV.upd (fun _ h => Option.some.inj h), Pre1.keep hk (by decide) (hX.trans (hB1.mono hX.size))⟩
      · intro l vs X A hA ⟨hV, hS⟩ hl hd hcl
        have hk := notYet (k := 12) hcl (by kernel_rfl) hl
        have hX := hS.1 hk
        have hB := hX
        have a25 := eval_new hA 25 0 (by kernel_rfl) (by kernel_rfl) (by kernel_rfl) (hd 0 (by kernel_rfl)) (hV 0 _ (hd 0 (by kernel_rfl)) rfl)
        have a30 := eval_new hA 30 5 (by kernel_rfl) (by kernel_rfl) (by kernel_rfl) (hd 5 (by kernel_rfl)) (hV 5 _ (hd 5 (by kernel_rfl)) rfl)
        have a35 := eval_new hA 35 10 (by kernel_rfl) (by kernel_rfl) (by kernel_rfl) (hd 10 (by kernel_rfl)) (hV 10 _ (hd 10 (by kernel_rfl)) rfl)
        have aF0 : A.eval (.func 92) = .func (.func 92) #[] #[] := rfl
        refine show_call (f := 92) (args := #[.agg (stA i c k), (atMostR (k.r d) ((k.r s).great - 1)).v, (atLeastR (k.r s) ((k.r d).least + 1)).v]) ?_ (both_any i c k d s (atMostR (k.r d) ((k.r s).great - 1)) (atLeastR (k.r s) ((k.r d).least + 1)) X hdst hdn hsrc hsn) ?_
        · generalize A.eval = ρ at *
          clear hA hl hd hcl hV hS
          go_simp
        · rintro e X' ⟨rfl, hB1⟩
          exact .inl ⟨_, rfl, hV.upd (fun _ h => Option.some.inj h), Pre1.keep hk (by decide) (hX.trans (hB1.mono hX.size))⟩
      · intro l vs X A hA ⟨hV, hS⟩ hl hd hcl
        have hX := hS.1 hl
        have hB := hX
        have a3 := eval_old hA 3 (by kernel_rfl) rfl
        have a36 := eval_new hA 36 11 (by kernel_rfl) (by kernel_rfl) (by kernel_rfl) (hd 11 (by kernel_rfl)) (hV 11 _ (hd 11 (by kernel_rfl)) rfl)
        have hg := hJ.grow hX
        refine show_skip (X' := X.setRow (w.heap.size + 2) ((k.set d (atMostR (k.r d) ((k.r s).great - 1))).set s (atLeastR (k.r s) ((k.r d).least + 1))).a) (run_st_row 43 _ _ rfl (w.heap.size + 2) _ _ _ a3 a36 hg.j (by kernel_rfl) (by kernel_rfl) (Kn.a_one _)) ⟨hV.upd (fun _ h => by cases h), Pre1.last (hg.setJ _)⟩
    case hend =>
      intro l vs X hl ⟨hV, hS⟩
      have hX := hS.2 (hl 12 (by decide))
      have v0 := hV 0 _ (hl 0 (by decide)) rfl
      have v1 := hV 1 _ (hl 1 (by decide)) rfl
      have v2 := hV 2 _ (hl 2 (by decide)) rfl
      have v3 := hV 3 _ (hl 3 (by decide)) rfl
      have v4 := hV 4 _ (hl 4 (by decide)) rfl
      have v5 := hV 5 _ (hl 5 (by decide)) rfl
      have v6 := hV 6 _ (hl 6 (by decide)) rfl
      have v7 := hV 7 _ (hl 7 (by decide)) rfl
      have v8 := hV 8 _ (hl 8 (by decide)) rfl
      have v9 := hV 9 _ (hl 9 (by decide)) rfl
      have v10 := hV 10 _ (hl 10 (by decide)) rfl
      have v11 := hV 11 _ (hl 11 (by decide)) rfl
      clear hV hS hl
      simp only [canonL, if_true, v0, v1, v2, v3, v4, v5, v6, v7, v8, v9, v10, v11]
      clear v0 v1 v2 v3 v4 v5 v6 v7 v8 v9 v10 v11
      go_simp
      clear hJ
      have hJ := hX
      clear hX
      obtain ⟨W2, hren⟩ : ∃ Z, Z = X := ⟨_, rfl⟩
      subst hren
      have hz2 := hJ.size
      go_upto_region 6 with fail
      have c1 : W2.cell? ⟨b6, 2, none⟩ = some (.int .u32 ((k.r d).great : Int)) := hJ.d.cell 2
      have c2 : W2.cell? ⟨b7, 1, none⟩ = some (.int .u32 ((k.r s).least : Int)) := hJ.o.cell 1
      have hb' : ¬ (((k.r s).least : Int) ≤ ((k.r d).great : Int)) := by have := HBB.out; omega
      go_upto_region 8 with fail
      clear c1 c2 hb'
      refine wp_region_inv (Φ := fun l vs X => Vals (fun q => match q with | 0 => some (.agg (noK).a) | 1 => some (.agg ((k.set d (atMostR (k.r d) ((k.r s).great - 1))).set s (atLeastR (k.r s) ((k.r d).least + 1))).a) | _ => none) l vs ∧ Pre2 2 3 (Below W2.heap.size W2) (JW w i c k (noK) ((k.set d (atMostR (k.r d) ((k.r s).great - 1))).set s (atLeastR (k.r s) ((k.r d).least + 1))) b6 b7 (k.r d) (k.r s)) (JW w i c k (noK) ((k.set d (atMostR (k.r d) ((k.r s).great - 1))).set s (atLeastR (k.r s) ((k.r d).least + 1))) b6 b7 (k.r d) (k.r s)) l X) (PQ := fun _ _ => False)
        (by kernel_rfl) (by kernel_rfl) (by kernel_rfl) (by kernel_rfl) ⟨Vals.none _ _, Pre2.start ((Below.refl _ _).drew)⟩ ?hop ?hend (fun _ _ _ _ h => h.elim)
      case hop =>
        refine ⟨?_, ?_, ?_, ?_, trivial⟩
        · intro l vs X A hA ⟨hV, hS⟩ hl hd hcl
          have hj := notYet (k := 2) hcl (by kernel_rfl) hl
          have hk := notYet (k := 3) hcl (by kernel_rfl) hl
          have hX := hS.1 hj
          have hB := hX
          have a2 := eval_old hA 2 (by kernel_rfl) rfl
          refine show_value (v := .agg (noK).a) (X' := X) (run_ld 43 _ rfl _ a2 (ld_row (l := (noK).cells) (has_whole (hJ.grow hB).n) (by kernel_rfl))) ⟨hV.upd (fun _ h => Option.some.inj h), Pre2.keep hj hk (by decide) (by decide) (hX)⟩
        · intro l vs X A hA ⟨hV, hS⟩ hl hd hcl
          have hk := notYet (k := 3) hcl (by kernel_rfl) hl
          have a3 := eval_old hA 3 (by kernel_rfl) rfl
          cases hj : l 2 with
          | true =>
            have hX := hS.2.1 hj hk
            exact show_value (v := .agg ((k.set d (atMostR (k.r d) ((k.r s).great - 1))).set s (atLeastR (k.r s) ((k.r d).least + 1))).a) (X' := X) (run_ld 43 _ rfl _ a3 (ld_row (l := ((k.set d (atMostR (k.r d) ((k.r s).great - 1))).set s (atLeastR (k.r s) ((k.r d).least + 1))).cells) (has_whole hX.j) (by kernel_rfl))) ⟨hV.upd (fun _ h => Option.some.inj h), Pre2.keepMid hj hk (by decide) (by decide) hX⟩
          | false =>
            have hX := hS.1 hj
            have hB := hX
            exact show_value (v := .agg ((k.set d (atMostR (k.r d) ((k.r s).great - 1))).set s (atLeastR (k.r s) ((k.r d).least + 1))).a) (X' := X) (run_ld 43 _ rfl _ a3 (ld_row (l := ((k.set d (atMostR (k.r d) ((k.r s).great - 1))).set s (atLeastR (k.r s) ((k.r d).least + 1))).cells) (has_whole (hJ.grow hB).j) (by kernel_rfl))) ⟨hV.upd (fun _ h => Option.some.inj h), Pre2.keep hj hk (by decide) (by decide) hX⟩
        · intro l vs X A hA ⟨hV, hS⟩ hl hd hcl
          have hk := notYet (k := 3) hcl (by kernel_rfl) hl
          have hX := hS.1 hl
          have a2 := eval_old hA 2 (by kernel_rfl) rfl
          have a52 := eval_new hA 52 0 (by kernel_rfl) (by kernel_rfl) (by kernel_rfl) (hd 0 (by kernel_rfl)) (hV 0 _ (hd 0 (by kernel_rfl)) rfl)
          have hg := hJ.grow hX
          refine show_skip (X' := X.setRow (w.heap.size + 1) (noK).a) (run_st_row 43 _ _ rfl (w.heap.size + 1) _ _ _ a2 a52 hg.n (by kernel_rfl) (by kernel_rfl) (Kn.a_one _)) ⟨hV.upd (fun _ h => by cases h), Pre2.mid hk (by decide) (hg.setN _)⟩
        · intro l vs X A hA ⟨hV, hS⟩ hl hd hcl
          have hX := hS.2.1 (hd 2 (by kernel_rfl)) hl
          have a3 := eval_old hA 3 (by kernel_rfl) rfl
          have a53 := eval_new hA 53 1 (by kernel_rfl) (by kernel_rfl) (by kernel_rfl) (hd 1 (by kernel_rfl)) (hV 1 _ (hd 1 (by kernel_rfl)) rfl)
          refine show_skip (X' := X.setRow (w.heap.size + 2) ((k.set d (atMostR (k.r d) ((k.r s).great - 1))).set s (atLeastR (k.r s) ((k.r d).least + 1))).a) (run_st_row 43 _ _ rfl (w.heap.size + 2) _ _ _ a3 a53 hX.j (by kernel_rfl) (by kernel_rfl) (Kn.a_one _)) ⟨hV.upd (fun _ h => by cases h), Pre2.last (hd 2 (by kernel_rfl)) (hX.setJ _)⟩
      case hend =>
        intro l vs X hl ⟨hV, hS⟩
        have hX := hS.2.2 (hl 3 (by decide))
        have v0 := hV 0 _ (hl 0 (by decide)) rfl
        have v1 := hV 1 _ (hl 1 (by decide)) rfl
        clear hV hS hl
        simp only [canonL, if_true, v0, v1]
        clear v0 v1
        go_simp
        go_wp2_with fail
        refine bodyPost_ret (results_rows2 rfl _ _ (w.heap.size + 1) (w.heap.size + 2) 43 _ _ _ rfl rfl hX.n hX.j Tryd.underlying43 rfl (by kernel_rfl) (by kernel_rfl)) rfl ?_
        exact ⟨rfl, hX.below⟩
set_option maxRecDepth 10000 in
set_option maxHeartbeats 2000000 in
theorem jlt_01 (i : Ins) (c : Int) (k : Kn) (d s : Nat) (w : World) (hdst : i.dst = (d : Int)) (hdn : d < 10) (hsrc : i.src = (s : Int)) (hsn : s < 10) (hk0 : k.r d ≠ noR) (hs0 : k.r s ≠ noR) (hds : d ≠ s) (hok : (k.r d).Ok) (hoks : (k.r s).Ok) (ha : ¬ (k.r d).least < (k.r s).great) (hb : (k.r s).least ≤ (k.r d).great) :
    Calls Tryd.prog 63 #[.agg (stA i c k)] w fun e w' => e = .returned (two ((k.set d (atLeastR (k.r d) (k.r s).least)).set s (atMostR (k.r s) (k.r d).great)) (noK)) ∧ Below w.heap.size w w' := by
  obtain ⟨W0, hW0⟩ : ∃ W0, W0 = ((w.alloc (.cells (stA i c k) 82)).alloc (.cells noK.a 43)).alloc (.cells noK.a 43) := ⟨_, rfl⟩
  obtain ⟨hst, h3, h4, hB0, hz0⟩ := ways_world i c k w W0 hW0
  have HZ : Hid (W0.heap.size = w.heap.size + 3) := hz0
  clear hz0
  go_enter Tryd.func63, Tryd.ntmps63
  go_upto_region 1 with fail
  refine named2 (p := fun X => Code.wp _ _ _ _ X) ?_
  intro W9 hW9
  have hW : W0 = W9 := hW0.trans hW9.symm
  subst hW
  clear hW9 hW0
  refine wp_region_inv (Φ := fun l vs X => Vals (fun q => match q with | 0 => some (.agg (stA i c k)) | 1 => some ((k.r d).v) | 2 => some (.agg (stA i c k)) | 3 => some ((k.r s).v) | _ => none) l vs ∧ Ph2 6 7 (Two W0.heap.size 40 noR.a W0 4 5) (fun vs X => Both W0.heap.size 40 (k.r d).a noR.a W0 (vs 4) (vs 5) X) (fun vs X => Both W0.heap.size 40 (k.r d).a (k.r s).a W0 (vs 4) (vs 5) X) l vs X) (PQ := fun _ _ => False)
    (by kernel_rfl) (by kernel_rfl) (by kernel_rfl) (by kernel_rfl) ⟨Vals.none _ _, Ph2.start (Two.start ((Below.refl _ _).drew) (Nat.le_refl _))⟩ ?hop ?hend (fun _ _ _ _ h => h.elim)
  case hop =>
    refine ⟨?_, ?_, ?_, ?_, ?_, ?_, ?_, ?_, trivial⟩
    · intro l vs X A hA ⟨hV, hS⟩ hl hd hcl
      have hj := notYet (k := 6) hcl (by kernel_rfl) hl
      have hk := notYet (k := 7) hcl (by kernel_rfl) hl
      have hX := hS.1 hj
      have hB := hX.below
      have a1 := eval_old hA 1 (by kernel_rfl) rfl
      refine show_value (v := .agg (stA i c k)) (X' := X) (run_ld 82 _ rfl _ a1 (ld_row (l := stCells i c k) (has_whole (hst.below hB hst.lt)) (by kernel_rfl))) ⟨hV.upd (fun _ h => Option.some.inj h), Ph2.keep hj hk (by decide) (by decide) (hX.grow (Below.refl _ _) (by decide) (by decide) _)⟩
    · intro l vs X A hA ⟨hV, hS⟩ hl hd hcl
      have hj := notYet (k := 6) hcl (by kernel_rfl) hl
      have hk := notYet (k := 7) hcl (by kernel_rfl) hl
      have hX := hS.1 hj
      have hB := hX.below
      have a6 := eval_new hA 6 0 (by kernel_rfl) (by kernel_rfl) (by kernel_rfl) (hd 0 (by kernel_rfl)) (hV 0 _ (hd 0 (by kernel_rfl)) rfl)
      have aF0 : A.eval (.func 80) = .func (.func 80) #[] #[] := rfl
      refine show_call (f := 80) (args := #[.agg (stA i c k)]) ?_ (dst_ok i c k d X hdst hdn hk0) ?_
      · generalize A.eval = ρ at *
        clear hA hl hd hcl hV hS
        go_simp
      · rintro e X' ⟨rfl, hB1⟩
        exact .inl ⟨_, rfl, hV.upd (fun _ h => Option.some.inj h), Ph2.keep hj hk (by decide) (by decide) (hX.grow hB1 (by decide) (by decide) _)⟩
    · intro l vs X A hA ⟨hV, hS⟩ hl hd hcl
      have hj := notYet (k := 6) hcl (by kernel_rfl) hl
      have hk := notYet (k := 7) hcl (by kernel_rfl) hl
      have hX := hS.1 hj
      have hB := hX.below
      have a1 := eval_old hA 1 (by kernel_rfl) rfl
      refine show_value (v := .agg (stA i c k)) (X' := X) (run_ld 82 _ rfl _ a1 (ld_row (l := stCells i c k) (has_whole (hst.below hB hst.lt)) (by kernel_rfl))) ⟨hV.upd (fun _ h => Option.some.inj h), Ph2.keep hj hk (by decide) (by decide) (hX.grow (Below.refl _ _) (by decide) (by decide) _)⟩
    · intro l vs X A hA ⟨hV, hS⟩ hl hd hcl
      have hj := notYet (k := 6) hcl (by kernel_rfl) hl
      have hk := notYet (k := 7) hcl (by kernel_rfl) hl
      have hX := hS.1 hj
      have hB := hX.below
      have a8 := eval_new hA 8 2 (by kernel_rfl) (by kernel_rfl) (by kernel_rfl) (hd 2 (by kernel_rfl)) (hV 2 _ (hd 2 (by kernel_rfl)) rfl)
      have aF0 : A.eval (.func 46) = .func (.func 46) #[] #[] := rfl
      refine show_call (f := 46) (args := #[.agg (stA i c k)]) ?_ (src_ok i c k s X hsrc hsn hs0) ?_
      · generalize A.eval = ρ at *
        clear hA hl hd hcl hV hS
        go_simp
      · rintro e X' ⟨rfl, hB1⟩
        exact .inl ⟨_, rfl, hV.upd (fun _ h => Option.some.inj h), Ph2.keep hj hk (by decide) (by decide) (hX.grow hB1 (by decide) (by decide) _)⟩
    · intro l vs X A hA ⟨hV, hS⟩ hl hd hcl
      have hj := notYet (k := 6) hcl (by kernel_rfl) hl
      have hk := notYet (k := 7) hcl (by kernel_rfl) hl
      have hX := hS.1 hj
      have hB := hX.below
      refine show_value (v := .pointer (some ⟨X.heap.size, 0, none⟩)) (X' := X.alloc (.cells noR.a 40)) ?_ ⟨hV.upd (fun _ h => by cases h), Ph2.keep hj hk (by decide) (by decide) (hX.mkFst (by decide))⟩
      generalize A.eval = ρ at *
      clear hA hl hd hcl hV hS
      rfl
    · intro l vs X A hA ⟨hV, hS⟩ hl hd hcl
      have hj := notYet (k := 6) hcl (by kernel_rfl) hl
      have hk := notYet (k := 7) hcl (by kernel_rfl) hl
      have hX := hS.1 hj
      have hB := hX.below
      refine show_value (v := .pointer (some ⟨X.heap.size, 0, none⟩)) (X' := X.alloc (.cells noR.a 40)) ?_ ⟨hV.upd (fun _ h => by cases h), Ph2.keep hj hk (by decide) (by decide) (hX.mkSnd (by decide))⟩
      generalize A.eval = ρ at *
      clear hA hl hd hcl hV hS
      rfl
    · intro l vs X A hA ⟨hV, hS⟩ hl hd hcl
      have hk := notYet (k := 7) hcl (by kernel_rfl) hl
      have hX := hS.1 hl
      have a4 := eval_new hA 4 4 (by kernel_rfl) (by kernel_rfl) (by kernel_rfl) (hd 4 (by kernel_rfl)) (rfl : vs 4 = vs 4)
      have a7 := eval_new hA 7 1 (by kernel_rfl) (by kernel_rfl) (by kernel_rfl) (hd 1 (by kernel_rfl)) (hV 1 _ (hd 1 (by kernel_rfl)) rfl)
      obtain ⟨b, hb, hH, hT⟩ := (hX.both (hd 4 (by kernel_rfl)) (hd 5 (by kernel_rfl))).setFst (x' := (k.r d).a)
      rw [hb] at a4
      refine show_skip (run_st_row 40 _ _ rfl b _ _ _ a4 a7 hH (by kernel_rfl) (by kernel_rfl) (Rg.a_one _)) ⟨hV.upd (fun _ h => by cases h), Ph2.mid hk (by decide) ?_⟩
      exact hT
    · intro l vs X A hA ⟨hV, hS⟩ hl hd hcl
      have hX := hS.2.1 (hd 6 (by kernel_rfl)) hl
      have a5 := eval_new hA 5 5 (by kernel_rfl) (by kernel_rfl) (by kernel_rfl) (hd 5 (by kernel_rfl)) (rfl : vs 5 = vs 5)
      have a9 := eval_new hA 9 3 (by kernel_rfl) (by kernel_rfl) (by kernel_rfl) (hd 3 (by kernel_rfl)) (hV 3 _ (hd 3 (by kernel_rfl)) rfl)
      obtain ⟨b, hb, hH, hT⟩ := hX.setSnd (y' := (k.r s).a)
      rw [hb] at a5
      refine show_skip (run_st_row 40 _ _ rfl b _ _ _ a5 a9 hH (by kernel_rfl) (by kernel_rfl) (Rg.a_one _)) ⟨hV.upd (fun _ h => by cases h), Ph2.last (hd 6 (by kernel_rfl)) ?_⟩
      exact hT
  case hend =>
    intro l vs X hl ⟨hV, hS⟩
    have hX := hS.2.2 (hl 7 (by decide))
    have v0 := hV 0 _ (hl 0 (by decide)) rfl
    have v1 := hV 1 _ (hl 1 (by decide)) rfl
    have v2 := hV 2 _ (hl 2 (by decide)) rfl
    have v3 := hV 3 _ (hl 3 (by decide)) rfl
    clear hV hS hl
    obtain ⟨b6, b7, u6, u7, g6, g7, hne, hb6, hb7, hB9⟩ := hX
    simp only [canonL, if_true, v0, v1, v2, v3, u6, u7]
    clear v0 v1 v2 v3 u6 u7
    go_simp
    have hJ : JW w i c k (noK) (noK) b6 b7 (k.r d) (k.r s) X := ⟨hst.below hB9 hst.lt, h3.below hB9 h3.lt, h4.below hB9 h4.lt, hb6, hb7, hB0.trans (hB9.mono hB0.size), by have := HZ.out; omega, by have := HZ.out; omega⟩
    obtain ⟨W1, hren⟩ : ∃ Z, Z = X := ⟨_, rfl⟩
    subst hren
    clear hst h3 h4 hb6 hb7 hB9 g6 g7 hB0 HZ
    have hz1 := hJ.size
    go_upto_region 2 with fail
    have c1 : W1.cell? ⟨w.heap.size, 1, none⟩ = some (.int .i64 (d : Int)) := by rw [← hdst]; exact hJ.st.cell 1
    have c2 : W1.cell? ⟨w.heap.size, 2, none⟩ = some (.int .i64 (s : Int)) := by rw [← hsrc]; exact hJ.st.cell 2
    have hq : ((d : Int) == (s : Int)) = false := by simp; omega
    clear hds
    go_upto_region 4 with fail
    clear c1 c2 hq
    have HA : Hid (¬ ((k.r d).least < (k.r s).great)) := ha
    have HBB : Hid (((k.r s).least ≤ (k.r d).great)) := hb
    clear ha hb
    have c1 : W1.cell? ⟨b6, 1, none⟩ = some (.int .u32 ((k.r d).least : Int)) := hJ.d.cell 1
    have c2 : W1.cell? ⟨b7, 2, none⟩ = some (.int .u32 ((k.r s).great : Int)) := hJ.o.cell 2
    have ha' : ¬ (((k.r d).least : Int) < ((k.r s).great : Int)) := by have := HA.out; omega
    go_upto_region 6 with fail
    clear c1 c2 ha'
    have c1 : W1.cell? ⟨b6, 2, none⟩ = some (.int .u32 ((k.r d).great : Int)) := hJ.d.cell 2
    have c2 : W1.cell? ⟨b7, 1, none⟩ = some (.int .u32 ((k.r s).least : Int)) := hJ.o.cell 1
    have hb' : (((k.r s).least : Int) ≤ ((k.r d).great : Int)) := by have := HBB.out; omega
    go_upto_region 7 with fail
    clear c1 c2 hb'
    refine wp_region_inv (Φ := fun l vs X => Vals (fun q => match q with | 0 => some (.agg (stA i c k)) | 1 => some ((k.r d).v) | 2 => some (.pointer (some ⟨b7, 1, none⟩)) | 3 => some (.int .u32 ((k.r s).least : Int)) | 4 => some ((atLeastR (k.r d) (k.r s).least).v) | 5 => some ((k.r s).v) | 6 => some (.pointer (some ⟨b6, 2, none⟩)) | 7 => some (.int .u32 ((k.r d).great : Int)) | 8 => some ((atMostR (k.r s) (k.r d).great).v) | 9 => some (.agg ((k.set d (atLeastR (k.r d) (k.r s).least)).set s (atMostR (k.r s) (k.r d).great)).a) | _ => none) l vs ∧ Pre1 10 (Below W1.heap.size W1) (JW w i c k ((k.set d (atLeastR (k.r d) (k.r s).least)).set s (atMostR (k.r s) (k.r d).great)) (noK) b6 b7 (k.r d) (k.r s)) l X) (PQ := fun _ _ => False)
      (by kernel_rfl) (by kernel_rfl) (by kernel_rfl) (by kernel_rfl) ⟨Vals.none _ _, Pre1.start ((Below.refl _ _).drew)⟩ ?hop ?hend (fun _ _ _ _ h => h.elim)
    case hop =>
      refine ⟨?_, ?_, ?_, ?_, ?_, ?_, ?_, ?_, ?_, ?_, ?_, trivial⟩
      · intro l vs X A hA ⟨hV, hS⟩ hl hd hcl
        have hk := notYet (k := 10) hcl (by kernel_rfl) hl
        have hX := hS.1 hk
        have hB := hX
        have a1 := eval_old hA 1 (by kernel_rfl) rfl
        refine show_value (v := .agg (stA i c k)) (X' := X) (run_ld 82 _ rfl _ a1 (ld_row (l := stCells i c k) (has_whole (hJ.grow hB).st) (by kernel_rfl))) ⟨hV.upd (fun _ h => Option.some.inj h), Pre1.keep hk (by decide) (hX)⟩
      · intro l vs X A hA ⟨hV, hS⟩ hl hd hcl
        have hk := notYet (k := 10) hcl (by kernel_rfl) hl
        have hX := hS.1 hk
        have hB := hX
        have a4 := eval_old hA 4 (by kernel_rfl) rfl
        refine show_value (v := (k.r d).v) (X' := X) (run_ld 40 _ rfl _ a4 (ld_row (l := (k.r d).cells) (has_whole (hJ.grow hB).d) (by kernel_rfl))) ⟨hV.upd (fun _ h => Option.some.inj h), Pre1.keep hk (by decide) (hX)⟩
      · intro l vs X A hA ⟨hV, hS⟩ hl hd hcl
        have hk := notYet (k := 10) hcl (by kernel_rfl) hl
        have hX := hS.1 hk
        have hB := hX
        have a5 := eval_old hA 5 (by kernel_rfl) rfl
        refine show_value (v := .pointer (some ⟨b7, 1, none⟩)) (X' := X) ?_ ⟨hV.upd (fun _ h => Option.some.inj h), Pre1.keep hk (by decide) (hX)⟩
        generalize A.eval = ρ at *
        clear hA hl hd hcl hV hS
        go_simp
      · intro l vs X A hA ⟨hV, hS⟩ hl hd hcl
        have hk := notYet (k := 10) hcl (by kernel_rfl) hl
        have hX := hS.1 hk
        have hB := hX
        have a44 := eval_new hA 44 2 (by kernel_rfl) (by kernel_rfl) (by kernel_rfl) (hd 2 (by kernel_rfl)) (hV 2 _ (hd 2 (by kernel_rfl)) rfl)
        have hg := hJ.grow hB
        have cc : X.cell? ⟨b7, 1, none⟩ = some (.int .u32 ((k.r s).least : Int)) := hg.o.cell 1
        refine show_value (v := .int .u32 ((k.r s).least : Int)) (X' := X) ?_ ⟨hV.upd (fun _ h => Option.some.inj h), Pre1.keep hk (by decide) (hX)⟩
        clear hg
        generalize A.eval = ρ at *
        clear hA hl hd hcl hV hS
        go_simp
      · intro l vs X A hA ⟨hV, hS⟩ hl hd hcl
        have hk := notYet (k := 10) hcl (by kernel_rfl) hl
        have hX := hS.1 hk
        have hB := hX
        have a43 := eval_new hA 43 1 (by kernel_rfl) (by kernel_rfl) (by kernel_rfl) (hd 1 (by kernel_rfl)) (hV 1 _ (hd 1 (by kernel_rfl)) rfl)
        have a45 := eval_new hA 45 3 (by kernel_rfl) (by kernel_rfl) (by kernel_rfl) (hd 3 (by kernel_rfl)) (hV 3 _ (hd 3 (by kernel_rfl)) rfl)
        have aF0 : A.eval (.func 91) = .func (.func 91) #[] #[] := rfl
        refine show_call (f := 91) (args := #[(k.r d).v, .int .u32 ((k.r s).least : Int)]) ?_ (atLeast_any (k.r d) (k.r s).least hok X) ?_
        · generalize A.eval = ρ at *
          clear hA hl hd hcl hV hS
          go_simp
        · rintro e X' ⟨rfl, hB1⟩
          exact .inl ⟨_, rfl, hV.upd (fun _ h => Option.some.inj h), Pre1.keep hk (by decide) (hX.trans (hB1.mono hX.size))⟩
      · intro l vs X A hA ⟨hV, hS⟩ hl hd hcl
        have hk := notYet (k := 10) hcl (by kernel_rfl) hl
        have hX := hS.1 hk
        have hB := hX
        have a5 := eval_old hA 5 (by kernel_rfl) rfl
        refine show_value (v := (k.r s).v) (X' := X) (run_ld 40 _ rfl _ a5 (ld_row (l := (k.r s).cells) (has_whole (hJ.grow hB).o) (by kernel_rfl))) ⟨hV.upd (fun _ h => Option.some.inj h), Pre1.keep hk (by decide) (hX)⟩
      · intro l vs X A hA ⟨hV, hS⟩ hl hd hcl
        have hk := notYet (k := 10) hcl (by kernel_rfl) hl
        have hX := hS.1 hk
        have hB := hX
        have a4 := eval_old hA 4 (by kernel_rfl) rfl
        refine show_value (v := .pointer (some ⟨b6, 2, none⟩)) (X' := X) ?_ ⟨hV.upd (fun _ h => Option.some.inj h), Pre1.keep hk (by decide) (hX)⟩
        generalize A.eval = ρ at *
        clear hA hl hd hcl hV hS
        go_simp
      · intro l vs X A hA ⟨hV, hS⟩ hl hd hcl
        have hk := notYet (k := 10) hcl (by kernel_rfl) hl
        have hX := hS.1 hk
        have hB := hX
        have a48 := eval_new hA 48 6 (by kernel_rfl) (by kernel_rfl) (by kernel_rfl) (hd 6 (by kernel_rfl)) (hV 6 _ (hd 6 (by kernel_rfl)) rfl)
        have hg := hJ.grow hB
        have cc : X.cell? ⟨b6, 2, none⟩ = some (.int .u32 ((k.r d).great : Int)) := hg.d.cell 2
        refine show_value (v := .int .u32 ((k.r d).great : Int)) (X' := X) ?_ ⟨hV.upd (fun _ h => Option.some.inj h), Pre1.keep hk (by decide) (hX)⟩
        clear hg
        generalize A.eval = ρ at *
        clear hA hl hd hcl hV hS
        go_simp
      · intro l vs X A hA ⟨hV, hS⟩ hl hd hcl
        have hk := notYet (k := 10) hcl (by kernel_rfl) hl
        have hX := hS.1 hk
        have hB := hX
        have a47 := eval_new hA 47 5 (by kernel_rfl) (by kernel_rfl) (by kernel_rfl) (hd 5 (by kernel_rfl)) (hV 5 _ (hd 5 (by kernel_rfl)) rfl)
        have a49 := eval_new hA 49 7 (by kernel_rfl) (by kernel_rfl) (by kernel_rfl) (hd 7 (by kernel_rfl)) (hV 7 _ (hd 7 (by kernel_rfl)) rfl)
        have aF0 : A.eval (.func 90) = .func (.func 90) #[] #[] := rfl
        refine show_call (f := 90) (args := #[(k.r s).v, .int .u32 ((k.r d).great : Int)]) ?_ (atMost_any (k.r s) (k.r d).great hoks X) ?_
        · generalize A.eval = ρ at *
          clear hA hl hd hcl hV hS
          go_simp
        · rintro e X' ⟨rfl, hB1⟩
          exact .inl ⟨_, rfl, hV.upd (fun _ h => Option.some.inj h), Pre1.keep hk (by decide) (hX.trans (hB1.mono hX.size))⟩
      · intro l vs X A hA ⟨hV, hS⟩ hl hd hcl
        have hk := notYet (k := 10) hcl (by kernel_rfl) hl
        have hX := hS.1 hk
        have hB := hX
        have a42 := eval_new hA 42 0 (by kernel_rfl) (by kernel_rfl) (by kernel_rfl) (hd 0 (by kernel_rfl)) (hV 0 _ (hd 0 (by kernel_rfl)) rfl)
        have a46 := eval_new hA 46 4 (by kernel_rfl) (by kernel_rfl) (by kernel_rfl) (hd 4 (by kernel_rfl)) (hV 4 _ (hd 4 (by kernel_rfl)) rfl)
        have a50 := eval_new hA 50 8 (by kernel_rfl) (by kernel_rfl) (by kernel_rfl) (hd 8 (by kernel_rfl)) (hV 8 _ (hd 8 (by kernel_rfl)) rfl)
        have aF0 : A.eval (.func 92) = .func (.func 92) #[] #[] := rfl
        refine show_call (f := 92) (args := #[.agg (stA i c k), (atLeastR (k.r d) (k.r s).least).v, (atMostR (k.r s) (k.r d).great).v]) ?_ (both_any i c k d s (atLeastR (k.r d) (k.r s).least) (atMostR (k.r s) (k.r d).great) X hdst hdn hsrc hsn) ?_
        · generalize A.eval = ρ at *
          clear hA hl hd hcl hV hS
          go_simp
        · rintro e X' ⟨rfl, hB1⟩
          exact .inl ⟨_, rfl, hV.upd (fun _ h => Option.some.inj h), Pre1.keep hk (by decide) (hX.trans (hB1.mono hX.size))⟩
      · intro l vs X A hA ⟨hV, hS⟩ hl hd hcl
        have hX := hS.1 hl
        have hB := hX
        have a2 := eval_old hA 2 (by kernel_rfl) rfl
        have a51 := eval_new hA 51 9 (by kernel_rfl) (by kernel_rfl) (by kernel_rfl) (hd 9 (by kernel_rfl)) (hV 9 _ (hd 9 (by kernel_rfl)) rfl)
        have hg := hJ.grow hX
        refine show_skip (X' := X.setRow (w.heap.size + 1) ((k.set d (atLeastR (k.r d) (k.r s).least)).set s (atMostR (k.r s) (k.r d).great)).a) (run_st_row 43 _ _ rfl (w.heap.size + 1) _ _ _ a2 a51 hg.n (by kernel_rfl) (by kernel_rfl) (Kn.a_one _)) ⟨hV.upd (fun _ h => by cases h), Pre1.last (hg.setN _)⟩
    case hend =>
      intro l vs X hl ⟨hV, hS⟩
      have hX := hS.2 (hl 10 (by decide))
      have v0 := hV 0 _ (hl 0 (by decide)) rfl
      have v1 := hV 1 _ (hl 1 (by decide)) rfl
      have v2 := hV 2 _ (hl 2 (by decide)) rfl
      have v3 := hV 3 _ (hl 3 (by decide)) rfl
      have v4 := hV 4 _ (hl 4 (by decide)) rfl
      have v5 := hV 5 _ (hl 5 (by decide)) rfl
      have v6 := hV 6 _ (hl 6 (by decide)) rfl
      have v7 := hV 7 _ (hl 7 (by decide)) rfl
      have v8 := hV 8 _ (hl 8 (by decide)) rfl
      have v9 := hV 9 _ (hl 9 (by decide)) rfl
      clear hV hS hl
      simp only [canonL, if_true, v0, v1, v2, v3, v4, v5, v6, v7, v8, v9]
      clear v0 v1 v2 v3 v4 v5 v6 v7 v8 v9
      go_simp
      clear hJ
      have hJ := hX
      clear hX
      obtain ⟨W5, hren⟩ : ∃ Z, Z = X := ⟨_, rfl⟩
      subst hren
      have hz5 := hJ.size
      go_upto_region 8 with fail
      refine wp_region_inv (Φ := fun l vs X => Vals (fun q => match q with | 0 => some (.agg ((k.set d (atLeastR (k.r d) (k.r s).least)).set s (atMostR (k.r s) (k.r d).great)).a) | 1 => some (.agg (noK).a) | _ => none) l vs ∧ Pre2 2 3 (Below W5.heap.size W5) (JW w i c k ((k.set d (atLeastR (k.r d) (k.r s).least)).set s (atMostR (k.r s) (k.r d).great)) (noK) b6 b7 (k.r d) (k.r s)) (JW w i c k ((k.set d (atLeastR (k.r d) (k.r s).least)).set s (atMostR (k.r s) (k.r d).great)) (noK) b6 b7 (k.r d) (k.r s)) l X) (PQ := fun _ _ => False)
        (by kernel_rfl) (by kernel_rfl) (by kernel_rfl) (by kernel_rfl) ⟨Vals.none _ _, Pre2.start ((Below.refl _ _).drew)⟩ ?hop ?hend (fun _ _ _ _ h => h.elim)
      case hop =>
        refine ⟨?_, ?_, ?_, ?_, trivial⟩
        · intro l vs X A hA ⟨hV, hS⟩ hl hd hcl
          have hj := notYet (k := 2) hcl (by kernel_rfl) hl
          have hk := notYet (k := 3) hcl (by kernel_rfl) hl
          have hX := hS.1 hj
          have hB := hX
          have a2 := eval_old hA 2 (by kernel_rfl) rfl
          refine show_value (v := .agg ((k.set d (atLeastR (k.r d) (k.r s).least)).set s (atMostR (k.r s) (k.r d).great)).a) (X' := X) (run_ld 43 _ rfl _ a2 (ld_row (l := ((k.set d (atLeastR (k.r d) (k.r s).least)).set s (atMostR (k.r s) (k.r d).great)).cells) (has_whole (hJ.grow hB).n) (by kernel_rfl))) ⟨hV.upd (fun _ h => Option.some.inj h), Pre2.keep hj hk (by decide) (by decide) (hX)⟩
        · intro l vs X A hA ⟨hV, hS⟩ hl hd hcl
          have hk := notYet (k := 3) hcl (by kernel_rfl) hl
          have a3 := eval_old hA 3 (by kernel_rfl) rfl
          cases hj : l 2 with
          | true =>
            have hX := hS.2.1 hj hk
            exact show_value (v := .agg (noK).a) (X' := X) (run_ld 43 _ rfl _ a3 (ld_row (l := (noK).cells) (has_whole hX.j) (by kernel_rfl))) ⟨hV.upd (fun _ h => Option.some.inj h), Pre2.keepMid hj hk (by decide) (by decide) hX⟩
          | false =>
            have hX := hS.1 hj
            have hB := hX
            exact show_value (v := .agg (noK).a) (X' := X) (run_ld 43 _ rfl _ a3 (ld_row (l := (noK).cells) (has_whole (hJ.grow hB).j) (by kernel_rfl))) ⟨hV.upd (fun _ h => Option.some.inj h), Pre2.keep hj hk (by decide) (by decide) hX⟩
        · intro l vs X A hA ⟨hV, hS⟩ hl hd hcl
          have hk := notYet (k := 3) hcl (by kernel_rfl) hl
          have hX := hS.1 hl
          have a2 := eval_old hA 2 (by kernel_rfl) rfl
          have a52 := eval_new hA 52 0 (by kernel_rfl) (by kernel_rfl) (by kernel_rfl) (hd 0 (by kernel_rfl)) (hV 0 _ (hd 0 (by kernel_rfl)) rfl)
          have hg := hJ.grow hX
          refine show_skip (X' := X.setRow (w.heap.size + 1) ((k.set d (atLeastR (k.r d) (k.r s).least)).set s (atMostR (k.r s) (k.r d).great)).a) (run_st_row 43 _ _ rfl (w.heap.size + 1) _ _ _ a2 a52 hg.n (by kernel_rfl) (by kernel_rfl) (Kn.a_one _)) ⟨hV.upd (fun _ h => by cases h), Pre2.mid hk (by decide) (hg.setN _)⟩
        · intro l vs X A hA ⟨hV, hS⟩ hl hd hcl
          have hX := hS.2.1 (hd 2 (by kernel_rfl)) hl
          have a3 := eval_old hA 3 (by kernel_rfl) rfl
          have a53 := eval_new hA 53 1 (by kernel_rfl) (by kernel_rfl) (by kernel_rfl) (hd 1 (by kernel_rfl)) (hV 1 _ (hd 1 (by kernel_rfl)) rfl)
          refine show_skip (X' := X.setRow (w.heap.size + 2) (noK).a) (run_st_row 43 _ _ rfl (w.heap.size + 2) _ _ _ a3 a53 hX.j (by kernel_rfl) (by kernel_rfl) (Kn.a_one _)) ⟨hV.upd (fun _ h => by cases h), Pre2.last (hd 2 (by kernel_rfl)) (hX.setJ _)⟩
      case hend =>
        intro l vs X hl ⟨hV, hS⟩
        have hX := hS.2.2 (hl 3 (by decide))
        have v0 := hV 0 _ (hl 0 (by decide)) rfl
        have v1 := hV 1 _ (hl 1 (by decide)) rfl
        clear hV hS hl
        simp only [canonL, if_true, v0, v1]
        clear v0 v1
        go_simp
        go_wp2_with fail
        refine bodyPost_ret (results_rows2 rfl _ _ (w.heap.size + 1) (w.heap.size + 2) 43 _ _ _ rfl rfl hX.n hX.j Tryd.underlying43 rfl (by kernel_rfl) (by kernel_rfl)) rfl ?_
        exact ⟨rfl, hX.below⟩
end Go.Proofs.YtodkehpldlmgaaaDoor
/- What the Ops from ldc to exit make. -/
namespace Go.Proofs.YtodkehpldlmgaaaDoor
open Go.RowKit

set_option maxRecDepth 10000 in
set_option maxHeartbeats 1000000 in
theorem make_16 (i : Ins) (c : Int) (k : Kn) (v : Value) (W : World) (hop : i.op = 16) (hm : MayI i) (hK : KnR k) (hv : IsMake W 16 v) : MakeOk i c k v W := by
  obtain ⟨hm, him⟩ := hm
  unfold MayP at hm
  have hn : i.op.toNat = 16 := by omega
  obtain ⟨d, hd⟩ : ∃ d : Nat, i.dst = (d : Int) := ⟨i.dst.toNat, by omega⟩
  have hdn : d < 10 := by omega
  have hdt : i.dst.toNat = d := by omega
  obtain ⟨s, hs⟩ : ∃ s : Nat, i.src = (s : Int) := ⟨i.src.toNat, by omega⟩
  have hsn : s < 10 := by omega
  have hst : i.src.toNat = s := by omega
  cases hv with
  | set G b h hb => simp [setOf] at h
  | fold F G bf bg h hf hg => simp [foldOf] at h
  | fn h =>
    refine ⟨57, #[], rfl, fun _ _ => rfl, ?_⟩
    have e : outI i c k = bindE (needE k s) fun r => if fits r i.off c then .ok (k.set d (fromR 0 255), noK) else .error .beyond := by unfold outI; rw [hn, hdt, hst]; rfl
    rw [e]
    by_cases h0 : k.r s = noR
    · rw [needE_no h0]
      exact ldc_sno i c k s W hs hsn h0
    · rw [needE_ok h0, bindE_ok]
      cases hf : fits (k.r s) i.off c
      · exact ldc_bno i c k s i.off W hs hsn h0 (hK s hsn).2 rfl (by omega) (by omega) hf
      · exact ldc_ok i c k d s i.off W hd hdn hs hsn h0 (hK s hsn).2 rfl (by omega) (by omega) hf
set_option maxRecDepth 10000 in
set_option maxHeartbeats 1000000 in
theorem make_17 (i : Ins) (c : Int) (k : Kn) (v : Value) (W : World) (hop : i.op = 17) (hm : MayI i) (hK : KnR k) (hv : IsMake W 17 v) : MakeOk i c k v W := by
  obtain ⟨hm, him⟩ := hm
  unfold MayP at hm
  have hn : i.op.toNat = 17 := by omega
  obtain ⟨d, hd⟩ : ∃ d : Nat, i.dst = (d : Int) := ⟨i.dst.toNat, by omega⟩
  have hdn : d < 10 := by omega
  have hdt : i.dst.toNat = d := by omega
  obtain ⟨s, hs⟩ : ∃ s : Nat, i.src = (s : Int) := ⟨i.src.toNat, by omega⟩
  have hsn : s < 10 := by omega
  have hst : i.src.toNat = s := by omega
  cases hv with
  | set G b h hb => simp [setOf] at h
  | fold F G bf bg h hf hg => simp [foldOf] at h
  | fn h =>
    refine ⟨58, #[], rfl, fun _ _ => rfl, ?_⟩
    have e : outI i c k = bindE (needE k s) fun r => if fits r i.off 64 then .ok (k.set d (fromR 0 255), noK) else .error .beyond := by unfold outI; rw [hn, hdt, hst]; rfl
    rw [e]
    by_cases h0 : k.r s = noR
    · rw [needE_no h0]
      exact lds_sno i c k s W hs hsn h0
    · rw [needE_ok h0, bindE_ok]
      cases hf : fits (k.r s) i.off 64
      · exact lds_bno i c k s i.off W hs hsn h0 (hK s hsn).2 rfl (by omega) (by omega) hf
      · exact lds_ok i c k d s i.off W hd hdn hs hsn h0 (hK s hsn).2 rfl (by omega) (by omega) hf
set_option maxRecDepth 10000 in
set_option maxHeartbeats 1000000 in
theorem make_18 (i : Ins) (c : Int) (k : Kn) (v : Value) (W : World) (hop : i.op = 18) (hm : MayI i) (hK : KnR k) (hv : IsMake W 18 v) : MakeOk i c k v W := by
  obtain ⟨hm, him⟩ := hm
  unfold MayP at hm
  have hn : i.op.toNat = 18 := by omega
  obtain ⟨d, hd⟩ : ∃ d : Nat, i.dst = (d : Int) := ⟨i.dst.toNat, by omega⟩
  have hdn : d < 10 := by omega
  have hdt : i.dst.toNat = d := by omega
  obtain ⟨s, hs⟩ : ∃ s : Nat, i.src = (s : Int) := ⟨i.src.toNat, by omega⟩
  have hsn : s < 10 := by omega
  have hst : i.src.toNat = s := by omega
  cases hv with
  | set G b h hb => simp [setOf] at h
  | fold F G bf bg h hf hg => simp [foldOf] at h
  | fn h =>
    refine ⟨59, #[], rfl, fun _ _ => rfl, ?_⟩
    have e : outI i c k = bindE (needE k d) fun r => bindE (needE k s) fun _ => if fits r i.off 64 then .ok (k, noK) else .error .beyond := by unfold outI; rw [hn, hdt, hst]; rfl
    rw [e]
    by_cases h0 : k.r d = noR
    · rw [needE_no h0]
      exact sts_dno i c k d W hd hdn h0
    · rw [needE_ok h0, bindE_ok]
      by_cases h1 : k.r s = noR
      · rw [needE_no h1]
        exact sts_sno i c k d s W hd hdn hs hsn h0 h1
      · rw [needE_ok h1, bindE_ok]
        cases hf : fits (k.r d) i.off 64
        · exact sts_bno i c k d s W hd hdn hs hsn h0 h1 i.off (hK d hdn).2 rfl (by omega) (by omega) hf
        · exact sts_ok i c k d s W hd hdn hs hsn h0 h1 i.off (hK d hdn).2 rfl (by omega) (by omega) hf
set_option maxRecDepth 10000 in
set_option maxHeartbeats 1000000 in
theorem make_19 (i : Ins) (c : Int) (k : Kn) (v : Value) (W : World) (hop : i.op = 19) (hm : MayI i) (_hK : KnR k) (hv : IsMake W 19 v) : MakeOk i c k v W := by
  obtain ⟨hm, him⟩ := hm
  unfold MayP at hm
  have hn : i.op.toNat = 19 := by omega
  cases hv with
  | set G b h hb => simp [setOf] at h
  | fold F G bf bg h hf hg => simp [foldOf] at h
  | fn h =>
    refine ⟨60, #[], rfl, fun _ _ => rfl, ?_⟩
    have e : outI i c k = .ok (noK, k) := by unfold outI; rw [hn]; rfl
    rw [e]
    exact ja_any i c k W
set_option maxRecDepth 10000 in
set_option maxHeartbeats 1000000 in
theorem make_20 (i : Ins) (c : Int) (k : Kn) (v : Value) (W : World) (hop : i.op = 20) (hm : MayI i) (hK : KnR k) (hv : IsMake W 20 v) : MakeOk i c k v W := by
  obtain ⟨hm, him⟩ := hm
  unfold MayP at hm
  have hn : i.op.toNat = 20 := by omega
  obtain ⟨d, hd⟩ : ∃ d : Nat, i.dst = (d : Int) := ⟨i.dst.toNat, by omega⟩
  have hdn : d < 10 := by omega
  have hdt : i.dst.toNat = d := by omega
  cases hv with
  | set G b h hb => simp [setOf] at h
  | fold F G bf bg h hf hg => simp [foldOf] at h
  | fn h =>
    refine ⟨61, #[], rfl, fun _ _ => rfl, ?_⟩
    have e : outI i c k = bindE (needE k d) fun r => .ok (if r = fromR i.imm i.imm then noK else k.set d (witR r i.imm), if hasR r i.imm then k.set d (fromR i.imm i.imm) else noK) := by unfold outI; rw [hn, hdt]; rfl
    rw [e]
    by_cases h0 : k.r d = noR
    · rw [needE_no h0]
      exact jeq_no i c k d W hd hdn h0
    · rw [needE_ok h0, bindE_ok]
      have ho := (hK d hdn).2
      have hl := hK.le hdn
      have hse := hK.set hdn h0
      by_cases hq : k.r d = fromR i.imm i.imm
      · have hh : hasR (k.r d) i.imm = true := by rw [hq]; simp [hasR, fromR]
        rw [if_pos hq, hh]
        exact jeq_10 i c k d W hd hdn h0 ho hh (by simp [hq])
      · rw [if_neg hq]
        have n1 : ¬ (i.imm = (k.r d).least ∧ (k.r d).least = 4294967295) := fun hc => hq (by
          have hg := ho.great
          have e2 : (k.r d).great = i.imm := by omega
          cases hr : k.r d with
          | mk a b g => rw [hr] at hse hc e2; simp only at hse hc e2; rw [hse, ← hc.1, e2]; rfl)
        have n2 : ¬ (i.imm ≠ (k.r d).least ∧ i.imm = (k.r d).great ∧ (k.r d).great = 0) := fun hc => by omega
        cases hh : hasR (k.r d) i.imm
        · exact jeq_01 i c k d W hd hdn h0 ho hh (by simp [hq]) n1 n2
        · exact jeq_11 i c k d W hd hdn h0 ho hh (by simp [hq]) n1 n2
set_option maxRecDepth 10000 in
set_option maxHeartbeats 1000000 in
theorem make_21 (i : Ins) (c : Int) (k : Kn) (v : Value) (W : World) (hop : i.op = 21) (hm : MayI i) (hK : KnR k) (hv : IsMake W 21 v) : MakeOk i c k v W := by
  obtain ⟨hm, him⟩ := hm
  unfold MayP at hm
  have hn : i.op.toNat = 21 := by omega
  obtain ⟨d, hd⟩ : ∃ d : Nat, i.dst = (d : Int) := ⟨i.dst.toNat, by omega⟩
  have hdn : d < 10 := by omega
  have hdt : i.dst.toNat = d := by omega
  cases hv with
  | set G b h hb => simp [setOf] at h
  | fold F G bf bg h hf hg => simp [foldOf] at h
  | fn h =>
    refine ⟨62, #[], rfl, fun _ _ => rfl, ?_⟩
    have e : outI i c k = bindE (needE k d) fun r => .ok (if i.imm ≤ r.great then k.set d (atLeastR r i.imm) else noK, if r.least < i.imm then k.set d (atMostR r (i.imm - 1)) else noK) := by unfold outI; rw [hn, hdt]; rfl
    rw [e]
    by_cases h0 : k.r d = noR
    · rw [needE_no h0]
      exact jlti_no i c k d W hd hdn h0
    · rw [needE_ok h0, bindE_ok]
      have ho := (hK d hdn).2
      have hl := hK.le hdn
      by_cases ha : (k.r d).least < i.imm
      · rw [if_pos ha]
        by_cases hb : i.imm ≤ (k.r d).great
        · rw [if_pos hb]; exact jlti_11 i c k d W hd hdn h0 ho him ha hb
        · rw [if_neg hb]; exact jlti_10 i c k d W hd hdn h0 ho him ha hb
      · rw [if_neg ha]
        by_cases hb : i.imm ≤ (k.r d).great
        · rw [if_pos hb]; exact jlti_01 i c k d W hd hdn h0 ho him ha hb
        · omega
set_option maxRecDepth 10000 in
set_option maxHeartbeats 1000000 in
theorem make_22 (i : Ins) (c : Int) (k : Kn) (v : Value) (W : World) (hop : i.op = 22) (hm : MayI i) (hK : KnR k) (hv : IsMake W 22 v) : MakeOk i c k v W := by
  obtain ⟨hm, him⟩ := hm
  unfold MayP at hm
  have hn : i.op.toNat = 22 := by omega
  obtain ⟨d, hd⟩ : ∃ d : Nat, i.dst = (d : Int) := ⟨i.dst.toNat, by omega⟩
  have hdn : d < 10 := by omega
  have hdt : i.dst.toNat = d := by omega
  obtain ⟨s, hs⟩ : ∃ s : Nat, i.src = (s : Int) := ⟨i.src.toNat, by omega⟩
  have hsn : s < 10 := by omega
  have hst : i.src.toNat = s := by omega
  cases hv with
  | set G b h hb => simp [setOf] at h
  | fold F G bf bg h hf hg => simp [foldOf] at h
  | fn h =>
    refine ⟨63, #[], rfl, fun _ _ => rfl, ?_⟩
    have e : outI i c k = bindE (needE k d) fun r => bindE (needE k s) fun q => if d = s then .ok (k, noK) else
      .ok (if q.least ≤ r.great then (k.set d (atLeastR r q.least)).set s (atMostR q r.great) else noK, if r.least < q.great then (k.set d (atMostR r (q.great - 1))).set s (atLeastR q (r.least + 1)) else noK) := by unfold outI; rw [hn, hdt, hst]; rfl
    rw [e]
    by_cases h0 : k.r d = noR
    · rw [needE_no h0]
      exact jlt_dno i c k d W hd hdn h0
    · rw [needE_ok h0, bindE_ok]
      by_cases h1 : k.r s = noR
      · rw [needE_no h1]
        exact jlt_sno i c k d s W hd hdn hs hsn h0 h1
      · rw [needE_ok h1, bindE_ok]
        by_cases hds : d = s
        · rw [if_pos hds]
          exact jlt_same i c k d s W hd hdn hs hsn h0 h1 hds
        · rw [if_neg hds]
          have ho := (hK d hdn).2
          have hl := hK.le hdn
          have ho2 := (hK s hsn).2
          have hl2 := hK.le hsn
          by_cases ha : (k.r d).least < (k.r s).great
          · rw [if_pos ha]
            by_cases hb : (k.r s).least ≤ (k.r d).great
            · rw [if_pos hb]; exact jlt_11 i c k d s W hd hdn hs hsn h0 h1 hds ho ho2 ha hb
            · rw [if_neg hb]; exact jlt_10 i c k d s W hd hdn hs hsn h0 h1 hds ho ho2 ha hb
          · rw [if_neg ha]
            by_cases hb : (k.r s).least ≤ (k.r d).great
            · rw [if_pos hb]; exact jlt_01 i c k d s W hd hdn hs hsn h0 h1 hds ho ho2 ha hb
            · omega
set_option maxRecDepth 10000 in
set_option maxHeartbeats 1000000 in
theorem make_23 (i : Ins) (c : Int) (k : Kn) (v : Value) (W : World) (hop : i.op = 23) (hm : MayI i) (_hK : KnR k) (hv : IsMake W 23 v) : MakeOk i c k v W := by
  obtain ⟨hm, him⟩ := hm
  unfold MayP at hm
  have hn : i.op.toNat = 23 := by omega
  cases hv with
  | set G b h hb => simp [setOf] at h
  | fold F G bf bg h hf hg => simp [foldOf] at h
  | fn h =>
    refine ⟨64, #[], rfl, fun _ _ => rfl, ?_⟩
    have e : outI i c k = .ok (callK k 5, noK) := by unfold outI; rw [hn]; rfl
    rw [e]
    exact call_any i c k W
set_option maxRecDepth 10000 in
set_option maxHeartbeats 1000000 in
theorem make_24 (i : Ins) (c : Int) (k : Kn) (v : Value) (W : World) (hop : i.op = 24) (hm : MayI i) (_hK : KnR k) (hv : IsMake W 24 v) : MakeOk i c k v W := by
  obtain ⟨hm, him⟩ := hm
  unfold MayP at hm
  have hn : i.op.toNat = 24 := by omega
  cases hv with
  | set G b h hb => simp [setOf] at h
  | fold F G bf bg h hf hg => simp [foldOf] at h
  | fn h =>
    refine ⟨65, #[], rfl, fun _ _ => rfl, ?_⟩
    have e : outI i c k = bindE (needE k 0) fun _ => .ok (noK, noK) := by unfold outI; rw [hn]; rfl
    rw [e]
    by_cases h0 : k.r 0 = noR
    · rw [needE_no h0]
      exact exit_no i c k W h0
    · rw [needE_ok h0]
      exact exit_ok i c k W h0
end Go.Proofs.YtodkehpldlmgaaaDoor
/- What any Op makes. -/
namespace Go.Proofs.YtodkehpldlmgaaaDoor
open Go.RowKit

theorem make_any (i : Ins) (c : Int) (k : Kn) (v : Value) (W : World) (n : Nat) (hop : i.op = (n : Int)) (hm : MayI i) (hK : KnR k) (hv : IsMake W n v) : MakeOk i c k v W := by
  have h24 : 1 ≤ n ∧ n ≤ 24 := by have := hm.1.1; omega
  obtain ⟨h1, h2⟩ := h24
  obtain rfl | rfl | rfl | rfl | rfl | rfl | rfl | rfl | rfl | rfl | rfl | rfl | rfl | rfl | rfl | rfl | rfl | rfl | rfl | rfl | rfl | rfl | rfl | rfl : n = 1 ∨ n = 2 ∨ n = 3 ∨ n = 4 ∨ n = 5 ∨ n = 6 ∨ n = 7 ∨ n = 8 ∨ n = 9 ∨ n = 10 ∨ n = 11 ∨ n = 12 ∨ n = 13 ∨ n = 14 ∨ n = 15 ∨ n = 16 ∨ n = 17 ∨ n = 18 ∨ n = 19 ∨ n = 20 ∨ n = 21 ∨ n = 22 ∨ n = 23 ∨ n = 24 := by omega
  · exact make_1 i c k v W hop hm hK hv
  · exact make_2 i c k v W hop hm hK hv
  · exact make_3 i c k v W hop hm hK hv
  · exact make_4 i c k v W hop hm hK hv
  · exact make_5 i c k v W hop hm hK hv
  · exact make_6 i c k v W hop hm hK hv
  · exact make_7 i c k v W hop hm hK hv
  · exact make_8 i c k v W hop hm hK hv
  · exact make_9 i c k v W hop hm hK hv
  · exact make_10 i c k v W hop hm hK hv
  · exact make_11 i c k v W hop hm hK hv
  · exact make_12 i c k v W hop hm hK hv
  · exact make_13 i c k v W hop hm hK hv
  · exact make_14 i c k v W hop hm hK hv
  · exact make_15 i c k v W hop hm hK hv
  · exact make_16 i c k v W hop hm hK hv
  · exact make_17 i c k v W hop hm hK hv
  · exact make_18 i c k v W hop hm hK hv
  · exact make_19 i c k v W hop hm hK hv
  · exact make_20 i c k v W hop hm hK hv
  · exact make_21 i c k v W hop hm hK hv
  · exact make_22 i c k v W hop hm hK hv
  · exact make_23 i c k v W hop hm hK hv
  · exact make_24 i c k v W hop hm hK hv
end Go.Proofs.YtodkehpldlmgaaaDoor
/- What is known is copied out. -/
namespace Go.Proofs.YtodkehpldlmgaaaDoor
open Go.RowKit

/-- A slice of what is known. -/
def KnS (X : World) (v : Value) (n : Nat) (ks : Nat → Kn) : Prop := ∃ g cap, v = .slice (some ⟨g, 0, none⟩) n cap ∧ n ≤ cap ∧ g < X.heap.size ∧ ∀ j, j < n → X.rangeAt g (j * 31) (ks j).cells
theorem KnS.below {X X' : World} {v : Value} {n : Nat} {ks : Nat → Kn} (h : KnS X v n ks) (k : Below X.heap.size X X') : KnS X' v n ks := by
  obtain ⟨g, cap, h1, h2, h3, h4⟩ := h
  exact ⟨g, cap, h1, h2, Nat.lt_of_lt_of_le h3 k.size, fun j hj => range_eq (h4 j hj) (k.block g h3)⟩
def ksL (n : Nat) (ks : Nat → Kn) : List Value := ((List.range n).map fun j => (ks j).cells).flatten
theorem ksL_len (n : Nat) (ks : Nat → Kn) : (ksL n ks).length = n * 31 := by
  unfold ksL
  have : ∀ L : List (List Value), (∀ l ∈ L, l.length = 31) → L.flatten.length = L.length * 31 := by
    intro L
    induction L with
    | nil => intro _; rfl
    | cons l L ih =>
      intro h
      rw [List.flatten_cons, List.length_append, h l (by simp), ih (fun q hq => h q (by simp [hq])), List.length_cons]
      omega
  rw [this _ (fun l hl => by obtain ⟨j, _, rfl⟩ := List.mem_map.1 hl; rfl)]
  simp
theorem ksL_at (n : Nat) (ks : Nat → Kn) (j i : Nat) (hj : j < n) (hi : i < 31) : (ksL n ks)[j * 31 + i]? = (ks j).cells[i]? := by
  unfold ksL
  rw [flat_at _ (fun l hl => by obtain ⟨j, _, rfl⟩ := List.mem_map.1 hl; rfl) j i (by simpa using hj) hi]
  simp [hj]
theorem ksL_one (n : Nat) (ks : Nat → Kn) : ∀ u ∈ ksL n ks, u.oneCell' = true := fun u hu => by
  unfold ksL at hu
  obtain ⟨l, hl, hu⟩ := List.mem_flatten.1 hu
  obtain ⟨j, _, rfl⟩ := List.mem_map.1 hl
  exact (Array.all_eq_true_iff_forall_mem.1 (Kn.a_one (ks j))) u (by unfold Kn.a; simpa using hu)
theorem info43 : (Tryd.prog.info? 43).map (fun i => (i.zero, i.size, i.bytes)) = some (some (.agg noK.a), 31, 124) := by kernel_rfl
theorem run_append26 {o : Oper} {ρ : Operand → Value} {X X' : World} (s y : Operand) (ho : o.op = .call { callee := .builtin .append, args := #[s, y], argTypes := #[26, 26] }) {v u r : Value} (hs : ρ s = v) (hy : ρ y = u) (h : (Builtin.append_ #[26, 26] o.type #[v, u]).run Tryd.prog X = .ok r X') :
    (execOp ρ o).run Tryd.prog X = .ok (.value r) X' := by
  unfold execOp
  simp only [ho, resolve, invoke, builtin, Sem.run_bind, Sem.run_pure, Result.andThen_ok, List.map_toArray, List.map_cons, List.map_nil, hs, hy, h]
theorem append_known (wb n cap : Nat) (ws : Nat → Kn) (w : World) (hW : WaysAt w wb ws) (hn : 1 ≤ n) (hn2 : n ≤ 256) :
    ∃ v' w', (Builtin.append_ #[26, 26] 26 #[.slice (some ⟨w.heap.size, 0, none⟩) 0 0, .slice (some ⟨wb, 0, none⟩) n cap]).run Tryd.prog (w.alloc (.cells #[] 43)) = .ok v' w' ∧ KnS w' v' n ws ∧ Below w.heap.size w w' := by
  obtain ⟨i0, hi, hz0, hz1, hz2⟩ := info_parts info43
  have hB : Below w.heap.size w (w.alloc (.cells #[] 43)) := (Below.refl _ _).alloc (Nat.le_refl _) _
  have hW1 := hW.below hB
  have hown : (w.alloc (.cells #[] 43)).ownsRow w.heap.size 43 31 (.slice (some ⟨w.heap.size, 0, none⟩) 0 0) 0 [] :=
    ⟨rfl, .inr ⟨w.heap.size, 0, #[], rfl, Nat.le_refl _, by rw [alloc_get, if_pos rfl], Nat.le_refl _, Nat.zero_le _, rfl, rfl⟩⟩
  obtain ⟨v', w', h1, h2, h3, h4⟩ := run_append_own (P := Tryd.prog) (w := w.alloc (.cells #[] 43)) w.heap.size 26 26 43 i0 (.agg noK.a) 31 124 Tryd.underlying26 hi hz0 hz1 hz2 rfl (by decide) _ 0 [] hown ⟨wb, 0, none⟩ n cap (ksL n ws) (ksL_len n ws)
    (fun j u hu => by
      have hj : j < n * 31 := by have := (List.getElem?_eq_some_iff.1 hu).1; rwa [ksL_len] at this
      have e1 := ksL_at n ws (j / 31) (j % 31) (by omega) (by omega)
      rw [show j / 31 * 31 + j % 31 = j by omega, hu] at e1
      rw [Addr.add_mid, Nat.zero_add]
      have := hW1.at_ (j / 31) (by omega) (j % 31) u e1.symm
      rwa [show j / 31 * 31 + j % 31 = j by omega] at this)
    (ksL_one n ws) (by unfold maxLen; omega) (by omega) (by simp)
  rw [List.nil_append, Nat.zero_add] at h2
  refine ⟨v', w', h1, ?_, ?_⟩
  · have h2' := h2
    rcases h2.2 with ⟨rfl, h5⟩ | ⟨g, c, cur, rfl, h5, h6, h7, h8, h9, h10⟩
    · omega
    · refine ⟨g, c, rfl, h7, (Array.getElem?_eq_some_iff.1 h6).1, fun j hj => fun i u hu => ?_⟩
      have hi : i < 31 := by have := (List.getElem?_eq_some_iff.1 hu).1; rwa [Kn.cells_len] at this
      have := h2'.cells (g := g) rfl (j * 31 + i) u (by rw [ksL_at n ws j i hj hi]; exact hu)
      rwa [Addr.add_mid, Nat.zero_add] at this
  · exact ⟨h3.os, h3.tape, h3.output, by have := h3.size; simp at this; omega, fun k hk => (h3.block k (by simp; omega) (by simp [Value.ownBlock]; omega)).trans (hB.block k hk)⟩
set_option maxRecDepth 10000 in
set_option maxHeartbeats 2000000 in
theorem clone_any (wb n cap : Nat) (ws : Nat → Kn) (w : World) (hW : WaysAt w wb ws) (hn : 1 ≤ n) (hn2 : n ≤ 256) :
    Calls Tryd.prog 42 #[.slice (some ⟨wb, 0, none⟩) n cap] w fun e w' => ∃ v, e = .returned v ∧ KnS w' v n ws ∧ Below w.heap.size w w' := by
  have qT : ∀ (w : World) (a : Option Addr) (n c n' c' : Nat), (binOp .eql 26 (.slice a n c) (.slice none n' c')).run Tryd.prog w = .ok (.bool a.isNone) w := fun w a n c n' c' => Lib.run_eql_slice_nil w _ _ a n c n' c' Tryd.underlying26
  obtain ⟨v', w', h1, h2, h3⟩ := append_known wb n cap ws w hW hn hn2
  have H2 : Hid (KnS w' v' n ws ∧ Below w.heap.size w w') := ⟨h2, h3⟩
  clear h2 h3 hW
  go_enter Tryd.func42, Tryd.ntmps42
  go_upto_region 3 with fail
  refine wp_region_lit ?_
  refine wpList_val (w' := w.alloc (.cells #[] 43)) (v := .slice (some ⟨w.heap.size, 0, none⟩) 0 0) rfl (by go_simp) ?_
  refine wpList_val (w' := w.alloc (.cells #[] 43)) (v := .slice (some ⟨wb, 0, none⟩) n cap) rfl (by go_simp) ?_
  refine wpList_val rfl (run_append26 (v := .slice (some ⟨w.heap.size, 0, none⟩) 0 0) (u := .slice (some ⟨wb, 0, none⟩) n cap) _ _ rfl rfl rfl h1) ?_
  clear h1
  go_simp
  go_wp2_with fail
  go_ret
  exact ⟨_, rfl, H2.out⟩
end Go.Proofs.YtodkehpldlmgaaaDoor
