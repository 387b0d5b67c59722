/- Texts put together, in build order: J7, J8, J9, J10, N3, N4, M8, M3, M2, P2, D1. -/
import Derived.Test.YtodkehpldlmgaaaDoorZq4
import Derived.Test.YtodkehpldlmgaaaDoorZq2
import Derived.Test.YtodkehpldlmgaaaDoorZq3
import Derived.Lib.SliceRun
import Derived.Deep.Cut
import Derived.Laws.AppendOwn
import Derived.Test.YtodkehpldlmgaaaDoorZq1
import Derived.Defers
import Derived.Recover
/- sts. -/
namespace Go.Proofs.YtodkehpldlmgaaaDoor
open Go.RowKit
set_option maxRecDepth 10000 in
set_option maxHeartbeats 2000000 in
theorem sts_dno (i : Ins) (c : Int) (k : Kn) (d : Nat) (w : World) (hdst : i.dst = (d : Int)) (hdn : d < 10) (hk0 : k.r d = noR) :
    Calls Tryd.prog 59 #[.agg (stA i c k)] w fun e w' => e = .panicked Wrong.unset.entry ∧ Below w.heap.size w w' := by
  obtain ⟨W0, hW0⟩ : ∃ W0, W0 = ((w.alloc (.cells (stA i c k) 82)).alloc (.cells noK.a 43)).alloc (.cells noK.a 43) := ⟨_, rfl⟩
  obtain ⟨hst, h3, h4, hB0, hz0⟩ := ways_world i c k w W0 hW0
  have HZ : Hid (W0.heap.size = w.heap.size + 3) := hz0
  clear hz0
  go_enter Tryd.func59, Tryd.ntmps59
  go_upto_region 1 with fail
  refine named2 (p := fun X => Code.wp _ _ _ _ X) ?_
  intro W9 hW9
  have hW : W0 = W9 := hW0.trans hW9.symm
  subst hW
  clear hW9 hW0
  refine wp_region_inv (Φ := fun l vs X => Vals (fun q => match q with | 0 => some (.agg (stA i c k)) | 2 => some (.agg (stA i c k)) | _ => none) l vs ∧ Ph2 6 7 (Two W0.heap.size 40 noR.a W0 4 5) (fun vs X => Both W0.heap.size 40 noR.a noR.a W0 (vs 4) (vs 5) X) (fun vs X => Both W0.heap.size 40 noR.a noR.a W0 (vs 4) (vs 5) X) l vs X ∧ l 1 = false) (PQ := fun q X => q = Wrong.unset.entry ∧ Below W0.heap.size W0 X)
    (by kernel_rfl) (by kernel_rfl) (by kernel_rfl) (by kernel_rfl) ⟨Vals.none _ _, Ph2.start (Two.start ((Below.refl _ _).drew) (Nat.le_refl _)), rfl⟩ ?hop ?hend (fun c a X hq hp => ⟨hq, by rw [hp.1]; exact ⟨rfl, hB0.trans (hp.2.mono hB0.size)⟩⟩)
  case hop =>
    refine ⟨?_, ?_, ?_, ?_, ?_, ?_, ?_, ?_, trivial⟩
    · intro l vs X A hA ⟨hV, hS, hN1⟩ hl hd hcl
      have hj := nY 6 hcl hl
      have hk := nY 7 hcl hl
      have hX := hS.1 hj
      have hB := hX.below
      have a1 := eO hA 1 rfl
      refine show_value (v := .agg (stA i c k)) (X' := X) (run_ld 82 _ rfl _ a1 (ld_row (l := stCells i c k) (has_whole (hst.below hB hst.lt)) (by kernel_rfl))) ⟨hV.upd (fun _ h => Option.some.inj h), Ph2.keep hj hk (by decide) (by decide) (hX.grow (Below.refl _ _) (by decide) (by decide) _), (upd_other _ _ (by decide)).trans hN1⟩
    · intro l vs X A hA ⟨hV, hS, hN1⟩ hl hd hcl
      have hj := nY 6 hcl hl
      have hk := nY 7 hcl hl
      have hX := hS.1 hj
      have hB := hX.below
      have a6 := eN hA 6 0 hd hV rfl
      have aF0 : A.eval (.func 80) = .func (.func 80) #[] #[] := rfl
      refine show_call (f := 80) (args := #[.agg (stA i c k)]) ?_ (dst_no i c k d X hdst hdn hk0) ?_
      · generalize A.eval = ρ at *
        clear hA hl hd hcl hV hS
        go_simp
      · rintro e X' ⟨rfl, hB1⟩
        exact .inr ⟨_, rfl, rfl, hB.trans (hB1.mono hX.size)⟩
    · intro l vs X A hA ⟨hV, hS, hN1⟩ hl hd hcl
      have hj := nY 6 hcl hl
      have hk := nY 7 hcl hl
      have hX := hS.1 hj
      have hB := hX.below
      have a1 := eO hA 1 rfl
      refine show_value (v := .agg (stA i c k)) (X' := X) (run_ld 82 _ rfl _ a1 (ld_row (l := stCells i c k) (has_whole (hst.below hB hst.lt)) (by kernel_rfl))) ⟨hV.upd (fun _ h => Option.some.inj h), Ph2.keep hj hk (by decide) (by decide) (hX.grow (Below.refl _ _) (by decide) (by decide) _), (upd_other _ _ (by decide)).trans hN1⟩
    · intro l vs X A hA ⟨hV, hS, hN1⟩ hl hd hcl
      have hj := nY 6 hcl hl
      have hk := nY 7 hcl hl
      have hX := hS.1 hj
      have hB := hX.below
      exact absurd (hd 1 (by kernel_rfl)) (by rw [hN1]; decide)
    · intro l vs X A hA ⟨hV, hS, hN1⟩ hl hd hcl
      have hj := nY 6 hcl hl
      have hk := nY 7 hcl hl
      have hX := hS.1 hj
      have hB := hX.below
      refine show_value (v := .pointer (some ⟨X.heap.size, 0, none⟩)) (X' := X.alloc (.cells noR.a 40)) ?_ ⟨hV.upd (fun _ h => by cases h), Ph2.keep hj hk (by decide) (by decide) (hX.mkFst (by decide)), (upd_other _ _ (by decide)).trans hN1⟩
      generalize A.eval = ρ at *
      clear hA hl hd hcl hV hS
      rfl
    · intro l vs X A hA ⟨hV, hS, hN1⟩ hl hd hcl
      have hj := nY 6 hcl hl
      have hk := nY 7 hcl hl
      have hX := hS.1 hj
      have hB := hX.below
      refine show_value (v := .pointer (some ⟨X.heap.size, 0, none⟩)) (X' := X.alloc (.cells noR.a 40)) ?_ ⟨hV.upd (fun _ h => by cases h), Ph2.keep hj hk (by decide) (by decide) (hX.mkSnd (by decide)), (upd_other _ _ (by decide)).trans hN1⟩
      generalize A.eval = ρ at *
      clear hA hl hd hcl hV hS
      rfl
    · intro l vs X A hA ⟨hV, hS, hN1⟩ hl hd hcl
      have hk := nY 7 hcl hl
      have hX := hS.1 hl
      exact absurd (hd 1 (by kernel_rfl)) (by rw [hN1]; decide)
    · intro l vs X A hA ⟨hV, hS, hN1⟩ hl hd hcl
      have hX := hS.2.1 (hd 6 (by kernel_rfl)) hl
      exact absurd (hd 1 (by kernel_rfl)) (by rw [hN1]; decide)
  case hend =>
    intro l vs X hl ⟨hV, hS, hN1⟩
    exact absurd (hl 1 (by decide)) (by rw [hN1]; decide)
set_option maxRecDepth 10000 in
set_option maxHeartbeats 2000000 in
theorem sts_sno (i : Ins) (c : Int) (k : Kn) (d s : Nat) (w : World) (hdst : i.dst = (d : Int)) (hdn : d < 10) (hsrc : i.src = (s : Int)) (hsn : s < 10) (hk0 : k.r d ≠ noR) (hs0 : k.r s = noR) :
    Calls Tryd.prog 59 #[.agg (stA i c k)] w fun e w' => e = .panicked Wrong.unset.entry ∧ Below w.heap.size w w' := by
  obtain ⟨W0, hW0⟩ : ∃ W0, W0 = ((w.alloc (.cells (stA i c k) 82)).alloc (.cells noK.a 43)).alloc (.cells noK.a 43) := ⟨_, rfl⟩
  obtain ⟨hst, h3, h4, hB0, hz0⟩ := ways_world i c k w W0 hW0
  have HZ : Hid (W0.heap.size = w.heap.size + 3) := hz0
  clear hz0
  go_enter Tryd.func59, Tryd.ntmps59
  go_upto_region 1 with fail
  refine named2 (p := fun X => Code.wp _ _ _ _ X) ?_
  intro W9 hW9
  have hW : W0 = W9 := hW0.trans hW9.symm
  subst hW
  clear hW9 hW0
  refine wp_region_inv (Φ := fun l vs X => Vals (fun q => match q with | 0 => some (.agg (stA i c k)) | 1 => some ((k.r d).v) | 2 => some (.agg (stA i c k)) | _ => none) l vs ∧ Ph2 6 7 (Two W0.heap.size 40 noR.a W0 4 5) (fun vs X => Both W0.heap.size 40 (k.r d).a noR.a W0 (vs 4) (vs 5) X) (fun vs X => Both W0.heap.size 40 (k.r d).a noR.a W0 (vs 4) (vs 5) X) l vs X ∧ l 3 = false) (PQ := fun q X => q = Wrong.unset.entry ∧ Below W0.heap.size W0 X)
    (by kernel_rfl) (by kernel_rfl) (by kernel_rfl) (by kernel_rfl) ⟨Vals.none _ _, Ph2.start (Two.start ((Below.refl _ _).drew) (Nat.le_refl _)), rfl⟩ ?hop ?hend (fun c a X hq hp => ⟨hq, by rw [hp.1]; exact ⟨rfl, hB0.trans (hp.2.mono hB0.size)⟩⟩)
  case hop =>
    refine ⟨?_, ?_, ?_, ?_, ?_, ?_, ?_, ?_, trivial⟩
    · intro l vs X A hA ⟨hV, hS, hN3⟩ hl hd hcl
      have hj := nY 6 hcl hl
      have hk := nY 7 hcl hl
      have hX := hS.1 hj
      have hB := hX.below
      have a1 := eO hA 1 rfl
      refine show_value (v := .agg (stA i c k)) (X' := X) (run_ld 82 _ rfl _ a1 (ld_row (l := stCells i c k) (has_whole (hst.below hB hst.lt)) (by kernel_rfl))) ⟨hV.upd (fun _ h => Option.some.inj h), Ph2.keep hj hk (by decide) (by decide) (hX.grow (Below.refl _ _) (by decide) (by decide) _), (upd_other _ _ (by decide)).trans hN3⟩
    · intro l vs X A hA ⟨hV, hS, hN3⟩ hl hd hcl
      have hj := nY 6 hcl hl
      have hk := nY 7 hcl hl
      have hX := hS.1 hj
      have hB := hX.below
      have a6 := eN hA 6 0 hd hV rfl
      have aF0 : A.eval (.func 80) = .func (.func 80) #[] #[] := rfl
      refine show_call (f := 80) (args := #[.agg (stA i c k)]) ?_ (dst_ok i c k d X hdst hdn hk0) ?_
      · generalize A.eval = ρ at *
        clear hA hl hd hcl hV hS
        go_simp
      · rintro e X' ⟨rfl, hB1⟩
        exact .inl ⟨_, rfl, hV.upd (fun _ h => Option.some.inj h), Ph2.keep hj hk (by decide) (by decide) (hX.grow hB1 (by decide) (by decide) _), (upd_other _ _ (by decide)).trans hN3⟩
    · intro l vs X A hA ⟨hV, hS, hN3⟩ hl hd hcl
      have hj := nY 6 hcl hl
      have hk := nY 7 hcl hl
      have hX := hS.1 hj
      have hB := hX.below
      have a1 := eO hA 1 rfl
      refine show_value (v := .agg (stA i c k)) (X' := X) (run_ld 82 _ rfl _ a1 (ld_row (l := stCells i c k) (has_whole (hst.below hB hst.lt)) (by kernel_rfl))) ⟨hV.upd (fun _ h => Option.some.inj h), Ph2.keep hj hk (by decide) (by decide) (hX.grow (Below.refl _ _) (by decide) (by decide) _), (upd_other _ _ (by decide)).trans hN3⟩
    · intro l vs X A hA ⟨hV, hS, hN3⟩ hl hd hcl
      have hj := nY 6 hcl hl
      have hk := nY 7 hcl hl
      have hX := hS.1 hj
      have hB := hX.below
      have a8 := eN hA 8 2 hd hV rfl
      have aF0 : A.eval (.func 46) = .func (.func 46) #[] #[] := rfl
      refine show_call (f := 46) (args := #[.agg (stA i c k)]) ?_ (src_no i c k s X hsrc hsn hs0) ?_
      · generalize A.eval = ρ at *
        clear hA hl hd hcl hV hS
        go_simp
      · rintro e X' ⟨rfl, hB1⟩
        exact .inr ⟨_, rfl, rfl, hB.trans (hB1.mono hX.size)⟩
    · intro l vs X A hA ⟨hV, hS, hN3⟩ hl hd hcl
      have hj := nY 6 hcl hl
      have hk := nY 7 hcl hl
      have hX := hS.1 hj
      have hB := hX.below
      refine show_value (v := .pointer (some ⟨X.heap.size, 0, none⟩)) (X' := X.alloc (.cells noR.a 40)) ?_ ⟨hV.upd (fun _ h => by cases h), Ph2.keep hj hk (by decide) (by decide) (hX.mkFst (by decide)), (upd_other _ _ (by decide)).trans hN3⟩
      generalize A.eval = ρ at *
      clear hA hl hd hcl hV hS
      rfl
    · intro l vs X A hA ⟨hV, hS, hN3⟩ hl hd hcl
      have hj := nY 6 hcl hl
      have hk := nY 7 hcl hl
      have hX := hS.1 hj
      have hB := hX.below
      refine show_value (v := .pointer (some ⟨X.heap.size, 0, none⟩)) (X' := X.alloc (.cells noR.a 40)) ?_ ⟨hV.upd (fun _ h => by cases h), Ph2.keep hj hk (by decide) (by decide) (hX.mkSnd (by decide)), (upd_other _ _ (by decide)).trans hN3⟩
      generalize A.eval = ρ at *
      clear hA hl hd hcl hV hS
      rfl
    · intro l vs X A hA ⟨hV, hS, hN3⟩ hl hd hcl
      have hk := nY 7 hcl hl
      have hX := hS.1 hl
      exact absurd (hd 3 (by kernel_rfl)) (by rw [hN3]; decide)
    · intro l vs X A hA ⟨hV, hS, hN3⟩ hl hd hcl
      have hX := hS.2.1 (hd 6 (by kernel_rfl)) hl
      exact absurd (hd 3 (by kernel_rfl)) (by rw [hN3]; decide)
  case hend =>
    intro l vs X hl ⟨hV, hS, hN3⟩
    exact absurd (hl 3 (by decide)) (by rw [hN3]; decide)
set_option maxRecDepth 10000 in
set_option maxHeartbeats 2000000 in
theorem sts_ok (i : Ins) (c : Int) (k : Kn) (d s : Nat) (w : World) (hdst : i.dst = (d : Int)) (hdn : d < 10) (hsrc : i.src = (s : Int)) (hsn : s < 10) (hk0 : k.r d ≠ noR) (hs0 : k.r s ≠ noR) (off : Int) (hok : (k.r d).Ok) (ho : i.off = off) (ho1 : -32768 ≤ off) (ho2 : off ≤ 32767) (hf : fits (k.r d) off 64 = true) :
    Calls Tryd.prog 59 #[.agg (stA i c k)] w fun e w' => e = .returned (two k noK) ∧ Below w.heap.size w w' := by
  obtain ⟨W0, hW0⟩ : ∃ W0, W0 = ((w.alloc (.cells (stA i c k) 82)).alloc (.cells noK.a 43)).alloc (.cells noK.a 43) := ⟨_, rfl⟩
  obtain ⟨hst, h3, h4, hB0, hz0⟩ := ways_world i c k w W0 hW0
  have HZ : Hid (W0.heap.size = w.heap.size + 3) := hz0
  clear hz0
  go_enter Tryd.func59, Tryd.ntmps59
  go_upto_region 1 with fail
  refine named2 (p := fun X => Code.wp _ _ _ _ X) ?_
  intro W9 hW9
  have hW : W0 = W9 := hW0.trans hW9.symm
  subst hW
  clear hW9 hW0
  refine wp_region_inv (Φ := fun l vs X => Vals (fun q => match q with | 0 => some (.agg (stA i c k)) | 1 => some ((k.r d).v) | 2 => some (.agg (stA i c k)) | 3 => some ((k.r s).v) | _ => none) l vs ∧ Ph2 6 7 (Two W0.heap.size 40 noR.a W0 4 5) (fun vs X => Both W0.heap.size 40 (k.r d).a noR.a W0 (vs 4) (vs 5) X) (fun vs X => Both W0.heap.size 40 (k.r d).a (k.r s).a W0 (vs 4) (vs 5) X) l vs X) (PQ := fun _ _ => False)
    (by kernel_rfl) (by kernel_rfl) (by kernel_rfl) (by kernel_rfl) ⟨Vals.none _ _, Ph2.start (Two.start ((Below.refl _ _).drew) (Nat.le_refl _))⟩ ?hop ?hend (fun _ _ _ _ h => h.elim)
  case hop =>
    refine ⟨?_, ?_, ?_, ?_, ?_, ?_, ?_, ?_, trivial⟩
    · intro l vs X A hA ⟨hV, hS⟩ hl hd hcl
      have hj := nY 6 hcl hl
      have hk := nY 7 hcl hl
      have hX := hS.1 hj
      have hB := hX.below
      have a1 := eO hA 1 rfl
      refine show_value (v := .agg (stA i c k)) (X' := X) (run_ld 82 _ rfl _ a1 (ld_row (l := stCells i c k) (has_whole (hst.below hB hst.lt)) (by kernel_rfl))) ⟨hV.upd (fun _ h => Option.some.inj h), Ph2.keep hj hk (by decide) (by decide) (hX.grow (Below.refl _ _) (by decide) (by decide) _)⟩
    · intro l vs X A hA ⟨hV, hS⟩ hl hd hcl
      have hj := nY 6 hcl hl
      have hk := nY 7 hcl hl
      have hX := hS.1 hj
      have hB := hX.below
      have a6 := eN hA 6 0 hd hV rfl
      have aF0 : A.eval (.func 80) = .func (.func 80) #[] #[] := rfl
      refine show_call (f := 80) (args := #[.agg (stA i c k)]) ?_ (dst_ok i c k d X hdst hdn hk0) ?_
      · generalize A.eval = ρ at *
        clear hA hl hd hcl hV hS
        go_simp
      · rintro e X' ⟨rfl, hB1⟩
        exact .inl ⟨_, rfl, hV.upd (fun _ h => Option.some.inj h), Ph2.keep hj hk (by decide) (by decide) (hX.grow hB1 (by decide) (by decide) _)⟩
    · intro l vs X A hA ⟨hV, hS⟩ hl hd hcl
      have hj := nY 6 hcl hl
      have hk := nY 7 hcl hl
      have hX := hS.1 hj
      have hB := hX.below
      have a1 := eO hA 1 rfl
      refine show_value (v := .agg (stA i c k)) (X' := X) (run_ld 82 _ rfl _ a1 (ld_row (l := stCells i c k) (has_whole (hst.below hB hst.lt)) (by kernel_rfl))) ⟨hV.upd (fun _ h => Option.some.inj h), Ph2.keep hj hk (by decide) (by decide) (hX.grow (Below.refl _ _) (by decide) (by decide) _)⟩
    · intro l vs X A hA ⟨hV, hS⟩ hl hd hcl
      have hj := nY 6 hcl hl
      have hk := nY 7 hcl hl
      have hX := hS.1 hj
      have hB := hX.below
      have a8 := eN hA 8 2 hd hV rfl
      have aF0 : A.eval (.func 46) = .func (.func 46) #[] #[] := rfl
      refine show_call (f := 46) (args := #[.agg (stA i c k)]) ?_ (src_ok i c k s X hsrc hsn hs0) ?_
      · generalize A.eval = ρ at *
        clear hA hl hd hcl hV hS
        go_simp
      · rintro e X' ⟨rfl, hB1⟩
        exact .inl ⟨_, rfl, hV.upd (fun _ h => Option.some.inj h), Ph2.keep hj hk (by decide) (by decide) (hX.grow hB1 (by decide) (by decide) _)⟩
    · intro l vs X A hA ⟨hV, hS⟩ hl hd hcl
      have hj := nY 6 hcl hl
      have hk := nY 7 hcl hl
      have hX := hS.1 hj
      have hB := hX.below
      refine show_value (v := .pointer (some ⟨X.heap.size, 0, none⟩)) (X' := X.alloc (.cells noR.a 40)) ?_ ⟨hV.upd (fun _ h => by cases h), Ph2.keep hj hk (by decide) (by decide) (hX.mkFst (by decide))⟩
      generalize A.eval = ρ at *
      clear hA hl hd hcl hV hS
      rfl
    · intro l vs X A hA ⟨hV, hS⟩ hl hd hcl
      have hj := nY 6 hcl hl
      have hk := nY 7 hcl hl
      have hX := hS.1 hj
      have hB := hX.below
      refine show_value (v := .pointer (some ⟨X.heap.size, 0, none⟩)) (X' := X.alloc (.cells noR.a 40)) ?_ ⟨hV.upd (fun _ h => by cases h), Ph2.keep hj hk (by decide) (by decide) (hX.mkSnd (by decide))⟩
      generalize A.eval = ρ at *
      clear hA hl hd hcl hV hS
      rfl
    · intro l vs X A hA ⟨hV, hS⟩ hl hd hcl
      have hk := nY 7 hcl hl
      have hX := hS.1 hl
      have a4 := eval_new hA 4 4 (by kernel_rfl) (by kernel_rfl) (by kernel_rfl) (hd 4 (by kernel_rfl)) (rfl : vs 4 = vs 4)
      have a7 := eN hA 7 1 hd hV rfl
      obtain ⟨b, hb, hH, hT⟩ := (hX.both (hd 4 (by kernel_rfl)) (hd 5 (by kernel_rfl))).setFst (x' := (k.r d).a)
      rw [hb] at a4
      refine show_skip (run_st_row 40 _ _ rfl b _ _ _ a4 a7 hH (by kernel_rfl) (by kernel_rfl) (Rg.a_one _)) ⟨hV.upd (fun _ h => by cases h), Ph2.mid hk (by decide) ?_⟩
      exact hT
    · intro l vs X A hA ⟨hV, hS⟩ hl hd hcl
      have hX := hS.2.1 (hd 6 (by kernel_rfl)) hl
      have a5 := eval_new hA 5 5 (by kernel_rfl) (by kernel_rfl) (by kernel_rfl) (hd 5 (by kernel_rfl)) (rfl : vs 5 = vs 5)
      have a9 := eN hA 9 3 hd hV rfl
      obtain ⟨b, hb, hH, hT⟩ := hX.setSnd (y' := (k.r s).a)
      rw [hb] at a5
      refine show_skip (run_st_row 40 _ _ rfl b _ _ _ a5 a9 hH (by kernel_rfl) (by kernel_rfl) (Rg.a_one _)) ⟨hV.upd (fun _ h => by cases h), Ph2.last (hd 6 (by kernel_rfl)) ?_⟩
      exact hT
  case hend =>
    intro l vs X hl ⟨hV, hS⟩
    have hX := hS.2.2 (hl 7 (by decide))
    have v0 := hV 0 _ (hl 0 (by decide)) rfl
    have v1 := hV 1 _ (hl 1 (by decide)) rfl
    have v2 := hV 2 _ (hl 2 (by decide)) rfl
    have v3 := hV 3 _ (hl 3 (by decide)) rfl
    clear hV hS hl
    obtain ⟨b6, b7, u6, u7, g6, g7, hne, hb6, hb7, hB9⟩ := hX
    simp only [canonL, if_true, v0, v1, v2, v3, u6, u7]
    clear v0 v1 v2 v3 u6 u7
    go_simp
    have hJ : JW w i c k (noK) (noK) b6 b7 (k.r d) (k.r s) X := ⟨hst.below hB9 hst.lt, h3.below hB9 h3.lt, h4.below hB9 h4.lt, hb6, hb7, hB0.trans (hB9.mono hB0.size), by have := HZ.out; omega, by have := HZ.out; omega⟩
    obtain ⟨W1, hren⟩ : ∃ Z, Z = X := ⟨_, rfl⟩
    subst hren
    clear hst h3 h4 hb6 hb7 hB9 g6 g7 hB0 HZ
    have hz1 := hJ.size
    go_upto_region 2 with fail
    have hi : ∀ X, _ := fun X => inside_ok i c k (k.r d) 64 off X hok ho ho1 ho2 hf
    have hs6 := hJ.st
    have hd6 := hJ.d
    go_upto_region 3 with (first | refine wpList_load_row rfl 82 _ rfl w.heap.size rfl 82 (stA i c k) (0, 0) _ hs6 Tryd.underlying82 rfl (by kernel_rfl) ?_ | refine wpList_load_row rfl 40 _ rfl b6 rfl 40 ((k.r d).a) (0, 0) _ hd6 Tryd.underlying40 rfl (by kernel_rfl) ?_ | (go_at_call 86; refine (hi _).mono ?_; rintro e W2 ⟨rfl, hB2⟩; clear hs6 hd6 hi))
    replace hJ := hJ.grow hB2
    clear hB2 hz1
    have hz2 := hJ.size
    refine wp_region_inv (Φ := fun l vs X => Vals (fun q => match q with | 0 => some (.pointer (some ⟨w.heap.size, 6, none⟩)) | 1 => some (.agg k.a) | 2 => some (.agg noK.a) | _ => none) l vs ∧ Pre2 3 4 (Below W2.heap.size W2) (JW w i c k (k) (noK) b6 b7 (k.r d) (k.r s)) (JW w i c k (k) (noK) b6 b7 (k.r d) (k.r s)) l X) (PQ := fun _ _ => False)
      (by kernel_rfl) (by kernel_rfl) (by kernel_rfl) (by kernel_rfl) ⟨Vals.none _ _, Pre2.start ((Below.refl _ _).drew)⟩ ?hop ?hend (fun _ _ _ _ h => h.elim)
    case hop =>
      refine ⟨?_, ?_, ?_, ?_, ?_, trivial⟩
      · intro l vs X A hA ⟨hV, hS⟩ hl hd hcl
        have hj := nY 3 hcl hl
        have hk := nY 4 hcl hl
        have hX := hS.1 hj
        have hB := hX
        have a1 := eO hA 1 rfl
        refine show_value (v := .pointer (some ⟨w.heap.size, 6, none⟩)) (X' := X) ?_ ⟨hV.upd (fun _ h => Option.some.inj h), Pre2.keep hj hk (by decide) (by decide) (hX)⟩
        generalize A.eval = ρ at *
        clear hA hl hd hcl hV hS
        go_simp
      · intro l vs X A hA ⟨hV, hS⟩ hl hd hcl
        have hj := nY 3 hcl hl
        have hk := nY 4 hcl hl
        have hX := hS.1 hj
        have hB := hX
        have a13 := eN hA 13 0 hd hV rfl
        refine show_value (v := .agg k.a) (X' := X) (run_ld 43 _ rfl _ a13 (ld_row (l := k.cells) (st_range (hJ.grow hB).st) (by kernel_rfl))) ⟨hV.upd (fun _ h => Option.some.inj h), Pre2.keep hj hk (by decide) (by decide) (hX)⟩
      · intro l vs X A hA ⟨hV, hS⟩ hl hd hcl
        have hk := nY 4 hcl hl
        have a3 := eO hA 3 rfl
        cases hj : l 3 with
        | true =>
          have hX := hS.2.1 hj hk
          exact show_value (v := .agg noK.a) (X' := X) (run_ld 43 _ rfl _ a3 (ld_row (l := noK.cells) (has_whole hX.j) (by kernel_rfl))) ⟨hV.upd (fun _ h => Option.some.inj h), Pre2.keepMid hj hk (by decide) (by decide) hX⟩
        | false =>
          have hX := hS.1 hj
          have hB := hX
          exact show_value (v := .agg noK.a) (X' := X) (run_ld 43 _ rfl _ a3 (ld_row (l := noK.cells) (has_whole (hJ.grow hB).j) (by kernel_rfl))) ⟨hV.upd (fun _ h => Option.some.inj h), Pre2.keep hj hk (by decide) (by decide) hX⟩
      · intro l vs X A hA ⟨hV, hS⟩ hl hd hcl
        have hk := nY 4 hcl hl
        have hX := hS.1 hl
        have a2 := eO hA 2 rfl
        have a14 := eN hA 14 1 hd hV rfl
        have hg := hJ.grow hX
        refine show_skip (X' := X.setRow (w.heap.size + 1) k.a) (run_st_row 43 _ _ rfl (w.heap.size + 1) _ _ _ a2 a14 hg.n (by kernel_rfl) (by kernel_rfl) (Kn.a_one _)) ⟨hV.upd (fun _ h => by cases h), Pre2.mid hk (by decide) (hg.setN k)⟩
      · intro l vs X A hA ⟨hV, hS⟩ hl hd hcl
        have hX := hS.2.1 (hd 3 (by kernel_rfl)) hl
        have a3 := eO hA 3 rfl
        have a15 := eN hA 15 2 hd hV rfl
        refine show_skip (X' := X.setRow (w.heap.size + 2) noK.a) (run_st_row 43 _ _ rfl (w.heap.size + 2) _ _ _ a3 a15 hX.j (by kernel_rfl) (by kernel_rfl) (Kn.a_one _)) ⟨hV.upd (fun _ h => by cases h), Pre2.last (hd 3 (by kernel_rfl)) (hX.setJ noK)⟩
    case hend =>
      intro l vs X hl ⟨hV, hS⟩
      have hX := hS.2.2 (hl 4 (by decide))
      have v0 := hV 0 _ (hl 0 (by decide)) rfl
      have v1 := hV 1 _ (hl 1 (by decide)) rfl
      have v2 := hV 2 _ (hl 2 (by decide)) rfl
      clear hV hS hl
      simp only [canonL, if_true, v0, v1, v2]
      clear v0 v1 v2
      go_simp
      go_wp2_with fail
      refine bodyPost_ret (results_rows2 rfl _ _ (w.heap.size + 1) (w.heap.size + 2) 43 _ _ _ rfl rfl hX.n hX.j Tryd.underlying43 rfl (by kernel_rfl) (by kernel_rfl)) rfl ?_
      exact ⟨rfl, hX.below⟩
set_option maxRecDepth 10000 in
set_option maxHeartbeats 2000000 in
theorem sts_bno (i : Ins) (c : Int) (k : Kn) (d s : Nat) (w : World) (hdst : i.dst = (d : Int)) (hdn : d < 10) (hsrc : i.src = (s : Int)) (hsn : s < 10) (hk0 : k.r d ≠ noR) (hs0 : k.r s ≠ noR) (off : Int) (hok : (k.r d).Ok) (ho : i.off = off) (ho1 : -32768 ≤ off) (ho2 : off ≤ 32767) (hf : fits (k.r d) off 64 = false) :
    Calls Tryd.prog 59 #[.agg (stA i c k)] w fun e w' => e = .panicked Wrong.beyond.entry ∧ Below w.heap.size w w' := by
  obtain ⟨W0, hW0⟩ : ∃ W0, W0 = ((w.alloc (.cells (stA i c k) 82)).alloc (.cells noK.a 43)).alloc (.cells noK.a 43) := ⟨_, rfl⟩
  obtain ⟨hst, h3, h4, hB0, hz0⟩ := ways_world i c k w W0 hW0
  have HZ : Hid (W0.heap.size = w.heap.size + 3) := hz0
  clear hz0
  go_enter Tryd.func59, Tryd.ntmps59
  go_upto_region 1 with fail
  refine named2 (p := fun X => Code.wp _ _ _ _ X) ?_
  intro W9 hW9
  have hW : W0 = W9 := hW0.trans hW9.symm
  subst hW
  clear hW9 hW0
  refine wp_region_inv (Φ := fun l vs X => Vals (fun q => match q with | 0 => some (.agg (stA i c k)) | 1 => some ((k.r d).v) | 2 => some (.agg (stA i c k)) | 3 => some ((k.r s).v) | _ => none) l vs ∧ Ph2 6 7 (Two W0.heap.size 40 noR.a W0 4 5) (fun vs X => Both W0.heap.size 40 (k.r d).a noR.a W0 (vs 4) (vs 5) X) (fun vs X => Both W0.heap.size 40 (k.r d).a (k.r s).a W0 (vs 4) (vs 5) X) l vs X) (PQ := fun _ _ => False)
    (by kernel_rfl) (by kernel_rfl) (by kernel_rfl) (by kernel_rfl) ⟨Vals.none _ _, Ph2.start (Two.start ((Below.refl _ _).drew) (Nat.le_refl _))⟩ ?hop ?hend (fun _ _ _ _ h => h.elim)
  case hop =>
    refine ⟨?_, ?_, ?_, ?_, ?_, ?_, ?_, ?_, trivial⟩
    · intro l vs X A hA ⟨hV, hS⟩ hl hd hcl
      have hj := nY 6 hcl hl
      have hk := nY 7 hcl hl
      have hX := hS.1 hj
      have hB := hX.below
      have a1 := eO hA 1 rfl
      refine show_value (v := .agg (stA i c k)) (X' := X) (run_ld 82 _ rfl _ a1 (ld_row (l := stCells i c k) (has_whole (hst.below hB hst.lt)) (by kernel_rfl))) ⟨hV.upd (fun _ h => Option.some.inj h), Ph2.keep hj hk (by decide) (by decide) (hX.grow (Below.refl _ _) (by decide) (by decide) _)⟩
    · intro l vs X A hA ⟨hV, hS⟩ hl hd hcl
      have hj := nY 6 hcl hl
      have hk := nY 7 hcl hl
      have hX := hS.1 hj
      have hB := hX.below
      have a6 := eN hA 6 0 hd hV rfl
      have aF0 : A.eval (.func 80) = .func (.func 80) #[] #[] := rfl
      refine show_call (f := 80) (args := #[.agg (stA i c k)]) ?_ (dst_ok i c k d X hdst hdn hk0) ?_
      · generalize A.eval = ρ at *
        clear hA hl hd hcl hV hS
        go_simp
      · rintro e X' ⟨rfl, hB1⟩
        exact .inl ⟨_, rfl, hV.upd (fun _ h => Option.some.inj h), Ph2.keep hj hk (by decide) (by decide) (hX.grow hB1 (by decide) (by decide) _)⟩
    · intro l vs X A hA ⟨hV, hS⟩ hl hd hcl
      have hj := nY 6 hcl hl
      have hk := nY 7 hcl hl
      have hX := hS.1 hj
      have hB := hX.below
      have a1 := eO hA 1 rfl
      refine show_value (v := .agg (stA i c k)) (X' := X) (run_ld 82 _ rfl _ a1 (ld_row (l := stCells i c k) (has_whole (hst.below hB hst.lt)) (by kernel_rfl))) ⟨hV.upd (fun _ h => Option.some.inj h), Ph2.keep hj hk (by decide) (by decide) (hX.grow (Below.refl _ _) (by decide) (by decide) _)⟩
    · intro l vs X A hA ⟨hV, hS⟩ hl hd hcl
      have hj := nY 6 hcl hl
      have hk := nY 7 hcl hl
      have hX := hS.1 hj
      have hB := hX.below
      have a8 := eN hA 8 2 hd hV rfl
      have aF0 : A.eval (.func 46) = .func (.func 46) #[] #[] := rfl
      refine show_call (f := 46) (args := #[.agg (stA i c k)]) ?_ (src_ok i c k s X hsrc hsn hs0) ?_
      · generalize A.eval = ρ at *
        clear hA hl hd hcl hV hS
        go_simp
      · rintro e X' ⟨rfl, hB1⟩
        exact .inl ⟨_, rfl, hV.upd (fun _ h => Option.some.inj h), Ph2.keep hj hk (by decide) (by decide) (hX.grow hB1 (by decide) (by decide) _)⟩
    · intro l vs X A hA ⟨hV, hS⟩ hl hd hcl
      have hj := nY 6 hcl hl
      have hk := nY 7 hcl hl
      have hX := hS.1 hj
      have hB := hX.below
      refine show_value (v := .pointer (some ⟨X.heap.size, 0, none⟩)) (X' := X.alloc (.cells noR.a 40)) ?_ ⟨hV.upd (fun _ h => by cases h), Ph2.keep hj hk (by decide) (by decide) (hX.mkFst (by decide))⟩
      generalize A.eval = ρ at *
      clear hA hl hd hcl hV hS
      rfl
    · intro l vs X A hA ⟨hV, hS⟩ hl hd hcl
      have hj := nY 6 hcl hl
      have hk := nY 7 hcl hl
      have hX := hS.1 hj
      have hB := hX.below
      refine show_value (v := .pointer (some ⟨X.heap.size, 0, none⟩)) (X' := X.alloc (.cells noR.a 40)) ?_ ⟨hV.upd (fun _ h => by cases h), Ph2.keep hj hk (by decide) (by decide) (hX.mkSnd (by decide))⟩
      generalize A.eval = ρ at *
      clear hA hl hd hcl hV hS
      rfl
    · intro l vs X A hA ⟨hV, hS⟩ hl hd hcl
      have hk := nY 7 hcl hl
      have hX := hS.1 hl
      have a4 := eval_new hA 4 4 (by kernel_rfl) (by kernel_rfl) (by kernel_rfl) (hd 4 (by kernel_rfl)) (rfl : vs 4 = vs 4)
      have a7 := eN hA 7 1 hd hV rfl
      obtain ⟨b, hb, hH, hT⟩ := (hX.both (hd 4 (by kernel_rfl)) (hd 5 (by kernel_rfl))).setFst (x' := (k.r d).a)
      rw [hb] at a4
      refine show_skip (run_st_row 40 _ _ rfl b _ _ _ a4 a7 hH (by kernel_rfl) (by kernel_rfl) (Rg.a_one _)) ⟨hV.upd (fun _ h => by cases h), Ph2.mid hk (by decide) ?_⟩
      exact hT
    · intro l vs X A hA ⟨hV, hS⟩ hl hd hcl
      have hX := hS.2.1 (hd 6 (by kernel_rfl)) hl
      have a5 := eval_new hA 5 5 (by kernel_rfl) (by kernel_rfl) (by kernel_rfl) (hd 5 (by kernel_rfl)) (rfl : vs 5 = vs 5)
      have a9 := eN hA 9 3 hd hV rfl
      obtain ⟨b, hb, hH, hT⟩ := hX.setSnd (y' := (k.r s).a)
      rw [hb] at a5
      refine show_skip (run_st_row 40 _ _ rfl b _ _ _ a5 a9 hH (by kernel_rfl) (by kernel_rfl) (Rg.a_one _)) ⟨hV.upd (fun _ h => by cases h), Ph2.last (hd 6 (by kernel_rfl)) ?_⟩
      exact hT
  case hend =>
    intro l vs X hl ⟨hV, hS⟩
    have hX := hS.2.2 (hl 7 (by decide))
    have v0 := hV 0 _ (hl 0 (by decide)) rfl
    have v1 := hV 1 _ (hl 1 (by decide)) rfl
    have v2 := hV 2 _ (hl 2 (by decide)) rfl
    have v3 := hV 3 _ (hl 3 (by decide)) rfl
    clear hV hS hl
    obtain ⟨b6, b7, u6, u7, g6, g7, hne, hb6, hb7, hB9⟩ := hX
    simp only [canonL, if_true, v0, v1, v2, v3, u6, u7]
    clear v0 v1 v2 v3 u6 u7
    go_simp
    have hJ : JW w i c k (noK) (noK) b6 b7 (k.r d) (k.r s) X := ⟨hst.below hB9 hst.lt, h3.below hB9 h3.lt, h4.below hB9 h4.lt, hb6, hb7, hB0.trans (hB9.mono hB0.size), by have := HZ.out; omega, by have := HZ.out; omega⟩
    obtain ⟨W1, hren⟩ : ∃ Z, Z = X := ⟨_, rfl⟩
    subst hren
    clear hst h3 h4 hb6 hb7 hB9 g6 g7 hB0 HZ
    have hz1 := hJ.size
    go_upto_region 2 with fail
    have hi : ∀ X, _ := fun X => inside_no i c k (k.r d) 64 off X hok ho ho1 ho2 hf
    have hs6 := hJ.st
    have hd6 := hJ.d
    go_upto_region 3 with (first | refine wpList_load_row rfl 82 _ rfl w.heap.size rfl 82 (stA i c k) (0, 0) _ hs6 Tryd.underlying82 rfl (by kernel_rfl) ?_ | refine wpList_load_row rfl 40 _ rfl b6 rfl 40 ((k.r d).a) (0, 0) _ hd6 Tryd.underlying40 rfl (by kernel_rfl) ?_ | (go_at_call 86; refine (hi _).mono ?_; rintro e W2 ⟨rfl, hB2⟩; clear hs6 hd6 hi))
    exact ⟨rfl, rfl, hJ.below.trans (hB2.mono hJ.below.size)⟩
end Go.Proofs.YtodkehpldlmgaaaDoor
/- jlt. -/
namespace Go.Proofs.YtodkehpldlmgaaaDoor
open Go.RowKit
set_option maxRecDepth 10000 in
set_option maxHeartbeats 2000000 in
theorem jlt_dno (i : Ins) (c : Int) (k : Kn) (d : Nat) (w : World) (hdst : i.dst = (d : Int)) (hdn : d < 10) (hk0 : k.r d = noR) :
    Calls Tryd.prog 63 #[.agg (stA i c k)] w fun e w' => e = .panicked Wrong.unset.entry ∧ Below w.heap.size w w' := by
  obtain ⟨W0, hW0⟩ : ∃ W0, W0 = ((w.alloc (.cells (stA i c k) 82)).alloc (.cells noK.a 43)).alloc (.cells noK.a 43) := ⟨_, rfl⟩
  obtain ⟨hst, h3, h4, hB0, hz0⟩ := ways_world i c k w W0 hW0
  have HZ : Hid (W0.heap.size = w.heap.size + 3) := hz0
  clear hz0
  go_enter Tryd.func63, Tryd.ntmps63
  go_upto_region 1 with fail
  refine named2 (p := fun X => Code.wp _ _ _ _ X) ?_
  intro W9 hW9
  have hW : W0 = W9 := hW0.trans hW9.symm
  subst hW
  clear hW9 hW0
  refine wp_region_inv (Φ := fun l vs X => Vals (fun q => match q with | 0 => some (.agg (stA i c k)) | 2 => some (.agg (stA i c k)) | _ => none) l vs ∧ Ph2 6 7 (Two W0.heap.size 40 noR.a W0 4 5) (fun vs X => Both W0.heap.size 40 noR.a noR.a W0 (vs 4) (vs 5) X) (fun vs X => Both W0.heap.size 40 noR.a noR.a W0 (vs 4) (vs 5) X) l vs X ∧ l 1 = false) (PQ := fun q X => q = Wrong.unset.entry ∧ Below W0.heap.size W0 X)
    (by kernel_rfl) (by kernel_rfl) (by kernel_rfl) (by kernel_rfl) ⟨Vals.none _ _, Ph2.start (Two.start ((Below.refl _ _).drew) (Nat.le_refl _)), rfl⟩ ?hop ?hend (fun c a X hq hp => ⟨hq, by rw [hp.1]; exact ⟨rfl, hB0.trans (hp.2.mono hB0.size)⟩⟩)
  case hop =>
    refine ⟨?_, ?_, ?_, ?_, ?_, ?_, ?_, ?_, trivial⟩
    · intro l vs X A hA ⟨hV, hS, hN1⟩ hl hd hcl
      have hj := nY 6 hcl hl
      have hk := nY 7 hcl hl
      have hX := hS.1 hj
      have hB := hX.below
      have a1 := eO hA 1 rfl
      refine show_value (v := .agg (stA i c k)) (X' := X) (run_ld 82 _ rfl _ a1 (ld_row (l := stCells i c k) (has_whole (hst.below hB hst.lt)) (by kernel_rfl))) ⟨hV.upd (fun _ h => Option.some.inj h), Ph2.keep hj hk (by decide) (by decide) (hX.grow (Below.refl _ _) (by decide) (by decide) _), (upd_other _ _ (by decide)).trans hN1⟩
    · intro l vs X A hA ⟨hV, hS, hN1⟩ hl hd hcl
      have hj := nY 6 hcl hl
      have hk := nY 7 hcl hl
      have hX := hS.1 hj
      have hB := hX.below
      have a6 := eN hA 6 0 hd hV rfl
      have aF0 : A.eval (.func 80) = .func (.func 80) #[] #[] := rfl
      refine show_call (f := 80) (args := #[.agg (stA i c k)]) ?_ (dst_no i c k d X hdst hdn hk0) ?_
      · generalize A.eval = ρ at *
        clear hA hl hd hcl hV hS
        go_simp
      · rintro e X' ⟨rfl, hB1⟩
        exact .inr ⟨_, rfl, rfl, hB.trans (hB1.mono hX.size)⟩
    · intro l vs X A hA ⟨hV, hS, hN1⟩ hl hd hcl
      have hj := nY 6 hcl hl
      have hk := nY 7 hcl hl
      have hX := hS.1 hj
      have hB := hX.below
      have a1 := eO hA 1 rfl
      refine show_value (v := .agg (stA i c k)) (X' := X) (run_ld 82 _ rfl _ a1 (ld_row (l := stCells i c k) (has_whole (hst.below hB hst.lt)) (by kernel_rfl))) ⟨hV.upd (fun _ h => Option.some.inj h), Ph2.keep hj hk (by decide) (by decide) (hX.grow (Below.refl _ _) (by decide) (by decide) _), (upd_other _ _ (by decide)).trans hN1⟩
    · intro l vs X A hA ⟨hV, hS, hN1⟩ hl hd hcl
      have hj := nY 6 hcl hl
      have hk := nY 7 hcl hl
      have hX := hS.1 hj
      have hB := hX.below
      exact absurd (hd 1 (by kernel_rfl)) (by rw [hN1]; decide)
    · intro l vs X A hA ⟨hV, hS, hN1⟩ hl hd hcl
      have hj := nY 6 hcl hl
      have hk := nY 7 hcl hl
      have hX := hS.1 hj
      have hB := hX.below
      refine show_value (v := .pointer (some ⟨X.heap.size, 0, none⟩)) (X' := X.alloc (.cells noR.a 40)) ?_ ⟨hV.upd (fun _ h => by cases h), Ph2.keep hj hk (by decide) (by decide) (hX.mkFst (by decide)), (upd_other _ _ (by decide)).trans hN1⟩
      generalize A.eval = ρ at *
      clear hA hl hd hcl hV hS
      rfl
    · intro l vs X A hA ⟨hV, hS, hN1⟩ hl hd hcl
      have hj := nY 6 hcl hl
      have hk := nY 7 hcl hl
      have hX := hS.1 hj
      have hB := hX.below
      refine show_value (v := .pointer (some ⟨X.heap.size, 0, none⟩)) (X' := X.alloc (.cells noR.a 40)) ?_ ⟨hV.upd (fun _ h => by cases h), Ph2.keep hj hk (by decide) (by decide) (hX.mkSnd (by decide)), (upd_other _ _ (by decide)).trans hN1⟩
      generalize A.eval = ρ at *
      clear hA hl hd hcl hV hS
      rfl
    · intro l vs X A hA ⟨hV, hS, hN1⟩ hl hd hcl
      have hk := nY 7 hcl hl
      have hX := hS.1 hl
      exact absurd (hd 1 (by kernel_rfl)) (by rw [hN1]; decide)
    · intro l vs X A hA ⟨hV, hS, hN1⟩ hl hd hcl
      have hX := hS.2.1 (hd 6 (by kernel_rfl)) hl
      exact absurd (hd 1 (by kernel_rfl)) (by rw [hN1]; decide)
  case hend =>
    intro l vs X hl ⟨hV, hS, hN1⟩
    exact absurd (hl 1 (by decide)) (by rw [hN1]; decide)
set_option maxRecDepth 10000 in
set_option maxHeartbeats 2000000 in
theorem jlt_sno (i : Ins) (c : Int) (k : Kn) (d s : Nat) (w : World) (hdst : i.dst = (d : Int)) (hdn : d < 10) (hsrc : i.src = (s : Int)) (hsn : s < 10) (hk0 : k.r d ≠ noR) (hs0 : k.r s = noR) :
    Calls Tryd.prog 63 #[.agg (stA i c k)] w fun e w' => e = .panicked Wrong.unset.entry ∧ Below w.heap.size w w' := by
  obtain ⟨W0, hW0⟩ : ∃ W0, W0 = ((w.alloc (.cells (stA i c k) 82)).alloc (.cells noK.a 43)).alloc (.cells noK.a 43) := ⟨_, rfl⟩
  obtain ⟨hst, h3, h4, hB0, hz0⟩ := ways_world i c k w W0 hW0
  have HZ : Hid (W0.heap.size = w.heap.size + 3) := hz0
  clear hz0
  go_enter Tryd.func63, Tryd.ntmps63
  go_upto_region 1 with fail
  refine named2 (p := fun X => Code.wp _ _ _ _ X) ?_
  intro W9 hW9
  have hW : W0 = W9 := hW0.trans hW9.symm
  subst hW
  clear hW9 hW0
  refine wp_region_inv (Φ := fun l vs X => Vals (fun q => match q with | 0 => some (.agg (stA i c k)) | 1 => some ((k.r d).v) | 2 => some (.agg (stA i c k)) | _ => none) l vs ∧ Ph2 6 7 (Two W0.heap.size 40 noR.a W0 4 5) (fun vs X => Both W0.heap.size 40 (k.r d).a noR.a W0 (vs 4) (vs 5) X) (fun vs X => Both W0.heap.size 40 (k.r d).a noR.a W0 (vs 4) (vs 5) X) l vs X ∧ l 3 = false) (PQ := fun q X => q = Wrong.unset.entry ∧ Below W0.heap.size W0 X)
    (by kernel_rfl) (by kernel_rfl) (by kernel_rfl) (by kernel_rfl) ⟨Vals.none _ _, Ph2.start (Two.start ((Below.refl _ _).drew) (Nat.le_refl _)), rfl⟩ ?hop ?hend (fun c a X hq hp => ⟨hq, by rw [hp.1]; exact ⟨rfl, hB0.trans (hp.2.mono hB0.size)⟩⟩)
  case hop =>
    refine ⟨?_, ?_, ?_, ?_, ?_, ?_, ?_, ?_, trivial⟩
    · intro l vs X A hA ⟨hV, hS, hN3⟩ hl hd hcl
      have hj := nY 6 hcl hl
      have hk := nY 7 hcl hl
      have hX := hS.1 hj
      have hB := hX.below
      have a1 := eO hA 1 rfl
      refine show_value (v := .agg (stA i c k)) (X' := X) (run_ld 82 _ rfl _ a1 (ld_row (l := stCells i c k) (has_whole (hst.below hB hst.lt)) (by kernel_rfl))) ⟨hV.upd (fun _ h => Option.some.inj h), Ph2.keep hj hk (by decide) (by decide) (hX.grow (Below.refl _ _) (by decide) (by decide) _), (upd_other _ _ (by decide)).trans hN3⟩
    · intro l vs X A hA ⟨hV, hS, hN3⟩ hl hd hcl
      have hj := nY 6 hcl hl
      have hk := nY 7 hcl hl
      have hX := hS.1 hj
      have hB := hX.below
      have a6 := eN hA 6 0 hd hV rfl
      have aF0 : A.eval (.func 80) = .func (.func 80) #[] #[] := rfl
      refine show_call (f := 80) (args := #[.agg (stA i c k)]) ?_ (dst_ok i c k d X hdst hdn hk0) ?_
      · generalize A.eval = ρ at *
        clear hA hl hd hcl hV hS
        go_simp
      · rintro e X' ⟨rfl, hB1⟩
        exact .inl ⟨_, rfl, hV.upd (fun _ h => Option.some.inj h), Ph2.keep hj hk (by decide) (by decide) (hX.grow hB1 (by decide) (by decide) _), (upd_other _ _ (by decide)).trans hN3⟩
    · intro l vs X A hA ⟨hV, hS, hN3⟩ hl hd hcl
      have hj := nY 6 hcl hl
      have hk := nY 7 hcl hl
      have hX := hS.1 hj
      have hB := hX.below
      have a1 := eO hA 1 rfl
      refine show_value (v := .agg (stA i c k)) (X' := X) (run_ld 82 _ rfl _ a1 (ld_row (l := stCells i c k) (has_whole (hst.below hB hst.lt)) (by kernel_rfl))) ⟨hV.upd (fun _ h => Option.some.inj h), Ph2.keep hj hk (by decide) (by decide) (hX.grow (Below.refl _ _) (by decide) (by decide) _), (upd_other _ _ (by decide)).trans hN3⟩
    · intro l vs X A hA ⟨hV, hS, hN3⟩ hl hd hcl
      have hj := nY 6 hcl hl
      have hk := nY 7 hcl hl
      have hX := hS.1 hj
      have hB := hX.below
      have a8 := eN hA 8 2 hd hV rfl
      have aF0 : A.eval (.func 46) = .func (.func 46) #[] #[] := rfl
      refine show_call (f := 46) (args := #[.agg (stA i c k)]) ?_ (src_no i c k s X hsrc hsn hs0) ?_
      · generalize A.eval = ρ at *
        clear hA hl hd hcl hV hS
        go_simp
      · rintro e X' ⟨rfl, hB1⟩
        exact .inr ⟨_, rfl, rfl, hB.trans (hB1.mono hX.size)⟩
    · intro l vs X A hA ⟨hV, hS, hN3⟩ hl hd hcl
      have hj := nY 6 hcl hl
      have hk := nY 7 hcl hl
      have hX := hS.1 hj
      have hB := hX.below
      refine show_value (v := .pointer (some ⟨X.heap.size, 0, none⟩)) (X' := X.alloc (.cells noR.a 40)) ?_ ⟨hV.upd (fun _ h => by cases h), Ph2.keep hj hk (by decide) (by decide) (hX.mkFst (by decide)), (upd_other _ _ (by decide)).trans hN3⟩
      generalize A.eval = ρ at *
      clear hA hl hd hcl hV hS
      rfl
    · intro l vs X A hA ⟨hV, hS, hN3⟩ hl hd hcl
      have hj := nY 6 hcl hl
      have hk := nY 7 hcl hl
      have hX := hS.1 hj
      have hB := hX.below
      refine show_value (v := .pointer (some ⟨X.heap.size, 0, none⟩)) (X' := X.alloc (.cells noR.a 40)) ?_ ⟨hV.upd (fun _ h => by cases h), Ph2.keep hj hk (by decide) (by decide) (hX.mkSnd (by decide)), (upd_other _ _ (by decide)).trans hN3⟩
      generalize A.eval = ρ at *
      clear hA hl hd hcl hV hS
      rfl
    · intro l vs X A hA ⟨hV, hS, hN3⟩ hl hd hcl
      have hk := nY 7 hcl hl
      have hX := hS.1 hl
      exact absurd (hd 3 (by kernel_rfl)) (by rw [hN3]; decide)
    · intro l vs X A hA ⟨hV, hS, hN3⟩ hl hd hcl
      have hX := hS.2.1 (hd 6 (by kernel_rfl)) hl
      exact absurd (hd 3 (by kernel_rfl)) (by rw [hN3]; decide)
  case hend =>
    intro l vs X hl ⟨hV, hS, hN3⟩
    exact absurd (hl 3 (by decide)) (by rw [hN3]; decide)
set_option maxRecDepth 10000 in
set_option maxHeartbeats 2000000 in
theorem jlt_same (i : Ins) (c : Int) (k : Kn) (d s : Nat) (w : World) (hdst : i.dst = (d : Int)) (hdn : d < 10) (hsrc : i.src = (s : Int)) (hsn : s < 10) (hk0 : k.r d ≠ noR) (hs0 : k.r s ≠ noR) (hds : d = s) :
    Calls Tryd.prog 63 #[.agg (stA i c k)] w fun e w' => e = .returned (two (k) (noK)) ∧ Below w.heap.size w w' := by
  obtain ⟨W0, hW0⟩ : ∃ W0, W0 = ((w.alloc (.cells (stA i c k) 82)).alloc (.cells noK.a 43)).alloc (.cells noK.a 43) := ⟨_, rfl⟩
  obtain ⟨hst, h3, h4, hB0, hz0⟩ := ways_world i c k w W0 hW0
  have HZ : Hid (W0.heap.size = w.heap.size + 3) := hz0
  clear hz0
  go_enter Tryd.func63, Tryd.ntmps63
  go_upto_region 1 with fail
  refine named2 (p := fun X => Code.wp _ _ _ _ X) ?_
  intro W9 hW9
  have hW : W0 = W9 := hW0.trans hW9.symm
  subst hW
  clear hW9 hW0
  refine wp_region_inv (Φ := fun l vs X => Vals (fun q => match q with | 0 => some (.agg (stA i c k)) | 1 => some ((k.r d).v) | 2 => some (.agg (stA i c k)) | 3 => some ((k.r s).v) | _ => none) l vs ∧ Ph2 6 7 (Two W0.heap.size 40 noR.a W0 4 5) (fun vs X => Both W0.heap.size 40 (k.r d).a noR.a W0 (vs 4) (vs 5) X) (fun vs X => Both W0.heap.size 40 (k.r d).a (k.r s).a W0 (vs 4) (vs 5) X) l vs X) (PQ := fun _ _ => False)
    (by kernel_rfl) (by kernel_rfl) (by kernel_rfl) (by kernel_rfl) ⟨Vals.none _ _, Ph2.start (Two.start ((Below.refl _ _).drew) (Nat.le_refl _))⟩ ?hop ?hend (fun _ _ _ _ h => h.elim)
  case hop =>
    refine ⟨?_, ?_, ?_, ?_, ?_, ?_, ?_, ?_, trivial⟩
    · intro l vs X A hA ⟨hV, hS⟩ hl hd hcl
      have hj := nY 6 hcl hl
      have hk := nY 7 hcl hl
      have hX := hS.1 hj
      have hB := hX.below
      have a1 := eO hA 1 rfl
      refine show_value (v := .agg (stA i c k)) (X' := X) (run_ld 82 _ rfl _ a1 (ld_row (l := stCells i c k) (has_whole (hst.below hB hst.lt)) (by kernel_rfl))) ⟨hV.upd (fun _ h => Option.some.inj h), Ph2.keep hj hk (by decide) (by decide) (hX.grow (Below.refl _ _) (by decide) (by decide) _)⟩
    · intro l vs X A hA ⟨hV, hS⟩ hl hd hcl
      have hj := nY 6 hcl hl
      have hk := nY 7 hcl hl
      have hX := hS.1 hj
      have hB := hX.below
      have a6 := eN hA 6 0 hd hV rfl
      have aF0 : A.eval (.func 80) = .func (.func 80) #[] #[] := rfl
      refine show_call (f := 80) (args := #[.agg (stA i c k)]) ?_ (dst_ok i c k d X hdst hdn hk0) ?_
      · generalize A.eval = ρ at *
        clear hA hl hd hcl hV hS
        go_simp
      · rintro e X' ⟨rfl, hB1⟩
        exact .inl ⟨_, rfl, hV.upd (fun _ h => Option.some.inj h), Ph2.keep hj hk (by decide) (by decide) (hX.grow hB1 (by decide) (by decide) _)⟩
    · intro l vs X A hA ⟨hV, hS⟩ hl hd hcl
      have hj := nY 6 hcl hl
      have hk := nY 7 hcl hl
      have hX := hS.1 hj
      have hB := hX.below
      have a1 := eO hA 1 rfl
      refine show_value (v := .agg (stA i c k)) (X' := X) (run_ld 82 _ rfl _ a1 (ld_row (l := stCells i c k) (has_whole (hst.below hB hst.lt)) (by kernel_rfl))) ⟨hV.upd (fun _ h => Option.some.inj h), Ph2.keep hj hk (by decide) (by decide) (hX.grow (Below.refl _ _) (by decide) (by decide) _)⟩
    · intro l vs X A hA ⟨hV, hS⟩ hl hd hcl
      have hj := nY 6 hcl hl
      have hk := nY 7 hcl hl
      have hX := hS.1 hj
      have hB := hX.below
      have a8 := eN hA 8 2 hd hV rfl
      have aF0 : A.eval (.func 46) = .func (.func 46) #[] #[] := rfl
      refine show_call (f := 46) (args := #[.agg (stA i c k)]) ?_ (src_ok i c k s X hsrc hsn hs0) ?_
      · generalize A.eval = ρ at *
        clear hA hl hd hcl hV hS
        go_simp
      · rintro e X' ⟨rfl, hB1⟩
        exact .inl ⟨_, rfl, hV.upd (fun _ h => Option.some.inj h), Ph2.keep hj hk (by decide) (by decide) (hX.grow hB1 (by decide) (by decide) _)⟩
    · intro l vs X A hA ⟨hV, hS⟩ hl hd hcl
      have hj := nY 6 hcl hl
      have hk := nY 7 hcl hl
      have hX := hS.1 hj
      have hB := hX.below
      refine show_value (v := .pointer (some ⟨X.heap.size, 0, none⟩)) (X' := X.alloc (.cells noR.a 40)) ?_ ⟨hV.upd (fun _ h => by cases h), Ph2.keep hj hk (by decide) (by decide) (hX.mkFst (by decide))⟩
      generalize A.eval = ρ at *
      clear hA hl hd hcl hV hS
      rfl
    · intro l vs X A hA ⟨hV, hS⟩ hl hd hcl
      have hj := nY 6 hcl hl
      have hk := nY 7 hcl hl
      have hX := hS.1 hj
      have hB := hX.below
      refine show_value (v := .pointer (some ⟨X.heap.size, 0, none⟩)) (X' := X.alloc (.cells noR.a 40)) ?_ ⟨hV.upd (fun _ h => by cases h), Ph2.keep hj hk (by decide) (by decide) (hX.mkSnd (by decide))⟩
      generalize A.eval = ρ at *
      clear hA hl hd hcl hV hS
      rfl
    · intro l vs X A hA ⟨hV, hS⟩ hl hd hcl
      have hk := nY 7 hcl hl
      have hX := hS.1 hl
      have a4 := eval_new hA 4 4 (by kernel_rfl) (by kernel_rfl) (by kernel_rfl) (hd 4 (by kernel_rfl)) (rfl : vs 4 = vs 4)
      have a7 := eN hA 7 1 hd hV rfl
      obtain ⟨b, hb, hH, hT⟩ := (hX.both (hd 4 (by kernel_rfl)) (hd 5 (by kernel_rfl))).setFst (x' := (k.r d).a)
      rw [hb] at a4
      refine show_skip (run_st_row 40 _ _ rfl b _ _ _ a4 a7 hH (by kernel_rfl) (by kernel_rfl) (Rg.a_one _)) ⟨hV.upd (fun _ h => by cases h), Ph2.mid hk (by decide) ?_⟩
      exact hT
    · intro l vs X A hA ⟨hV, hS⟩ hl hd hcl
      have hX := hS.2.1 (hd 6 (by kernel_rfl)) hl
      have a5 := eval_new hA 5 5 (by kernel_rfl) (by kernel_rfl) (by kernel_rfl) (hd 5 (by kernel_rfl)) (rfl : vs 5 = vs 5)
      have a9 := eN hA 9 3 hd hV rfl
      obtain ⟨b, hb, hH, hT⟩ := hX.setSnd (y' := (k.r s).a)
      rw [hb] at a5
      refine show_skip (run_st_row 40 _ _ rfl b _ _ _ a5 a9 hH (by kernel_rfl) (by kernel_rfl) (Rg.a_one _)) ⟨hV.upd (fun _ h => by cases h), Ph2.last (hd 6 (by kernel_rfl)) ?_⟩
      exact hT
  case hend =>
    intro l vs X hl ⟨hV, hS⟩
    have hX := hS.2.2 (hl 7 (by decide))
    have v0 := hV 0 _ (hl 0 (by decide)) rfl
    have v1 := hV 1 _ (hl 1 (by decide)) rfl
    have v2 := hV 2 _ (hl 2 (by decide)) rfl
    have v3 := hV 3 _ (hl 3 (by decide)) rfl
    clear hV hS hl
    obtain ⟨b6, b7, u6, u7, g6, g7, hne, hb6, hb7, hB9⟩ := hX
    simp only [canonL, if_true, v0, v1, v2, v3, u6, u7]
    clear v0 v1 v2 v3 u6 u7
    go_simp
    have hJ : JW w i c k (noK) (noK) b6 b7 (k.r d) (k.r s) X := ⟨hst.below hB9 hst.lt, h3.below hB9 h3.lt, h4.below hB9 h4.lt, hb6, hb7, hB0.trans (hB9.mono hB0.size), by have := HZ.out; omega, by have := HZ.out; omega⟩
    obtain ⟨W1, hren⟩ : ∃ Z, Z = X := ⟨_, rfl⟩
    subst hren
    clear hst h3 h4 hb6 hb7 hB9 g6 g7 hB0 HZ
    have hz1 := hJ.size
    go_upto_region 2 with fail
    have c1 : W1.cell? ⟨w.heap.size, 1, none⟩ = some (.int .i64 (d : Int)) := by rw [← hdst]; exact hJ.st.cell 1
    have c2 : W1.cell? ⟨w.heap.size, 2, none⟩ = some (.int .i64 (s : Int)) := by rw [← hsrc]; exact hJ.st.cell 2
    have hq : ((d : Int) == (s : Int)) = true := by simp; omega
    clear hds
    go_upto_region 3 with fail
    clear c1 c2 hq
    refine wp_region_inv (Φ := fun l vs X => Vals (fun q => match q with | 0 => some (.pointer (some ⟨w.heap.size, 6, none⟩)) | 1 => some (.agg k.a) | 2 => some (.agg noK.a) | _ => none) l vs ∧ Pre2 3 4 (Below W1.heap.size W1) (JW w i c k (k) (noK) b6 b7 (k.r d) (k.r s)) (JW w i c k (k) (noK) b6 b7 (k.r d) (k.r s)) l X) (PQ := fun _ _ => False)
      (by kernel_rfl) (by kernel_rfl) (by kernel_rfl) (by kernel_rfl) ⟨Vals.none _ _, Pre2.start ((Below.refl _ _).drew)⟩ ?hop ?hend (fun _ _ _ _ h => h.elim)
    case hop =>
      refine ⟨?_, ?_, ?_, ?_, ?_, trivial⟩
      · intro l vs X A hA ⟨hV, hS⟩ hl hd hcl
        have hj := nY 3 hcl hl
        have hk := nY 4 hcl hl
        have hX := hS.1 hj
        have hB := hX
        have a1 := eO hA 1 rfl
        refine show_value (v := .pointer (some ⟨w.heap.size, 6, none⟩)) (X' := X) ?_ ⟨hV.upd (fun _ h => Option.some.inj h), Pre2.keep hj hk (by decide) (by decide) (hX)⟩
        generalize A.eval = ρ at *
        clear hA hl hd hcl hV hS
        go_simp
      · intro l vs X A hA ⟨hV, hS⟩ hl hd hcl
        have hj := nY 3 hcl hl
        have hk := nY 4 hcl hl
        have hX := hS.1 hj
        have hB := hX
        have a17 := eN hA 17 0 hd hV rfl
        refine show_value (v := .agg k.a) (X' := X) (run_ld 43 _ rfl _ a17 (ld_row (l := k.cells) (st_range (hJ.grow hB).st) (by kernel_rfl))) ⟨hV.upd (fun _ h => Option.some.inj h), Pre2.keep hj hk (by decide) (by decide) (hX)⟩
      · intro l vs X A hA ⟨hV, hS⟩ hl hd hcl
        have hk := nY 4 hcl hl
        have a3 := eO hA 3 rfl
        cases hj : l 3 with
        | true =>
          have hX := hS.2.1 hj hk
          exact show_value (v := .agg noK.a) (X' := X) (run_ld 43 _ rfl _ a3 (ld_row (l := noK.cells) (has_whole hX.j) (by kernel_rfl))) ⟨hV.upd (fun _ h => Option.some.inj h), Pre2.keepMid hj hk (by decide) (by decide) hX⟩
        | false =>
          have hX := hS.1 hj
          have hB := hX
          exact show_value (v := .agg noK.a) (X' := X) (run_ld 43 _ rfl _ a3 (ld_row (l := noK.cells) (has_whole (hJ.grow hB).j) (by kernel_rfl))) ⟨hV.upd (fun _ h => Option.some.inj h), Pre2.keep hj hk (by decide) (by decide) hX⟩
      · intro l vs X A hA ⟨hV, hS⟩ hl hd hcl
        have hk := nY 4 hcl hl
        have hX := hS.1 hl
        have a2 := eO hA 2 rfl
        have a18 := eN hA 18 1 hd hV rfl
        have hg := hJ.grow hX
        refine show_skip (X' := X.setRow (w.heap.size + 1) k.a) (run_st_row 43 _ _ rfl (w.heap.size + 1) _ _ _ a2 a18 hg.n (by kernel_rfl) (by kernel_rfl) (Kn.a_one _)) ⟨hV.upd (fun _ h => by cases h), Pre2.mid hk (by decide) (hg.setN k)⟩
      · intro l vs X A hA ⟨hV, hS⟩ hl hd hcl
        have hX := hS.2.1 (hd 3 (by kernel_rfl)) hl
        have a3 := eO hA 3 rfl
        have a19 := eN hA 19 2 hd hV rfl
        refine show_skip (X' := X.setRow (w.heap.size + 2) noK.a) (run_st_row 43 _ _ rfl (w.heap.size + 2) _ _ _ a3 a19 hX.j (by kernel_rfl) (by kernel_rfl) (Kn.a_one _)) ⟨hV.upd (fun _ h => by cases h), Pre2.last (hd 3 (by kernel_rfl)) (hX.setJ noK)⟩
    case hend =>
      intro l vs X hl ⟨hV, hS⟩
      have hX := hS.2.2 (hl 4 (by decide))
      have v0 := hV 0 _ (hl 0 (by decide)) rfl
      have v1 := hV 1 _ (hl 1 (by decide)) rfl
      have v2 := hV 2 _ (hl 2 (by decide)) rfl
      clear hV hS hl
      simp only [canonL, if_true, v0, v1, v2]
      clear v0 v1 v2
      go_simp
      go_wp2_with fail
      refine bodyPost_ret (results_rows2 rfl _ _ (w.heap.size + 1) (w.heap.size + 2) 43 _ _ _ rfl rfl hX.n hX.j Tryd.underlying43 rfl (by kernel_rfl) (by kernel_rfl)) rfl ?_
      exact ⟨rfl, hX.below⟩
end Go.Proofs.YtodkehpldlmgaaaDoor
/- jlt, by both ways. -/
namespace Go.Proofs.YtodkehpldlmgaaaDoor
open Go.RowKit
set_option maxRecDepth 10000 in
set_option maxHeartbeats 2000000 in
theorem jlt_11 (i : Ins) (c : Int) (k : Kn) (d s : Nat) (w : World) (hdst : i.dst = (d : Int)) (hdn : d < 10) (hsrc : i.src = (s : Int)) (hsn : s < 10) (hk0 : k.r d ≠ noR) (hs0 : k.r s ≠ noR) (hds : d ≠ s) (hok : (k.r d).Ok) (hoks : (k.r s).Ok) (ha : (k.r d).least < (k.r s).great) (hb : (k.r s).least ≤ (k.r d).great) :
    Calls Tryd.prog 63 #[.agg (stA i c k)] w fun e w' => e = .returned (two ((k.set d (atLeastR (k.r d) (k.r s).least)).set s (atMostR (k.r s) (k.r d).great)) ((k.set d (atMostR (k.r d) ((k.r s).great - 1))).set s (atLeastR (k.r s) ((k.r d).least + 1)))) ∧ Below w.heap.size w w' := by
  obtain ⟨W0, hW0⟩ : ∃ W0, W0 = ((w.alloc (.cells (stA i c k) 82)).alloc (.cells noK.a 43)).alloc (.cells noK.a 43) := ⟨_, rfl⟩
  obtain ⟨hst, h3, h4, hB0, hz0⟩ := ways_world i c k w W0 hW0
  have HZ : Hid (W0.heap.size = w.heap.size + 3) := hz0
  clear hz0
  go_enter Tryd.func63, Tryd.ntmps63
  go_upto_region 1 with fail
  refine named2 (p := fun X => Code.wp _ _ _ _ X) ?_
  intro W9 hW9
  have hW : W0 = W9 := hW0.trans hW9.symm
  subst hW
  clear hW9 hW0
  refine wp_region_inv (Φ := fun l vs X => Vals (fun q => match q with | 0 => some (.agg (stA i c k)) | 1 => some ((k.r d).v) | 2 => some (.agg (stA i c k)) | 3 => some ((k.r s).v) | _ => none) l vs ∧ Ph2 6 7 (Two W0.heap.size 40 noR.a W0 4 5) (fun vs X => Both W0.heap.size 40 (k.r d).a noR.a W0 (vs 4) (vs 5) X) (fun vs X => Both W0.heap.size 40 (k.r d).a (k.r s).a W0 (vs 4) (vs 5) X) l vs X) (PQ := fun _ _ => False)
    (by kernel_rfl) (by kernel_rfl) (by kernel_rfl) (by kernel_rfl) ⟨Vals.none _ _, Ph2.start (Two.start ((Below.refl _ _).drew) (Nat.le_refl _))⟩ ?hop ?hend (fun _ _ _ _ h => h.elim)
  case hop =>
    refine ⟨?_, ?_, ?_, ?_, ?_, ?_, ?_, ?_, trivial⟩
    · intro l vs X A hA ⟨hV, hS⟩ hl hd hcl
      have hj := nY 6 hcl hl
      have hk := nY 7 hcl hl
      have hX := hS.1 hj
      have hB := hX.below
      have a1 := eO hA 1 rfl
      refine show_value (v := .agg (stA i c k)) (X' := X) (run_ld 82 _ rfl _ a1 (ld_row (l := stCells i c k) (has_whole (hst.below hB hst.lt)) (by kernel_rfl))) ⟨hV.upd (fun _ h => Option.some.inj h), Ph2.keep hj hk (by decide) (by decide) (hX.grow (Below.refl _ _) (by decide) (by decide) _)⟩
    · intro l vs X A hA ⟨hV, hS⟩ hl hd hcl
      have hj := nY 6 hcl hl
      have hk := nY 7 hcl hl
      have hX := hS.1 hj
      have hB := hX.below
      have a6 := eN hA 6 0 hd hV rfl
      have aF0 : A.eval (.func 80) = .func (.func 80) #[] #[] := rfl
      refine show_call (f := 80) (args := #[.agg (stA i c k)]) ?_ (dst_ok i c k d X hdst hdn hk0) ?_
      · generalize A.eval = ρ at *
        clear hA hl hd hcl hV hS
        go_simp
      · rintro e X' ⟨rfl, hB1⟩
        exact .inl ⟨_, rfl, hV.upd (fun _ h => Option.some.inj h), Ph2.keep hj hk (by decide) (by decide) (hX.grow hB1 (by decide) (by decide) _)⟩
    · intro l vs X A hA ⟨hV, hS⟩ hl hd hcl
      have hj := nY 6 hcl hl
      have hk := nY 7 hcl hl
      have hX := hS.1 hj
      have hB := hX.below
      have a1 := eO hA 1 rfl
      refine show_value (v := .agg (stA i c k)) (X' := X) (run_ld 82 _ rfl _ a1 (ld_row (l := stCells i c k) (has_whole (hst.below hB hst.lt)) (by kernel_rfl))) ⟨hV.upd (fun _ h => Option.some.inj h), Ph2.keep hj hk (by decide) (by decide) (hX.grow (Below.refl _ _) (by decide) (by decide) _)⟩
    · intro l vs X A hA ⟨hV, hS⟩ hl hd hcl
      have hj := nY 6 hcl hl
      have hk := nY 7 hcl hl
      have hX := hS.1 hj
      have hB := hX.below
      have a8 := eN hA 8 2 hd hV rfl
      have aF0 : A.eval (.func 46) = .func (.func 46) #[] #[] := rfl
      refine show_call (f := 46) (args := #[.agg (stA i c k)]) ?_ (src_ok i c k s X hsrc hsn hs0) ?_
      · generalize A.eval = ρ at *
        clear hA hl hd hcl hV hS
        go_simp
      · rintro e X' ⟨rfl, hB1⟩
        exact .inl ⟨_, rfl, hV.upd (fun _ h => Option.some.inj h), Ph2.keep hj hk (by decide) (by decide) (hX.grow hB1 (by decide) (by decide) _)⟩
    · intro l vs X A hA ⟨hV, hS⟩ hl hd hcl
      have hj := nY 6 hcl hl
      have hk := nY 7 hcl hl
      have hX := hS.1 hj
      have hB := hX.below
      refine show_value (v := .pointer (some ⟨X.heap.size, 0, none⟩)) (X' := X.alloc (.cells noR.a 40)) ?_ ⟨hV.upd (fun _ h => by cases h), Ph2.keep hj hk (by decide) (by decide) (hX.mkFst (by decide))⟩
      generalize A.eval = ρ at *
      clear hA hl hd hcl hV hS
      rfl
    · intro l vs X A hA ⟨hV, hS⟩ hl hd hcl
      have hj := nY 6 hcl hl
      have hk := nY 7 hcl hl
      have hX := hS.1 hj
      have hB := hX.below
      refine show_value (v := .pointer (some ⟨X.heap.size, 0, none⟩)) (X' := X.alloc (.cells noR.a 40)) ?_ ⟨hV.upd (fun _ h => by cases h), Ph2.keep hj hk (by decide) (by decide) (hX.mkSnd (by decide))⟩
      generalize A.eval = ρ at *
      clear hA hl hd hcl hV hS
      rfl
    · intro l vs X A hA ⟨hV, hS⟩ hl hd hcl
      have hk := nY 7 hcl hl
      have hX := hS.1 hl
      have a4 := eval_new hA 4 4 (by kernel_rfl) (by kernel_rfl) (by kernel_rfl) (hd 4 (by kernel_rfl)) (rfl : vs 4 = vs 4)
      have a7 := eN hA 7 1 hd hV rfl
      obtain ⟨b, hb, hH, hT⟩ := (hX.both (hd 4 (by kernel_rfl)) (hd 5 (by kernel_rfl))).setFst (x' := (k.r d).a)
      rw [hb] at a4
      refine show_skip (run_st_row 40 _ _ rfl b _ _ _ a4 a7 hH (by kernel_rfl) (by kernel_rfl) (Rg.a_one _)) ⟨hV.upd (fun _ h => by cases h), Ph2.mid hk (by decide) ?_⟩
      exact hT
    · intro l vs X A hA ⟨hV, hS⟩ hl hd hcl
      have hX := hS.2.1 (hd 6 (by kernel_rfl)) hl
      have a5 := eval_new hA 5 5 (by kernel_rfl) (by kernel_rfl) (by kernel_rfl) (hd 5 (by kernel_rfl)) (rfl : vs 5 = vs 5)
      have a9 := eN hA 9 3 hd hV rfl
      obtain ⟨b, hb, hH, hT⟩ := hX.setSnd (y' := (k.r s).a)
      rw [hb] at a5
      refine show_skip (run_st_row 40 _ _ rfl b _ _ _ a5 a9 hH (by kernel_rfl) (by kernel_rfl) (Rg.a_one _)) ⟨hV.upd (fun _ h => by cases h), Ph2.last (hd 6 (by kernel_rfl)) ?_⟩
      exact hT
  case hend =>
    intro l vs X hl ⟨hV, hS⟩
    have hX := hS.2.2 (hl 7 (by decide))
    have v0 := hV 0 _ (hl 0 (by decide)) rfl
    have v1 := hV 1 _ (hl 1 (by decide)) rfl
    have v2 := hV 2 _ (hl 2 (by decide)) rfl
    have v3 := hV 3 _ (hl 3 (by decide)) rfl
    clear hV hS hl
    obtain ⟨b6, b7, u6, u7, g6, g7, hne, hb6, hb7, hB9⟩ := hX
    simp only [canonL, if_true, v0, v1, v2, v3, u6, u7]
    clear v0 v1 v2 v3 u6 u7
    go_simp
    have hJ : JW w i c k (noK) (noK) b6 b7 (k.r d) (k.r s) X := ⟨hst.below hB9 hst.lt, h3.below hB9 h3.lt, h4.below hB9 h4.lt, hb6, hb7, hB0.trans (hB9.mono hB0.size), by have := HZ.out; omega, by have := HZ.out; omega⟩
    obtain ⟨W1, hren⟩ : ∃ Z, Z = X := ⟨_, rfl⟩
    subst hren
    clear hst h3 h4 hb6 hb7 hB9 g6 g7 hB0 HZ
    have hz1 := hJ.size
    go_upto_region 2 with fail
    have c1 : W1.cell? ⟨w.heap.size, 1, none⟩ = some (.int .i64 (d : Int)) := by rw [← hdst]; exact hJ.st.cell 1
    have c2 : W1.cell? ⟨w.heap.size, 2, none⟩ = some (.int .i64 (s : Int)) := by rw [← hsrc]; exact hJ.st.cell 2
    have hq : ((d : Int) == (s : Int)) = false := by simp; omega
    clear hds
    go_upto_region 4 with fail
    clear c1 c2 hq
    have HA : Hid (((k.r d).least < (k.r s).great)) := ha
    have HBB : Hid (((k.r s).least ≤ (k.r d).great)) := hb
    clear ha hb
    have c1 : W1.cell? ⟨b6, 1, none⟩ = some (.int .u32 ((k.r d).least : Int)) := hJ.d.cell 1
    have c2 : W1.cell? ⟨b7, 2, none⟩ = some (.int .u32 ((k.r s).great : Int)) := hJ.o.cell 2
    have ha' : (((k.r d).least : Int) < ((k.r s).great : Int)) := by have := HA.out; omega
    go_upto_region 5 with fail
    clear c1 c2 ha'
    refine wp_region_inv (Φ := fun l vs X => Vals (fun q => match q with | 0 => some (.agg (stA i c k)) | 1 => some ((k.r d).v) | 2 => some (.pointer (some ⟨b7, 2, none⟩)) | 3 => some (.int .u32 ((k.r s).great : Int)) | 4 => some (.int .u32 (((k.r s).great - 1 : Nat) : Int)) | 5 => some ((atMostR (k.r d) ((k.r s).great - 1)).v) | 6 => some ((k.r s).v) | 7 => some (.pointer (some ⟨b6, 1, none⟩)) | 8 => some (.int .u32 ((k.r d).least : Int)) | 9 => some (.int .u32 (((k.r d).least + 1 : Nat) : Int)) | 10 => some ((atLeastR (k.r s) ((k.r d).least + 1)).v) | 11 => some (.agg ((k.set d (atMostR (k.r d) ((k.r s).great - 1))).set s (atLeastR (k.r s) ((k.r d).least + 1))).a) | _ => none) l vs ∧ Pre1 12 (Below W1.heap.size W1) (JW w i c k (noK) ((k.set d (atMostR (k.r d) ((k.r s).great - 1))).set s (atLeastR (k.r s) ((k.r d).least + 1))) b6 b7 (k.r d) (k.r s)) l X) (PQ := fun _ _ => False)
      (by kernel_rfl) (by kernel_rfl) (by kernel_rfl) (by kernel_rfl) ⟨Vals.none _ _, Pre1.start ((Below.refl _ _).drew)⟩ ?hop ?hend (fun _ _ _ _ h => h.elim)
    case hop =>
      refine ⟨?_, ?_, ?_, ?_, ?_, ?_, ?_, ?_, ?_, ?_, ?_, ?_, ?_, trivial⟩
      · intro l vs X A hA ⟨hV, hS⟩ hl hd hcl
        have hk := nY 12 hcl hl
        have hX := hS.1 hk
        have hB := hX
        have a1 := eO hA 1 rfl
        refine show_value (v := .agg (stA i c k)) (X' := X) (run_ld 82 _ rfl _ a1 (ld_row (l := stCells i c k) (has_whole (hJ.grow hB).st) (by kernel_rfl))) ⟨hV.upd (fun _ h => Option.some.inj h), Pre1.keep hk (by decide) (hX)⟩
      · intro l vs X A hA ⟨hV, hS⟩ hl hd hcl
        have hk := nY 12 hcl hl
        have hX := hS.1 hk
        have hB := hX
        have a4 := eO hA 4 rfl
        refine show_value (v := (k.r d).v) (X' := X) (run_ld 40 _ rfl _ a4 (ld_row (l := (k.r d).cells) (has_whole (hJ.grow hB).d) (by kernel_rfl))) ⟨hV.upd (fun _ h => Option.some.inj h), Pre1.keep hk (by decide) (hX)⟩
      · intro l vs X A hA ⟨hV, hS⟩ hl hd hcl
        have hk := nY 12 hcl hl
        have hX := hS.1 hk
        have hB := hX
        have a5 := eO hA 5 rfl
        refine show_value (v := .pointer (some ⟨b7, 2, none⟩)) (X' := X) ?_ ⟨hV.upd (fun _ h => Option.some.inj h), Pre1.keep hk (by decide) (hX)⟩
        generalize A.eval = ρ at *
        clear hA hl hd hcl hV hS
        go_simp
      · intro l vs X A hA ⟨hV, hS⟩ hl hd hcl
        have hk := nY 12 hcl hl
        have hX := hS.1 hk
        have hB := hX
        have a27 := eN hA 27 2 hd hV rfl
        have hg := hJ.grow hB
        have cc : X.cell? ⟨b7, 2, none⟩ = some (.int .u32 ((k.r s).great : Int)) := hg.o.cell 2
        refine show_value (v := .int .u32 ((k.r s).great : Int)) (X' := X) ?_ ⟨hV.upd (fun _ h => Option.some.inj h), Pre1.keep hk (by decide) (hX)⟩
        clear hg
        generalize A.eval = ρ at *
        clear hA hl hd hcl hV hS
        go_simp
      · intro l vs X A hA ⟨hV, hS⟩ hl hd hcl
        have hk := nY 12 hcl hl
        have hX := hS.1 hk
        have hB := hX
        have a28 := eN hA 28 3 hd hV rfl
        have aC0 : A.eval (.const (.int .u32 1)) = (.int .u32 1) := rfl
        have q1 : IntKind.u32.wrap (((k.r s).great : Int) - 1) = (((k.r s).great - 1 : Nat) : Int) := by have := HA.out; have := hok.least; have := hoks.great; rw [IntKind.wrap_u32]; omega
        refine show_value (v := .int .u32 (((k.r s).great - 1 : Nat) : Int)) (X' := X) ?_ ⟨hV.upd (fun _ h => Option.some.inj h), Pre1.keep hk (by decide) (hX)⟩
        clear hok hoks
        generalize (((k.r s).great - 1 : Nat) : Int) = z at *
        generalize A.eval = ρ at *
        clear hA hl hd hcl hV hS
        go_simp
      · intro l vs X A hA ⟨hV, hS⟩ hl hd hcl
        have hk := nY 12 hcl hl
        have hX := hS.1 hk
        have hB := hX
        have a26 := eN hA 26 1 hd hV rfl
        have a29 := eN hA 29 4 hd hV rfl
        have aF0 : A.eval (.func 90) = .func (.func 90) #[] #[] := rfl
        refine show_call (f := 90) (args := #[(k.r d).v, .int .u32 (((k.r s).great - 1 : Nat) : Int)]) ?_ (atMost_any (k.r d) ((k.r s).great - 1) hok X) ?_
        · generalize A.eval = ρ at *
          clear hA hl hd hcl hV hS
          go_simp
        · rintro e X' ⟨rfl, hB1⟩
          exact .inl ⟨_, rfl, hV.upd (fun _ h => Option.some.inj h), Pre1.keep hk (by decide) (hX.trans (hB1.mono hX.size))⟩
      · intro l vs X A hA ⟨hV, hS⟩ hl hd hcl
        have hk := nY 12 hcl hl
        have hX := hS.1 hk
        have hB := hX
        have a5 := eO hA 5 rfl
        refine show_value (v := (k.r s).v) (X' := X) (run_ld 40 _ rfl _ a5 (ld_row (l := (k.r s).cells) (has_whole (hJ.grow hB).o) (by kernel_rfl))) ⟨hV.upd (fun _ h => Option.some.inj h), Pre1.keep hk (by decide) (hX)⟩
      · intro l vs X A hA ⟨hV, hS⟩ hl hd hcl
        have hk := nY 12 hcl hl
        have hX := hS.1 hk
        have hB := hX
        have a4 := eO hA 4 rfl
        refine show_value (v := .pointer (some ⟨b6, 1, none⟩)) (X' := X) ?_ ⟨hV.upd (fun _ h => Option.some.inj h), Pre1.keep hk (by decide) (hX)⟩
        generalize A.eval = ρ at *
        clear hA hl hd hcl hV hS
        go_simp
      · intro l vs X A hA ⟨hV, hS⟩ hl hd hcl
        have hk := nY 12 hcl hl
        have hX := hS.1 hk
        have hB := hX
        have a32 := eN hA 32 7 hd hV rfl
        have hg := hJ.grow hB
        have cc : X.cell? ⟨b6, 1, none⟩ = some (.int .u32 ((k.r d).least : Int)) := hg.d.cell 1
        refine show_value (v := .int .u32 ((k.r d).least : Int)) (X' := X) ?_ ⟨hV.upd (fun _ h => Option.some.inj h), Pre1.keep hk (by decide) (hX)⟩
        clear hg
        generalize A.eval = ρ at *
        clear hA hl hd hcl hV hS
        go_simp
      · intro l vs X A hA ⟨hV, hS⟩ hl hd hcl
        have hk := nY 12 hcl hl
        have hX := hS.1 hk
        have hB := hX
        have a33 := eN hA 33 8 hd hV rfl
        have aC0 : A.eval (.const (.int .u32 1)) = (.int .u32 1) := rfl
        have q1 : IntKind.u32.wrap (((k.r d).least : Int) + 1) = (((k.r d).least + 1 : Nat) : Int) := by have := HA.out; have := hok.least; have := hoks.great; rw [IntKind.wrap_u32]; omega
        refine show_value (v := .int .u32 (((k.r d).least + 1 : Nat) : Int)) (X' := X) ?_ ⟨hV.upd (fun _ h => Option.some.inj h), Pre1.keep hk (by decide) (hX)⟩
        clear hok hoks
        generalize (((k.r d).least + 1 : Nat) : Int) = z at *
        generalize A.eval = ρ at *
        clear hA hl hd hcl hV hS
        go_simp
      · intro l vs X A hA ⟨hV, hS⟩ hl hd hcl
        have hk := nY 12 hcl hl
        have hX := hS.1 hk
        have hB := hX
        have a31 := eN hA 31 6 hd hV rfl
        have a34 := eN hA 34 9 hd hV rfl
        have aF0 : A.eval (.func 91) = .func (.func 91) #[] #[] := rfl
        refine show_call (f := 91) (args := #[(k.r s).v, .int .u32 (((k.r d).least + 1 : Nat) : Int)]) ?_ (atLeast_any (k.r s) ((k.r d).least + 1) hoks X) ?_
        · generalize A.eval = ρ at *
          clear hA hl hd hcl hV hS
          go_simp
        · rintro e X' ⟨rfl, hB1⟩
          exact .inl ⟨_, rfl, hV.upd (fun _ h => Option.some.inj h), Pre1.keep hk (by decide) (hX.trans (hB1.mono hX.size))⟩
      · intro l vs X A hA ⟨hV, hS⟩ hl hd hcl
        have hk := nY 12 hcl hl
        have hX := hS.1 hk
        have hB := hX
        have a25 := eN hA 25 0 hd hV rfl
        have a30 := eN hA 30 5 hd hV rfl
        have a35 := eN hA 35 10 hd hV rfl
        have aF0 : A.eval (.func 92) = .func (.func 92) #[] #[] := rfl
        refine show_call (f := 92) (args := #[.agg (stA i c k), (atMostR (k.r d) ((k.r s).great - 1)).v, (atLeastR (k.r s) ((k.r d).least + 1)).v]) ?_ (both_any i c k d s (atMostR (k.r d) ((k.r s).great - 1)) (atLeastR (k.r s) ((k.r d).least + 1)) X hdst hdn hsrc hsn) ?_
        · generalize A.eval = ρ at *
          clear hA hl hd hcl hV hS
          go_simp
        · rintro e X' ⟨rfl, hB1⟩
          exact .inl ⟨_, rfl, hV.upd (fun _ h => Option.some.inj h), Pre1.keep hk (by decide) (hX.trans (hB1.mono hX.size))⟩
      · intro l vs X A hA ⟨hV, hS⟩ hl hd hcl
        have hX := hS.1 hl
        have hB := hX
        have a3 := eO hA 3 rfl
        have a36 := eN hA 36 11 hd hV rfl
        have hg := hJ.grow hX
        refine show_skip (X' := X.setRow (w.heap.size + 2) ((k.set d (atMostR (k.r d) ((k.r s).great - 1))).set s (atLeastR (k.r s) ((k.r d).least + 1))).a) (run_st_row 43 _ _ rfl (w.heap.size + 2) _ _ _ a3 a36 hg.j (by kernel_rfl) (by kernel_rfl) (Kn.a_one _)) ⟨hV.upd (fun _ h => by cases h), Pre1.last (hg.setJ _)⟩
    case hend =>
      intro l vs X hl ⟨hV, hS⟩
      have hX := hS.2 (hl 12 (by decide))
      have v0 := hV 0 _ (hl 0 (by decide)) rfl
      have v1 := hV 1 _ (hl 1 (by decide)) rfl
      have v2 := hV 2 _ (hl 2 (by decide)) rfl
      have v3 := hV 3 _ (hl 3 (by decide)) rfl
      have v4 := hV 4 _ (hl 4 (by decide)) rfl
      have v5 := hV 5 _ (hl 5 (by decide)) rfl
      have v6 := hV 6 _ (hl 6 (by decide)) rfl
      have v7 := hV 7 _ (hl 7 (by decide)) rfl
      have v8 := hV 8 _ (hl 8 (by decide)) rfl
      have v9 := hV 9 _ (hl 9 (by decide)) rfl
      have v10 := hV 10 _ (hl 10 (by decide)) rfl
      have v11 := hV 11 _ (hl 11 (by decide)) rfl
      clear hV hS hl
      simp only [canonL, if_true, v0, v1, v2, v3, v4, v5, v6, v7, v8, v9, v10, v11]
      clear v0 v1 v2 v3 v4 v5 v6 v7 v8 v9 v10 v11
      go_simp
      clear hJ
      have hJ := hX
      clear hX
      obtain ⟨W2, hren⟩ : ∃ Z, Z = X := ⟨_, rfl⟩
      subst hren
      have hz2 := hJ.size
      go_upto_region 6 with fail
      have c1 : W2.cell? ⟨b6, 2, none⟩ = some (.int .u32 ((k.r d).great : Int)) := hJ.d.cell 2
      have c2 : W2.cell? ⟨b7, 1, none⟩ = some (.int .u32 ((k.r s).least : Int)) := hJ.o.cell 1
      have hb' : (((k.r s).least : Int) ≤ ((k.r d).great : Int)) := by have := HBB.out; omega
      go_upto_region 7 with fail
      clear c1 c2 hb'
      refine wp_region_inv (Φ := fun l vs X => Vals (fun q => match q with | 0 => some (.agg (stA i c k)) | 1 => some ((k.r d).v) | 2 => some (.pointer (some ⟨b7, 1, none⟩)) | 3 => some (.int .u32 ((k.r s).least : Int)) | 4 => some ((atLeastR (k.r d) (k.r s).least).v) | 5 => some ((k.r s).v) | 6 => some (.pointer (some ⟨b6, 2, none⟩)) | 7 => some (.int .u32 ((k.r d).great : Int)) | 8 => some ((atMostR (k.r s) (k.r d).great).v) | 9 => some (.agg ((k.set d (atLeastR (k.r d) (k.r s).least)).set s (atMostR (k.r s) (k.r d).great)).a) | _ => none) l vs ∧ Pre1 10 (Below W2.heap.size W2) (JW w i c k ((k.set d (atLeastR (k.r d) (k.r s).least)).set s (atMostR (k.r s) (k.r d).great)) ((k.set d (atMostR (k.r d) ((k.r s).great - 1))).set s (atLeastR (k.r s) ((k.r d).least + 1))) b6 b7 (k.r d) (k.r s)) l X) (PQ := fun _ _ => False)
        (by kernel_rfl) (by kernel_rfl) (by kernel_rfl) (by kernel_rfl) ⟨Vals.none _ _, Pre1.start ((Below.refl _ _).drew)⟩ ?hop ?hend (fun _ _ _ _ h => h.elim)
      case hop =>
        refine ⟨?_, ?_, ?_, ?_, ?_, ?_, ?_, ?_, ?_, ?_, ?_, trivial⟩
        · intro l vs X A hA ⟨hV, hS⟩ hl hd hcl
          have hk := nY 10 hcl hl
          have hX := hS.1 hk
          have hB := hX
          have a1 := eO hA 1 rfl
          refine show_value (v := .agg (stA i c k)) (X' := X) (run_ld 82 _ rfl _ a1 (ld_row (l := stCells i c k) (has_whole (hJ.grow hB).st) (by kernel_rfl))) ⟨hV.upd (fun _ h => Option.some.inj h), Pre1.keep hk (by decide) (hX)⟩
        · intro l vs X A hA ⟨hV, hS⟩ hl hd hcl
          have hk := nY 10 hcl hl
          have hX := hS.1 hk
          have hB := hX
          have a4 := eO hA 4 rfl
          refine show_value (v := (k.r d).v) (X' := X) (run_ld 40 _ rfl _ a4 (ld_row (l := (k.r d).cells) (has_whole (hJ.grow hB).d) (by kernel_rfl))) ⟨hV.upd (fun _ h => Option.some.inj h), Pre1.keep hk (by decide) (hX)⟩
        · intro l vs X A hA ⟨hV, hS⟩ hl hd hcl
          have hk := nY 10 hcl hl
          have hX := hS.1 hk
          have hB := hX
          have a5 := eO hA 5 rfl
          refine show_value (v := .pointer (some ⟨b7, 1, none⟩)) (X' := X) ?_ ⟨hV.upd (fun _ h => Option.some.inj h), Pre1.keep hk (by decide) (hX)⟩
          generalize A.eval = ρ at *
          clear hA hl hd hcl hV hS
          go_simp
        · intro l vs X A hA ⟨hV, hS⟩ hl hd hcl
          have hk := nY 10 hcl hl
          have hX := hS.1 hk
          have hB := hX
          have a44 := eN hA 44 2 hd hV rfl
          have hg := hJ.grow hB
          have cc : X.cell? ⟨b7, 1, none⟩ = some (.int .u32 ((k.r s).least : Int)) := hg.o.cell 1
          refine show_value (v := .int .u32 ((k.r s).least : Int)) (X' := X) ?_ ⟨hV.upd (fun _ h => Option.some.inj h), Pre1.keep hk (by decide) (hX)⟩
          clear hg
          generalize A.eval = ρ at *
          clear hA hl hd hcl hV hS
          go_simp
        · intro l vs X A hA ⟨hV, hS⟩ hl hd hcl
          have hk := nY 10 hcl hl
          have hX := hS.1 hk
          have hB := hX
          have a43 := eN hA 43 1 hd hV rfl
          have a45 := eN hA 45 3 hd hV rfl
          have aF0 : A.eval (.func 91) = .func (.func 91) #[] #[] := rfl
          refine show_call (f := 91) (args := #[(k.r d).v, .int .u32 ((k.r s).least : Int)]) ?_ (atLeast_any (k.r d) (k.r s).least hok X) ?_
          · generalize A.eval = ρ at *
            clear hA hl hd hcl hV hS
            go_simp
          · rintro e X' ⟨rfl, hB1⟩
            exact .inl ⟨_, rfl, hV.upd (fun _ h => Option.some.inj h), Pre1.keep hk (by decide) (hX.trans (hB1.mono hX.size))⟩
        · intro l vs X A hA ⟨hV, hS⟩ hl hd hcl
          have hk := nY 10 hcl hl
          have hX := hS.1 hk
          have hB := hX
          have a5 := eO hA 5 rfl
          refine show_value (v := (k.r s).v) (X' := X) (run_ld 40 _ rfl _ a5 (ld_row (l := (k.r s).cells) (has_whole (hJ.grow hB).o) (by kernel_rfl))) ⟨hV.upd (fun _ h => Option.some.inj h), Pre1.keep hk (by decide) (hX)⟩
        · intro l vs X A hA ⟨hV, hS⟩ hl hd hcl
          have hk := nY 10 hcl hl
          have hX := hS.1 hk
          have hB := hX
          have a4 := eO hA 4 rfl
          refine show_value (v := .pointer (some ⟨b6, 2, none⟩)) (X' := X) ?_ ⟨hV.upd (fun _ h => Option.some.inj h), Pre1.keep hk (by decide) (hX)⟩
          generalize A.eval = ρ at *
          clear hA hl hd hcl hV hS
          go_simp
        · intro l vs X A hA ⟨hV, hS⟩ hl hd hcl
          have hk := nY 10 hcl hl
          have hX := hS.1 hk
          have hB := hX
          have a48 := eN hA 48 6 hd hV rfl
          have hg := hJ.grow hB
          have cc : X.cell? ⟨b6, 2, none⟩ = some (.int .u32 ((k.r d).great : Int)) := hg.d.cell 2
          refine show_value (v := .int .u32 ((k.r d).great : Int)) (X' := X) ?_ ⟨hV.upd (fun _ h => Option.some.inj h), Pre1.keep hk (by decide) (hX)⟩
          clear hg
          generalize A.eval = ρ at *
          clear hA hl hd hcl hV hS
          go_simp
        · intro l vs X A hA ⟨hV, hS⟩ hl hd hcl
          have hk := nY 10 hcl hl
          have hX := hS.1 hk
          have hB := hX
          have a47 := eN hA 47 5 hd hV rfl
          have a49 := eN hA 49 7 hd hV rfl
          have aF0 : A.eval (.func 90) = .func (.func 90) #[] #[] := rfl
          refine show_call (f := 90) (args := #[(k.r s).v, .int .u32 ((k.r d).great : Int)]) ?_ (atMost_any (k.r s) (k.r d).great hoks X) ?_
          · generalize A.eval = ρ at *
            clear hA hl hd hcl hV hS
            go_simp
          · rintro e X' ⟨rfl, hB1⟩
            exact .inl ⟨_, rfl, hV.upd (fun _ h => Option.some.inj h), Pre1.keep hk (by decide) (hX.trans (hB1.mono hX.size))⟩
        · intro l vs X A hA ⟨hV, hS⟩ hl hd hcl
          have hk := nY 10 hcl hl
          have hX := hS.1 hk
          have hB := hX
          have a42 := eN hA 42 0 hd hV rfl
          have a46 := eN hA 46 4 hd hV rfl
          have a50 := eN hA 50 8 hd hV rfl
          have aF0 : A.eval (.func 92) = .func (.func 92) #[] #[] := rfl
          refine show_call (f := 92) (args := #[.agg (stA i c k), (atLeastR (k.r d) (k.r s).least).v, (atMostR (k.r s) (k.r d).great).v]) ?_ (both_any i c k d s (atLeastR (k.r d) (k.r s).least) (atMostR (k.r s) (k.r d).great) X hdst hdn hsrc hsn) ?_
          · generalize A.eval = ρ at *
            clear hA hl hd hcl hV hS
            go_simp
          · rintro e X' ⟨rfl, hB1⟩
            exact .inl ⟨_, rfl, hV.upd (fun _ h => Option.some.inj h), Pre1.keep hk (by decide) (hX.trans (hB1.mono hX.size))⟩
        · intro l vs X A hA ⟨hV, hS⟩ hl hd hcl
          have hX := hS.1 hl
          have hB := hX
          have a2 := eO hA 2 rfl
          have a51 := eN hA 51 9 hd hV rfl
          have hg := hJ.grow hX
          refine show_skip (X' := X.setRow (w.heap.size + 1) ((k.set d (atLeastR (k.r d) (k.r s).least)).set s (atMostR (k.r s) (k.r d).great)).a) (run_st_row 43 _ _ rfl (w.heap.size + 1) _ _ _ a2 a51 hg.n (by kernel_rfl) (by kernel_rfl) (Kn.a_one _)) ⟨hV.upd (fun _ h => by cases h), Pre1.last (hg.setN _)⟩
      case hend =>
        intro l vs X hl ⟨hV, hS⟩
        have hX := hS.2 (hl 10 (by decide))
        have v0 := hV 0 _ (hl 0 (by decide)) rfl
        have v1 := hV 1 _ (hl 1 (by decide)) rfl
        have v2 := hV 2 _ (hl 2 (by decide)) rfl
        have v3 := hV 3 _ (hl 3 (by decide)) rfl
        have v4 := hV 4 _ (hl 4 (by decide)) rfl
        have v5 := hV 5 _ (hl 5 (by decide)) rfl
        have v6 := hV 6 _ (hl 6 (by decide)) rfl
        have v7 := hV 7 _ (hl 7 (by decide)) rfl
        have v8 := hV 8 _ (hl 8 (by decide)) rfl
        have v9 := hV 9 _ (hl 9 (by decide)) rfl
        clear hV hS hl
        simp only [canonL, if_true, v0, v1, v2, v3, v4, v5, v6, v7, v8, v9]
        clear v0 v1 v2 v3 v4 v5 v6 v7 v8 v9
        go_simp
        clear hJ
        have hJ := hX
        clear hX
        obtain ⟨W5, hren⟩ : ∃ Z, Z = X := ⟨_, rfl⟩
        subst hren
        have hz5 := hJ.size
        go_upto_region 8 with fail
        refine wp_region_inv (Φ := fun l vs X => Vals (fun q => match q with | 0 => some (.agg ((k.set d (atLeastR (k.r d) (k.r s).least)).set s (atMostR (k.r s) (k.r d).great)).a) | 1 => some (.agg ((k.set d (atMostR (k.r d) ((k.r s).great - 1))).set s (atLeastR (k.r s) ((k.r d).least + 1))).a) | _ => none) l vs ∧ Pre2 2 3 (Below W5.heap.size W5) (JW w i c k ((k.set d (atLeastR (k.r d) (k.r s).least)).set s (atMostR (k.r s) (k.r d).great)) ((k.set d (atMostR (k.r d) ((k.r s).great - 1))).set s (atLeastR (k.r s) ((k.r d).least + 1))) b6 b7 (k.r d) (k.r s)) (JW w i c k ((k.set d (atLeastR (k.r d) (k.r s).least)).set s (atMostR (k.r s) (k.r d).great)) ((k.set d (atMostR (k.r d) ((k.r s).great - 1))).set s (atLeastR (k.r s) ((k.r d).least + 1))) b6 b7 (k.r d) (k.r s)) l X) (PQ := fun _ _ => False)
          (by kernel_rfl) (by kernel_rfl) (by kernel_rfl) (by kernel_rfl) ⟨Vals.none _ _, Pre2.start ((Below.refl _ _).drew)⟩ ?hop ?hend (fun _ _ _ _ h => h.elim)
        case hop =>
          refine ⟨?_, ?_, ?_, ?_, trivial⟩
          · intro l vs X A hA ⟨hV, hS⟩ hl hd hcl
            have hj := nY 2 hcl hl
            have hk := nY 3 hcl hl
            have hX := hS.1 hj
            have hB := hX
            have a2 := eO hA 2 rfl
            refine show_value (v := .agg ((k.set d (atLeastR (k.r d) (k.r s).least)).set s (atMostR (k.r s) (k.r d).great)).a) (X' := X) (run_ld 43 _ rfl _ a2 (ld_row (l := ((k.set d (atLeastR (k.r d) (k.r s).least)).set s (atMostR (k.r s) (k.r d).great)).cells) (has_whole (hJ.grow hB).n) (by kernel_rfl))) ⟨hV.upd (fun _ h => Option.some.inj h), Pre2.keep hj hk (by decide) (by decide) (hX)⟩
          · intro l vs X A hA ⟨hV, hS⟩ hl hd hcl
            have hk := nY 3 hcl hl
            have a3 := eO hA 3 rfl
            cases hj : l 2 with
            | true =>
              have hX := hS.2.1 hj hk
              exact show_value (v := .agg ((k.set d (atMostR (k.r d) ((k.r s).great - 1))).set s (atLeastR (k.r s) ((k.r d).least + 1))).a) (X' := X) (run_ld 43 _ rfl _ a3 (ld_row (l := ((k.set d (atMostR (k.r d) ((k.r s).great - 1))).set s (atLeastR (k.r s) ((k.r d).least + 1))).cells) (has_whole hX.j) (by kernel_rfl))) ⟨hV.upd (fun _ h => Option.some.inj h), Pre2.keepMid hj hk (by decide) (by decide) hX⟩
            | false =>
              have hX := hS.1 hj
              have hB := hX
              exact show_value (v := .agg ((k.set d (atMostR (k.r d) ((k.r s).great - 1))).set s (atLeastR (k.r s) ((k.r d).least + 1))).a) (X' := X) (run_ld 43 _ rfl _ a3 (ld_row (l := ((k.set d (atMostR (k.r d) ((k.r s).great - 1))).set s (atLeastR (k.r s) ((k.r d).least + 1))).cells) (has_whole (hJ.grow hB).j) (by kernel_rfl))) ⟨hV.upd (fun _ h => Option.some.inj h), Pre2.keep hj hk (by decide) (by decide) hX⟩
          · intro l vs X A hA ⟨hV, hS⟩ hl hd hcl
            have hk := nY 3 hcl hl
            have hX := hS.1 hl
            have a2 := eO hA 2 rfl
            have a52 := eN hA 52 0 hd hV rfl
            have hg := hJ.grow hX
            refine show_skip (X' := X.setRow (w.heap.size + 1) ((k.set d (atLeastR (k.r d) (k.r s).least)).set s (atMostR (k.r s) (k.r d).great)).a) (run_st_row 43 _ _ rfl (w.heap.size + 1) _ _ _ a2 a52 hg.n (by kernel_rfl) (by kernel_rfl) (Kn.a_one _)) ⟨hV.upd (fun _ h => by cases h), Pre2.mid hk (by decide) (hg.setN _)⟩
          · intro l vs X A hA ⟨hV, hS⟩ hl hd hcl
            have hX := hS.2.1 (hd 2 (by kernel_rfl)) hl
            have a3 := eO hA 3 rfl
            have a53 := eN hA 53 1 hd hV rfl
            refine show_skip (X' := X.setRow (w.heap.size + 2) ((k.set d (atMostR (k.r d) ((k.r s).great - 1))).set s (atLeastR (k.r s) ((k.r d).least + 1))).a) (run_st_row 43 _ _ rfl (w.heap.size + 2) _ _ _ a3 a53 hX.j (by kernel_rfl) (by kernel_rfl) (Kn.a_one _)) ⟨hV.upd (fun _ h => by cases h), Pre2.last (hd 2 (by kernel_rfl)) (hX.setJ _)⟩
        case hend =>
          intro l vs X hl ⟨hV, hS⟩
          have hX := hS.2.2 (hl 3 (by decide))
          have v0 := hV 0 _ (hl 0 (by decide)) rfl
          have v1 := hV 1 _ (hl 1 (by decide)) rfl
          clear hV hS hl
          simp only [canonL, if_true, v0, v1]
          clear v0 v1
          go_simp
          go_wp2_with fail
          refine bodyPost_ret (results_rows2 rfl _ _ (w.heap.size + 1) (w.heap.size + 2) 43 _ _ _ rfl rfl hX.n hX.j Tryd.underlying43 rfl (by kernel_rfl) (by kernel_rfl)) rfl ?_
          exact ⟨rfl, hX.below⟩
end Go.Proofs.YtodkehpldlmgaaaDoor
/- jlt, by one way. -/
namespace Go.Proofs.YtodkehpldlmgaaaDoor
open Go.RowKit
set_option maxRecDepth 10000 in
set_option maxHeartbeats 2000000 in
theorem jlt_10 (i : Ins) (c : Int) (k : Kn) (d s : Nat) (w : World) (hdst : i.dst = (d : Int)) (hdn : d < 10) (hsrc : i.src = (s : Int)) (hsn : s < 10) (hk0 : k.r d ≠ noR) (hs0 : k.r s ≠ noR) (hds : d ≠ s) (hok : (k.r d).Ok) (hoks : (k.r s).Ok) (ha : (k.r d).least < (k.r s).great) (hb : ¬ (k.r s).least ≤ (k.r d).great) :
    Calls Tryd.prog 63 #[.agg (stA i c k)] w fun e w' => e = .returned (two (noK) ((k.set d (atMostR (k.r d) ((k.r s).great - 1))).set s (atLeastR (k.r s) ((k.r d).least + 1)))) ∧ Below w.heap.size w w' := by
  obtain ⟨W0, hW0⟩ : ∃ W0, W0 = ((w.alloc (.cells (stA i c k) 82)).alloc (.cells noK.a 43)).alloc (.cells noK.a 43) := ⟨_, rfl⟩
  obtain ⟨hst, h3, h4, hB0, hz0⟩ := ways_world i c k w W0 hW0
  have HZ : Hid (W0.heap.size = w.heap.size + 3) := hz0
  clear hz0
  go_enter Tryd.func63, Tryd.ntmps63
  go_upto_region 1 with fail
  refine named2 (p := fun X => Code.wp _ _ _ _ X) ?_
  intro W9 hW9
  have hW : W0 = W9 := hW0.trans hW9.symm
  subst hW
  clear hW9 hW0
  refine wp_region_inv (Φ := fun l vs X => Vals (fun q => match q with | 0 => some (.agg (stA i c k)) | 1 => some ((k.r d).v) | 2 => some (.agg (stA i c k)) | 3 => some ((k.r s).v) | _ => none) l vs ∧ Ph2 6 7 (Two W0.heap.size 40 noR.a W0 4 5) (fun vs X => Both W0.heap.size 40 (k.r d).a noR.a W0 (vs 4) (vs 5) X) (fun vs X => Both W0.heap.size 40 (k.r d).a (k.r s).a W0 (vs 4) (vs 5) X) l vs X) (PQ := fun _ _ => False)
    (by kernel_rfl) (by kernel_rfl) (by kernel_rfl) (by kernel_rfl) ⟨Vals.none _ _, Ph2.start (Two.start ((Below.refl _ _).drew) (Nat.le_refl _))⟩ ?hop ?hend (fun _ _ _ _ h => h.elim)
  case hop =>
    refine ⟨?_, ?_, ?_, ?_, ?_, ?_, ?_, ?_, trivial⟩
    · intro l vs X A hA ⟨hV, hS⟩ hl hd hcl
      have hj := nY 6 hcl hl
      have hk := nY 7 hcl hl
      have hX := hS.1 hj
      have hB := hX.below
      have a1 := eO hA 1 rfl
      refine show_value (v := .agg (stA i c k)) (X' := X) (run_ld 82 _ rfl _ a1 (ld_row (l := stCells i c k) (has_whole (hst.below hB hst.lt)) (by kernel_rfl))) ⟨hV.upd (fun _ h => Option.some.inj h), Ph2.keep hj hk (by decide) (by decide) (hX.grow (Below.refl _ _) (by decide) (by decide) _)⟩
    · intro l vs X A hA ⟨hV, hS⟩ hl hd hcl
      have hj := nY 6 hcl hl
      have hk := nY 7 hcl hl
      have hX := hS.1 hj
      have hB := hX.below
      have a6 := eN hA 6 0 hd hV rfl
      have aF0 : A.eval (.func 80) = .func (.func 80) #[] #[] := rfl
      refine show_call (f := 80) (args := #[.agg (stA i c k)]) ?_ (dst_ok i c k d X hdst hdn hk0) ?_
      · generalize A.eval = ρ at *
        clear hA hl hd hcl hV hS
        go_simp
      · rintro e X' ⟨rfl, hB1⟩
        exact .inl ⟨_, rfl, hV.upd (fun _ h => Option.some.inj h), Ph2.keep hj hk (by decide) (by decide) (hX.grow hB1 (by decide) (by decide) _)⟩
    · intro l vs X A hA ⟨hV, hS⟩ hl hd hcl
      have hj := nY 6 hcl hl
      have hk := nY 7 hcl hl
      have hX := hS.1 hj
      have hB := hX.below
      have a1 := eO hA 1 rfl
      refine show_value (v := .agg (stA i c k)) (X' := X) (run_ld 82 _ rfl _ a1 (ld_row (l := stCells i c k) (has_whole (hst.below hB hst.lt)) (by kernel_rfl))) ⟨hV.upd (fun _ h => Option.some.inj h), Ph2.keep hj hk (by decide) (by decide) (hX.grow (Below.refl _ _) (by decide) (by decide) _)⟩
    · intro l vs X A hA ⟨hV, hS⟩ hl hd hcl
      have hj := nY 6 hcl hl
      have hk := nY 7 hcl hl
      have hX := hS.1 hj
      have hB := hX.below
      have a8 := eN hA 8 2 hd hV rfl
      have aF0 : A.eval (.func 46) = .func (.func 46) #[] #[] := rfl
      refine show_call (f := 46) (args := #[.agg (stA i c k)]) ?_ (src_ok i c k s X hsrc hsn hs0) ?_
      · generalize A.eval = ρ at *
        clear hA hl hd hcl hV hS
        go_simp
      · rintro e X' ⟨rfl, hB1⟩
        exact .inl ⟨_, rfl, hV.upd (fun _ h => Option.some.inj h), Ph2.keep hj hk (by decide) (by decide) (hX.grow hB1 (by decide) (by decide) _)⟩
    · intro l vs X A hA ⟨hV, hS⟩ hl hd hcl
      have hj := nY 6 hcl hl
      have hk := nY 7 hcl hl
      have hX := hS.1 hj
      have hB := hX.below
      refine show_value (v := .pointer (some ⟨X.heap.size, 0, none⟩)) (X' := X.alloc (.cells noR.a 40)) ?_ ⟨hV.upd (fun _ h => by cases h), Ph2.keep hj hk (by decide) (by decide) (hX.mkFst (by decide))⟩
      generalize A.eval = ρ at *
      clear hA hl hd hcl hV hS
      rfl
    · intro l vs X A hA ⟨hV, hS⟩ hl hd hcl
      have hj := nY 6 hcl hl
      have hk := nY 7 hcl hl
      have hX := hS.1 hj
      have hB := hX.below
      refine show_value (v := .pointer (some ⟨X.heap.size, 0, none⟩)) (X' := X.alloc (.cells noR.a 40)) ?_ ⟨hV.upd (fun _ h => by cases h), Ph2.keep hj hk (by decide) (by decide) (hX.mkSnd (by decide))⟩
      generalize A.eval = ρ at *
      clear hA hl hd hcl hV hS
      rfl
    · intro l vs X A hA ⟨hV, hS⟩ hl hd hcl
      have hk := nY 7 hcl hl
      have hX := hS.1 hl
      have a4 := eval_new hA 4 4 (by kernel_rfl) (by kernel_rfl) (by kernel_rfl) (hd 4 (by kernel_rfl)) (rfl : vs 4 = vs 4)
      have a7 := eN hA 7 1 hd hV rfl
      obtain ⟨b, hb, hH, hT⟩ := (hX.both (hd 4 (by kernel_rfl)) (hd 5 (by kernel_rfl))).setFst (x' := (k.r d).a)
      rw [hb] at a4
      refine show_skip (run_st_row 40 _ _ rfl b _ _ _ a4 a7 hH (by kernel_rfl) (by kernel_rfl) (Rg.a_one _)) ⟨hV.upd (fun _ h => by cases h), Ph2.mid hk (by decide) ?_⟩
      exact hT
    · intro l vs X A hA ⟨hV, hS⟩ hl hd hcl
      have hX := hS.2.1 (hd 6 (by kernel_rfl)) hl
      have a5 := eval_new hA 5 5 (by kernel_rfl) (by kernel_rfl) (by kernel_rfl) (hd 5 (by kernel_rfl)) (rfl : vs 5 = vs 5)
      have a9 := eN hA 9 3 hd hV rfl
      obtain ⟨b, hb, hH, hT⟩ := hX.setSnd (y' := (k.r s).a)
      rw [hb] at a5
      refine show_skip (run_st_row 40 _ _ rfl b _ _ _ a5 a9 hH (by kernel_rfl) (by kernel_rfl) (Rg.a_one _)) ⟨hV.upd (fun _ h => by cases h), Ph2.last (hd 6 (by kernel_rfl)) ?_⟩
      exact hT
  case hend =>
    intro l vs X hl ⟨hV, hS⟩
    have hX := hS.2.2 (hl 7 (by decide))
    have v0 := hV 0 _ (hl 0 (by decide)) rfl
    have v1 := hV 1 _ (hl 1 (by decide)) rfl
    have v2 := hV 2 _ (hl 2 (by decide)) rfl
    have v3 := hV 3 _ (hl 3 (by decide)) rfl
    clear hV hS hl
    obtain ⟨b6, b7, u6, u7, g6, g7, hne, hb6, hb7, hB9⟩ := hX
    simp only [canonL, if_true, v0, v1, v2, v3, u6, u7]
    clear v0 v1 v2 v3 u6 u7
    go_simp
    have hJ : JW w i c k (noK) (noK) b6 b7 (k.r d) (k.r s) X := ⟨hst.below hB9 hst.lt, h3.below hB9 h3.lt, h4.below hB9 h4.lt, hb6, hb7, hB0.trans (hB9.mono hB0.size), by have := HZ.out; omega, by have := HZ.out; omega⟩
    obtain ⟨W1, hren⟩ : ∃ Z, Z = X := ⟨_, rfl⟩
    subst hren
    clear hst h3 h4 hb6 hb7 hB9 g6 g7 hB0 HZ
    have hz1 := hJ.size
    go_upto_region 2 with fail
    have c1 : W1.cell? ⟨w.heap.size, 1, none⟩ = some (.int .i64 (d : Int)) := by rw [← hdst]; exact hJ.st.cell 1
    have c2 : W1.cell? ⟨w.heap.size, 2, none⟩ = some (.int .i64 (s : Int)) := by rw [← hsrc]; exact hJ.st.cell 2
    have hq : ((d : Int) == (s : Int)) = false := by simp; omega
    clear hds
    go_upto_region 4 with fail
    clear c1 c2 hq
    have HA : Hid (((k.r d).least < (k.r s).great)) := ha
    have HBB : Hid (¬ ((k.r s).least ≤ (k.r d).great)) := hb
    clear ha hb
    have c1 : W1.cell? ⟨b6, 1, none⟩ = some (.int .u32 ((k.r d).least : Int)) := hJ.d.cell 1
    have c2 : W1.cell? ⟨b7, 2, none⟩ = some (.int .u32 ((k.r s).great : Int)) := hJ.o.cell 2
    have ha' : (((k.r d).least : Int) < ((k.r s).great : Int)) := by have := HA.out; omega
    go_upto_region 5 with fail
    clear c1 c2 ha'
    refine wp_region_inv (Φ := fun l vs X => Vals (fun q => match q with | 0 => some (.agg (stA i c k)) | 1 => some ((k.r d).v) | 2 => some (.pointer (some ⟨b7, 2, none⟩)) | 3 => some (.int .u32 ((k.r s).great : Int)) | 4 => some (.int .u32 (((k.r s).great - 1 : Nat) : Int)) | 5 => some ((atMostR (k.r d) ((k.r s).great - 1)).v) | 6 => some ((k.r s).v) | 7 => some (.pointer (some ⟨b6, 1, none⟩)) | 8 => some (.int .u32 ((k.r d).least : Int)) | 9 => some (.int .u32 (((k.r d).least + 1 : Nat) : Int)) | 10 => some ((atLeastR (k.r s) ((k.r d).least + 1)).v) | 11 => some (.agg ((k.set d (atMostR (k.r d) ((k.r s).great - 1))).set s (atLeastR (k.r s) ((k.r d).least + 1))).a) | _ => none) l vs ∧ Pre1 12 (Below W1.heap.size W1) (JW w i c k (noK) ((k.set d (atMostR (k.r d) ((k.r s).great - 1))).set s (atLeastR (k.r s) ((k.r d).least + 1))) b6 b7 (k.r d) (k.r s)) l X) (PQ := fun _ _ => False)
      (by kernel_rfl) (by kernel_rfl) (by kernel_rfl) (by kernel_rfl) ⟨Vals.none _ _, Pre1.start ((Below.refl _ _).drew)⟩ ?hop ?hend (fun _ _ _ _ h => h.elim)
    case hop =>
      refine ⟨?_, ?_, ?_, ?_, ?_, ?_, ?_, ?_, ?_, ?_, ?_, ?_, ?_, trivial⟩
      · intro l vs X A hA ⟨hV, hS⟩ hl hd hcl
        have hk := nY 12 hcl hl
        have hX := hS.1 hk
        have hB := hX
        have a1 := eO hA 1 rfl
        refine show_value (v := .agg (stA i c k)) (X' := X) (run_ld 82 _ rfl _ a1 (ld_row (l := stCells i c k) (has_whole (hJ.grow hB).st) (by kernel_rfl))) ⟨hV.upd (fun _ h => Option.some.inj h), Pre1.keep hk (by decide) (hX)⟩
      · intro l vs X A hA ⟨hV, hS⟩ hl hd hcl
        have hk := nY 12 hcl hl
        have hX := hS.1 hk
        have hB := hX
        have a4 := eO hA 4 rfl
        refine show_value (v := (k.r d).v) (X' := X) (run_ld 40 _ rfl _ a4 (ld_row (l := (k.r d).cells) (has_whole (hJ.grow hB).d) (by kernel_rfl))) ⟨hV.upd (fun _ h => Option.some.inj h), Pre1.keep hk (by decide) (hX)⟩
      · intro l vs X A hA ⟨hV, hS⟩ hl hd hcl
        have hk := nY 12 hcl hl
        have hX := hS.1 hk
        have hB := hX
        have a5 := eO hA 5 rfl
        refine show_value (v := .pointer (some ⟨b7, 2, none⟩)) (X' := X) ?_ ⟨hV.upd (fun _ h => Option.some.inj h), Pre1.keep hk (by decide) (hX)⟩
        generalize A.eval = ρ at *
        clear hA hl hd hcl hV hS
        go_simp
      · intro l vs X A hA ⟨hV, hS⟩ hl hd hcl
        have hk := nY 12 hcl hl
        have hX := hS.1 hk
        have hB := hX
        have a27 := eN hA 27 2 hd hV rfl
        have hg := hJ.grow hB
        have cc : X.cell? ⟨b7, 2, none⟩ = some (.int .u32 ((k.r s).great : Int)) := hg.o.cell 2
        refine show_value (v := .int .u32 ((k.r s).great : Int)) (X' := X) ?_ ⟨hV.upd (fun _ h => Option.some.inj h), Pre1.keep hk (by decide) (hX)⟩
        clear hg
        generalize A.eval = ρ at *
        clear hA hl hd hcl hV hS
        go_simp
      · intro l vs X A hA ⟨hV, hS⟩ hl hd hcl
        have hk := nY 12 hcl hl
        have hX := hS.1 hk
        have hB := hX
        have a28 := eN hA 28 3 hd hV rfl
        have aC0 : A.eval (.const (.int .u32 1)) = (.int .u32 1) := rfl
        have q1 : IntKind.u32.wrap (((k.r s).great : Int) - 1) = (((k.r s).great - 1 : Nat) : Int) := by have := HA.out; have := hok.least; have := hoks.great; rw [IntKind.wrap_u32]; omega
        refine show_value (v := .int .u32 (((k.r s).great - 1 : Nat) : Int)) (X' := X) ?_ ⟨hV.upd (fun _ h => Option.some.inj h), Pre1.keep hk (by decide) (hX)⟩
        clear hok hoks
        generalize (((k.r s).great - 1 : Nat) : Int) = z at *
        generalize A.eval = ρ at *
        clear hA hl hd hcl hV hS
        go_simp
      · intro l vs X A hA ⟨hV, hS⟩ hl hd hcl
        have hk := nY 12 hcl hl
        have hX := hS.1 hk
        have hB := hX
        have a26 := eN hA 26 1 hd hV rfl
        have a29 := eN hA 29 4 hd hV rfl
        have aF0 : A.eval (.func 90) = .func (.func 90) #[] #[] := rfl
        refine show_call (f := 90) (args := #[(k.r d).v, .int .u32 (((k.r s).great - 1 : Nat) : Int)]) ?_ (atMost_any (k.r d) ((k.r s).great - 1) hok X) ?_
        · generalize A.eval = ρ at *
          clear hA hl hd hcl hV hS
          go_simp
        · rintro e X' ⟨rfl, hB1⟩
          exact .inl ⟨_, rfl, hV.upd (fun _ h => Option.some.inj h), Pre1.keep hk (by decide) (hX.trans (hB1.mono hX.size))⟩
      · intro l vs X A hA ⟨hV, hS⟩ hl hd hcl
        have hk := nY 12 hcl hl
        have hX := hS.1 hk
        have hB := hX
        have a5 := eO hA 5 rfl
        refine show_value (v := (k.r s).v) (X' := X) (run_ld 40 _ rfl _ a5 (ld_row (l := (k.r s).cells) (has_whole (hJ.grow hB).o) (by kernel_rfl))) ⟨hV.upd (fun _ h => Option.some.inj h), Pre1.keep hk (by decide) (hX)⟩
      · intro l vs X A hA ⟨hV, hS⟩ hl hd hcl
        have hk := nY 12 hcl hl
        have hX := hS.1 hk
        have hB := hX
        have a4 := eO hA 4 rfl
        refine show_value (v := .pointer (some ⟨b6, 1, none⟩)) (X' := X) ?_ ⟨hV.upd (fun _ h => Option.some.inj h), Pre1.keep hk (by decide) (hX)⟩
        generalize A.eval = ρ at *
        clear hA hl hd hcl hV hS
        go_simp
      · intro l vs X A hA ⟨hV, hS⟩ hl hd hcl
        have hk := nY 12 hcl hl
        have hX := hS.1 hk
        have hB := hX
        have a32 := eN hA 32 7 hd hV rfl
        have hg := hJ.grow hB
        have cc : X.cell? ⟨b6, 1, none⟩ = some (.int .u32 ((k.r d).least : Int)) := hg.d.cell 1
        refine show_value (v := .int .u32 ((k.r d).least : Int)) (X' := X) ?_ ⟨hV.upd (fun _ h => Option.some.inj h), Pre1.keep hk (by decide) (hX)⟩
        clear hg
        generalize A.eval = ρ at *
        clear hA hl hd hcl hV hS
        go_simp
      · intro l vs X A hA ⟨hV, hS⟩ hl hd hcl
        have hk := nY 12 hcl hl
        have hX := hS.1 hk
        have hB := hX
        have a33 := eN hA 33 8 hd hV rfl
        have aC0 : A.eval (.const (.int .u32 1)) = (.int .u32 1) := rfl
        have q1 : IntKind.u32.wrap (((k.r d).least : Int) + 1) = (((k.r d).least + 1 : Nat) : Int) := by have := HA.out; have := hok.least; have := hoks.great; rw [IntKind.wrap_u32]; omega
        refine show_value (v := .int .u32 (((k.r d).least + 1 : Nat) : Int)) (X' := X) ?_ ⟨hV.upd (fun _ h => Option.some.inj h), Pre1.keep hk (by decide) (hX)⟩
        clear hok hoks
        generalize (((k.r d).least + 1 : Nat) : Int) = z at *
        generalize A.eval = ρ at *
        clear hA hl hd hcl hV hS
        go_simp
      · intro l vs X A hA ⟨hV, hS⟩ hl hd hcl
        have hk := nY 12 hcl hl
        have hX := hS.1 hk
        have hB := hX
        have a31 := eN hA 31 6 hd hV rfl
        have a34 := eN hA 34 9 hd hV rfl
        have aF0 : A.eval (.func 91) = .func (.func 91) #[] #[] := rfl
        refine show_call (f := 91) (args := #[(k.r s).v, .int .u32 (((k.r d).least + 1 : Nat) : Int)]) ?_ (atLeast_any (k.r s) ((k.r d).least + 1) hoks X) ?_
        · generalize A.eval = ρ at *
          clear hA hl hd hcl hV hS
          go_simp
        · rintro e X' ⟨rfl, hB1⟩
          exact .inl ⟨_, rfl, hV.upd (fun _ h => Option.some.inj h), Pre1.keep hk (by decide) (hX.trans (hB1.mono hX.size))⟩
      · intro l vs X A hA ⟨hV, hS⟩ hl hd hcl
        have hk := nY 12 hcl hl
        have hX := hS.1 hk
        have hB := hX
        have a25 := eN hA 25 0 hd hV rfl
        have a30 := eN hA 30 5 hd hV rfl
        have a35 := eN hA 35 10 hd hV rfl
        have aF0 : A.eval (.func 92) = .func (.func 92) #[] #[] := rfl
        refine show_call (f := 92) (args := #[.agg (stA i c k), (atMostR (k.r d) ((k.r s).great - 1)).v, (atLeastR (k.r s) ((k.r d).least + 1)).v]) ?_ (both_any i c k d s (atMostR (k.r d) ((k.r s).great - 1)) (atLeastR (k.r s) ((k.r d).least + 1)) X hdst hdn hsrc hsn) ?_
        · generalize A.eval = ρ at *
          clear hA hl hd hcl hV hS
          go_simp
        · rintro e X' ⟨rfl, hB1⟩
          exact .inl ⟨_, rfl, hV.upd (fun _ h => Option.some.inj h), Pre1.keep hk (by decide) (hX.trans (hB1.mono hX.size))⟩
      · intro l vs X A hA ⟨hV, hS⟩ hl hd hcl
        have hX := hS.1 hl
        have hB := hX
        have a3 := eO hA 3 rfl
        have a36 := eN hA 36 11 hd hV rfl
        have hg := hJ.grow hX
        refine show_skip (X' := X.setRow (w.heap.size + 2) ((k.set d (atMostR (k.r d) ((k.r s).great - 1))).set s (atLeastR (k.r s) ((k.r d).least + 1))).a) (run_st_row 43 _ _ rfl (w.heap.size + 2) _ _ _ a3 a36 hg.j (by kernel_rfl) (by kernel_rfl) (Kn.a_one _)) ⟨hV.upd (fun _ h => by cases h), Pre1.last (hg.setJ _)⟩
    case hend =>
      intro l vs X hl ⟨hV, hS⟩
      have hX := hS.2 (hl 12 (by decide))
      have v0 := hV 0 _ (hl 0 (by decide)) rfl
      have v1 := hV 1 _ (hl 1 (by decide)) rfl
      have v2 := hV 2 _ (hl 2 (by decide)) rfl
      have v3 := hV 3 _ (hl 3 (by decide)) rfl
      have v4 := hV 4 _ (hl 4 (by decide)) rfl
      have v5 := hV 5 _ (hl 5 (by decide)) rfl
      have v6 := hV 6 _ (hl 6 (by decide)) rfl
      have v7 := hV 7 _ (hl 7 (by decide)) rfl
      have v8 := hV 8 _ (hl 8 (by decide)) rfl
      have v9 := hV 9 _ (hl 9 (by decide)) rfl
      have v10 := hV 10 _ (hl 10 (by decide)) rfl
      have v11 := hV 11 _ (hl 11 (by decide)) rfl
      clear hV hS hl
      simp only [canonL, if_true, v0, v1, v2, v3, v4, v5, v6, v7, v8, v9, v10, v11]
      clear v0 v1 v2 v3 v4 v5 v6 v7 v8 v9 v10 v11
      go_simp
      clear hJ
      have hJ := hX
      clear hX
      obtain ⟨W2, hren⟩ : ∃ Z, Z = X := ⟨_, rfl⟩
      subst hren
      have hz2 := hJ.size
      go_upto_region 6 with fail
      have c1 : W2.cell? ⟨b6, 2, none⟩ = some (.int .u32 ((k.r d).great : Int)) := hJ.d.cell 2
      have c2 : W2.cell? ⟨b7, 1, none⟩ = some (.int .u32 ((k.r s).least : Int)) := hJ.o.cell 1
      have hb' : ¬ (((k.r s).least : Int) ≤ ((k.r d).great : Int)) := by have := HBB.out; omega
      go_upto_region 8 with fail
      clear c1 c2 hb'
      refine wp_region_inv (Φ := fun l vs X => Vals (fun q => match q with | 0 => some (.agg (noK).a) | 1 => some (.agg ((k.set d (atMostR (k.r d) ((k.r s).great - 1))).set s (atLeastR (k.r s) ((k.r d).least + 1))).a) | _ => none) l vs ∧ Pre2 2 3 (Below W2.heap.size W2) (JW w i c k (noK) ((k.set d (atMostR (k.r d) ((k.r s).great - 1))).set s (atLeastR (k.r s) ((k.r d).least + 1))) b6 b7 (k.r d) (k.r s)) (JW w i c k (noK) ((k.set d (atMostR (k.r d) ((k.r s).great - 1))).set s (atLeastR (k.r s) ((k.r d).least + 1))) b6 b7 (k.r d) (k.r s)) l X) (PQ := fun _ _ => False)
        (by kernel_rfl) (by kernel_rfl) (by kernel_rfl) (by kernel_rfl) ⟨Vals.none _ _, Pre2.start ((Below.refl _ _).drew)⟩ ?hop ?hend (fun _ _ _ _ h => h.elim)
      case hop =>
        refine ⟨?_, ?_, ?_, ?_, trivial⟩
        · intro l vs X A hA ⟨hV, hS⟩ hl hd hcl
          have hj := nY 2 hcl hl
          have hk := nY 3 hcl hl
          have hX := hS.1 hj
          have hB := hX
          have a2 := eO hA 2 rfl
          refine show_value (v := .agg (noK).a) (X' := X) (run_ld 43 _ rfl _ a2 (ld_row (l := (noK).cells) (has_whole (hJ.grow hB).n) (by kernel_rfl))) ⟨hV.upd (fun _ h => Option.some.inj h), Pre2.keep hj hk (by decide) (by decide) (hX)⟩
        · intro l vs X A hA ⟨hV, hS⟩ hl hd hcl
          have hk := nY 3 hcl hl
          have a3 := eO hA 3 rfl
          cases hj : l 2 with
          | true =>
            have hX := hS.2.1 hj hk
            exact show_value (v := .agg ((k.set d (atMostR (k.r d) ((k.r s).great - 1))).set s (atLeastR (k.r s) ((k.r d).least + 1))).a) (X' := X) (run_ld 43 _ rfl _ a3 (ld_row (l := ((k.set d (atMostR (k.r d) ((k.r s).great - 1))).set s (atLeastR (k.r s) ((k.r d).least + 1))).cells) (has_whole hX.j) (by kernel_rfl))) ⟨hV.upd (fun _ h => Option.some.inj h), Pre2.keepMid hj hk (by decide) (by decide) hX⟩
          | false =>
            have hX := hS.1 hj
            have hB := hX
            exact show_value (v := .agg ((k.set d (atMostR (k.r d) ((k.r s).great - 1))).set s (atLeastR (k.r s) ((k.r d).least + 1))).a) (X' := X) (run_ld 43 _ rfl _ a3 (ld_row (l := ((k.set d (atMostR (k.r d) ((k.r s).great - 1))).set s (atLeastR (k.r s) ((k.r d).least + 1))).cells) (has_whole (hJ.grow hB).j) (by kernel_rfl))) ⟨hV.upd (fun _ h => Option.some.inj h), Pre2.keep hj hk (by decide) (by decide) hX⟩
        · intro l vs X A hA ⟨hV, hS⟩ hl hd hcl
          have hk := nY 3 hcl hl
          have hX := hS.1 hl
          have a2 := eO hA 2 rfl
          have a52 := eN hA 52 0 hd hV rfl
          have hg := hJ.grow hX
          refine show_skip (X' := X.setRow (w.heap.size + 1) (noK).a) (run_st_row 43 _ _ rfl (w.heap.size + 1) _ _ _ a2 a52 hg.n (by kernel_rfl) (by kernel_rfl) (Kn.a_one _)) ⟨hV.upd (fun _ h => by cases h), Pre2.mid hk (by decide) (hg.setN _)⟩
        · intro l vs X A hA ⟨hV, hS⟩ hl hd hcl
          have hX := hS.2.1 (hd 2 (by kernel_rfl)) hl
          have a3 := eO hA 3 rfl
          have a53 := eN hA 53 1 hd hV rfl
          refine show_skip (X' := X.setRow (w.heap.size + 2) ((k.set d (atMostR (k.r d) ((k.r s).great - 1))).set s (atLeastR (k.r s) ((k.r d).least + 1))).a) (run_st_row 43 _ _ rfl (w.heap.size + 2) _ _ _ a3 a53 hX.j (by kernel_rfl) (by kernel_rfl) (Kn.a_one _)) ⟨hV.upd (fun _ h => by cases h), Pre2.last (hd 2 (by kernel_rfl)) (hX.setJ _)⟩
      case hend =>
        intro l vs X hl ⟨hV, hS⟩
        have hX := hS.2.2 (hl 3 (by decide))
        have v0 := hV 0 _ (hl 0 (by decide)) rfl
        have v1 := hV 1 _ (hl 1 (by decide)) rfl
        clear hV hS hl
        simp only [canonL, if_true, v0, v1]
        clear v0 v1
        go_simp
        go_wp2_with fail
        refine bodyPost_ret (results_rows2 rfl _ _ (w.heap.size + 1) (w.heap.size + 2) 43 _ _ _ rfl rfl hX.n hX.j Tryd.underlying43 rfl (by kernel_rfl) (by kernel_rfl)) rfl ?_
        exact ⟨rfl, hX.below⟩
set_option maxRecDepth 10000 in
set_option maxHeartbeats 2000000 in
theorem jlt_01 (i : Ins) (c : Int) (k : Kn) (d s : Nat) (w : World) (hdst : i.dst = (d : Int)) (hdn : d < 10) (hsrc : i.src = (s : Int)) (hsn : s < 10) (hk0 : k.r d ≠ noR) (hs0 : k.r s ≠ noR) (hds : d ≠ s) (hok : (k.r d).Ok) (hoks : (k.r s).Ok) (ha : ¬ (k.r d).least < (k.r s).great) (hb : (k.r s).least ≤ (k.r d).great) :
    Calls Tryd.prog 63 #[.agg (stA i c k)] w fun e w' => e = .returned (two ((k.set d (atLeastR (k.r d) (k.r s).least)).set s (atMostR (k.r s) (k.r d).great)) (noK)) ∧ Below w.heap.size w w' := by
  obtain ⟨W0, hW0⟩ : ∃ W0, W0 = ((w.alloc (.cells (stA i c k) 82)).alloc (.cells noK.a 43)).alloc (.cells noK.a 43) := ⟨_, rfl⟩
  obtain ⟨hst, h3, h4, hB0, hz0⟩ := ways_world i c k w W0 hW0
  have HZ : Hid (W0.heap.size = w.heap.size + 3) := hz0
  clear hz0
  go_enter Tryd.func63, Tryd.ntmps63
  go_upto_region 1 with fail
  refine named2 (p := fun X => Code.wp _ _ _ _ X) ?_
  intro W9 hW9
  have hW : W0 = W9 := hW0.trans hW9.symm
  subst hW
  clear hW9 hW0
  refine wp_region_inv (Φ := fun l vs X => Vals (fun q => match q with | 0 => some (.agg (stA i c k)) | 1 => some ((k.r d).v) | 2 => some (.agg (stA i c k)) | 3 => some ((k.r s).v) | _ => none) l vs ∧ Ph2 6 7 (Two W0.heap.size 40 noR.a W0 4 5) (fun vs X => Both W0.heap.size 40 (k.r d).a noR.a W0 (vs 4) (vs 5) X) (fun vs X => Both W0.heap.size 40 (k.r d).a (k.r s).a W0 (vs 4) (vs 5) X) l vs X) (PQ := fun _ _ => False)
    (by kernel_rfl) (by kernel_rfl) (by kernel_rfl) (by kernel_rfl) ⟨Vals.none _ _, Ph2.start (Two.start ((Below.refl _ _).drew) (Nat.le_refl _))⟩ ?hop ?hend (fun _ _ _ _ h => h.elim)
  case hop =>
    refine ⟨?_, ?_, ?_, ?_, ?_, ?_, ?_, ?_, trivial⟩
    · intro l vs X A hA ⟨hV, hS⟩ hl hd hcl
      have hj := nY 6 hcl hl
      have hk := nY 7 hcl hl
      have hX := hS.1 hj
      have hB := hX.below
      have a1 := eO hA 1 rfl
      refine show_value (v := .agg (stA i c k)) (X' := X) (run_ld 82 _ rfl _ a1 (ld_row (l := stCells i c k) (has_whole (hst.below hB hst.lt)) (by kernel_rfl))) ⟨hV.upd (fun _ h => Option.some.inj h), Ph2.keep hj hk (by decide) (by decide) (hX.grow (Below.refl _ _) (by decide) (by decide) _)⟩
    · intro l vs X A hA ⟨hV, hS⟩ hl hd hcl
      have hj := nY 6 hcl hl
      have hk := nY 7 hcl hl
      have hX := hS.1 hj
      have hB := hX.below
      have a6 := eN hA 6 0 hd hV rfl
      have aF0 : A.eval (.func 80) = .func (.func 80) #[] #[] := rfl
      refine show_call (f := 80) (args := #[.agg (stA i c k)]) ?_ (dst_ok i c k d X hdst hdn hk0) ?_
      · generalize A.eval = ρ at *
        clear hA hl hd hcl hV hS
        go_simp
      · rintro e X' ⟨rfl, hB1⟩
        exact .inl ⟨_, rfl, hV.upd (fun _ h => Option.some.inj h), Ph2.keep hj hk (by decide) (by decide) (hX.grow hB1 (by decide) (by decide) _)⟩
    · intro l vs X A hA ⟨hV, hS⟩ hl hd hcl
      have hj := nY 6 hcl hl
      have hk := nY 7 hcl hl
      have hX := hS.1 hj
      have hB := hX.below
      have a1 := eO hA 1 rfl
      refine show_value (v := .agg (stA i c k)) (X' := X) (run_ld 82 _ rfl _ a1 (ld_row (l := stCells i c k) (has_whole (hst.below hB hst.lt)) (by kernel_rfl))) ⟨hV.upd (fun _ h => Option.some.inj h), Ph2.keep hj hk (by decide) (by decide) (hX.grow (Below.refl _ _) (by decide) (by decide) _)⟩
    · intro l vs X A hA ⟨hV, hS⟩ hl hd hcl
      have hj := nY 6 hcl hl
      have hk := nY 7 hcl hl
      have hX := hS.1 hj
      have hB := hX.below
      have a8 := eN hA 8 2 hd hV rfl
      have aF0 : A.eval (.func 46) = .func (.func 46) #[] #[] := rfl
      refine show_call (f := 46) (args := #[.agg (stA i c k)]) ?_ (src_ok i c k s X hsrc hsn hs0) ?_
      · generalize A.eval = ρ at *
        clear hA hl hd hcl hV hS
        go_simp
      · rintro e X' ⟨rfl, hB1⟩
        exact .inl ⟨_, rfl, hV.upd (fun _ h => Option.some.inj h), Ph2.keep hj hk (by decide) (by decide) (hX.grow hB1 (by decide) (by decide) _)⟩
    · intro l vs X A hA ⟨hV, hS⟩ hl hd hcl
      have hj := nY 6 hcl hl
      have hk := nY 7 hcl hl
      have hX := hS.1 hj
      have hB := hX.below
      refine show_value (v := .pointer (some ⟨X.heap.size, 0, none⟩)) (X' := X.alloc (.cells noR.a 40)) ?_ ⟨hV.upd (fun _ h => by cases h), Ph2.keep hj hk (by decide) (by decide) (hX.mkFst (by decide))⟩
      generalize A.eval = ρ at *
      clear hA hl hd hcl hV hS
      rfl
    · intro l vs X A hA ⟨hV, hS⟩ hl hd hcl
      have hj := nY 6 hcl hl
      have hk := nY 7 hcl hl
      have hX := hS.1 hj
      have hB := hX.below
      refine show_value (v := .pointer (some ⟨X.heap.size, 0, none⟩)) (X' := X.alloc (.cells noR.a 40)) ?_ ⟨hV.upd (fun _ h => by cases h), Ph2.keep hj hk (by decide) (by decide) (hX.mkSnd (by decide))⟩
      generalize A.eval = ρ at *
      clear hA hl hd hcl hV hS
      rfl
    · intro l vs X A hA ⟨hV, hS⟩ hl hd hcl
      have hk := nY 7 hcl hl
      have hX := hS.1 hl
      have a4 := eval_new hA 4 4 (by kernel_rfl) (by kernel_rfl) (by kernel_rfl) (hd 4 (by kernel_rfl)) (rfl : vs 4 = vs 4)
      have a7 := eN hA 7 1 hd hV rfl
      obtain ⟨b, hb, hH, hT⟩ := (hX.both (hd 4 (by kernel_rfl)) (hd 5 (by kernel_rfl))).setFst (x' := (k.r d).a)
      rw [hb] at a4
      refine show_skip (run_st_row 40 _ _ rfl b _ _ _ a4 a7 hH (by kernel_rfl) (by kernel_rfl) (Rg.a_one _)) ⟨hV.upd (fun _ h => by cases h), Ph2.mid hk (by decide) ?_⟩
      exact hT
    · intro l vs X A hA ⟨hV, hS⟩ hl hd hcl
      have hX := hS.2.1 (hd 6 (by kernel_rfl)) hl
      have a5 := eval_new hA 5 5 (by kernel_rfl) (by kernel_rfl) (by kernel_rfl) (hd 5 (by kernel_rfl)) (rfl : vs 5 = vs 5)
      have a9 := eN hA 9 3 hd hV rfl
      obtain ⟨b, hb, hH, hT⟩ := hX.setSnd (y' := (k.r s).a)
      rw [hb] at a5
      refine show_skip (run_st_row 40 _ _ rfl b _ _ _ a5 a9 hH (by kernel_rfl) (by kernel_rfl) (Rg.a_one _)) ⟨hV.upd (fun _ h => by cases h), Ph2.last (hd 6 (by kernel_rfl)) ?_⟩
      exact hT
  case hend =>
    intro l vs X hl ⟨hV, hS⟩
    have hX := hS.2.2 (hl 7 (by decide))
    have v0 := hV 0 _ (hl 0 (by decide)) rfl
    have v1 := hV 1 _ (hl 1 (by decide)) rfl
    have v2 := hV 2 _ (hl 2 (by decide)) rfl
    have v3 := hV 3 _ (hl 3 (by decide)) rfl
    clear hV hS hl
    obtain ⟨b6, b7, u6, u7, g6, g7, hne, hb6, hb7, hB9⟩ := hX
    simp only [canonL, if_true, v0, v1, v2, v3, u6, u7]
    clear v0 v1 v2 v3 u6 u7
    go_simp
    have hJ : JW w i c k (noK) (noK) b6 b7 (k.r d) (k.r s) X := ⟨hst.below hB9 hst.lt, h3.below hB9 h3.lt, h4.below hB9 h4.lt, hb6, hb7, hB0.trans (hB9.mono hB0.size), by have := HZ.out; omega, by have := HZ.out; omega⟩
    obtain ⟨W1, hren⟩ : ∃ Z, Z = X := ⟨_, rfl⟩
    subst hren
    clear hst h3 h4 hb6 hb7 hB9 g6 g7 hB0 HZ
    have hz1 := hJ.size
    go_upto_region 2 with fail
    have c1 : W1.cell? ⟨w.heap.size, 1, none⟩ = some (.int .i64 (d : Int)) := by rw [← hdst]; exact hJ.st.cell 1
    have c2 : W1.cell? ⟨w.heap.size, 2, none⟩ = some (.int .i64 (s : Int)) := by rw [← hsrc]; exact hJ.st.cell 2
    have hq : ((d : Int) == (s : Int)) = false := by simp; omega
    clear hds
    go_upto_region 4 with fail
    clear c1 c2 hq
    have HA : Hid (¬ ((k.r d).least < (k.r s).great)) := ha
    have HBB : Hid (((k.r s).least ≤ (k.r d).great)) := hb
    clear ha hb
    have c1 : W1.cell? ⟨b6, 1, none⟩ = some (.int .u32 ((k.r d).least : Int)) := hJ.d.cell 1
    have c2 : W1.cell? ⟨b7, 2, none⟩ = some (.int .u32 ((k.r s).great : Int)) := hJ.o.cell 2
    have ha' : ¬ (((k.r d).least : Int) < ((k.r s).great : Int)) := by have := HA.out; omega
    go_upto_region 6 with fail
    clear c1 c2 ha'
    have c1 : W1.cell? ⟨b6, 2, none⟩ = some (.int .u32 ((k.r d).great : Int)) := hJ.d.cell 2
    have c2 : W1.cell? ⟨b7, 1, none⟩ = some (.int .u32 ((k.r s).least : Int)) := hJ.o.cell 1
    have hb' : (((k.r s).least : Int) ≤ ((k.r d).great : Int)) := by have := HBB.out; omega
    go_upto_region 7 with fail
    clear c1 c2 hb'
    refine wp_region_inv (Φ := fun l vs X => Vals (fun q => match q with | 0 => some (.agg (stA i c k)) | 1 => some ((k.r d).v) | 2 => some (.pointer (some ⟨b7, 1, none⟩)) | 3 => some (.int .u32 ((k.r s).least : Int)) | 4 => some ((atLeastR (k.r d) (k.r s).least).v) | 5 => some ((k.r s).v) | 6 => some (.pointer (some ⟨b6, 2, none⟩)) | 7 => some (.int .u32 ((k.r d).great : Int)) | 8 => some ((atMostR (k.r s) (k.r d).great).v) | 9 => some (.agg ((k.set d (atLeastR (k.r d) (k.r s).least)).set s (atMostR (k.r s) (k.r d).great)).a) | _ => none) l vs ∧ Pre1 10 (Below W1.heap.size W1) (JW w i c k ((k.set d (atLeastR (k.r d) (k.r s).least)).set s (atMostR (k.r s) (k.r d).great)) (noK) b6 b7 (k.r d) (k.r s)) l X) (PQ := fun _ _ => False)
      (by kernel_rfl) (by kernel_rfl) (by kernel_rfl) (by kernel_rfl) ⟨Vals.none _ _, Pre1.start ((Below.refl _ _).drew)⟩ ?hop ?hend (fun _ _ _ _ h => h.elim)
    case hop =>
      refine ⟨?_, ?_, ?_, ?_, ?_, ?_, ?_, ?_, ?_, ?_, ?_, trivial⟩
      · intro l vs X A hA ⟨hV, hS⟩ hl hd hcl
        have hk := nY 10 hcl hl
        have hX := hS.1 hk
        have hB := hX
        have a1 := eO hA 1 rfl
        refine show_value (v := .agg (stA i c k)) (X' := X) (run_ld 82 _ rfl _ a1 (ld_row (l := stCells i c k) (has_whole (hJ.grow hB).st) (by kernel_rfl))) ⟨hV.upd (fun _ h => Option.some.inj h), Pre1.keep hk (by decide) (hX)⟩
      · intro l vs X A hA ⟨hV, hS⟩ hl hd hcl
        have hk := nY 10 hcl hl
        have hX := hS.1 hk
        have hB := hX
        have a4 := eO hA 4 rfl
        refine show_value (v := (k.r d).v) (X' := X) (run_ld 40 _ rfl _ a4 (ld_row (l := (k.r d).cells) (has_whole (hJ.grow hB).d) (by kernel_rfl))) ⟨hV.upd (fun _ h => Option.some.inj h), Pre1.keep hk (by decide) (hX)⟩
      · intro l vs X A hA ⟨hV, hS⟩ hl hd hcl
        have hk := nY 10 hcl hl
        have hX := hS.1 hk
        have hB := hX
        have a5 := eO hA 5 rfl
        refine show_value (v := .pointer (some ⟨b7, 1, none⟩)) (X' := X) ?_ ⟨hV.upd (fun _ h => Option.some.inj h), Pre1.keep hk (by decide) (hX)⟩
        generalize A.eval = ρ at *
        clear hA hl hd hcl hV hS
        go_simp
      · intro l vs X A hA ⟨hV, hS⟩ hl hd hcl
        have hk := nY 10 hcl hl
        have hX := hS.1 hk
        have hB := hX
        have a44 := eN hA 44 2 hd hV rfl
        have hg := hJ.grow hB
        have cc : X.cell? ⟨b7, 1, none⟩ = some (.int .u32 ((k.r s).least : Int)) := hg.o.cell 1
        refine show_value (v := .int .u32 ((k.r s).least : Int)) (X' := X) ?_ ⟨hV.upd (fun _ h => Option.some.inj h), Pre1.keep hk (by decide) (hX)⟩
        clear hg
        generalize A.eval = ρ at *
        clear hA hl hd hcl hV hS
        go_simp
      · intro l vs X A hA ⟨hV, hS⟩ hl hd hcl
        have hk := nY 10 hcl hl
        have hX := hS.1 hk
        have hB := hX
        have a43 := eN hA 43 1 hd hV rfl
        have a45 := eN hA 45 3 hd hV rfl
        have aF0 : A.eval (.func 91) = .func (.func 91) #[] #[] := rfl
        refine show_call (f := 91) (args := #[(k.r d).v, .int .u32 ((k.r s).least : Int)]) ?_ (atLeast_any (k.r d) (k.r s).least hok X) ?_
        · generalize A.eval = ρ at *
          clear hA hl hd hcl hV hS
          go_simp
        · rintro e X' ⟨rfl, hB1⟩
          exact .inl ⟨_, rfl, hV.upd (fun _ h => Option.some.inj h), Pre1.keep hk (by decide) (hX.trans (hB1.mono hX.size))⟩
      · intro l vs X A hA ⟨hV, hS⟩ hl hd hcl
        have hk := nY 10 hcl hl
        have hX := hS.1 hk
        have hB := hX
        have a5 := eO hA 5 rfl
        refine show_value (v := (k.r s).v) (X' := X) (run_ld 40 _ rfl _ a5 (ld_row (l := (k.r s).cells) (has_whole (hJ.grow hB).o) (by kernel_rfl))) ⟨hV.upd (fun _ h => Option.some.inj h), Pre1.keep hk (by decide) (hX)⟩
      · intro l vs X A hA ⟨hV, hS⟩ hl hd hcl
        have hk := nY 10 hcl hl
        have hX := hS.1 hk
        have hB := hX
        have a4 := eO hA 4 rfl
        refine show_value (v := .pointer (some ⟨b6, 2, none⟩)) (X' := X) ?_ ⟨hV.upd (fun _ h => Option.some.inj h), Pre1.keep hk (by decide) (hX)⟩
        generalize A.eval = ρ at *
        clear hA hl hd hcl hV hS
        go_simp
      · intro l vs X A hA ⟨hV, hS⟩ hl hd hcl
        have hk := nY 10 hcl hl
        have hX := hS.1 hk
        have hB := hX
        have a48 := eN hA 48 6 hd hV rfl
        have hg := hJ.grow hB
        have cc : X.cell? ⟨b6, 2, none⟩ = some (.int .u32 ((k.r d).great : Int)) := hg.d.cell 2
        refine show_value (v := .int .u32 ((k.r d).great : Int)) (X' := X) ?_ ⟨hV.upd (fun _ h => Option.some.inj h), Pre1.keep hk (by decide) (hX)⟩
        clear hg
        generalize A.eval = ρ at *
        clear hA hl hd hcl hV hS
        go_simp
      · intro l vs X A hA ⟨hV, hS⟩ hl hd hcl
        have hk := nY 10 hcl hl
        have hX := hS.1 hk
        have hB := hX
        have a47 := eN hA 47 5 hd hV rfl
        have a49 := eN hA 49 7 hd hV rfl
        have aF0 : A.eval (.func 90) = .func (.func 90) #[] #[] := rfl
        refine show_call (f := 90) (args := #[(k.r s).v, .int .u32 ((k.r d).great : Int)]) ?_ (atMost_any (k.r s) (k.r d).great hoks X) ?_
        · generalize A.eval = ρ at *
          clear hA hl hd hcl hV hS
          go_simp
        · rintro e X' ⟨rfl, hB1⟩
          exact .inl ⟨_, rfl, hV.upd (fun _ h => Option.some.inj h), Pre1.keep hk (by decide) (hX.trans (hB1.mono hX.size))⟩
      · intro l vs X A hA ⟨hV, hS⟩ hl hd hcl
        have hk := nY 10 hcl hl
        have hX := hS.1 hk
        have hB := hX
        have a42 := eN hA 42 0 hd hV rfl
        have a46 := eN hA 46 4 hd hV rfl
        have a50 := eN hA 50 8 hd hV rfl
        have aF0 : A.eval (.func 92) = .func (.func 92) #[] #[] := rfl
        refine show_call (f := 92) (args := #[.agg (stA i c k), (atLeastR (k.r d) (k.r s).least).v, (atMostR (k.r s) (k.r d).great).v]) ?_ (both_any i c k d s (atLeastR (k.r d) (k.r s).least) (atMostR (k.r s) (k.r d).great) X hdst hdn hsrc hsn) ?_
        · generalize A.eval = ρ at *
          clear hA hl hd hcl hV hS
          go_simp
        · rintro e X' ⟨rfl, hB1⟩
          exact .inl ⟨_, rfl, hV.upd (fun _ h => Option.some.inj h), Pre1.keep hk (by decide) (hX.trans (hB1.mono hX.size))⟩
      · intro l vs X A hA ⟨hV, hS⟩ hl hd hcl
        have hX := hS.1 hl
        have hB := hX
        have a2 := eO hA 2 rfl
        have a51 := eN hA 51 9 hd hV rfl
        have hg := hJ.grow hX
        refine show_skip (X' := X.setRow (w.heap.size + 1) ((k.set d (atLeastR (k.r d) (k.r s).least)).set s (atMostR (k.r s) (k.r d).great)).a) (run_st_row 43 _ _ rfl (w.heap.size + 1) _ _ _ a2 a51 hg.n (by kernel_rfl) (by kernel_rfl) (Kn.a_one _)) ⟨hV.upd (fun _ h => by cases h), Pre1.last (hg.setN _)⟩
    case hend =>
      intro l vs X hl ⟨hV, hS⟩
      have hX := hS.2 (hl 10 (by decide))
      have v0 := hV 0 _ (hl 0 (by decide)) rfl
      have v1 := hV 1 _ (hl 1 (by decide)) rfl
      have v2 := hV 2 _ (hl 2 (by decide)) rfl
      have v3 := hV 3 _ (hl 3 (by decide)) rfl
      have v4 := hV 4 _ (hl 4 (by decide)) rfl
      have v5 := hV 5 _ (hl 5 (by decide)) rfl
      have v6 := hV 6 _ (hl 6 (by decide)) rfl
      have v7 := hV 7 _ (hl 7 (by decide)) rfl
      have v8 := hV 8 _ (hl 8 (by decide)) rfl
      have v9 := hV 9 _ (hl 9 (by decide)) rfl
      clear hV hS hl
      simp only [canonL, if_true, v0, v1, v2, v3, v4, v5, v6, v7, v8, v9]
      clear v0 v1 v2 v3 v4 v5 v6 v7 v8 v9
      go_simp
      clear hJ
      have hJ := hX
      clear hX
      obtain ⟨W5, hren⟩ : ∃ Z, Z = X := ⟨_, rfl⟩
      subst hren
      have hz5 := hJ.size
      go_upto_region 8 with fail
      refine wp_region_inv (Φ := fun l vs X => Vals (fun q => match q with | 0 => some (.agg ((k.set d (atLeastR (k.r d) (k.r s).least)).set s (atMostR (k.r s) (k.r d).great)).a) | 1 => some (.agg (noK).a) | _ => none) l vs ∧ Pre2 2 3 (Below W5.heap.size W5) (JW w i c k ((k.set d (atLeastR (k.r d) (k.r s).least)).set s (atMostR (k.r s) (k.r d).great)) (noK) b6 b7 (k.r d) (k.r s)) (JW w i c k ((k.set d (atLeastR (k.r d) (k.r s).least)).set s (atMostR (k.r s) (k.r d).great)) (noK) b6 b7 (k.r d) (k.r s)) l X) (PQ := fun _ _ => False)
        (by kernel_rfl) (by kernel_rfl) (by kernel_rfl) (by kernel_rfl) ⟨Vals.none _ _, Pre2.start ((Below.refl _ _).drew)⟩ ?hop ?hend (fun _ _ _ _ h => h.elim)
      case hop =>
        refine ⟨?_, ?_, ?_, ?_, trivial⟩
        · intro l vs X A hA ⟨hV, hS⟩ hl hd hcl
          have hj := nY 2 hcl hl
          have hk := nY 3 hcl hl
          have hX := hS.1 hj
          have hB := hX
          have a2 := eO hA 2 rfl
          refine show_value (v := .agg ((k.set d (atLeastR (k.r d) (k.r s).least)).set s (atMostR (k.r s) (k.r d).great)).a) (X' := X) (run_ld 43 _ rfl _ a2 (ld_row (l := ((k.set d (atLeastR (k.r d) (k.r s).least)).set s (atMostR (k.r s) (k.r d).great)).cells) (has_whole (hJ.grow hB).n) (by kernel_rfl))) ⟨hV.upd (fun _ h => Option.some.inj h), Pre2.keep hj hk (by decide) (by decide) (hX)⟩
        · intro l vs X A hA ⟨hV, hS⟩ hl hd hcl
          have hk := nY 3 hcl hl
          have a3 := eO hA 3 rfl
          cases hj : l 2 with
          | true =>
            have hX := hS.2.1 hj hk
            exact show_value (v := .agg (noK).a) (X' := X) (run_ld 43 _ rfl _ a3 (ld_row (l := (noK).cells) (has_whole hX.j) (by kernel_rfl))) ⟨hV.upd (fun _ h => Option.some.inj h), Pre2.keepMid hj hk (by decide) (by decide) hX⟩
          | false =>
            have hX := hS.1 hj
            have hB := hX
            exact show_value (v := .agg (noK).a) (X' := X) (run_ld 43 _ rfl _ a3 (ld_row (l := (noK).cells) (has_whole (hJ.grow hB).j) (by kernel_rfl))) ⟨hV.upd (fun _ h => Option.some.inj h), Pre2.keep hj hk (by decide) (by decide) hX⟩
        · intro l vs X A hA ⟨hV, hS⟩ hl hd hcl
          have hk := nY 3 hcl hl
          have hX := hS.1 hl
          have a2 := eO hA 2 rfl
          have a52 := eN hA 52 0 hd hV rfl
          have hg := hJ.grow hX
          refine show_skip (X' := X.setRow (w.heap.size + 1) ((k.set d (atLeastR (k.r d) (k.r s).least)).set s (atMostR (k.r s) (k.r d).great)).a) (run_st_row 43 _ _ rfl (w.heap.size + 1) _ _ _ a2 a52 hg.n (by kernel_rfl) (by kernel_rfl) (Kn.a_one _)) ⟨hV.upd (fun _ h => by cases h), Pre2.mid hk (by decide) (hg.setN _)⟩
        · intro l vs X A hA ⟨hV, hS⟩ hl hd hcl
          have hX := hS.2.1 (hd 2 (by kernel_rfl)) hl
          have a3 := eO hA 3 rfl
          have a53 := eN hA 53 1 hd hV rfl
          refine show_skip (X' := X.setRow (w.heap.size + 2) (noK).a) (run_st_row 43 _ _ rfl (w.heap.size + 2) _ _ _ a3 a53 hX.j (by kernel_rfl) (by kernel_rfl) (Kn.a_one _)) ⟨hV.upd (fun _ h => by cases h), Pre2.last (hd 2 (by kernel_rfl)) (hX.setJ _)⟩
      case hend =>
        intro l vs X hl ⟨hV, hS⟩
        have hX := hS.2.2 (hl 3 (by decide))
        have v0 := hV 0 _ (hl 0 (by decide)) rfl
        have v1 := hV 1 _ (hl 1 (by decide)) rfl
        clear hV hS hl
        simp only [canonL, if_true, v0, v1]
        clear v0 v1
        go_simp
        go_wp2_with fail
        refine bodyPost_ret (results_rows2 rfl _ _ (w.heap.size + 1) (w.heap.size + 2) 43 _ _ _ rfl rfl hX.n hX.j Tryd.underlying43 rfl (by kernel_rfl) (by kernel_rfl)) rfl ?_
        exact ⟨rfl, hX.below⟩
end Go.Proofs.YtodkehpldlmgaaaDoor
/- What the Ops from ldc to exit make. -/
namespace Go.Proofs.YtodkehpldlmgaaaDoor
open Go.RowKit

set_option maxRecDepth 10000 in
set_option maxHeartbeats 1000000 in
theorem make_16 (i : Ins) (c : Int) (k : Kn) (v : Value) (W : World) (hop : i.op = 16) (hm : MayI i) (hK : KnR k) (hv : IsMake W 16 v) : MakeOk i c k v W := by
  obtain ⟨hm, him⟩ := hm
  unfold MayP at hm
  have hn : i.op.toNat = 16 := by omega
  obtain ⟨d, hd⟩ : ∃ d : Nat, i.dst = (d : Int) := ⟨i.dst.toNat, by omega⟩
  have hdn : d < 10 := by omega
  have hdt : i.dst.toNat = d := by omega
  obtain ⟨s, hs⟩ : ∃ s : Nat, i.src = (s : Int) := ⟨i.src.toNat, by omega⟩
  have hsn : s < 10 := by omega
  have hst : i.src.toNat = s := by omega
  cases hv with
  | set G b h hb => simp [setOf] at h
  | fold F G bf bg h hf hg => simp [foldOf] at h
  | fn h =>
    refine ⟨57, #[], rfl, fun _ _ => rfl, ?_⟩
    have e : outI i c k = bindE (needE k s) fun r => if fits r i.off c then .ok (k.set d (fromR 0 255), noK) else .error .beyond := by unfold outI; rw [hn, hdt, hst]; rfl
    rw [e]
    by_cases h0 : k.r s = noR
    · rw [needE_no h0]
      exact ldc_sno i c k s W hs hsn h0
    · rw [needE_ok h0, bindE_ok]
      cases hf : fits (k.r s) i.off c
      · exact ldc_bno i c k s i.off W hs hsn h0 (hK s hsn).2 rfl (by omega) (by omega) hf
      · exact ldc_ok i c k d s i.off W hd hdn hs hsn h0 (hK s hsn).2 rfl (by omega) (by omega) hf
set_option maxRecDepth 10000 in
set_option maxHeartbeats 1000000 in
theorem make_17 (i : Ins) (c : Int) (k : Kn) (v : Value) (W : World) (hop : i.op = 17) (hm : MayI i) (hK : KnR k) (hv : IsMake W 17 v) : MakeOk i c k v W := by
  obtain ⟨hm, him⟩ := hm
  unfold MayP at hm
  have hn : i.op.toNat = 17 := by omega
  obtain ⟨d, hd⟩ : ∃ d : Nat, i.dst = (d : Int) := ⟨i.dst.toNat, by omega⟩
  have hdn : d < 10 := by omega
  have hdt : i.dst.toNat = d := by omega
  obtain ⟨s, hs⟩ : ∃ s : Nat, i.src = (s : Int) := ⟨i.src.toNat, by omega⟩
  have hsn : s < 10 := by omega
  have hst : i.src.toNat = s := by omega
  cases hv with
  | set G b h hb => simp [setOf] at h
  | fold F G bf bg h hf hg => simp [foldOf] at h
  | fn h =>
    refine ⟨58, #[], rfl, fun _ _ => rfl, ?_⟩
    have e : outI i c k = bindE (needE k s) fun r => if fits r i.off 64 then .ok (k.set d (fromR 0 255), noK) else .error .beyond := by unfold outI; rw [hn, hdt, hst]; rfl
    rw [e]
    by_cases h0 : k.r s = noR
    · rw [needE_no h0]
      exact lds_sno i c k s W hs hsn h0
    · rw [needE_ok h0, bindE_ok]
      cases hf : fits (k.r s) i.off 64
      · exact lds_bno i c k s i.off W hs hsn h0 (hK s hsn).2 rfl (by omega) (by omega) hf
      · exact lds_ok i c k d s i.off W hd hdn hs hsn h0 (hK s hsn).2 rfl (by omega) (by omega) hf
set_option maxRecDepth 10000 in
set_option maxHeartbeats 1000000 in
theorem make_18 (i : Ins) (c : Int) (k : Kn) (v : Value) (W : World) (hop : i.op = 18) (hm : MayI i) (hK : KnR k) (hv : IsMake W 18 v) : MakeOk i c k v W := by
  obtain ⟨hm, him⟩ := hm
  unfold MayP at hm
  have hn : i.op.toNat = 18 := by omega
  obtain ⟨d, hd⟩ : ∃ d : Nat, i.dst = (d : Int) := ⟨i.dst.toNat, by omega⟩
  have hdn : d < 10 := by omega
  have hdt : i.dst.toNat = d := by omega
  obtain ⟨s, hs⟩ : ∃ s : Nat, i.src = (s : Int) := ⟨i.src.toNat, by omega⟩
  have hsn : s < 10 := by omega
  have hst : i.src.toNat = s := by omega
  cases hv with
  | set G b h hb => simp [setOf] at h
  | fold F G bf bg h hf hg => simp [foldOf] at h
  | fn h =>
    refine ⟨59, #[], rfl, fun _ _ => rfl, ?_⟩
    have e : outI i c k = bindE (needE k d) fun r => bindE (needE k s) fun _ => if fits r i.off 64 then .ok (k, noK) else .error .beyond := by unfold outI; rw [hn, hdt, hst]; rfl
    rw [e]
    by_cases h0 : k.r d = noR
    · rw [needE_no h0]
      exact sts_dno i c k d W hd hdn h0
    · rw [needE_ok h0, bindE_ok]
      by_cases h1 : k.r s = noR
      · rw [needE_no h1]
        exact sts_sno i c k d s W hd hdn hs hsn h0 h1
      · rw [needE_ok h1, bindE_ok]
        cases hf : fits (k.r d) i.off 64
        · exact sts_bno i c k d s W hd hdn hs hsn h0 h1 i.off (hK d hdn).2 rfl (by omega) (by omega) hf
        · exact sts_ok i c k d s W hd hdn hs hsn h0 h1 i.off (hK d hdn).2 rfl (by omega) (by omega) hf
set_option maxRecDepth 10000 in
set_option maxHeartbeats 1000000 in
theorem make_19 (i : Ins) (c : Int) (k : Kn) (v : Value) (W : World) (hop : i.op = 19) (hm : MayI i) (_hK : KnR k) (hv : IsMake W 19 v) : MakeOk i c k v W := by
  obtain ⟨hm, him⟩ := hm
  unfold MayP at hm
  have hn : i.op.toNat = 19 := by omega
  cases hv with
  | set G b h hb => simp [setOf] at h
  | fold F G bf bg h hf hg => simp [foldOf] at h
  | fn h =>
    refine ⟨60, #[], rfl, fun _ _ => rfl, ?_⟩
    have e : outI i c k = .ok (noK, k) := by unfold outI; rw [hn]; rfl
    rw [e]
    exact ja_any i c k W
set_option maxRecDepth 10000 in
set_option maxHeartbeats 1000000 in
theorem make_20 (i : Ins) (c : Int) (k : Kn) (v : Value) (W : World) (hop : i.op = 20) (hm : MayI i) (hK : KnR k) (hv : IsMake W 20 v) : MakeOk i c k v W := by
  obtain ⟨hm, him⟩ := hm
  unfold MayP at hm
  have hn : i.op.toNat = 20 := by omega
  obtain ⟨d, hd⟩ : ∃ d : Nat, i.dst = (d : Int) := ⟨i.dst.toNat, by omega⟩
  have hdn : d < 10 := by omega
  have hdt : i.dst.toNat = d := by omega
  cases hv with
  | set G b h hb => simp [setOf] at h
  | fold F G bf bg h hf hg => simp [foldOf] at h
  | fn h =>
    refine ⟨61, #[], rfl, fun _ _ => rfl, ?_⟩
    have e : outI i c k = bindE (needE k d) fun r => .ok (if r = fromR i.imm i.imm then noK else k.set d (witR r i.imm), if hasR r i.imm then k.set d (fromR i.imm i.imm) else noK) := by unfold outI; rw [hn, hdt]; rfl
    rw [e]
    by_cases h0 : k.r d = noR
    · rw [needE_no h0]
      exact jeq_no i c k d W hd hdn h0
    · rw [needE_ok h0, bindE_ok]
      have ho := (hK d hdn).2
      have hl := hK.le hdn
      have hse := hK.set hdn h0
      by_cases hq : k.r d = fromR i.imm i.imm
      · have hh : hasR (k.r d) i.imm = true := by rw [hq]; simp [hasR, fromR]
        rw [if_pos hq, hh]
        exact jeq_10 i c k d W hd hdn h0 ho hh (by simp [hq])
      · rw [if_neg hq]
        have n1 : ¬ (i.imm = (k.r d).least ∧ (k.r d).least = 4294967295) := fun hc => hq (by
          have hg := ho.great
          have e2 : (k.r d).great = i.imm := by omega
          cases hr : k.r d with
          | mk a b g => rw [hr] at hse hc e2; simp only at hse hc e2; rw [hse, ← hc.1, e2]; rfl)
        have n2 : ¬ (i.imm ≠ (k.r d).least ∧ i.imm = (k.r d).great ∧ (k.r d).great = 0) := fun hc => by omega
        cases hh : hasR (k.r d) i.imm
        · exact jeq_01 i c k d W hd hdn h0 ho hh (by simp [hq]) n1 n2
        · exact jeq_11 i c k d W hd hdn h0 ho hh (by simp [hq]) n1 n2
set_option maxRecDepth 10000 in
set_option maxHeartbeats 1000000 in
theorem make_21 (i : Ins) (c : Int) (k : Kn) (v : Value) (W : World) (hop : i.op = 21) (hm : MayI i) (hK : KnR k) (hv : IsMake W 21 v) : MakeOk i c k v W := by
  obtain ⟨hm, him⟩ := hm
  unfold MayP at hm
  have hn : i.op.toNat = 21 := by omega
  obtain ⟨d, hd⟩ : ∃ d : Nat, i.dst = (d : Int) := ⟨i.dst.toNat, by omega⟩
  have hdn : d < 10 := by omega
  have hdt : i.dst.toNat = d := by omega
  cases hv with
  | set G b h hb => simp [setOf] at h
  | fold F G bf bg h hf hg => simp [foldOf] at h
  | fn h =>
    refine ⟨62, #[], rfl, fun _ _ => rfl, ?_⟩
    have e : outI i c k = bindE (needE k d) fun r => .ok (if i.imm ≤ r.great then k.set d (atLeastR r i.imm) else noK, if r.least < i.imm then k.set d (atMostR r (i.imm - 1)) else noK) := by unfold outI; rw [hn, hdt]; rfl
    rw [e]
    by_cases h0 : k.r d = noR
    · rw [needE_no h0]
      exact jlti_no i c k d W hd hdn h0
    · rw [needE_ok h0, bindE_ok]
      have ho := (hK d hdn).2
      have hl := hK.le hdn
      by_cases ha : (k.r d).least < i.imm
      · rw [if_pos ha]
        by_cases hb : i.imm ≤ (k.r d).great
        · rw [if_pos hb]; exact jlti_11 i c k d W hd hdn h0 ho him ha hb
        · rw [if_neg hb]; exact jlti_10 i c k d W hd hdn h0 ho him ha hb
      · rw [if_neg ha]
        by_cases hb : i.imm ≤ (k.r d).great
        · rw [if_pos hb]; exact jlti_01 i c k d W hd hdn h0 ho him ha hb
        · omega
set_option maxRecDepth 10000 in
set_option maxHeartbeats 1000000 in
theorem make_22 (i : Ins) (c : Int) (k : Kn) (v : Value) (W : World) (hop : i.op = 22) (hm : MayI i) (hK : KnR k) (hv : IsMake W 22 v) : MakeOk i c k v W := by
  obtain ⟨hm, him⟩ := hm
  unfold MayP at hm
  have hn : i.op.toNat = 22 := by omega
  obtain ⟨d, hd⟩ : ∃ d : Nat, i.dst = (d : Int) := ⟨i.dst.toNat, by omega⟩
  have hdn : d < 10 := by omega
  have hdt : i.dst.toNat = d := by omega
  obtain ⟨s, hs⟩ : ∃ s : Nat, i.src = (s : Int) := ⟨i.src.toNat, by omega⟩
  have hsn : s < 10 := by omega
  have hst : i.src.toNat = s := by omega
  cases hv with
  | set G b h hb => simp [setOf] at h
  | fold F G bf bg h hf hg => simp [foldOf] at h
  | fn h =>
    refine ⟨63, #[], rfl, fun _ _ => rfl, ?_⟩
    have e : outI i c k = bindE (needE k d) fun r => bindE (needE k s) fun q => if d = s then .ok (k, noK) else
      .ok (if q.least ≤ r.great then (k.set d (atLeastR r q.least)).set s (atMostR q r.great) else noK, if r.least < q.great then (k.set d (atMostR r (q.great - 1))).set s (atLeastR q (r.least + 1)) else noK) := by unfold outI; rw [hn, hdt, hst]; rfl
    rw [e]
    by_cases h0 : k.r d = noR
    · rw [needE_no h0]
      exact jlt_dno i c k d W hd hdn h0
    · rw [needE_ok h0, bindE_ok]
      by_cases h1 : k.r s = noR
      · rw [needE_no h1]
        exact jlt_sno i c k d s W hd hdn hs hsn h0 h1
      · rw [needE_ok h1, bindE_ok]
        by_cases hds : d = s
        · rw [if_pos hds]
          exact jlt_same i c k d s W hd hdn hs hsn h0 h1 hds
        · rw [if_neg hds]
          have ho := (hK d hdn).2
          have hl := hK.le hdn
          have ho2 := (hK s hsn).2
          have hl2 := hK.le hsn
          by_cases ha : (k.r d).least < (k.r s).great
          · rw [if_pos ha]
            by_cases hb : (k.r s).least ≤ (k.r d).great
            · rw [if_pos hb]; exact jlt_11 i c k d s W hd hdn hs hsn h0 h1 hds ho ho2 ha hb
            · rw [if_neg hb]; exact jlt_10 i c k d s W hd hdn hs hsn h0 h1 hds ho ho2 ha hb
          · rw [if_neg ha]
            by_cases hb : (k.r s).least ≤ (k.r d).great
            · rw [if_pos hb]; exact jlt_01 i c k d s W hd hdn hs hsn h0 h1 hds ho ho2 ha hb
            · omega
set_option maxRecDepth 10000 in
set_option maxHeartbeats 1000000 in
theorem make_23 (i : Ins) (c : Int) (k : Kn) (v : Value) (W : World) (hop : i.op = 23) (hm : MayI i) (_hK : KnR k) (hv : IsMake W 23 v) : MakeOk i c k v W := by
  obtain ⟨hm, him⟩ := hm
  unfold MayP at hm
  have hn : i.op.toNat = 23 := by omega
  cases hv with
  | set G b h hb => simp [setOf] at h
  | fold F G bf bg h hf hg => simp [foldOf] at h
  | fn h =>
    refine ⟨64, #[], rfl, fun _ _ => rfl, ?_⟩
    have e : outI i c k = .ok (callK k 5, noK) := by unfold outI; rw [hn]; rfl
    rw [e]
    exact call_any i c k W
set_option maxRecDepth 10000 in
set_option maxHeartbeats 1000000 in
theorem make_24 (i : Ins) (c : Int) (k : Kn) (v : Value) (W : World) (hop : i.op = 24) (hm : MayI i) (_hK : KnR k) (hv : IsMake W 24 v) : MakeOk i c k v W := by
  obtain ⟨hm, him⟩ := hm
  unfold MayP at hm
  have hn : i.op.toNat = 24 := by omega
  cases hv with
  | set G b h hb => simp [setOf] at h
  | fold F G bf bg h hf hg => simp [foldOf] at h
  | fn h =>
    refine ⟨65, #[], rfl, fun _ _ => rfl, ?_⟩
    have e : outI i c k = bindE (needE k 0) fun _ => .ok (noK, noK) := by unfold outI; rw [hn]; rfl
    rw [e]
    by_cases h0 : k.r 0 = noR
    · rw [needE_no h0]
      exact exit_no i c k W h0
    · rw [needE_ok h0]
      exact exit_ok i c k W h0
end Go.Proofs.YtodkehpldlmgaaaDoor
/- What any Op makes. -/
namespace Go.Proofs.YtodkehpldlmgaaaDoor
open Go.RowKit

theorem make_any (i : Ins) (c : Int) (k : Kn) (v : Value) (W : World) (n : Nat) (hop : i.op = (n : Int)) (hm : MayI i) (hK : KnR k) (hv : IsMake W n v) : MakeOk i c k v W := by
  have h24 : 1 ≤ n ∧ n ≤ 24 := by have := hm.1.1; omega
  obtain ⟨h1, h2⟩ := h24
  obtain rfl | rfl | rfl | rfl | rfl | rfl | rfl | rfl | rfl | rfl | rfl | rfl | rfl | rfl | rfl | rfl | rfl | rfl | rfl | rfl | rfl | rfl | rfl | rfl : n = 1 ∨ n = 2 ∨ n = 3 ∨ n = 4 ∨ n = 5 ∨ n = 6 ∨ n = 7 ∨ n = 8 ∨ n = 9 ∨ n = 10 ∨ n = 11 ∨ n = 12 ∨ n = 13 ∨ n = 14 ∨ n = 15 ∨ n = 16 ∨ n = 17 ∨ n = 18 ∨ n = 19 ∨ n = 20 ∨ n = 21 ∨ n = 22 ∨ n = 23 ∨ n = 24 := by omega
  · exact make_1 i c k v W hop hm hK hv
  · exact make_2 i c k v W hop hm hK hv
  · exact make_3 i c k v W hop hm hK hv
  · exact make_4 i c k v W hop hm hK hv
  · exact make_5 i c k v W hop hm hK hv
  · exact make_6 i c k v W hop hm hK hv
  · exact make_7 i c k v W hop hm hK hv
  · exact make_8 i c k v W hop hm hK hv
  · exact make_9 i c k v W hop hm hK hv
  · exact make_10 i c k v W hop hm hK hv
  · exact make_11 i c k v W hop hm hK hv
  · exact make_12 i c k v W hop hm hK hv
  · exact make_13 i c k v W hop hm hK hv
  · exact make_14 i c k v W hop hm hK hv
  · exact make_15 i c k v W hop hm hK hv
  · exact make_16 i c k v W hop hm hK hv
  · exact make_17 i c k v W hop hm hK hv
  · exact make_18 i c k v W hop hm hK hv
  · exact make_19 i c k v W hop hm hK hv
  · exact make_20 i c k v W hop hm hK hv
  · exact make_21 i c k v W hop hm hK hv
  · exact make_22 i c k v W hop hm hK hv
  · exact make_23 i c k v W hop hm hK hv
  · exact make_24 i c k v W hop hm hK hv
end Go.Proofs.YtodkehpldlmgaaaDoor
/- What is known is copied out. -/
namespace Go.Proofs.YtodkehpldlmgaaaDoor
open Go.RowKit

/-- A slice of what is known. -/
def KnS (X : World) (v : Value) (n : Nat) (ks : Nat → Kn) : Prop := ∃ g cap, v = .slice (some ⟨g, 0, none⟩) n cap ∧ n ≤ cap ∧ g < X.heap.size ∧ ∀ j, j < n → X.rangeAt g (j * 31) (ks j).cells
theorem KnS.below {X X' : World} {v : Value} {n : Nat} {ks : Nat → Kn} (h : KnS X v n ks) (k : Below X.heap.size X X') : KnS X' v n ks := by
  obtain ⟨g, cap, h1, h2, h3, h4⟩ := h
  exact ⟨g, cap, h1, h2, Nat.lt_of_lt_of_le h3 k.size, fun j hj => range_eq (h4 j hj) (k.block g h3)⟩
def ksL (n : Nat) (ks : Nat → Kn) : List Value := ((List.range n).map fun j => (ks j).cells).flatten
theorem ksL_len (n : Nat) (ks : Nat → Kn) : (ksL n ks).length = n * 31 := by
  unfold ksL
  have : ∀ L : List (List Value), (∀ l ∈ L, l.length = 31) → L.flatten.length = L.length * 31 := by
    intro L
    induction L with
    | nil => intro _; rfl
    | cons l L ih =>
      intro h
      rw [List.flatten_cons, List.length_append, h l (by simp), ih (fun q hq => h q (by simp [hq])), List.length_cons]
      omega
  rw [this _ (fun l hl => by obtain ⟨j, _, rfl⟩ := List.mem_map.1 hl; rfl)]
  simp
theorem ksL_at (n : Nat) (ks : Nat → Kn) (j i : Nat) (hj : j < n) (hi : i < 31) : (ksL n ks)[j * 31 + i]? = (ks j).cells[i]? := by
  unfold ksL
  rw [flat_at _ (fun l hl => by obtain ⟨j, _, rfl⟩ := List.mem_map.1 hl; rfl) j i (by simpa using hj) hi]
  simp [hj]
theorem ksL_one (n : Nat) (ks : Nat → Kn) : ∀ u ∈ ksL n ks, u.oneCell' = true := fun u hu => by
  unfold ksL at hu
  obtain ⟨l, hl, hu⟩ := List.mem_flatten.1 hu
  obtain ⟨j, _, rfl⟩ := List.mem_map.1 hl
  exact (Array.all_eq_true_iff_forall_mem.1 (Kn.a_one (ks j))) u (by unfold Kn.a; simpa using hu)
theorem info43 : (Tryd.prog.info? 43).map (fun i => (i.zero, i.size, i.bytes)) = some (some (.agg noK.a), 31, 124) := by kernel_rfl
theorem run_append26 {o : Oper} {ρ : Operand → Value} {X X' : World} (s y : Operand) (ho : o.op = .call { callee := .builtin .append, args := #[s, y], argTypes := #[26, 26] }) {v u r : Value} (hs : ρ s = v) (hy : ρ y = u) (h : (Builtin.append_ #[26, 26] o.type #[v, u]).run Tryd.prog X = .ok r X') :
    (execOp ρ o).run Tryd.prog X = .ok (.value r) X' := by
  unfold execOp
  simp only [ho, resolve, invoke, builtin, Sem.run_bind, Sem.run_pure, Result.andThen_ok, List.map_toArray, List.map_cons, List.map_nil, hs, hy, h]
theorem append_known (wb n cap : Nat) (ws : Nat → Kn) (w : World) (hW : WaysAt w wb ws) (hn : 1 ≤ n) (hn2 : n ≤ 256) :
    ∃ v' w', (Builtin.append_ #[26, 26] 26 #[.slice (some ⟨w.heap.size, 0, none⟩) 0 0, .slice (some ⟨wb, 0, none⟩) n cap]).run Tryd.prog (w.alloc (.cells #[] 43)) = .ok v' w' ∧ KnS w' v' n ws ∧ Below w.heap.size w w' := by
  obtain ⟨i0, hi, hz0, hz1, hz2⟩ := info_parts info43
  have hB : Below w.heap.size w (w.alloc (.cells #[] 43)) := (Below.refl _ _).alloc (Nat.le_refl _) _
  have hW1 := hW.below hB
  have hown : (w.alloc (.cells #[] 43)).ownsRow w.heap.size 43 31 (.slice (some ⟨w.heap.size, 0, none⟩) 0 0) 0 [] :=
    ⟨rfl, .inr ⟨w.heap.size, 0, #[], rfl, Nat.le_refl _, by rw [alloc_get, if_pos rfl], Nat.le_refl _, Nat.zero_le _, rfl, rfl⟩⟩
  obtain ⟨v', w', h1, h2, h3, h4⟩ := run_append_own (P := Tryd.prog) (w := w.alloc (.cells #[] 43)) w.heap.size 26 26 43 i0 (.agg noK.a) 31 124 Tryd.underlying26 hi hz0 hz1 hz2 rfl (by decide) _ 0 [] hown ⟨wb, 0, none⟩ n cap (ksL n ws) (ksL_len n ws)
    (fun j u hu => by
      have hj : j < n * 31 := by have := (List.getElem?_eq_some_iff.1 hu).1; rwa [ksL_len] at this
      have e1 := ksL_at n ws (j / 31) (j % 31) (by omega) (by omega)
      rw [show j / 31 * 31 + j % 31 = j by omega, hu] at e1
      rw [Addr.add_mid, Nat.zero_add]
      have := hW1.at_ (j / 31) (by omega) (j % 31) u e1.symm
      rwa [show j / 31 * 31 + j % 31 = j by omega] at this)
    (ksL_one n ws) (by unfold maxLen; omega) (by omega) (by simp)
  rw [List.nil_append, Nat.zero_add] at h2
  refine ⟨v', w', h1, ?_, ?_⟩
  · have h2' := h2
    rcases h2.2 with ⟨rfl, h5⟩ | ⟨g, c, cur, rfl, h5, h6, h7, h8, h9, h10⟩
    · omega
    · refine ⟨g, c, rfl, h7, (Array.getElem?_eq_some_iff.1 h6).1, fun j hj => fun i u hu => ?_⟩
      have hi : i < 31 := by have := (List.getElem?_eq_some_iff.1 hu).1; rwa [Kn.cells_len] at this
      have := h2'.cells (g := g) rfl (j * 31 + i) u (by rw [ksL_at n ws j i hj hi]; exact hu)
      rwa [Addr.add_mid, Nat.zero_add] at this
  · exact ⟨h3.os, h3.tape, h3.output, by have := h3.size; simp at this; omega, fun k hk => (h3.block k (by simp; omega) (by simp [Value.ownBlock]; omega)).trans (hB.block k hk)⟩
set_option maxRecDepth 10000 in
set_option maxHeartbeats 2000000 in
theorem clone_any (wb n cap : Nat) (ws : Nat → Kn) (w : World) (hW : WaysAt w wb ws) (hn : 1 ≤ n) (hn2 : n ≤ 256) :
    Calls Tryd.prog 42 #[.slice (some ⟨wb, 0, none⟩) n cap] w fun e w' => ∃ v, e = .returned v ∧ KnS w' v n ws ∧ Below w.heap.size w w' := by
  have qT : ∀ (w : World) (a : Option Addr) (n c n' c' : Nat), (binOp .eql 26 (.slice a n c) (.slice none n' c')).run Tryd.prog w = .ok (.bool a.isNone) w := fun w a n c n' c' => Lib.run_eql_slice_nil w _ _ a n c n' c' Tryd.underlying26
  obtain ⟨v', w', h1, h2, h3⟩ := append_known wb n cap ws w hW hn hn2
  have H2 : Hid (KnS w' v' n ws ∧ Below w.heap.size w w') := ⟨h2, h3⟩
  clear h2 h3 hW
  go_enter Tryd.func42, Tryd.ntmps42
  go_upto_region 3 with fail
  refine wp_region_lit ?_
  refine wpList_val (w' := w.alloc (.cells #[] 43)) (v := .slice (some ⟨w.heap.size, 0, none⟩) 0 0) rfl (by go_simp) ?_
  refine wpList_val (w' := w.alloc (.cells #[] 43)) (v := .slice (some ⟨wb, 0, none⟩) n cap) rfl (by go_simp) ?_
  refine wpList_val rfl (run_append26 (v := .slice (some ⟨w.heap.size, 0, none⟩) 0 0) (u := .slice (some ⟨wb, 0, none⟩) n cap) _ _ rfl rfl rfl h1) ?_
  clear h1
  go_simp
  go_wp2_with fail
  go_ret
  exact ⟨_, rfl, H2.out⟩
end Go.Proofs.YtodkehpldlmgaaaDoor
/- What was given up by, told; what is deferred. -/
namespace Go.Proofs.YtodkehpldlmgaaaDoor
open Go.RowKit

/-- The error of what was given up by. -/
def Wrong.errno : Wrong → Int
  | .unset => 161
  | .zero => 162
  | .beyond => 163
def Wrong.ty : Wrong → Nat
  | .unset => 92
  | .zero => 93
  | .beyond => 94
theorem Wrong.entry_eq (x : Wrong) : x.entry = [{ v := .iface x.ty (.agg #[]), recovered := false }] := by cases x <;> rfl
def astrayE : List PanicEntry := [{ v := .iface 95 (.agg #[]), recovered := false }]
set_option maxRecDepth 100000 in
set_option maxHeartbeats 1000000 in
theorem told_nil (w : World) : Calls Tryd.prog 27 #[.nilIface] w fun e w' => e = .returned (.int .i64 0) ∧ w = w' := by
  go_enter Tryd.func27, Tryd.ntmps27
  go_wp2
  go_ret
  exact ⟨rfl, rfl⟩
set_option maxRecDepth 100000 in
set_option maxHeartbeats 1000000 in
theorem told_wrong (x : Wrong) (w : World) : Calls Tryd.prog 27 #[.iface x.ty (.agg #[])] w fun e w' => e = .returned (.int .i64 x.errno) ∧ w = w' := by
  cases x
  · show Calls Tryd.prog 27 #[.iface 92 (.agg #[])] w fun e w' => e = .returned (.int .i64 161) ∧ w = w'
    have ha92 : ∀ w, (Instr.typeAssert (.iface 92 (.agg #[])) 20 92 true).run Tryd.prog w = .ok (.tuple #[.agg #[], .bool true]) w := fun _ => by kernel_rfl
    go_enter Tryd.func27, Tryd.ntmps27
    go_wp2
    go_ret
    exact ⟨rfl, rfl⟩
  · show Calls Tryd.prog 27 #[.iface 93 (.agg #[])] w fun e w' => e = .returned (.int .i64 162) ∧ w = w'
    have ha92 : ∀ w, (Instr.typeAssert (.iface 93 (.agg #[])) 20 92 true).run Tryd.prog w = .ok (.tuple #[.agg #[], .bool false]) w := fun _ => by kernel_rfl
    have ha93 : ∀ w, (Instr.typeAssert (.iface 93 (.agg #[])) 20 93 true).run Tryd.prog w = .ok (.tuple #[.agg #[], .bool true]) w := fun _ => by kernel_rfl
    go_enter Tryd.func27, Tryd.ntmps27
    go_wp2
    go_ret
    exact ⟨rfl, rfl⟩
  · show Calls Tryd.prog 27 #[.iface 94 (.agg #[])] w fun e w' => e = .returned (.int .i64 163) ∧ w = w'
    have ha92 : ∀ w, (Instr.typeAssert (.iface 94 (.agg #[])) 20 92 true).run Tryd.prog w = .ok (.tuple #[.agg #[], .bool false]) w := fun _ => by kernel_rfl
    have ha93 : ∀ w, (Instr.typeAssert (.iface 94 (.agg #[])) 20 93 true).run Tryd.prog w = .ok (.tuple #[.agg #[], .bool false]) w := fun _ => by kernel_rfl
    have ha94 : ∀ w, (Instr.typeAssert (.iface 94 (.agg #[])) 20 94 true).run Tryd.prog w = .ok (.tuple #[.agg #[], .bool true]) w := fun _ => by kernel_rfl
    go_enter Tryd.func27, Tryd.ntmps27
    go_wp2
    go_ret
    exact ⟨rfl, rfl⟩
set_option maxRecDepth 100000 in
set_option maxHeartbeats 1000000 in
theorem told_astray (w : World) : Calls Tryd.prog 27 #[.iface 95 (.agg #[])] w fun e w' => e = .returned (.int .i64 164) ∧ w = w' := by
  have ha92 : ∀ w, (Instr.typeAssert (.iface 95 (.agg #[])) 20 92 true).run Tryd.prog w = .ok (.tuple #[.agg #[], .bool false]) w := fun _ => by kernel_rfl
  have ha93 : ∀ w, (Instr.typeAssert (.iface 95 (.agg #[])) 20 93 true).run Tryd.prog w = .ok (.tuple #[.agg #[], .bool false]) w := fun _ => by kernel_rfl
  have ha94 : ∀ w, (Instr.typeAssert (.iface 95 (.agg #[])) 20 94 true).run Tryd.prog w = .ok (.tuple #[.agg #[], .bool false]) w := fun _ => by kernel_rfl
  have ha95 : ∀ w, (Instr.typeAssert (.iface 95 (.agg #[])) 20 95 true).run Tryd.prog w = .ok (.tuple #[.agg #[], .bool true]) w := fun _ => by kernel_rfl
  go_enter Tryd.func27, Tryd.ntmps27
  go_wp2
  go_ret
  exact ⟨rfl, rfl⟩
theorem catch_panic (p : Addr) (x T : Int) (u : TypeId) (pv : Value) (w : World) (hc : w.cell? p = some (.int .i64 x)) (hz : w.frozen? p = false)
    (ht : ∀ w, Calls Tryd.prog 27 #[.iface u pv] w fun e w' => e = .returned (.int .i64 T) ∧ w = w') :
    CallsD Tryd.prog 32 #[.pointer (some p)] (.panicking ({ v := .iface u pv, recovered := false } :: [])) w fun e u' w' =>
      e = .returned (.tuple #[]) ∧ u' = .panicking ({ v := .iface u pv, recovered := true } :: []) ∧ w' = w.setCell p (.int .i64 T) := by
  refine callsD_of_wpS Tryd.func32 rfl fun c₀ cs hu => ?_
  apply wpS_region
  simp [wpOpsS, go_sem, recoverD, hu, Tryd.ntmps32]
  refine (ht w).mono ?_
  rintro e w' ⟨rfl, rfl⟩
  simp [go_sem, hc, hz, bodyPostS, results, Tryd.results32]
theorem catch_idle (p : Addr) (x : Int) (w : World) (hc : w.cell? p = some (.int .i64 x)) (hz : w.frozen? p = false) :
    CallsD Tryd.prog 32 #[.pointer (some p)] .returning w fun e u' w' => e = .returned (.tuple #[]) ∧ u' = .returning ∧ w' = w.setCell p (.int .i64 0) := by
  refine callsD_of_wpS Tryd.func32 rfl fun c₀ cs hu => ?_
  apply wpS_region
  simp [wpOpsS, go_sem, recoverD, hu, Tryd.ntmps32]
  refine (told_nil w).mono ?_
  rintro e w' ⟨rfl, rfl⟩
  cases c₀
  simp_all [go_sem, bodyPostS, results, Tryd.results32]
theorem catch_panicK (p : Addr) (x T : Int) (u : TypeId) (pv : Value) (w : World) (hc : w.cell? p = some (.int .i64 x)) (hz : w.frozen? p = false)
    (ht : ∀ w, Calls Tryd.prog 27 #[.iface u pv] w fun e w' => e = .returned (.int .i64 T) ∧ w = w') :
    CallsD Tryd.prog 26 #[.pointer (some p)] (.panicking ({ v := .iface u pv, recovered := false } :: [])) w fun e u' w' =>
      e = .returned (.tuple #[]) ∧ u' = .panicking ({ v := .iface u pv, recovered := true } :: []) ∧ w' = w.setCell p (.int .i64 T) := by
  refine callsD_of_wpS Tryd.func26 rfl fun c₀ cs hu => ?_
  apply wpS_region
  simp [wpOpsS, go_sem, recoverD, hu, Tryd.ntmps26]
  refine (ht w).mono ?_
  rintro e w' ⟨rfl, rfl⟩
  simp [go_sem, hc, hz, bodyPostS, results, Tryd.results26]
theorem catch_idleK (p : Addr) (x : Int) (w : World) (hc : w.cell? p = some (.int .i64 x)) (hz : w.frozen? p = false) :
    CallsD Tryd.prog 26 #[.pointer (some p)] .returning w fun e u' w' => e = .returned (.tuple #[]) ∧ u' = .returning ∧ w' = w.setCell p (.int .i64 0) := by
  refine callsD_of_wpS Tryd.func26 rfl fun c₀ cs hu => ?_
  apply wpS_region
  simp [wpOpsS, go_sem, recoverD, hu, Tryd.ntmps26]
  refine (told_nil w).mono ?_
  rintro e w' ⟨rfl, rfl⟩
  cases c₀
  simp_all [go_sem, bodyPostS, results, Tryd.results26]
end Go.Proofs.YtodkehpldlmgaaaDoor
/- The table is made. -/
namespace Go.Proofs.YtodkehpldlmgaaaDoor
open Go.RowKit

set_option maxHeartbeats 1000000 in
theorem set_mk (G : Nat) (w : World) :
    Calls Tryd.prog 44 #[fnV G] w fun e w' => ∃ b, e = .returned (.func (.func 75) #[] #[.pointer (some ⟨b, 0, none⟩)]) ∧ Has w' b #[fnV G] 103 ∧ Below w.heap.size w w' := by
  have HN : Hid (Has (w.alloc (.cells #[.func (.func G) #[] #[]] 103)) w.heap.size #[fnV G] 103) := has_new _ _ _ _ rfl
  unfold fnV
  go_enter Tryd.func44, Tryd.ntmps44
  go_wp2
  go_ret
  exact ⟨_, rfl, HN.out, (Below.refl _ _).alloc (Nat.le_refl _) _⟩
set_option maxHeartbeats 1000000 in
theorem fold_mk (F G : Nat) (w : World) :
    Calls Tryd.prog 47 #[fnV F, fnV G] w fun e w' => ∃ bf bg, e = .returned (.func (.func 79) #[] #[.pointer (some ⟨bg, 0, none⟩), .pointer (some ⟨bf, 0, none⟩)]) ∧ Has w' bf #[fnV F] 105 ∧ Has w' bg #[fnV G] 103 ∧ Below w.heap.size w w' := by
  have H1 : Hid (Has ((w.alloc (.cells #[.func (.func F) #[] #[]] 105)).alloc (.cells #[.func (.func G) #[] #[]] 103)) w.heap.size #[fnV F] 105) := has_old (has_new _ _ _ _ rfl)
  have H2 : Hid (Has ((w.alloc (.cells #[.func (.func F) #[] #[]] 105)).alloc (.cells #[.func (.func G) #[] #[]] 103)) (w.heap.size + 1) #[fnV G] 103) := has_new _ _ _ _ (by simp)
  unfold fnV
  go_enter Tryd.func47, Tryd.ntmps47
  go_wp2
  go_ret
  exact ⟨_, _, rfl, H1.out, H2.out, ((Below.refl _ _).alloc (Nat.le_refl _) _).alloc (by simp) _⟩
theorem MS.start (w : World) : MS w w.heap.size 0 (w.alloc (.map #[] 0)) :=
  ⟨⟨[], rfl, by rw [alloc_get, if_pos rfl]; rfl, fun j v h => by simp at h⟩, (Below.refl _ _).alloc (Nat.le_refl _) _, Nat.le_refl _⟩
set_option maxRecDepth 100000 in
set_option maxHeartbeats 4000000 in
theorem ops_any (w : World) :
    Calls Tryd.prog 33 #[] w fun e w' => ∃ mb, e = .returned (.map (some mb)) ∧ MS w mb 24 w' := by
  have hmm : ∀ w, (Instr.makeMap 79 none).run Tryd.prog w = .ok (.map (some w.heap.size)) (w.alloc (.map #[] 0)) := fun _ => rfl
  have hM := MS.start w
  obtain ⟨mb, hmb⟩ : ∃ mb, mb = w.heap.size := ⟨_, rfl⟩
  rw [← hmb] at hM
  have HB : Hid (w.heap.size = mb) := hmb.symm
  clear hmb
  go_enter Tryd.func33, Tryd.ntmps33
  go_wp2_with fail
  rw [HB.out]
  clear hmm HB
  refine named (p := fun X => Calls _ _ _ X _) ?_
  intro W0 hW0
  rw [← hW0] at hM
  clear hW0
  refine (set_mk 45 W0).mono ?_
  rintro e X1 ⟨b, rfl, hb, hB⟩
  obtain ⟨W1, hp, hM'⟩ := (hM.grow hB).put _ (.set 1 45 b rfl hb) 1 rfl (by decide)
  clear hM hB hb
  have hM := hM'
  clear hM'
  go_wp2_with fail
  clear hp
  refine (set_mk 46 W1).mono ?_
  rintro e X2 ⟨b, rfl, hb, hB⟩
  obtain ⟨W2, hp, hM'⟩ := (hM.grow hB).put _ (.set 2 46 b rfl hb) 2 rfl (by decide)
  clear hM hB hb
  have hM := hM'
  clear hM'
  go_wp2_with fail
  clear hp
  refine (fold_mk 48 45 W2).mono ?_
  rintro e X3 ⟨bf, bg, rfl, hf, hg, hB⟩
  obtain ⟨W3, hp, hM'⟩ := (hM.grow hB).put _ (.fold 3 48 45 bf bg rfl hf hg) 3 rfl (by decide)
  clear hM hB hf hg
  have hM := hM'
  clear hM'
  go_wp2_with fail
  clear hp
  refine (fold_mk 48 46 W3).mono ?_
  rintro e X4 ⟨bf, bg, rfl, hf, hg, hB⟩
  obtain ⟨W4, hp, hM'⟩ := (hM.grow hB).put _ (.fold 4 48 46 bf bg rfl hf hg) 4 rfl (by decide)
  clear hM hB hf hg
  have hM := hM'
  clear hM'
  go_wp2_with fail
  clear hp
  refine (fold_mk 49 46 W4).mono ?_
  rintro e X5 ⟨bf, bg, rfl, hf, hg, hB⟩
  obtain ⟨W5, hp, hM'⟩ := (hM.grow hB).put _ (.fold 5 49 46 bf bg rfl hf hg) 5 rfl (by decide)
  clear hM hB hf hg
  have hM := hM'
  clear hM'
  go_wp2_with fail
  clear hp
  refine (fold_mk 50 45 W5).mono ?_
  rintro e X6 ⟨bf, bg, rfl, hf, hg, hB⟩
  obtain ⟨W6, hp, hM'⟩ := (hM.grow hB).put _ (.fold 6 50 45 bf bg rfl hf hg) 6 rfl (by decide)
  clear hM hB hf hg
  have hM := hM'
  clear hM'
  go_wp2_with fail
  clear hp
  refine (fold_mk 50 46 W6).mono ?_
  rintro e X7 ⟨bf, bg, rfl, hf, hg, hB⟩
  obtain ⟨W7, hp, hM'⟩ := (hM.grow hB).put _ (.fold 7 50 46 bf bg rfl hf hg) 7 rfl (by decide)
  clear hM hB hf hg
  have hM := hM'
  clear hM'
  go_wp2_with fail
  clear hp
  refine (fold_mk 51 45 W7).mono ?_
  rintro e X8 ⟨bf, bg, rfl, hf, hg, hB⟩
  obtain ⟨W8, hp, hM'⟩ := (hM.grow hB).put _ (.fold 8 51 45 bf bg rfl hf hg) 8 rfl (by decide)
  clear hM hB hf hg
  have hM := hM'
  clear hM'
  go_wp2_with fail
  clear hp
  refine (fold_mk 51 46 W8).mono ?_
  rintro e X9 ⟨bf, bg, rfl, hf, hg, hB⟩
  obtain ⟨W9, hp, hM'⟩ := (hM.grow hB).put _ (.fold 9 51 46 bf bg rfl hf hg) 9 rfl (by decide)
  clear hM hB hf hg
  have hM := hM'
  clear hM'
  go_wp2_with fail
  clear hp
  refine (fold_mk 52 46 W9).mono ?_
  rintro e X10 ⟨bf, bg, rfl, hf, hg, hB⟩
  obtain ⟨W10, hp, hM'⟩ := (hM.grow hB).put _ (.fold 10 52 46 bf bg rfl hf hg) 10 rfl (by decide)
  clear hM hB hf hg
  have hM := hM'
  clear hM'
  go_wp2_with fail
  clear hp
  refine (fold_mk 53 46 W10).mono ?_
  rintro e X11 ⟨bf, bg, rfl, hf, hg, hB⟩
  obtain ⟨W11, hp, hM'⟩ := (hM.grow hB).put _ (.fold 11 53 46 bf bg rfl hf hg) 11 rfl (by decide)
  clear hM hB hf hg
  have hM := hM'
  clear hM'
  go_wp2_with fail
  clear hp
  refine (fold_mk 50 54 W11).mono ?_
  rintro e X12 ⟨bf, bg, rfl, hf, hg, hB⟩
  obtain ⟨W12, hp, hM'⟩ := (hM.grow hB).put _ (.fold 12 50 54 bf bg rfl hf hg) 12 rfl (by decide)
  clear hM hB hf hg
  have hM := hM'
  clear hM'
  go_wp2_with fail
  clear hp
  refine (fold_mk 55 54 W12).mono ?_
  rintro e X13 ⟨bf, bg, rfl, hf, hg, hB⟩
  obtain ⟨W13, hp, hM'⟩ := (hM.grow hB).put _ (.fold 13 55 54 bf bg rfl hf hg) 13 rfl (by decide)
  clear hM hB hf hg
  have hM := hM'
  clear hM'
  go_wp2_with fail
  clear hp
  refine (fold_mk 55 46 W13).mono ?_
  rintro e X14 ⟨bf, bg, rfl, hf, hg, hB⟩
  obtain ⟨W14, hp, hM'⟩ := (hM.grow hB).put _ (.fold 14 55 46 bf bg rfl hf hg) 14 rfl (by decide)
  clear hM hB hf hg
  have hM := hM'
  clear hM'
  go_wp2_with fail
  clear hp
  refine (fold_mk 56 46 W14).mono ?_
  rintro e X15 ⟨bf, bg, rfl, hf, hg, hB⟩
  obtain ⟨W15, hp, hM'⟩ := (hM.grow hB).put _ (.fold 15 56 46 bf bg rfl hf hg) 15 rfl (by decide)
  clear hM hB hf hg
  have hM := hM'
  clear hM'
  obtain ⟨W16, hp16, hM16⟩ := hM.put _ (.fn 16 (by decide)) 16 rfl (by decide)
  obtain ⟨W17, hp17, hM17⟩ := hM16.put _ (.fn 17 (by decide)) 17 rfl (by decide)
  obtain ⟨W18, hp18, hM18⟩ := hM17.put _ (.fn 18 (by decide)) 18 rfl (by decide)
  obtain ⟨W19, hp19, hM19⟩ := hM18.put _ (.fn 19 (by decide)) 19 rfl (by decide)
  obtain ⟨W20, hp20, hM20⟩ := hM19.put _ (.fn 20 (by decide)) 20 rfl (by decide)
  obtain ⟨W21, hp21, hM21⟩ := hM20.put _ (.fn 21 (by decide)) 21 rfl (by decide)
  obtain ⟨W22, hp22, hM22⟩ := hM21.put _ (.fn 22 (by decide)) 22 rfl (by decide)
  obtain ⟨W23, hp23, hM23⟩ := hM22.put _ (.fn 23 (by decide)) 23 rfl (by decide)
  obtain ⟨W24, hp24, hM24⟩ := hM23.put _ (.fn 24 (by decide)) 24 rfl (by decide)
  unfold fnV at hp16 hp17 hp18 hp19 hp20 hp21 hp22 hp23 hp24
  have HM : Hid (MS w mb 24 W24) := hM24
  clear hM hM16 hM17 hM18 hM19 hM20 hM21 hM22 hM23 hM24
  go_wp2_with fail
  go_ret
  exact ⟨mb, rfl, HM.out⟩
end Go.Proofs.YtodkehpldlmgaaaDoor
/- A step is put together; what stands at an Op is looked up, in any order. -/
namespace Go.Proofs.YtodkehpldlmgaaaDoor
open Go.RowKit

theorem wpList_load_row_if {P : Program} {ops : Array Oper} {rest : List Oper} {o : Oper} {a : Act} {w : World} {Q : Exit → Act → World → Prop} (hw : Region.wanted o (yielded ops a.tmps) = true) (ty : TypeId) (x : Operand) (ho : o.op = .load ty x)
    (g : Nat) (hx : a.eval x = .pointer (some ⟨g, 0, none⟩)) (t : TypeId) (cs : Array Value) (fr : Nat × Nat) (d : TypeDesc) (hg : w.heap[g]? = some (.cells cs t fr))
    (hu : P.underlying ty = some d) (hd : (match d with | .struct _ | .array _ _ => true | _ => false) = true) (hi : (P.info? ty).map (·.size) = some cs.size)
    (h : wpList P ops Q rest (a.put o.dst (.agg cs)) w) : wpList P ops Q (o :: rest) a w := by
  unfold wpList
  rw [if_pos hw]
  exact .inl (wp_load_row ty x ho g hx t cs fr d hg hu hd hi h)
theorem Ph2.keepMid {j k i : Nat} {S : (Nat → Bool) → (Nat → Value) → World → Prop} {T U : (Nat → Value) → World → Prop} {l : Nat → Bool} {vs : Nat → Value} {v : Value} {X' : World} (hj : l j = true) (hk : l k = false) (h1 : j ≠ i) (h2 : k ≠ i) (h : T (upd vs i v) X') : Ph2 j k S T U (upd l i true) (upd vs i v) X' :=
  ⟨(fun h => by rw [upd_other _ _ h1, hj] at h; cases h), fun _ _ => h, (fun h => by rw [upd_other _ _ h2, hk] at h; cases h)⟩
theorem run_callv {o : Oper} {ρ : Operand → Value} {X : World} (f x : Operand) (ty : TypeId) (ho : o.op = .call { callee := .value f, args := #[x], argTypes := #[ty] }) (F : Nat) (cap : Array Value) (v : Value) (hf : ρ f = .func (.func F) #[] cap) (hx : ρ x = v)
    (he : ∀ args X, (callFunc F args).run Tryd.prog X = .ok (.enter F args) X) : (execOp ρ o).run Tryd.prog X = .ok (.enter F (#[v] ++ cap)) X := by
  unfold execOp
  simp [ho, resolve, hf, hx, invoke, Deferred.ofValue, he]
theorem build_step (i : Ins) (c : Int) (k : Kn) (W : World) : (Instr.build 82 #[(0, .agg i.a), (1, .int .i64 c), (2, .agg k.a)]).run Tryd.prog W = .ok (.agg (stA i c k)) W := by kernel_rfl
theorem MS.base {w w' W : World} {mb m : Nat} (h : MS w mb m W) (k : Below w'.heap.size w' w) : MS w' mb m W :=
  ⟨h.ex, k.trans (h.below.mono k.size), Nat.le_trans k.size h.le⟩
/-- Ahead of the stores: the table, once it is made, and what stands in it. -/
structure OpS (W : World) (n : Nat) (l : Nat → Bool) (vs : Nat → Value) (X : World) : Prop where
  below : Below W.heap.size W X
  tab : l 0 = true → ∃ mb, vs 0 = .map (some mb) ∧ MS W mb 24 X
  fn : l 3 = true → IsMake X n (vs 3)
theorem OpS.size {W : World} {n : Nat} {l : Nat → Bool} {vs : Nat → Value} {X : World} (h : OpS W n l vs X) : W.heap.size ≤ X.heap.size := h.below.size
theorem OpS.start {W X : World} {n : Nat} {vs : Nat → Value} (h : Below W.heap.size W X) : OpS W n (fun _ => false) vs X := ⟨h, (fun h => by cases h), (fun h => by cases h)⟩
theorem OpS.grow {W X X' : World} {n : Nat} {l : Nat → Bool} {vs : Nat → Value} (h : OpS W n l vs X) (k : Below X.heap.size X X') {q : Nat} (h0 : 0 ≠ q) (h3 : 3 ≠ q) (v : Value) : OpS W n (upd l q true) (upd vs q v) X' := by
  refine ⟨h.below.trans (k.mono h.below.size), fun h1 => ?_, fun h1 => ?_⟩
  · rw [upd_other _ _ h0] at h1 ⊢
    obtain ⟨mb, e, hm⟩ := h.tab h1
    exact ⟨mb, e, hm.grow k⟩
  · rw [upd_other _ _ h3] at h1 ⊢
    exact (h.fn h1).grow k
theorem OpS.mk0 {W X X' : World} {n mb : Nat} {l : Nat → Bool} {vs : Nat → Value} (h : OpS W n l vs X) (hm : MS X mb 24 X') : OpS W n (upd l 0 true) (upd vs 0 (.map (some mb))) X' := by
  refine ⟨h.below.trans (hm.below.mono h.below.size), fun _ => ⟨mb, upd_same _ _ _, hm.base h.below⟩, fun h1 => ?_⟩
  rw [upd_other _ _ (by decide)] at h1 ⊢
  exact (h.fn h1).grow hm.below
theorem OpS.mk3 {W X : World} {n : Nat} {l : Nat → Bool} {vs : Nat → Value} {v : Value} (h : OpS W n l vs X) (hv : IsMake X n v) : OpS W n (upd l 3 true) (upd vs 3 v) X := by
  refine ⟨h.below, fun h1 => ?_, fun _ => by rw [upd_same]; exact hv⟩
  rw [upd_other _ _ (by decide)] at h1 ⊢
  exact h.tab h1
end Go.Proofs.YtodkehpldlmgaaaDoor
/- All ways: what the walk of them needs. -/
namespace Go.Proofs.YtodkehpldlmgaaaDoor
open Go.RowKit

theorem run_alloc97 (X : World) : (Instr.alloc 97 true (.tuple #[])).run Tryd.prog X = .ok (.pointer (some ⟨X.heap.size, 0, none⟩)) (X.alloc (.cells zWays 97)) := by
  obtain ⟨i0, hi, hz, hs⟩ : ∃ i, Tryd.prog.info? 97 = some i ∧ i.zero = some (.agg zWays) ∧ i.size = 7936 := by
    have h := info97
    cases hi : Tryd.prog.info? 97 with
    | none => rw [hi] at h; cases h
    | some i =>
      rw [hi] at h
      simp only [Option.map_some, Option.some.injEq, Prod.mk.injEq] at h
      exact ⟨i, rfl, h.1, h.2⟩
  generalize zWays = Z at *
  have hw : (zeroValue 97).run Tryd.prog X = .ok (.agg Z) X := by
    unfold zeroValue
    simp [typeInfo, hi, hz, go_sem]
  simp [Instr.alloc, hw, newVar, newRow, go_sem]
/-- A way is led on, or there is none. -/
theorem lead_any (k : Kn) (wb tn : Nat) (to : Int) (ws : Nat → Kn) (w : World) (h : k.come = true → to = (tn : Int) ∧ tn < 256) (hW : WaysAt w wb ws) (h1 : ∀ j, KnR (ws j)) (h2 : KnR k) :
    Calls Tryd.prog 40 #[.pointer (some ⟨wb, 0, none⟩), .int .i64 to, .agg k.a] w fun e w' => e = .returned (.tuple #[]) ∧ WaysAt w' wb (leadW ws tn k) ∧ Ex wb w w' := by
  cases hc : k.come with
  | false =>
    refine (lead_no k wb to w hc).mono ?_
    rintro e w' ⟨rfl, hB⟩
    refine ⟨rfl, ?_, Ex.below hB⟩
    unfold leadW
    rw [if_neg (by rw [hc]; decide)]
    exact hW.below hB
  | true =>
    obtain ⟨rfl, ht⟩ := h hc
    refine (lead_yes k wb tn ws w hc ht hW (h1 tn).ok h2.ok).mono ?_
    rintro e w' ⟨rfl, g1, g2⟩
    refine ⟨rfl, ?_, g2⟩
    unfold leadW
    rw [if_pos hc]
    exact g1
theorem WaysAt.cells {X : World} {wb : Nat} {ws : Nat → Kn} (h : WaysAt X wb ws) : ∃ cs, Has X wb cs 97 := by
  obtain ⟨cs, h1, _⟩ := h.has
  exact ⟨cs, h1⟩
theorem has_apart {X : World} {a b s t : Nat} {cs ds : Array Value} (h : Has X a cs s) (k : Has X b ds t) (hne : s ≠ t) : a ≠ b := fun e => by
  subst e
  have := h.symm.trans k
  simp only [Option.some.injEq, Obj.cells.injEq] at this
  exact hne this.2.1
theorem IsMake.exW {W W' : World} {n wb : Nat} {v : Value} {cs : Array Value} (h : IsMake W n v) (hw : Has W wb cs 97) (k : Ex wb W W') : IsMake W' n v := by
  cases h with
  | set G b h hb => exact .set n G b h (hb.ex k (has_apart hb hw (by decide)))
  | fold F G bf bg h hf hg => exact .fold n F G bf bg h (hf.ex k (has_apart hf hw (by decide))) (hg.ex k (has_apart hg hw (by decide)))
  | fn h => exact .fn n h
theorem MS.exW {w W W' : World} {mb m wb : Nat} {cs : Array Value} (h : MS w mb m W) (hw : Has W wb cs 97) (hb : w.heap.size ≤ wb) (k : Ex wb W W') : MS w mb m W' := by
  obtain ⟨⟨vs, h1, h2, h3⟩, h4, h5⟩ := h
  have hne : mb ≠ wb := fun e => by
    subst e
    have := h2.symm.trans hw
    simp at this
  exact ⟨⟨vs, h1, (k.block mb (Array.getElem?_eq_some_iff.1 h2).1 hne).trans h2, fun j v hj => (h3 j v hj).exW hw k⟩, Below.ex h4 h4.size k hb, h5⟩
/-- What stands in the table at an Op, wherever memory has only grown. -/
theorem MS.fixed {w W : World} {mb : Nat} (h : MS w mb 24 W) (n : Nat) (h1 : 1 ≤ n) (h2 : n ≤ 24) : ∃ v, IsMake W n v ∧ ∀ X, Below W.heap.size W X → (Instr.lookup 79 (.map (some mb)) (.int .i64 (n : Int)) false).run Tryd.prog X = .ok v X := by
  obtain ⟨⟨vs, g1, g2, g3⟩, _, _⟩ := h
  obtain ⟨j, rfl⟩ : ∃ j, n = j + 1 := ⟨n - 1, by omega⟩
  have hj : vs[j]? = some vs[j] := List.getElem?_eq_getElem (by omega)
  refine ⟨vs[j], g3 j _ hj, fun X hX => look79 ((hX.block mb (Array.getElem?_eq_some_iff.1 g2).1).trans g2) _ (WalkArith.wf_i64 (by omega)) _ (0 + j) ?_⟩
  have := find_some vs 0 0 j _ hj
  rw [Nat.zero_add] at this
  simpa using this
/-- What becomes of all ways. -/
def aheadP (r : Except (Option Wrong) (Nat → Kn)) (n : Nat) (w : World) (e : Ending) (w' : World) : Prop :=
  (match r with
    | .ok ws => ∃ v, e = .returned v ∧ KnS w' v n ws
    | .error (some x) => e = .panicked x.entry
    | .error none => e = .panicked astrayE) ∧ Below w.heap.size w w'
theorem ahead_step {n : Nat} {c : Int} {l : List Ins} {k : Nat} {i : Ins} {ws : Nat → Kn} (hi : l[k]? = some i) : aheadE n c (l.drop k) k ws = (match turnE n c k i ws with
    | .error x => .error x
    | .ok ws' => aheadE n c (l.drop (k + 1)) (k + 1) ws') := by
  have hk := (List.getElem?_eq_some_iff.1 hi).1
  have e : l.drop k = i :: l.drop (k + 1) := by
    rw [List.drop_eq_getElem_cons hk, (List.getElem?_eq_some_iff.1 hi).2]
  rw [e]
  rfl
end Go.Proofs.YtodkehpldlmgaaaDoor
