/- What is known within something else. -/
import Derived.Test.YtodkehpldlmgaaaDoorZcG1
namespace Go.Proofs.YtodkehpldlmgaaaDoor
open Go.RowKit

theorem bothB_below {B ty : Nat} {x y : Array Value} {W : World} {u v : Value} {X : World} (h : Both B ty x y W u v X) : Below B W X := by
  obtain ⟨b, c, _, _, _, _, _, _, _, h⟩ := h
  exact h
set_option maxRecDepth 10000 in
set_option maxHeartbeats 4000000 in
theorem within_yes (a b : Kn) (hab : withK a b) (w : World) :
    Calls Tryd.prog 23 #[.agg a.a, .agg b.a] w fun e w' => e = .returned (.bool true) ∧ Below w.heap.size w w' := by
  obtain ⟨W0, hW0⟩ : ∃ W0, W0 = (w.alloc (.cells a.a 43)).alloc (.cells b.a 43) := ⟨_, rfl⟩
  have ha0 : Has W0 w.heap.size a.a 43 := by rw [hW0]; exact has_old (has_new _ _ _ _ rfl)
  have hb0 : Has W0 (w.heap.size + 1) b.a 43 := by rw [hW0]; exact has_new _ _ _ _ (by simp)
  have hB0 : Below w.heap.size w W0 := by rw [hW0]; exact ((Below.refl _ _).alloc (Nat.le_refl _) _).alloc (by simp) _
  have HAB : Hid (withK a b) := hab
  obtain ⟨aa, haa⟩ : ∃ aa, aa = a.a := ⟨_, rfl⟩
  obtain ⟨ba, hba⟩ : ∃ ba, ba = b.a := ⟨_, rfl⟩
  have HAA : Hid (aa = a.a ∧ ba = b.a) := ⟨haa, hba⟩
  have c0 : W0.cell? ⟨w.heap.size, 0, none⟩ = some (.bool a.come) := ha0.cell 0
  have c1 : W0.cell? ⟨w.heap.size + 1, 0, none⟩ = some (.bool b.come) := hb0.cell 0
  rw [← haa, ← hba] at hW0 ⊢
  clear haa hba hab
  have HA0 : Hid (Has W0 w.heap.size a.a 43) := ha0
  have HB0 : Hid (Has W0 (w.heap.size + 1) b.a 43) := hb0
  have HBW : Hid (Below w.heap.size w W0) := hB0
  clear ha0 hb0 hB0
  go_enter Tryd.func23, Tryd.ntmps23
  go_upto_region 1 with fail
  rw [← hW0]
  clear hW0
  cases hac : a.come with
  | false =>
    rw [hac] at c0
    go_wp2_with fail
    go_ret
    exact ⟨rfl, HBW.out⟩
  | true =>
    rw [hac] at c0
    obtain ⟨hbc, hsub⟩ := HAB.out hac
    rw [hbc] at c1
    have HS : Hid (∀ n, n < 10 → subR (a.r n) (b.r n)) := hsub
    clear hsub hbc hac HAB
    go_upto_region 6 with fail
    clear c0 c1
    go_loopw [5] (fun v wr => ∃ n : Nat, n ≤ 10 ∧ v = .int .i64 (n : Int) ∧ Below W0.heap.size W0 wr) (fun v _ => 10 - (intOf v).toNat)
    case atStart => exact ⟨0, by omega, rfl, Below.refl _ _⟩
    case round =>
      obtain ⟨n, hn, rfl, hBr⟩ := hrel
      have HBr : Hid (Below W0.heap.size W0 wr) := hBr
      clear hBr
      by_cases hlt : n < 10
      · have hlt' : (n : Int) < 10 := by omega
        have HAr : Hid (Has wr w.heap.size a.a 43) := HA0.out.below HBr.out HA0.out.lt
        have HBb : Hid (Has wr (w.heap.size + 1) b.a 43) := HB0.out.below HBr.out HB0.out.lt
        go_upto_region 8 with fail
        refine wp_region_inv (Φ := fun l vs X => Vals (fun q => match q with | 0 => some (.int .i64 (n : Int)) | 1 => some (.pointer (some ⟨w.heap.size, 1, none⟩)) | 2 => some (.pointer (some ⟨w.heap.size, 1 + n * 3, none⟩)) | 3 => some (.agg (a.r n).a) | 4 => some (.int .i64 (n : Int)) | 5 => some (.pointer (some ⟨w.heap.size + 1, 1, none⟩)) | 6 => some (.pointer (some ⟨w.heap.size + 1, 1 + n * 3, none⟩)) | 7 => some (.agg (b.r n).a) | _ => none) l vs ∧ Ph2 10 11 (Two wr.heap.size 40 noR.a wr 8 9) (fun vs X => Both wr.heap.size 40 (a.r n).a noR.a wr (vs 8) (vs 9) X) (fun vs X => Both wr.heap.size 40 (a.r n).a (b.r n).a wr (vs 8) (vs 9) X) l vs X) (PQ := fun _ _ => False)
          (by kernel_rfl) (by kernel_rfl) (by kernel_rfl) (by kernel_rfl) ⟨Vals.none _ _, Ph2.start (Two.start ((Below.refl _ _).drew) (Nat.le_refl _))⟩ ?hop ?hend (fun _ _ _ _ h => h.elim)
        case hop =>
          refine ⟨?_, ?_, ?_, ?_, ?_, ?_, ?_, ?_, ?_, ?_, ?_, ?_, trivial⟩
          · intro l vs X A hA ⟨hV, hS⟩ hl hd hcl
            have hj := notYet (k := 10) hcl (by kernel_rfl) hl
            have hk := notYet (k := 11) hcl (by kernel_rfl) hl
            have hX := hS.1 hj
            have hB := hX.below
            have a5 := eval_old hA 5 (by kernel_rfl) rfl
            refine show_value (v := .int .i64 (n : Int)) (X' := X) ?_ ⟨hV.upd (fun _ h => Option.some.inj h), Ph2.keep hj hk (by decide) (by decide) (hX.grow (Below.refl _ _) (by decide) (by decide) _)⟩
            generalize A.eval = ρ at *
            clear hA hl hd hcl hV hS
            go_simp
          · intro l vs X A hA ⟨hV, hS⟩ hl hd hcl
            have hj := notYet (k := 10) hcl (by kernel_rfl) hl
            have hk := notYet (k := 11) hcl (by kernel_rfl) hl
            have hX := hS.1 hj
            have hB := hX.below
            have a2 := eval_old hA 2 (by kernel_rfl) rfl
            refine show_value (v := .pointer (some ⟨w.heap.size, 1, none⟩)) (X' := X) ?_ ⟨hV.upd (fun _ h => Option.some.inj h), Ph2.keep hj hk (by decide) (by decide) (hX.grow (Below.refl _ _) (by decide) (by decide) _)⟩
            generalize A.eval = ρ at *
            clear hA hl hd hcl hV hS
            go_simp
          · intro l vs X A hA ⟨hV, hS⟩ hl hd hcl
            have hj := notYet (k := 10) hcl (by kernel_rfl) hl
            have hk := notYet (k := 11) hcl (by kernel_rfl) hl
            have hX := hS.1 hj
            have hB := hX.below
            have a18 := eval_new hA 18 0 (by kernel_rfl) (by kernel_rfl) (by kernel_rfl) (hd 0 (by kernel_rfl)) (hV 0 _ (hd 0 (by kernel_rfl)) rfl)
            have a19 := eval_new hA 19 1 (by kernel_rfl) (by kernel_rfl) (by kernel_rfl) (hd 1 (by kernel_rfl)) (hV 1 _ (hd 1 (by kernel_rfl)) rfl)
            refine show_value (v := .pointer (some ⟨w.heap.size, 1 + n * 3, none⟩)) (X' := X) ?_ ⟨hV.upd (fun _ h => Option.some.inj h), Ph2.keep hj hk (by decide) (by decide) (hX.grow (Below.refl _ _) (by decide) (by decide) _)⟩
            generalize A.eval = ρ at *
            clear hA hl hd hcl hV hS
            go_simp
          · intro l vs X A hA ⟨hV, hS⟩ hl hd hcl
            have hj := notYet (k := 10) hcl (by kernel_rfl) hl
            have hk := notYet (k := 11) hcl (by kernel_rfl) hl
            have hX := hS.1 hj
            have hB := hX.below
            have a20 := eval_new hA 20 2 (by kernel_rfl) (by kernel_rfl) (by kernel_rfl) (hd 2 (by kernel_rfl)) (hV 2 _ (hd 2 (by kernel_rfl)) rfl)
            refine show_value (v := .agg (a.r n).a) (X' := X) (run_ld 40 _ rfl _ a20 (ld_row (l := (a.r n).cells) (kn_reg (HAr.out.below hB HAr.out.lt) n hlt) (by kernel_rfl))) ⟨hV.upd (fun _ h => Option.some.inj h), Ph2.keep hj hk (by decide) (by decide) (hX.grow (Below.refl _ _) (by decide) (by decide) _)⟩
          · intro l vs X A hA ⟨hV, hS⟩ hl hd hcl
            have hk := notYet (k := 11) hcl (by kernel_rfl) hl
            have a5 := eval_old hA 5 (by kernel_rfl) rfl
            cases hj : l 10 with
            | true =>
              have hX := hS.2.1 hj hk
              exact show_value (v := .int .i64 (n : Int)) (X' := X) (by generalize A.eval = ρ at *; clear hA hl hd hcl hV hS; go_simp) ⟨hV.upd (fun _ h => Option.some.inj h), Ph2.keepMid hj hk (by decide) (by decide) hX⟩
            | false =>
              have hX := hS.1 hj
              have hB := hX.below
              exact show_value (v := .int .i64 (n : Int)) (X' := X) (by generalize A.eval = ρ at *; clear hA hl hd hcl hV hS; go_simp) ⟨hV.upd (fun _ h => Option.some.inj h), Ph2.keep hj hk (by decide) (by decide) (hX.grow (Below.refl _ _) (by decide) (by decide) _)⟩
          · intro l vs X A hA ⟨hV, hS⟩ hl hd hcl
            have hk := notYet (k := 11) hcl (by kernel_rfl) hl
            have a3 := eval_old hA 3 (by kernel_rfl) rfl
            cases hj : l 10 with
            | true =>
              have hX := hS.2.1 hj hk
              exact show_value (v := .pointer (some ⟨w.heap.size + 1, 1, none⟩)) (X' := X) (by generalize A.eval = ρ at *; clear hA hl hd hcl hV hS; go_simp) ⟨hV.upd (fun _ h => Option.some.inj h), Ph2.keepMid hj hk (by decide) (by decide) hX⟩
            | false =>
              have hX := hS.1 hj
              have hB := hX.below
              exact show_value (v := .pointer (some ⟨w.heap.size + 1, 1, none⟩)) (X' := X) (by generalize A.eval = ρ at *; clear hA hl hd hcl hV hS; go_simp) ⟨hV.upd (fun _ h => Option.some.inj h), Ph2.keep hj hk (by decide) (by decide) (hX.grow (Below.refl _ _) (by decide) (by decide) _)⟩
          · intro l vs X A hA ⟨hV, hS⟩ hl hd hcl
            have hk := notYet (k := 11) hcl (by kernel_rfl) hl
            have a22 := eval_new hA 22 4 (by kernel_rfl) (by kernel_rfl) (by kernel_rfl) (hd 4 (by kernel_rfl)) (hV 4 _ (hd 4 (by kernel_rfl)) rfl)
            have a23 := eval_new hA 23 5 (by kernel_rfl) (by kernel_rfl) (by kernel_rfl) (hd 5 (by kernel_rfl)) (hV 5 _ (hd 5 (by kernel_rfl)) rfl)
            cases hj : l 10 with
            | true =>
              have hX := hS.2.1 hj hk
              exact show_value (v := .pointer (some ⟨w.heap.size + 1, 1 + n * 3, none⟩)) (X' := X) (by generalize A.eval = ρ at *; clear hA hl hd hcl hV hS; go_simp) ⟨hV.upd (fun _ h => Option.some.inj h), Ph2.keepMid hj hk (by decide) (by decide) hX⟩
            | false =>
              have hX := hS.1 hj
              have hB := hX.below
              exact show_value (v := .pointer (some ⟨w.heap.size + 1, 1 + n * 3, none⟩)) (X' := X) (by generalize A.eval = ρ at *; clear hA hl hd hcl hV hS; go_simp) ⟨hV.upd (fun _ h => Option.some.inj h), Ph2.keep hj hk (by decide) (by decide) (hX.grow (Below.refl _ _) (by decide) (by decide) _)⟩
          · intro l vs X A hA ⟨hV, hS⟩ hl hd hcl
            have hk := notYet (k := 11) hcl (by kernel_rfl) hl
            have a24 := eval_new hA 24 6 (by kernel_rfl) (by kernel_rfl) (by kernel_rfl) (hd 6 (by kernel_rfl)) (hV 6 _ (hd 6 (by kernel_rfl)) rfl)
            cases hj : l 10 with
            | true =>
              have hX := hS.2.1 hj hk
              exact show_value (v := .agg (b.r n).a) (X' := X) (run_ld 40 _ rfl _ a24 (ld_row (l := (b.r n).cells) (kn_reg (HBb.out.below (bothB_below hX) HBb.out.lt) n hlt) (by kernel_rfl))) ⟨hV.upd (fun _ h => Option.some.inj h), Ph2.keepMid hj hk (by decide) (by decide) hX⟩
            | false =>
              have hX := hS.1 hj
              have hB := hX.below
              exact show_value (v := .agg (b.r n).a) (X' := X) (run_ld 40 _ rfl _ a24 (ld_row (l := (b.r n).cells) (kn_reg (HBb.out.below hB HBb.out.lt) n hlt) (by kernel_rfl))) ⟨hV.upd (fun _ h => Option.some.inj h), Ph2.keep hj hk (by decide) (by decide) (hX.grow (Below.refl _ _) (by decide) (by decide) _)⟩
          · intro l vs X A hA ⟨hV, hS⟩ hl hd hcl
            have hj := notYet (k := 10) hcl (by kernel_rfl) hl
            have hk := notYet (k := 11) hcl (by kernel_rfl) hl
            have hX := hS.1 hj
            have hB := hX.below
            refine show_value (v := .pointer (some ⟨X.heap.size, 0, none⟩)) (X' := X.alloc (.cells noR.a 40)) ?_ ⟨hV.upd (fun _ h => by cases h), Ph2.keep hj hk (by decide) (by decide) (hX.mkFst (by decide))⟩
            generalize A.eval = ρ at *
            clear hA hl hd hcl hV hS
            rfl
          · intro l vs X A hA ⟨hV, hS⟩ hl hd hcl
            have hj := notYet (k := 10) hcl (by kernel_rfl) hl
            have hk := notYet (k := 11) hcl (by kernel_rfl) hl
            have hX := hS.1 hj
            have hB := hX.below
            refine show_value (v := .pointer (some ⟨X.heap.size, 0, none⟩)) (X' := X.alloc (.cells noR.a 40)) ?_ ⟨hV.upd (fun _ h => by cases h), Ph2.keep hj hk (by decide) (by decide) (hX.mkSnd (by decide))⟩
            generalize A.eval = ρ at *
            clear hA hl hd hcl hV hS
            rfl
          · intro l vs X A hA ⟨hV, hS⟩ hl hd hcl
            have hk := notYet (k := 11) hcl (by kernel_rfl) hl
            have hX := hS.1 hl
            have a6 := eval_new hA 6 8 (by kernel_rfl) (by kernel_rfl) (by kernel_rfl) (hd 8 (by kernel_rfl)) (rfl : vs 8 = vs 8)
            have a21 := eval_new hA 21 3 (by kernel_rfl) (by kernel_rfl) (by kernel_rfl) (hd 3 (by kernel_rfl)) (hV 3 _ (hd 3 (by kernel_rfl)) rfl)
            obtain ⟨b, hb, hH, hT⟩ := (hX.both (hd 8 (by kernel_rfl)) (hd 9 (by kernel_rfl))).setFst (x' := (a.r n).a)
            rw [hb] at a6
            refine show_skip (run_st_row 40 _ _ rfl b _ _ _ a6 a21 hH (by kernel_rfl) (by kernel_rfl) (Rg.a_one _)) ⟨hV.upd (fun _ h => by cases h), Ph2.mid hk (by decide) ?_⟩
            exact hT
          · intro l vs X A hA ⟨hV, hS⟩ hl hd hcl
            have hX := hS.2.1 (hd 10 (by kernel_rfl)) hl
            have a7 := eval_new hA 7 9 (by kernel_rfl) (by kernel_rfl) (by kernel_rfl) (hd 9 (by kernel_rfl)) (rfl : vs 9 = vs 9)
            have a25 := eval_new hA 25 7 (by kernel_rfl) (by kernel_rfl) (by kernel_rfl) (hd 7 (by kernel_rfl)) (hV 7 _ (hd 7 (by kernel_rfl)) rfl)
            obtain ⟨b, hb, hH, hT⟩ := hX.setSnd (y' := (b.r n).a)
            rw [hb] at a7
            refine show_skip (run_st_row 40 _ _ rfl b _ _ _ a7 a25 hH (by kernel_rfl) (by kernel_rfl) (Rg.a_one _)) ⟨hV.upd (fun _ h => by cases h), Ph2.last (hd 10 (by kernel_rfl)) ?_⟩
            exact hT
        case hend =>
          intro l vs X hl ⟨hV, hS⟩
          have hX := hS.2.2 (hl 11 (by decide))
          have v0 := hV 0 _ (hl 0 (by decide)) rfl
          have v1 := hV 1 _ (hl 1 (by decide)) rfl
          have v2 := hV 2 _ (hl 2 (by decide)) rfl
          have v3 := hV 3 _ (hl 3 (by decide)) rfl
          have v4 := hV 4 _ (hl 4 (by decide)) rfl
          have v5 := hV 5 _ (hl 5 (by decide)) rfl
          have v6 := hV 6 _ (hl 6 (by decide)) rfl
          have v7 := hV 7 _ (hl 7 (by decide)) rfl
          clear hV hS hl
          obtain ⟨b6, b7, u6, u7, g6, g7, hne, hb6, hb7, hB9⟩ := hX
          simp only [canonL, if_true, v0, v1, v2, v3, v4, v5, v6, v7, u6, u7]
          clear v0 v1 v2 v3 v4 v5 v6 v7 u6 u7
          go_simp
          have HBX : Hid (Below W0.heap.size W0 X) := HBr.out.trans (hB9.mono HBr.out.size)
          have hs := HS.out n hlt
          clear HAr HBb hB9 hne g6 g7
          have d0 : X.cell? ⟨b7, 0, none⟩ = some (.bool (b.r n).set) := hb7.cell 0
          have d1 : X.cell? ⟨b7, 1, none⟩ = some (.int .u32 ((b.r n).least : Int)) := hb7.cell 1
          have d2 : X.cell? ⟨b7, 2, none⟩ = some (.int .u32 ((b.r n).great : Int)) := hb7.cell 2
          have e0 : X.cell? ⟨b6, 0, none⟩ = some (.bool (a.r n).set) := hb6.cell 0
          have e1 : X.cell? ⟨b6, 1, none⟩ = some (.int .u32 ((a.r n).least : Int)) := hb6.cell 1
          have e2 : X.cell? ⟨b6, 2, none⟩ = some (.int .u32 ((a.r n).great : Int)) := hb6.cell 2
          clear hb6 hb7
          generalize (a.r n).a = ra at *
          generalize (b.r n).a = rb at *
          cases hset : (b.r n).set with
          | false =>
            rw [hset] at d0
            clear hs
            generalize (b.r n).least = bl at *
            generalize (b.r n).great = bg at *
            generalize a.r n = r1 at *
            go_wp2_with fail
            go_roundw
            case rel => exact ⟨n + 1, by omega, by simp, HBX.out⟩
            case measure => simp [intOf]; omega
          | true =>
            obtain ⟨s1, s2, s3⟩ := hs hset
            rw [hset] at d0
            rw [s1] at e0
            have p1 : ¬ ((a.r n).least : Int) < ((b.r n).least : Int) := by omega
            have p2 : ¬ ((b.r n).great : Int) < ((a.r n).great : Int) := by omega
            clear hs hset s1 s2 s3
            generalize (a.r n).least = al at *
            generalize (a.r n).great = ag at *
            generalize (b.r n).least = bl at *
            generalize (b.r n).great = bg at *
            go_wp2_with fail
            go_roundw
            case rel => exact ⟨n + 1, by omega, by simp, HBX.out⟩
            case measure => simp [intOf]; omega
      · obtain rfl : n = 10 := by omega
        go_wp2_with fail
        go_ret
        exact ⟨rfl, HBW.out.trans (HBr.out.mono HBW.out.size)⟩
end Go.Proofs.YtodkehpldlmgaaaDoor
