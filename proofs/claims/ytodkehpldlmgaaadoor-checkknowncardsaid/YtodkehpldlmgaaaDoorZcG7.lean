/- Two rows of what is known that are the same. -/
import Derived.Test.YtodkehpldlmgaaaDoorZcG6
namespace Go.Proofs.YtodkehpldlmgaaaDoor
open Go.RowKit

theorem run_neq43 {o : Oper} {ρ : Operand → Value} {X : World} (x y : Operand) (ho : o.op = .binOp .neq 43 x y 43) (k : Kn) (hk : KOk k) (hx : ρ x = .agg k.a) (hy : ρ y = .agg k.a) : (execOp ρ o).run Tryd.prog X = .ok (.value (.bool false)) X := by
  have h := neq_same k hk X
  unfold execOp
  simp only [ho, hx, hy]
  generalize k.a = ka at *
  have hg : (eqGuard .neq 43 x y (.agg ka) (.agg ka)).run Tryd.prog X = .ok () X := by simp [eqGuard, go_sem]
  simp only [Sem.run_bind, hg, h, Result.andThen_ok, Sem.run_pure]
theorem same_nil (w : World) : Calls Tryd.prog 16 #[.slice none 0 0, .slice none 0 0] w fun e w' => e = .returned (.bool true) ∧ w = w' := by
  go_enter Tryd.func16, Tryd.ntmps16
  go_wp2
  go_loopw [5] (fun i wr => wr = w ∧ i = .int .i64 0) (fun _ _ => 0)
  case atStart => exact ⟨rfl, rfl⟩
  case round =>
    obtain ⟨rfl, rfl⟩ := hrel
    go_wp2
    go_ret
    exact ⟨rfl, rfl⟩
set_option maxRecDepth 10000 in
set_option maxHeartbeats 2000000 in
theorem same_yes (v1 v2 : Value) (n : Nat) (ks : Nat → Kn) (w : World) (h1 : KnS w v1 n ks) (h2 : KnS w v2 n ks) (hn : n ≤ 1000000) (hk : ∀ j, j < n → KOk (ks j)) :
    Calls Tryd.prog 16 #[v1, v2] w fun e w' => e = .returned (.bool true) ∧ Below w.heap.size w w' := by
  obtain ⟨g1, c1, rfl, _, hg1, hr1⟩ := h1
  obtain ⟨g2, c2, rfl, _, hg2, hr2⟩ := h2
  have HK : Hid (∀ j, j < n → KOk (ks j)) := hk
  have H1 : Hid (g1 < w.heap.size ∧ ∀ j, j < n → w.rangeAt g1 (j * 31) (ks j).cells) := ⟨hg1, hr1⟩
  have H2 : Hid (g2 < w.heap.size ∧ ∀ j, j < n → w.rangeAt g2 (j * 31) (ks j).cells) := ⟨hg2, hr2⟩
  clear hk hg1 hr1 hg2 hr2
  go_enter Tryd.func16, Tryd.ntmps16
  go_wp2
  go_loopw [5] (fun i wr => ∃ j : Nat, j ≤ n ∧ i = .int .i64 (j : Int) ∧ Below w.heap.size w wr) (fun i _ => n - (intOf i).toNat)
  case atStart => exact ⟨0, Nat.zero_le _, rfl, Below.refl _ _⟩
  case round =>
    obtain ⟨j, hj, rfl, hB⟩ := hrel
    have HBr : Hid (Below w.heap.size w wr) := hB
    clear hB
    by_cases hlt : j < n
    · have hlt' : (j : Int) < (n : Int) := by omega
      have HR : Hid (w.rangeAt g1 (j * 31) (ks j).cells ∧ g1 < w.heap.size ∧ w.rangeAt g2 (j * 31) (ks j).cells ∧ g2 < w.heap.size) := ⟨H1.out.2 j hlt, H1.out.1, H2.out.2 j hlt, H2.out.1⟩
      go_upto_region 6 with fail
      refine wp_region_inv (Φ := fun l vs X => Vals (fun q => match q with | 0 => some (.slice (some ⟨g1, 0, none⟩) n c1) | 1 => some (.int .i64 (j : Int)) | 2 => some (.pointer (some ⟨g1, j * 31, none⟩)) | 3 => some (.agg (ks j).a) | 4 => some (.slice (some ⟨g2, 0, none⟩) n c2) | 5 => some (.int .i64 (j : Int)) | 6 => some (.pointer (some ⟨g2, j * 31, none⟩)) | 7 => some (.agg (ks j).a) | 8 => some (.bool false) | _ => none) l vs ∧ Below wr.heap.size wr X) (PQ := fun _ _ => False)
        (by kernel_rfl) (by kernel_rfl) (by kernel_rfl) (by kernel_rfl) ⟨Vals.none _ _, ((Below.refl _ _).drew)⟩ ?hop ?hend (fun _ _ _ _ h => h.elim)
      case hop =>
        refine ⟨?_, ?_, ?_, ?_, ?_, ?_, ?_, ?_, ?_, trivial⟩
        · intro l vs X A hA ⟨hV, hS⟩ hl hd hcl
          have hX := hS
          have hB := hX
          have a0 := eO hA 0 rfl
          refine show_value (v := .slice (some ⟨g1, 0, none⟩) n c1) (X' := X) ?_ ⟨hV.upd (fun _ h => Option.some.inj h), (hX)⟩
          generalize A.eval = ρ at *
          clear hA hl hd hcl hV hS
          go_simp
        · intro l vs X A hA ⟨hV, hS⟩ hl hd hcl
          have hX := hS
          have hB := hX
          have a5 := eO hA 5 rfl
          refine show_value (v := .int .i64 (j : Int)) (X' := X) ?_ ⟨hV.upd (fun _ h => Option.some.inj h), (hX)⟩
          generalize A.eval = ρ at *
          clear hA hl hd hcl hV hS
          go_simp
        · intro l vs X A hA ⟨hV, hS⟩ hl hd hcl
          have hX := hS
          have hB := hX
          have a17 := eN hA 17 0 hd hV rfl
          have a18 := eN hA 18 1 hd hV rfl
          refine show_value (v := .pointer (some ⟨g1, j * 31, none⟩)) (X' := X) ?_ ⟨hV.upd (fun _ h => Option.some.inj h), (hX)⟩
          generalize A.eval = ρ at *
          clear hA hl hd hcl hV hS
          go_simp
        · intro l vs X A hA ⟨hV, hS⟩ hl hd hcl
          have hX := hS
          have hB := hX
          have a19 := eN hA 19 2 hd hV rfl
          refine show_value (v := .agg (ks j).a) (X' := X) (run_ld 43 _ rfl _ a19 (ld_row (l := (ks j).cells) (range_eq HR.out.1 ((HBr.out.trans (hB.mono HBr.out.size)).block g1 HR.out.2.1)) (by kernel_rfl))) ⟨hV.upd (fun _ h => Option.some.inj h), (hX)⟩
        · intro l vs X A hA ⟨hV, hS⟩ hl hd hcl
          have hX := hS
          have hB := hX
          have a1 := eO hA 1 rfl
          refine show_value (v := .slice (some ⟨g2, 0, none⟩) n c2) (X' := X) ?_ ⟨hV.upd (fun _ h => Option.some.inj h), (hX)⟩
          generalize A.eval = ρ at *
          clear hA hl hd hcl hV hS
          go_simp
        · intro l vs X A hA ⟨hV, hS⟩ hl hd hcl
          have hX := hS
          have hB := hX
          have a5 := eO hA 5 rfl
          refine show_value (v := .int .i64 (j : Int)) (X' := X) ?_ ⟨hV.upd (fun _ h => Option.some.inj h), (hX)⟩
          generalize A.eval = ρ at *
          clear hA hl hd hcl hV hS
          go_simp
        · intro l vs X A hA ⟨hV, hS⟩ hl hd hcl
          have hX := hS
          have hB := hX
          have a21 := eN hA 21 4 hd hV rfl
          have a22 := eN hA 22 5 hd hV rfl
          refine show_value (v := .pointer (some ⟨g2, j * 31, none⟩)) (X' := X) ?_ ⟨hV.upd (fun _ h => Option.some.inj h), (hX)⟩
          generalize A.eval = ρ at *
          clear hA hl hd hcl hV hS
          go_simp
        · intro l vs X A hA ⟨hV, hS⟩ hl hd hcl
          have hX := hS
          have hB := hX
          have a23 := eN hA 23 6 hd hV rfl
          refine show_value (v := .agg (ks j).a) (X' := X) (run_ld 43 _ rfl _ a23 (ld_row (l := (ks j).cells) (range_eq HR.out.2.2.1 ((HBr.out.trans (hB.mono HBr.out.size)).block g2 HR.out.2.2.2)) (by kernel_rfl))) ⟨hV.upd (fun _ h => Option.some.inj h), (hX)⟩
        · intro l vs X A hA ⟨hV, hS⟩ hl hd hcl
          have hX := hS
          have hB := hX
          have a20 := eN hA 20 3 hd hV rfl
          have a24 := eN hA 24 7 hd hV rfl
          exact show_value (v := .bool false) (X' := X) (run_neq43 _ _ rfl (ks j) (HK.out j hlt) a20 a24) ⟨hV.upd (fun _ h => Option.some.inj h), (hX)⟩
      case hend =>
        intro l vs X hl ⟨hV, hS⟩
        have hX := hS
        have v0 := hV 0 _ (hl 0 (by decide)) rfl
        have v1 := hV 1 _ (hl 1 (by decide)) rfl
        have v2 := hV 2 _ (hl 2 (by decide)) rfl
        have v3 := hV 3 _ (hl 3 (by decide)) rfl
        have v4 := hV 4 _ (hl 4 (by decide)) rfl
        have v5 := hV 5 _ (hl 5 (by decide)) rfl
        have v6 := hV 6 _ (hl 6 (by decide)) rfl
        have v7 := hV 7 _ (hl 7 (by decide)) rfl
        have v8 := hV 8 _ (hl 8 (by decide)) rfl
        clear hV hS hl
        simp only [canonL, if_true, v0, v1, v2, v3, v4, v5, v6, v7, v8]
        clear v0 v1 v2 v3 v4 v5 v6 v7 v8
        go_simp
        have HX : Hid (Below w.heap.size w X) := HBr.out.trans (hX.mono HBr.out.size)
        clear hX HR
        go_wp2_with fail
        go_roundw
        case rel => exact ⟨j + 1, by omega, by simp, HX.out⟩
        case measure => simp [intOf]; omega
    · have hlt' : ¬ (j : Int) < (n : Int) := by omega
      go_wp2_with fail
      go_ret
      exact ⟨rfl, HBr.out⟩
end Go.Proofs.YtodkehpldlmgaaaDoor
