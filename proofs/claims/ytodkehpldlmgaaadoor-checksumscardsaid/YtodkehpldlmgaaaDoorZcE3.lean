/- A word of a range. -/
import Derived.Test.YtodkehpldlmgaaaDoorZq7
import Derived.IntWalk
namespace Go.Proofs.YtodkehpldlmgaaaDoor
open Go.RowKit

def wordN (l g n : Nat) : Nat := l + n % (g - l + 1)
theorem word_in {l g : Nat} (h : l ≤ g) (n : Nat) : l ≤ wordN l g n ∧ wordN l g n ≤ g := by
  unfold wordN
  have := Nat.mod_lt n (show g - l + 1 > 0 by omega)
  omega
set_option maxRecDepth 10000 in
set_option maxHeartbeats 2000000 in
theorem word_any (rs : Bool) (rl rg n : Nat) (w : World) (h1 : rl ≤ rg) (h2 : rg < 4294967296) (h3 : n < 4294967296) :
    Calls Tryd.prog 21 #[.agg #[.bool rs, .int .u32 (rl : Int), .int .u32 (rg : Int)], .int .u32 (n : Int)] w fun e w' => e = .returned (.int .u32 (wordN rl rg n : Int)) ∧ Below w.heap.size w w' := by
  obtain ⟨W0, hW0⟩ : ∃ W0, W0 = w.alloc (.cells #[.bool rs, .int .u32 (rl : Int), .int .u32 (rg : Int)] 40) := ⟨_, rfl⟩
  have h5 : Has W0 w.heap.size #[.bool rs, .int .u32 (rl : Int), .int .u32 (rg : Int)] 40 := by rw [hW0]; exact has_new _ _ _ _ rfl
  have hB0 : Below w.heap.size w W0 := by rw [hW0]; exact (Below.refl _ _).alloc (Nat.le_refl _) _
  have hw := word_in h1 n
  obtain ⟨Q, hQ⟩ : ∃ Q, Q = n % (rg - rl + 1) := ⟨_, rfl⟩
  have HW : Hid ((wordN rl rg n : Int) = (rl : Int) + (Q : Int)) := by show _ = _; unfold wordN; rw [hQ]; simp
  have hQ2 : rl + Q ≤ rg := by have := hw.2; unfold wordN at this; omega
  have hm : Int.tmod (n : Int) ((rg : Int) - (rl : Int) + 1) = (Q : Int) := by
    rw [hQ, show ((rg : Int) - (rl : Int) + 1) = ((rg - rl + 1 : Nat) : Int) by omega]
    rfl
  have HQ : Hid (Int.tmod (n : Int) ((rg : Int) - (rl : Int) + 1) = (Q : Int)) := hm
  clear hw hQ hm
  have e1 : IntKind.i64.wrap (rl : Int) = (rl : Int) := by rw [IntKind.wrap_i64]; omega
  have e2 : IntKind.i64.wrap (rg : Int) = (rg : Int) := by rw [IntKind.wrap_i64]; omega
  have e3 : IntKind.i64.wrap (n : Int) = (n : Int) := by rw [IntKind.wrap_i64]; omega
  have e4 : IntKind.i64.wrap ((rg : Int) - (rl : Int)) = (rg : Int) - (rl : Int) := by rw [IntKind.wrap_i64]; omega
  have e5 : IntKind.i64.wrap ((rg : Int) - (rl : Int) + 1) = (rg : Int) - (rl : Int) + 1 := by rw [IntKind.wrap_i64]; omega
  have e6 : IntKind.i64.wrap (Q : Int) = (Q : Int) := by rw [IntKind.wrap_i64]; omega
  have e7 : IntKind.i64.wrap ((rl : Int) + (Q : Int)) = (rl : Int) + (Q : Int) := by rw [IntKind.wrap_i64]; omega
  have e8 : IntKind.u32.wrap ((rl : Int) + (Q : Int)) = (rl : Int) + (Q : Int) := by rw [IntKind.wrap_u32]; omega
  have e9 : ¬ ((rg : Int) - (rl : Int) + 1) = 0 := by omega
  go_enter Tryd.func21, Tryd.ntmps21
  go_upto_region 1 with fail
  rw [← hW0]
  clear hW0
  refine wp_region_inv (Φ := fun l vs X => Vals (fun q => match q with | 0 => some (.pointer (some ⟨w.heap.size, 1, none⟩)) | 1 => some (.int .u32 (rl : Int)) | 2 => some (.int .i64 (rl : Int)) | 3 => some (.int .u32 (n : Int)) | 4 => some (.int .i64 (n : Int)) | 5 => some (.pointer (some ⟨w.heap.size, 2, none⟩)) | 6 => some (.int .u32 (rg : Int)) | 7 => some (.int .i64 (rg : Int)) | 8 => some (.pointer (some ⟨w.heap.size, 1, none⟩)) | 9 => some (.int .u32 (rl : Int)) | 10 => some (.int .i64 (rl : Int)) | 11 => some (.int .i64 ((rg : Int) - (rl : Int))) | 12 => some (.int .i64 ((rg : Int) - (rl : Int) + 1)) | 13 => some (.int .i64 (Q : Int)) | 14 => some (.int .i64 ((rl : Int) + (Q : Int))) | 15 => some (.int .u32 ((rl : Int) + (Q : Int))) | 16 => some (.int .u32 ((rl : Int) + (Q : Int))) | _ => none) l vs ∧ Below W0.heap.size W0 X) (PQ := fun _ _ => False)
    (by kernel_rfl) (by kernel_rfl) (by kernel_rfl) (by kernel_rfl) ⟨Vals.none _ _, ((Below.refl _ _).drew)⟩ ?hop ?hend (fun _ _ _ _ h => h.elim)
  case hop =>
    refine ⟨?_, ?_, ?_, ?_, ?_, ?_, ?_, ?_, ?_, ?_, ?_, ?_, ?_, ?_, ?_, ?_, ?_, trivial⟩
    · intro l vs X A hA ⟨hV, hS⟩ hl hd hcl
      have hX := hS
      have hB := hX
      have a2 := eval_old hA 2 (by kernel_rfl) rfl
      refine show_value (v := .pointer (some ⟨w.heap.size, 1, none⟩)) (X' := X) ?_ ⟨hV.upd (fun _ h => Option.some.inj h), (hX)⟩
      generalize A.eval = ρ at *
      clear hA hl hd hcl hV hS
      go_simp
    · intro l vs X A hA ⟨hV, hS⟩ hl hd hcl
      have hX := hS
      have hB := hX
      have a5 := eval_new hA 5 0 (by kernel_rfl) (by kernel_rfl) (by kernel_rfl) (hd 0 (by kernel_rfl)) (hV 0 _ (hd 0 (by kernel_rfl)) rfl)
      have cc : X.cell? ⟨w.heap.size, 1, none⟩ = some (.int .u32 (rl : Int)) := (h5.below hB h5.lt).cell 1
      refine show_value (v := .int .u32 (rl : Int)) (X' := X) ?_ ⟨hV.upd (fun _ h => Option.some.inj h), (hX)⟩
      generalize A.eval = ρ at *
      clear hA hl hd hcl hV hS hX hB
      go_simp
    · intro l vs X A hA ⟨hV, hS⟩ hl hd hcl
      have hX := hS
      have hB := hX
      have a6 := eval_new hA 6 1 (by kernel_rfl) (by kernel_rfl) (by kernel_rfl) (hd 1 (by kernel_rfl)) (hV 1 _ (hd 1 (by kernel_rfl)) rfl)
      refine show_value (v := .int .i64 (rl : Int)) (X' := X) ?_ ⟨hV.upd (fun _ h => Option.some.inj h), (hX)⟩
      generalize A.eval = ρ at *
      clear hA hl hd hcl hV hS
      go_simp
    · intro l vs X A hA ⟨hV, hS⟩ hl hd hcl
      have hX := hS
      have hB := hX
      have a1 := eval_old hA 1 (by kernel_rfl) rfl
      refine show_value (v := .int .u32 (n : Int)) (X' := X) ?_ ⟨hV.upd (fun _ h => Option.some.inj h), (hX)⟩
      generalize A.eval = ρ at *
      clear hA hl hd hcl hV hS
      go_simp
    · intro l vs X A hA ⟨hV, hS⟩ hl hd hcl
      have hX := hS
      have hB := hX
      have a8 := eval_new hA 8 3 (by kernel_rfl) (by kernel_rfl) (by kernel_rfl) (hd 3 (by kernel_rfl)) (hV 3 _ (hd 3 (by kernel_rfl)) rfl)
      refine show_value (v := .int .i64 (n : Int)) (X' := X) ?_ ⟨hV.upd (fun _ h => Option.some.inj h), (hX)⟩
      generalize A.eval = ρ at *
      clear hA hl hd hcl hV hS
      go_simp
    · intro l vs X A hA ⟨hV, hS⟩ hl hd hcl
      have hX := hS
      have hB := hX
      have a2 := eval_old hA 2 (by kernel_rfl) rfl
      refine show_value (v := .pointer (some ⟨w.heap.size, 2, none⟩)) (X' := X) ?_ ⟨hV.upd (fun _ h => Option.some.inj h), (hX)⟩
      generalize A.eval = ρ at *
      clear hA hl hd hcl hV hS
      go_simp
    · intro l vs X A hA ⟨hV, hS⟩ hl hd hcl
      have hX := hS
      have hB := hX
      have a10 := eval_new hA 10 5 (by kernel_rfl) (by kernel_rfl) (by kernel_rfl) (hd 5 (by kernel_rfl)) (hV 5 _ (hd 5 (by kernel_rfl)) rfl)
      have cc : X.cell? ⟨w.heap.size, 2, none⟩ = some (.int .u32 (rg : Int)) := (h5.below hB h5.lt).cell 2
      refine show_value (v := .int .u32 (rg : Int)) (X' := X) ?_ ⟨hV.upd (fun _ h => Option.some.inj h), (hX)⟩
      generalize A.eval = ρ at *
      clear hA hl hd hcl hV hS hX hB
      go_simp
    · intro l vs X A hA ⟨hV, hS⟩ hl hd hcl
      have hX := hS
      have hB := hX
      have a11 := eval_new hA 11 6 (by kernel_rfl) (by kernel_rfl) (by kernel_rfl) (hd 6 (by kernel_rfl)) (hV 6 _ (hd 6 (by kernel_rfl)) rfl)
      refine show_value (v := .int .i64 (rg : Int)) (X' := X) ?_ ⟨hV.upd (fun _ h => Option.some.inj h), (hX)⟩
      generalize A.eval = ρ at *
      clear hA hl hd hcl hV hS
      go_simp
    · intro l vs X A hA ⟨hV, hS⟩ hl hd hcl
      have hX := hS
      have hB := hX
      have a2 := eval_old hA 2 (by kernel_rfl) rfl
      refine show_value (v := .pointer (some ⟨w.heap.size, 1, none⟩)) (X' := X) ?_ ⟨hV.upd (fun _ h => Option.some.inj h), (hX)⟩
      generalize A.eval = ρ at *
      clear hA hl hd hcl hV hS
      go_simp
    · intro l vs X A hA ⟨hV, hS⟩ hl hd hcl
      have hX := hS
      have hB := hX
      have a13 := eval_new hA 13 8 (by kernel_rfl) (by kernel_rfl) (by kernel_rfl) (hd 8 (by kernel_rfl)) (hV 8 _ (hd 8 (by kernel_rfl)) rfl)
      have cc : X.cell? ⟨w.heap.size, 1, none⟩ = some (.int .u32 (rl : Int)) := (h5.below hB h5.lt).cell 1
      refine show_value (v := .int .u32 (rl : Int)) (X' := X) ?_ ⟨hV.upd (fun _ h => Option.some.inj h), (hX)⟩
      generalize A.eval = ρ at *
      clear hA hl hd hcl hV hS hX hB
      go_simp
    · intro l vs X A hA ⟨hV, hS⟩ hl hd hcl
      have hX := hS
      have hB := hX
      have a14 := eval_new hA 14 9 (by kernel_rfl) (by kernel_rfl) (by kernel_rfl) (hd 9 (by kernel_rfl)) (hV 9 _ (hd 9 (by kernel_rfl)) rfl)
      refine show_value (v := .int .i64 (rl : Int)) (X' := X) ?_ ⟨hV.upd (fun _ h => Option.some.inj h), (hX)⟩
      generalize A.eval = ρ at *
      clear hA hl hd hcl hV hS
      go_simp
    · intro l vs X A hA ⟨hV, hS⟩ hl hd hcl
      have hX := hS
      have hB := hX
      have a12 := eval_new hA 12 7 (by kernel_rfl) (by kernel_rfl) (by kernel_rfl) (hd 7 (by kernel_rfl)) (hV 7 _ (hd 7 (by kernel_rfl)) rfl)
      have a15 := eval_new hA 15 10 (by kernel_rfl) (by kernel_rfl) (by kernel_rfl) (hd 10 (by kernel_rfl)) (hV 10 _ (hd 10 (by kernel_rfl)) rfl)
      refine show_value (v := .int .i64 ((rg : Int) - (rl : Int))) (X' := X) ?_ ⟨hV.upd (fun _ h => Option.some.inj h), (hX)⟩
      generalize A.eval = ρ at *
      clear hA hl hd hcl hV hS
      go_simp
    · intro l vs X A hA ⟨hV, hS⟩ hl hd hcl
      have hX := hS
      have hB := hX
      have a16 := eval_new hA 16 11 (by kernel_rfl) (by kernel_rfl) (by kernel_rfl) (hd 11 (by kernel_rfl)) (hV 11 _ (hd 11 (by kernel_rfl)) rfl)
      have aC0 : A.eval (.const (.int .i64 1)) = (.int .i64 1) := rfl
      refine show_value (v := .int .i64 ((rg : Int) - (rl : Int) + 1)) (X' := X) ?_ ⟨hV.upd (fun _ h => Option.some.inj h), (hX)⟩
      generalize A.eval = ρ at *
      clear hA hl hd hcl hV hS
      go_simp
    · intro l vs X A hA ⟨hV, hS⟩ hl hd hcl
      have hX := hS
      have hB := hX
      have a9 := eval_new hA 9 4 (by kernel_rfl) (by kernel_rfl) (by kernel_rfl) (hd 4 (by kernel_rfl)) (hV 4 _ (hd 4 (by kernel_rfl)) rfl)
      have a17 := eval_new hA 17 12 (by kernel_rfl) (by kernel_rfl) (by kernel_rfl) (hd 12 (by kernel_rfl)) (hV 12 _ (hd 12 (by kernel_rfl)) rfl)
      refine show_value (v := .int .i64 (Q : Int)) (X' := X) ?_ ⟨hV.upd (fun _ h => Option.some.inj h), (hX)⟩
      have hq := HQ.out
      generalize A.eval = ρ at *
      clear hA hl hd hcl hV hS hX hB
      go_simp
    · intro l vs X A hA ⟨hV, hS⟩ hl hd hcl
      have hX := hS
      have hB := hX
      have a7 := eval_new hA 7 2 (by kernel_rfl) (by kernel_rfl) (by kernel_rfl) (hd 2 (by kernel_rfl)) (hV 2 _ (hd 2 (by kernel_rfl)) rfl)
      have a18 := eval_new hA 18 13 (by kernel_rfl) (by kernel_rfl) (by kernel_rfl) (hd 13 (by kernel_rfl)) (hV 13 _ (hd 13 (by kernel_rfl)) rfl)
      refine show_value (v := .int .i64 ((rl : Int) + (Q : Int))) (X' := X) ?_ ⟨hV.upd (fun _ h => Option.some.inj h), (hX)⟩
      generalize A.eval = ρ at *
      clear hA hl hd hcl hV hS
      go_simp
    · intro l vs X A hA ⟨hV, hS⟩ hl hd hcl
      have hX := hS
      have hB := hX
      have a19 := eval_new hA 19 14 (by kernel_rfl) (by kernel_rfl) (by kernel_rfl) (hd 14 (by kernel_rfl)) (hV 14 _ (hd 14 (by kernel_rfl)) rfl)
      refine show_value (v := .int .u32 ((rl : Int) + (Q : Int))) (X' := X) ?_ ⟨hV.upd (fun _ h => Option.some.inj h), (hX)⟩
      generalize A.eval = ρ at *
      clear hA hl hd hcl hV hS
      go_simp
    · intro l vs X A hA ⟨hV, hS⟩ hl hd hcl
      have hX := hS
      have hB := hX
      have a20 := eval_new hA 20 15 (by kernel_rfl) (by kernel_rfl) (by kernel_rfl) (hd 15 (by kernel_rfl)) (hV 15 _ (hd 15 (by kernel_rfl)) rfl)
      refine show_value (v := .int .u32 ((rl : Int) + (Q : Int))) (X' := X) ?_ ⟨hV.upd (fun _ h => Option.some.inj h), (hX)⟩
      generalize A.eval = ρ at *
      clear hA hl hd hcl hV hS
      go_simp
  case hend =>
    intro l vs X hl ⟨hV, hS⟩
    have hX := hS
    have v0 := hV 0 _ (hl 0 (by decide)) rfl
    have v1 := hV 1 _ (hl 1 (by decide)) rfl
    have v2 := hV 2 _ (hl 2 (by decide)) rfl
    have v3 := hV 3 _ (hl 3 (by decide)) rfl
    have v4 := hV 4 _ (hl 4 (by decide)) rfl
    have v5 := hV 5 _ (hl 5 (by decide)) rfl
    have v6 := hV 6 _ (hl 6 (by decide)) rfl
    have v7 := hV 7 _ (hl 7 (by decide)) rfl
    have v8 := hV 8 _ (hl 8 (by decide)) rfl
    have v9 := hV 9 _ (hl 9 (by decide)) rfl
    have v10 := hV 10 _ (hl 10 (by decide)) rfl
    have v11 := hV 11 _ (hl 11 (by decide)) rfl
    have v12 := hV 12 _ (hl 12 (by decide)) rfl
    have v13 := hV 13 _ (hl 13 (by decide)) rfl
    have v14 := hV 14 _ (hl 14 (by decide)) rfl
    have v15 := hV 15 _ (hl 15 (by decide)) rfl
    have v16 := hV 16 _ (hl 16 (by decide)) rfl
    clear hV hS hl
    simp only [canonL, if_true, v0, v1, v2, v3, v4, v5, v6, v7, v8, v9, v10, v11, v12, v13, v14, v15, v16]
    clear v0 v1 v2 v3 v4 v5 v6 v7 v8 v9 v10 v11 v12 v13 v14 v15 v16
    go_simp
    go_wp2_with fail
    go_ret
    exact ⟨by rw [HW.out]; rfl, hB0.trans (hX.mono hB0.size)⟩
end Go.Proofs.YtodkehpldlmgaaaDoor
