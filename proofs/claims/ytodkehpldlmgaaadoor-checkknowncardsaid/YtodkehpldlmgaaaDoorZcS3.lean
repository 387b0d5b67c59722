/- The document's products of ranges. -/
import Derived.Test.YtodkehpldlmgaaaDoorZcS1
import Derived.Test.YtodkehpldlmgaaaDoorZq3
import Derived.Test.YtodkehpldlmgaaaDoorZq1
import Derived.Test.YtodkehpldlmgaaaDoorZq2
import Derived.Deep.Cut
import Derived.IntWalk
namespace Go.Proofs.YtodkehpldlmgaaaDoor
open Go.RowKit

set_option maxRecDepth 10000 in
set_option maxHeartbeats 2000000 in
theorem rprod_any (dl dg sl sg : Nat) (h1 : dl ≤ dg) (h2 : dg < 4294967296) (h3 : sl ≤ sg) (h4 : sg < 4294967296) (w : World) :
    Calls Tryd.prog 67 #[spV dl dg, spV sl sg] w fun e w' => e = .returned (spV (wideR (dl * sl) (dg * sg)).least (wideR (dl * sl) (dg * sg)).great) ∧ Below w.heap.size w w' := by
  obtain ⟨W0, hW0⟩ : ∃ W0, W0 = ((w.alloc (.cells #[.int .i64 dl, .int .i64 dg] 86)).alloc (.cells #[.int .i64 sl, .int .i64 sg] 86)).alloc (.cells #[.int .i64 0, .int .i64 0] 86) := ⟨_, rfl⟩
  have h5 : Has W0 w.heap.size #[.int .i64 dl, .int .i64 dg] 86 := by rw [hW0]; exact has_old (has_old (has_new _ _ _ _ rfl))
  have h6 : Has W0 (w.heap.size + 1) #[.int .i64 sl, .int .i64 sg] 86 := by rw [hW0]; exact has_old (has_new _ _ _ _ (by simp))
  have h7 : Has W0 (w.heap.size + 1 + 1) #[.int .i64 0, .int .i64 0] 86 := by rw [hW0]; exact has_new _ _ _ _ (by simp)
  have hB1 : Below w.heap.size w W0 := by rw [hW0]; exact (((Below.refl _ _).alloc (Nat.le_refl _) _).alloc (by simp) _).alloc (by simp <;> omega) _
  have hS0 : Below W0.heap.size W0 W0.drew := (Below.refl _ _).drew
  go_enter Tryd.func67, Tryd.ntmps67
  go_upto_region 1 with fail
  refine named (p := fun X => Code.wp _ _ _ _ X) ?_
  intro W9 hW9
  have hW : W0 = W9 := hW0.trans hW9.symm
  subst hW
  clear hW9 hW0
  by_cases hz : dg = 0
  · have hz' : ¬ (0 : Int) < (dg : Int) := by omega
    have hle : dg * sg ≤ 4294967295 := by rw [hz]; omega
    have HW : Hid (wideR (dl * sl) (dg * sg) = fromR (dl * sl) (dg * sg)) := wideR_in (by omega)
    have HM : Hid (0 ≤ (dl : Int) * (sl : Int) ∧ (dl : Int) * (sl : Int) ≤ 4294967295 ∧ 0 ≤ (dg : Int) * (sg : Int) ∧ (dg : Int) * (sg : Int) ≤ 4294967295) := by
      have a1 := Nat.mul_le_mul h1 h3
      show _ ∧ _ ∧ _ ∧ _
      refine ⟨Int.mul_nonneg (by omega) (by omega), ?_, Int.mul_nonneg (by omega) (by omega), ?_⟩ <;> rw [← Int.natCast_mul] <;> omega
    have e1 : IntKind.i64.wrap ((dl : Int) * (sl : Int)) = (dl : Int) * (sl : Int) := by simp only [IntKind.wrap, IntKind.bits, IntKind.signed]; have := HM.out; go_num
    have e2 : IntKind.i64.wrap ((dg : Int) * (sg : Int)) = (dg : Int) * (sg : Int) := by simp only [IntKind.wrap, IntKind.bits, IntKind.signed]; have := HM.out; go_num
    clear hle
    refine wp_region_K (S := fun X => Below W0.heap.size W0 X) (fun _ => true) (by kernel_rfl) ?_
    refine K_take (i := 0) (v := .pointer (some ⟨w.heap.size, 1, none⟩)) rfl (by kernel_rfl) (by kernel_rfl) (by kernel_rfl) (by kernel_rfl) (by kernel_rfl) (by kernel_rfl) (fun w' hS => by go_simp) hS0 ?_
    refine K_take (i := 1) (v := .int .i64 (dg : Int)) rfl (by kernel_rfl) (by kernel_rfl) (by kernel_rfl) (by kernel_rfl) (by kernel_rfl) (by kernel_rfl) (fun w' hS => by have c := (h5.below hS h5.lt).cell 1; go_simp) hS0 ?_
    refine K_take (i := 2) (v := .bool false) rfl (by kernel_rfl) (by kernel_rfl) (by kernel_rfl) (by kernel_rfl) (by kernel_rfl) (by kernel_rfl) (fun w' hS => by go_simp) hS0 ?_
    refine K_take (i := 3) (v := .bool false) rfl (by kernel_rfl) (by kernel_rfl) (by kernel_rfl) (by kernel_rfl) (by kernel_rfl) (by kernel_rfl) (fun w' hS => by go_simp) hS0 ?_
    refine K_skip (i := 4) rfl (by kernel_rfl) (by kernel_rfl) (by kernel_rfl) (by kernel_rfl) (by kernel_rfl) (by kernel_rfl) hS0 ?_
    refine K_skip (i := 5) rfl (by kernel_rfl) (by kernel_rfl) (by kernel_rfl) (by kernel_rfl) (by kernel_rfl) (by kernel_rfl) hS0 ?_
    refine K_skip (i := 6) rfl (by kernel_rfl) (by kernel_rfl) (by kernel_rfl) (by kernel_rfl) (by kernel_rfl) (by kernel_rfl) hS0 ?_
    refine K_skip (i := 7) rfl (by kernel_rfl) (by kernel_rfl) (by kernel_rfl) (by kernel_rfl) (by kernel_rfl) (by kernel_rfl) hS0 ?_
    refine K_skip (i := 8) rfl (by kernel_rfl) (by kernel_rfl) (by kernel_rfl) (by kernel_rfl) (by kernel_rfl) (by kernel_rfl) hS0 ?_
    refine K_skip (i := 9) rfl (by kernel_rfl) (by kernel_rfl) (by kernel_rfl) (by kernel_rfl) (by kernel_rfl) (by kernel_rfl) hS0 ?_
    refine K_take (i := 10) (v := .bool false) rfl (by kernel_rfl) (by kernel_rfl) (by kernel_rfl) (by kernel_rfl) (by kernel_rfl) (by kernel_rfl) (fun w' hS => by go_simp) hS0 ?_
    refine K_done (by kernel_rfl) ?_
    go_simp
    have d0 := (h5.below hS0 h5.lt).cell 0
    have d1 := (h5.below hS0 h5.lt).cell 1
    have s0 := (h6.below hS0 h6.lt).cell 0
    have s1 := (h6.below hS0 h6.lt).cell 1
    have h8 := h7.below hS0 h7.lt
    have hf0 := h8.free 0
    have hB2 := hB1.trans (hS0.mono hB1.size)
    clear h5 h6 h7 hS0 hB1 h1 h2 h3 h4
    try clear hz
    have hrow : Has (W0.drew.setRow (w.heap.size + 1 + 1) #[.int .i64 ((dl : Int) * (sl : Int)), .int .i64 ((dg : Int) * (sg : Int))]) (w.heap.size + 1 + 1) #[.int .i64 ((dl : Int) * (sl : Int)), .int .i64 ((dg : Int) * (sg : Int))] 86 := setRow_has h8 _
    generalize W0.drew = W1 at *
    have HB : Hid (w.heap.size ≤ w.heap.size + 1 + 1) := by show _ ≤ _; omega
    generalize w.heap.size + 1 + 1 = B at *
    go_wp2_with (refine wpList_store_row rfl 86 _ _ rfl B #[.int .i64 ((dl : Int) * (sl : Int)), .int .i64 ((dg : Int) * (sg : Int))] rfl rfl 86 #[.int .i64 0, .int .i64 0] h8 (by kernel_rfl) (by kernel_rfl) (by kernel_rfl) ?_)
    have hB9 := setRow_below hB2 HB.out #[.int .i64 ((dl : Int) * (sl : Int)), .int .i64 ((dg : Int) * (sg : Int))]
    generalize W1.setRow B #[.int .i64 ((dl : Int) * (sl : Int)), .int .i64 ((dg : Int) * (sg : Int))] = X9 at *
    exact bodyPost_ret (results_cell_row rfl _ _ B 86 _ (0, 0) _ rfl hrow Tryd.underlying86 rfl (by kernel_rfl)) rfl ⟨by rw [HW.out]; show _ = Ending.returned (spV ((dl * sl : Nat) : Int) ((dg * sg : Nat) : Int)); rw [Int.natCast_mul, Int.natCast_mul], hB9⟩
  · have hz' : (0 : Int) < (dg : Int) := by omega
    have HZ : Hid (¬ dg = 0) := hz
    have HD : Hid (IntKind.i64.wrap (Int.tdiv 4294967295 (dg : Int)) = ((4294967295 / dg : Nat) : Int)) := by
      show _ = _
      rw [Go.IntWalk.i64_quo _ _ (by omega)]
      rfl
    by_cases hq : 4294967295 / dg < sg
    · have hlt : 4294967295 < dg * sg := by
        have := (Nat.div_lt_iff_lt_mul (by omega)).1 hq
        rw [Nat.mul_comm]; exact this
      have HW : Hid (wideR (dl * sl) (dg * sg) = allR) := wideR_all hlt
      have hq' : ((4294967295 / dg : Nat) : Int) < (sg : Int) := by omega
      clear hlt hq hz
      generalize 4294967295 / dg = Q at *
      refine wp_region_K (S := fun X => Below W0.heap.size W0 X) (fun _ => true) (by kernel_rfl) ?_
      refine K_take (i := 0) (v := .pointer (some ⟨w.heap.size, 1, none⟩)) rfl (by kernel_rfl) (by kernel_rfl) (by kernel_rfl) (by kernel_rfl) (by kernel_rfl) (by kernel_rfl) (fun w' hS => by go_simp) hS0 ?_
      refine K_take (i := 1) (v := .int .i64 (dg : Int)) rfl (by kernel_rfl) (by kernel_rfl) (by kernel_rfl) (by kernel_rfl) (by kernel_rfl) (by kernel_rfl) (fun w' hS => by have c := (h5.below hS h5.lt).cell 1; go_simp) hS0 ?_
      refine K_take (i := 2) (v := .bool true) rfl (by kernel_rfl) (by kernel_rfl) (by kernel_rfl) (by kernel_rfl) (by kernel_rfl) (by kernel_rfl) (fun w' hS => by have h0 := HZ.out; go_simp; omega) hS0 ?_
      refine K_take (i := 3) (v := .bool true) rfl (by kernel_rfl) (by kernel_rfl) (by kernel_rfl) (by kernel_rfl) (by kernel_rfl) (by kernel_rfl) (fun w' hS => by go_simp) hS0 ?_
      refine K_take (i := 4) (v := .pointer (some ⟨w.heap.size + 1, 1, none⟩)) rfl (by kernel_rfl) (by kernel_rfl) (by kernel_rfl) (by kernel_rfl) (by kernel_rfl) (by kernel_rfl) (fun w' hS => by go_simp) hS0 ?_
      refine K_take (i := 5) (v := .int .i64 (sg : Int)) rfl (by kernel_rfl) (by kernel_rfl) (by kernel_rfl) (by kernel_rfl) (by kernel_rfl) (by kernel_rfl) (fun w' hS => by have c := (h6.below hS h6.lt).cell 1; go_simp) hS0 ?_
      refine K_take (i := 6) (v := .pointer (some ⟨w.heap.size, 1, none⟩)) rfl (by kernel_rfl) (by kernel_rfl) (by kernel_rfl) (by kernel_rfl) (by kernel_rfl) (by kernel_rfl) (fun w' hS => by go_simp) hS0 ?_
      refine K_take (i := 7) (v := .int .i64 (dg : Int)) rfl (by kernel_rfl) (by kernel_rfl) (by kernel_rfl) (by kernel_rfl) (by kernel_rfl) (by kernel_rfl) (fun w' hS => by have c := (h5.below hS h5.lt).cell 1; go_simp) hS0 ?_
      refine K_take (i := 8) (v := .int .i64 (Q : Int)) rfl (by kernel_rfl) (by kernel_rfl) (by kernel_rfl) (by kernel_rfl) (by kernel_rfl) (by kernel_rfl) (fun w' hS => by have h0 := HZ.out; go_simp; exact HD.out) hS0 ?_
      refine K_take (i := 9) (v := .bool true) rfl (by kernel_rfl) (by kernel_rfl) (by kernel_rfl) (by kernel_rfl) (by kernel_rfl) (by kernel_rfl) (fun w' hS => by go_simp) hS0 ?_
      refine K_take (i := 10) (v := .bool true) rfl (by kernel_rfl) (by kernel_rfl) (by kernel_rfl) (by kernel_rfl) (by kernel_rfl) (by kernel_rfl) (fun w' hS => by go_simp) hS0 ?_
      refine K_done (by kernel_rfl) ?_
      go_simp
      have d0 := (h5.below hS0 h5.lt).cell 0
      have d1 := (h5.below hS0 h5.lt).cell 1
      have s0 := (h6.below hS0 h6.lt).cell 0
      have s1 := (h6.below hS0 h6.lt).cell 1
      have h8 := h7.below hS0 h7.lt
      have hf0 := h8.free 0
      have hB2 := hB1.trans (hS0.mono hB1.size)
      clear h5 h6 h7 hS0 hB1 h1 h2 h3 h4
      try clear hz
      have hrow : Has (W0.drew.setRow (w.heap.size + 1 + 1) #[.int .i64 0, .int .i64 4294967295]) (w.heap.size + 1 + 1) #[.int .i64 0, .int .i64 4294967295] 86 := setRow_has h8 _
      generalize W0.drew = W1 at *
      have HB : Hid (w.heap.size ≤ w.heap.size + 1 + 1) := by show _ ≤ _; omega
      generalize w.heap.size + 1 + 1 = B at *
      go_wp2_with (refine wpList_store_row rfl 86 _ _ rfl B #[.int .i64 0, .int .i64 4294967295] rfl rfl 86 #[.int .i64 0, .int .i64 0] h8 (by kernel_rfl) (by kernel_rfl) (by kernel_rfl) ?_)
      have hB9 := setRow_below hB2 HB.out #[.int .i64 0, .int .i64 4294967295]
      generalize W1.setRow B #[.int .i64 0, .int .i64 4294967295] = X9 at *
      exact bodyPost_ret (results_cell_row rfl _ _ B 86 _ (0, 0) _ rfl hrow Tryd.underlying86 rfl (by kernel_rfl)) rfl ⟨by rw [HW.out]; rfl, hB9⟩
    · have hle : dg * sg ≤ 4294967295 := by
        have := (Nat.le_div_iff_mul_le (show 0 < dg by omega)).1 (Nat.le_of_not_lt hq)
        rw [Nat.mul_comm]; exact this
      have HW : Hid (wideR (dl * sl) (dg * sg) = fromR (dl * sl) (dg * sg)) := wideR_in (by omega)
      have hq' : ¬ ((4294967295 / dg : Nat) : Int) < (sg : Int) := by omega
      have HM : Hid (0 ≤ (dl : Int) * (sl : Int) ∧ (dl : Int) * (sl : Int) ≤ 4294967295 ∧ 0 ≤ (dg : Int) * (sg : Int) ∧ (dg : Int) * (sg : Int) ≤ 4294967295) := by
        have a1 := Nat.mul_le_mul h1 h3
        show _ ∧ _ ∧ _ ∧ _
        refine ⟨Int.mul_nonneg (by omega) (by omega), ?_, Int.mul_nonneg (by omega) (by omega), ?_⟩ <;> rw [← Int.natCast_mul] <;> omega
      have e1 : IntKind.i64.wrap ((dl : Int) * (sl : Int)) = (dl : Int) * (sl : Int) := by simp only [IntKind.wrap, IntKind.bits, IntKind.signed]; have := HM.out; go_num
      have e2 : IntKind.i64.wrap ((dg : Int) * (sg : Int)) = (dg : Int) * (sg : Int) := by simp only [IntKind.wrap, IntKind.bits, IntKind.signed]; have := HM.out; go_num
      clear hle hq hz
      generalize 4294967295 / dg = Q at *
      refine wp_region_K (S := fun X => Below W0.heap.size W0 X) (fun _ => true) (by kernel_rfl) ?_
      refine K_take (i := 0) (v := .pointer (some ⟨w.heap.size, 1, none⟩)) rfl (by kernel_rfl) (by kernel_rfl) (by kernel_rfl) (by kernel_rfl) (by kernel_rfl) (by kernel_rfl) (fun w' hS => by go_simp) hS0 ?_
      refine K_take (i := 1) (v := .int .i64 (dg : Int)) rfl (by kernel_rfl) (by kernel_rfl) (by kernel_rfl) (by kernel_rfl) (by kernel_rfl) (by kernel_rfl) (fun w' hS => by have c := (h5.below hS h5.lt).cell 1; go_simp) hS0 ?_
      refine K_take (i := 2) (v := .bool true) rfl (by kernel_rfl) (by kernel_rfl) (by kernel_rfl) (by kernel_rfl) (by kernel_rfl) (by kernel_rfl) (fun w' hS => by have h0 := HZ.out; go_simp; omega) hS0 ?_
      refine K_take (i := 3) (v := .bool true) rfl (by kernel_rfl) (by kernel_rfl) (by kernel_rfl) (by kernel_rfl) (by kernel_rfl) (by kernel_rfl) (fun w' hS => by go_simp) hS0 ?_
      refine K_take (i := 4) (v := .pointer (some ⟨w.heap.size + 1, 1, none⟩)) rfl (by kernel_rfl) (by kernel_rfl) (by kernel_rfl) (by kernel_rfl) (by kernel_rfl) (by kernel_rfl) (fun w' hS => by go_simp) hS0 ?_
      refine K_take (i := 5) (v := .int .i64 (sg : Int)) rfl (by kernel_rfl) (by kernel_rfl) (by kernel_rfl) (by kernel_rfl) (by kernel_rfl) (by kernel_rfl) (fun w' hS => by have c := (h6.below hS h6.lt).cell 1; go_simp) hS0 ?_
      refine K_take (i := 6) (v := .pointer (some ⟨w.heap.size, 1, none⟩)) rfl (by kernel_rfl) (by kernel_rfl) (by kernel_rfl) (by kernel_rfl) (by kernel_rfl) (by kernel_rfl) (fun w' hS => by go_simp) hS0 ?_
      refine K_take (i := 7) (v := .int .i64 (dg : Int)) rfl (by kernel_rfl) (by kernel_rfl) (by kernel_rfl) (by kernel_rfl) (by kernel_rfl) (by kernel_rfl) (fun w' hS => by have c := (h5.below hS h5.lt).cell 1; go_simp) hS0 ?_
      refine K_take (i := 8) (v := .int .i64 (Q : Int)) rfl (by kernel_rfl) (by kernel_rfl) (by kernel_rfl) (by kernel_rfl) (by kernel_rfl) (by kernel_rfl) (fun w' hS => by have h0 := HZ.out; go_simp; exact HD.out) hS0 ?_
      refine K_take (i := 9) (v := .bool false) rfl (by kernel_rfl) (by kernel_rfl) (by kernel_rfl) (by kernel_rfl) (by kernel_rfl) (by kernel_rfl) (fun w' hS => by go_simp) hS0 ?_
      refine K_take (i := 10) (v := .bool false) rfl (by kernel_rfl) (by kernel_rfl) (by kernel_rfl) (by kernel_rfl) (by kernel_rfl) (by kernel_rfl) (fun w' hS => by go_simp) hS0 ?_
      refine K_done (by kernel_rfl) ?_
      go_simp
      have d0 := (h5.below hS0 h5.lt).cell 0
      have d1 := (h5.below hS0 h5.lt).cell 1
      have s0 := (h6.below hS0 h6.lt).cell 0
      have s1 := (h6.below hS0 h6.lt).cell 1
      have h8 := h7.below hS0 h7.lt
      have hf0 := h8.free 0
      have hB2 := hB1.trans (hS0.mono hB1.size)
      clear h5 h6 h7 hS0 hB1 h1 h2 h3 h4
      try clear hz
      have hrow : Has (W0.drew.setRow (w.heap.size + 1 + 1) #[.int .i64 ((dl : Int) * (sl : Int)), .int .i64 ((dg : Int) * (sg : Int))]) (w.heap.size + 1 + 1) #[.int .i64 ((dl : Int) * (sl : Int)), .int .i64 ((dg : Int) * (sg : Int))] 86 := setRow_has h8 _
      generalize W0.drew = W1 at *
      have HB : Hid (w.heap.size ≤ w.heap.size + 1 + 1) := by show _ ≤ _; omega
      generalize w.heap.size + 1 + 1 = B at *
      go_wp2_with (refine wpList_store_row rfl 86 _ _ rfl B #[.int .i64 ((dl : Int) * (sl : Int)), .int .i64 ((dg : Int) * (sg : Int))] rfl rfl 86 #[.int .i64 0, .int .i64 0] h8 (by kernel_rfl) (by kernel_rfl) (by kernel_rfl) ?_)
      have hB9 := setRow_below hB2 HB.out #[.int .i64 ((dl : Int) * (sl : Int)), .int .i64 ((dg : Int) * (sg : Int))]
      generalize W1.setRow B #[.int .i64 ((dl : Int) * (sl : Int)), .int .i64 ((dg : Int) * (sg : Int))] = X9 at *
      exact bodyPost_ret (results_cell_row rfl _ _ B 86 _ (0, 0) _ rfl hrow Tryd.underlying86 rfl (by kernel_rfl)) rfl ⟨by rw [HW.out]; show _ = Ending.returned (spV ((dl * sl : Nat) : Int) ((dg * sg : Nat) : Int)); rw [Int.natCast_mul, Int.natCast_mul], hB9⟩
end Go.Proofs.YtodkehpldlmgaaaDoor
