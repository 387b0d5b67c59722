/- Fewer ways: what is passed by. -/
import Derived.Test.YtodkehpldlmgaaaDoorZcG3
import Derived.Test.YtodkehpldlmgaaaDoorZcK6
namespace Go.Proofs.YtodkehpldlmgaaaDoor
open Go.RowKit

set_option maxRecDepth 10000 in
set_option maxHeartbeats 4000000 in
theorem less_e0 (i : Ins) (hu : i.imm < 4294967296) (c : Int) (k : Kn) (U D : Nat → Nat) (w : World) (hG : Glob w) (hmay : i.may = false) :
    Calls Tryd.prog 8 #[.agg i.a, .int .i64 c, .agg (lessC k U D)] w fun e w' => e = .returned (.bool true) ∧ Below w.heap.size w w' := by
  obtain ⟨ia, hia⟩ : ∃ ia, ia = i.a := ⟨_, rfl⟩
  obtain ⟨lc, hlc⟩ : ∃ lc, lc = lessC k U D := ⟨_, rfl⟩
  obtain ⟨W0, hW0⟩ : ∃ W0, W0 = (w.alloc (.cells ia 38)).alloc (.cells lc 64) := ⟨_, rfl⟩
  have hi0 : Has W0 w.heap.size ia 38 := by rw [hW0]; exact has_old (has_new _ _ _ _ rfl)
  have hl0 : Has W0 (w.heap.size + 1) lc 64 := by rw [hW0]; exact has_new _ _ _ _ (by simp)
  have hB0 : Below w.heap.size w W0 := by rw [hW0]; exact ((Below.refl _ _).alloc (Nat.le_refl _) _).alloc (by simp) _
  have HM : Hid (∀ X, Calls Tryd.prog 18 #[.agg ia] X fun e X' => e = .returned (.bool i.may) ∧ Below X.heap.size X X') := fun X => by rw [hia]; exact rmay_any i.op i.dst i.src i.off i.imm X (by omega)
  have HR : Hid (∀ X, Calls Tryd.prog 19 #[.agg k.a] X fun e X' => e = .returned (.bool (knB k)) ∧ Below X.heap.size X X') := fun X => rright_any k X
  have HN : Hid (∀ X, Below w.heap.size w X → Calls Tryd.prog 12 #[] X fun e X' => e = .returned (.bool true) ∧ Below X.heap.size X X') := fun X hX => knownl_any X (hG.below hX hG.size)
  have HLR : Hid (∀ X, Has X (w.heap.size + 1) lc 64 → X.rangeAt (w.heap.size + 1) 0 k.cells) := fun X hX => by rw [hlc] at hX; exact less_kn hX
  have HIA : Hid (ia = i.a) := hia
  have HLC : Hid (lc = lessC k U D) := hlc
  have HIS : Hid (ia.size = 5) := by rw [hia]; rfl
  have HL0 : Hid (Has W0 (w.heap.size + 1) lc 64) := hl0
  have HI0 : Hid (Has W0 w.heap.size ia 38) := hi0
  rw [← hia, ← hlc]
  clear hia hlc hG hl0
  go_enter Tryd.func8, Tryd.ntmps8
  go_upto_region 1 with fail
  rw [← hW0]
  clear hW0
  go_wp2_with (first | refine wpList_load_row_if rfl 38 _ rfl w.heap.size (by kernel_rfl) 38 ia (0, 0) _ hi0 Tryd.underlying38 rfl (by rw [HIS.out]; kernel_rfl) ?_ | (go_at_call 18; refine (HM.out _).mono ?_; rintro e W1 ⟨rfl, hB1⟩; clear hi0; have HB1 : Hid (Below w.heap.size w W1) := hB0.trans (hB1.mono hB0.size); have hl1 : Hid (Has W1 (w.heap.size + 1) lc 64) := HL0.out.below hB1 HL0.out.lt; have hi1 : Hid (Has W1 w.heap.size ia 38) := HI0.out.below hB1 HI0.out.lt; clear hB0 hB1; try rw [hmay]) | (go_at_call 12; refine (HN.out _ HB1.out).mono ?_; rintro e W9 ⟨rfl, hB9⟩))
  go_ret
  exact ⟨rfl, HB1.out.trans (hB9.mono HB1.out.size)⟩
set_option maxRecDepth 10000 in
set_option maxHeartbeats 4000000 in
theorem less_e1 (i : Ins) (hu : i.imm < 4294967296) (c : Int) (k : Kn) (U D : Nat → Nat) (w : World) (hG : Glob w) (hmay : i.may = true) (h1 : c < 0) :
    Calls Tryd.prog 8 #[.agg i.a, .int .i64 c, .agg (lessC k U D)] w fun e w' => e = .returned (.bool true) ∧ Below w.heap.size w w' := by
  obtain ⟨ia, hia⟩ : ∃ ia, ia = i.a := ⟨_, rfl⟩
  obtain ⟨lc, hlc⟩ : ∃ lc, lc = lessC k U D := ⟨_, rfl⟩
  obtain ⟨W0, hW0⟩ : ∃ W0, W0 = (w.alloc (.cells ia 38)).alloc (.cells lc 64) := ⟨_, rfl⟩
  have hi0 : Has W0 w.heap.size ia 38 := by rw [hW0]; exact has_old (has_new _ _ _ _ rfl)
  have hl0 : Has W0 (w.heap.size + 1) lc 64 := by rw [hW0]; exact has_new _ _ _ _ (by simp)
  have hB0 : Below w.heap.size w W0 := by rw [hW0]; exact ((Below.refl _ _).alloc (Nat.le_refl _) _).alloc (by simp) _
  have HM : Hid (∀ X, Calls Tryd.prog 18 #[.agg ia] X fun e X' => e = .returned (.bool i.may) ∧ Below X.heap.size X X') := fun X => by rw [hia]; exact rmay_any i.op i.dst i.src i.off i.imm X (by omega)
  have HR : Hid (∀ X, Calls Tryd.prog 19 #[.agg k.a] X fun e X' => e = .returned (.bool (knB k)) ∧ Below X.heap.size X X') := fun X => rright_any k X
  have HN : Hid (∀ X, Below w.heap.size w X → Calls Tryd.prog 12 #[] X fun e X' => e = .returned (.bool true) ∧ Below X.heap.size X X') := fun X hX => knownl_any X (hG.below hX hG.size)
  have HLR : Hid (∀ X, Has X (w.heap.size + 1) lc 64 → X.rangeAt (w.heap.size + 1) 0 k.cells) := fun X hX => by rw [hlc] at hX; exact less_kn hX
  have HIA : Hid (ia = i.a) := hia
  have HLC : Hid (lc = lessC k U D) := hlc
  have HIS : Hid (ia.size = 5) := by rw [hia]; rfl
  have HL0 : Hid (Has W0 (w.heap.size + 1) lc 64) := hl0
  have HI0 : Hid (Has W0 w.heap.size ia 38) := hi0
  rw [← hia, ← hlc]
  clear hia hlc hG hl0
  go_enter Tryd.func8, Tryd.ntmps8
  go_upto_region 1 with fail
  rw [← hW0]
  clear hW0
  go_wp2_with (first | refine wpList_load_row_if rfl 38 _ rfl w.heap.size (by kernel_rfl) 38 ia (0, 0) _ hi0 Tryd.underlying38 rfl (by rw [HIS.out]; kernel_rfl) ?_ | (go_at_call 18; refine (HM.out _).mono ?_; rintro e W1 ⟨rfl, hB1⟩; clear hi0; have HB1 : Hid (Below w.heap.size w W1) := hB0.trans (hB1.mono hB0.size); have hl1 : Hid (Has W1 (w.heap.size + 1) lc 64) := HL0.out.below hB1 HL0.out.lt; have hi1 : Hid (Has W1 w.heap.size ia 38) := HI0.out.below hB1 HI0.out.lt; clear hB0 hB1; try rw [hmay]) | (go_at_call 12; refine (HN.out _ HB1.out).mono ?_; rintro e W9 ⟨rfl, hB9⟩))
  go_ret
  exact ⟨rfl, HB1.out.trans (hB9.mono HB1.out.size)⟩
set_option maxRecDepth 10000 in
set_option maxHeartbeats 4000000 in
theorem less_e2 (i : Ins) (hu : i.imm < 4294967296) (c : Int) (k : Kn) (U D : Nat → Nat) (w : World) (hG : Glob w) (hmay : i.may = true) (h1 : ¬ c < 0) (h2 : 256 < c) :
    Calls Tryd.prog 8 #[.agg i.a, .int .i64 c, .agg (lessC k U D)] w fun e w' => e = .returned (.bool true) ∧ Below w.heap.size w w' := by
  obtain ⟨ia, hia⟩ : ∃ ia, ia = i.a := ⟨_, rfl⟩
  obtain ⟨lc, hlc⟩ : ∃ lc, lc = lessC k U D := ⟨_, rfl⟩
  obtain ⟨W0, hW0⟩ : ∃ W0, W0 = (w.alloc (.cells ia 38)).alloc (.cells lc 64) := ⟨_, rfl⟩
  have hi0 : Has W0 w.heap.size ia 38 := by rw [hW0]; exact has_old (has_new _ _ _ _ rfl)
  have hl0 : Has W0 (w.heap.size + 1) lc 64 := by rw [hW0]; exact has_new _ _ _ _ (by simp)
  have hB0 : Below w.heap.size w W0 := by rw [hW0]; exact ((Below.refl _ _).alloc (Nat.le_refl _) _).alloc (by simp) _
  have HM : Hid (∀ X, Calls Tryd.prog 18 #[.agg ia] X fun e X' => e = .returned (.bool i.may) ∧ Below X.heap.size X X') := fun X => by rw [hia]; exact rmay_any i.op i.dst i.src i.off i.imm X (by omega)
  have HR : Hid (∀ X, Calls Tryd.prog 19 #[.agg k.a] X fun e X' => e = .returned (.bool (knB k)) ∧ Below X.heap.size X X') := fun X => rright_any k X
  have HN : Hid (∀ X, Below w.heap.size w X → Calls Tryd.prog 12 #[] X fun e X' => e = .returned (.bool true) ∧ Below X.heap.size X X') := fun X hX => knownl_any X (hG.below hX hG.size)
  have HLR : Hid (∀ X, Has X (w.heap.size + 1) lc 64 → X.rangeAt (w.heap.size + 1) 0 k.cells) := fun X hX => by rw [hlc] at hX; exact less_kn hX
  have HIA : Hid (ia = i.a) := hia
  have HLC : Hid (lc = lessC k U D) := hlc
  have HIS : Hid (ia.size = 5) := by rw [hia]; rfl
  have HL0 : Hid (Has W0 (w.heap.size + 1) lc 64) := hl0
  have HI0 : Hid (Has W0 w.heap.size ia 38) := hi0
  rw [← hia, ← hlc]
  clear hia hlc hG hl0
  go_enter Tryd.func8, Tryd.ntmps8
  go_upto_region 1 with fail
  rw [← hW0]
  clear hW0
  go_wp2_with (first | refine wpList_load_row_if rfl 38 _ rfl w.heap.size (by kernel_rfl) 38 ia (0, 0) _ hi0 Tryd.underlying38 rfl (by rw [HIS.out]; kernel_rfl) ?_ | (go_at_call 18; refine (HM.out _).mono ?_; rintro e W1 ⟨rfl, hB1⟩; clear hi0; have HB1 : Hid (Below w.heap.size w W1) := hB0.trans (hB1.mono hB0.size); have hl1 : Hid (Has W1 (w.heap.size + 1) lc 64) := HL0.out.below hB1 HL0.out.lt; have hi1 : Hid (Has W1 w.heap.size ia 38) := HI0.out.below hB1 HI0.out.lt; clear hB0 hB1; try rw [hmay]) | (go_at_call 12; refine (HN.out _ HB1.out).mono ?_; rintro e W9 ⟨rfl, hB9⟩))
  go_ret
  exact ⟨rfl, HB1.out.trans (hB9.mono HB1.out.size)⟩
set_option maxRecDepth 10000 in
set_option maxHeartbeats 4000000 in
theorem less_e3 (i : Ins) (hu : i.imm < 4294967296) (c : Int) (k : Kn) (U D : Nat → Nat) (w : World) (hG : Glob w) (hmay : i.may = true) (h1 : ¬ c < 0) (h2 : ¬ 256 < c) (hkb : knB k = false) :
    Calls Tryd.prog 8 #[.agg i.a, .int .i64 c, .agg (lessC k U D)] w fun e w' => e = .returned (.bool true) ∧ Below w.heap.size w w' := by
  obtain ⟨ia, hia⟩ : ∃ ia, ia = i.a := ⟨_, rfl⟩
  obtain ⟨lc, hlc⟩ : ∃ lc, lc = lessC k U D := ⟨_, rfl⟩
  obtain ⟨W0, hW0⟩ : ∃ W0, W0 = (w.alloc (.cells ia 38)).alloc (.cells lc 64) := ⟨_, rfl⟩
  have hi0 : Has W0 w.heap.size ia 38 := by rw [hW0]; exact has_old (has_new _ _ _ _ rfl)
  have hl0 : Has W0 (w.heap.size + 1) lc 64 := by rw [hW0]; exact has_new _ _ _ _ (by simp)
  have hB0 : Below w.heap.size w W0 := by rw [hW0]; exact ((Below.refl _ _).alloc (Nat.le_refl _) _).alloc (by simp) _
  have HM : Hid (∀ X, Calls Tryd.prog 18 #[.agg ia] X fun e X' => e = .returned (.bool i.may) ∧ Below X.heap.size X X') := fun X => by rw [hia]; exact rmay_any i.op i.dst i.src i.off i.imm X (by omega)
  have HR : Hid (∀ X, Calls Tryd.prog 19 #[.agg k.a] X fun e X' => e = .returned (.bool (knB k)) ∧ Below X.heap.size X X') := fun X => rright_any k X
  have HN : Hid (∀ X, Below w.heap.size w X → Calls Tryd.prog 12 #[] X fun e X' => e = .returned (.bool true) ∧ Below X.heap.size X X') := fun X hX => knownl_any X (hG.below hX hG.size)
  have HLR : Hid (∀ X, Has X (w.heap.size + 1) lc 64 → X.rangeAt (w.heap.size + 1) 0 k.cells) := fun X hX => by rw [hlc] at hX; exact less_kn hX
  have HIA : Hid (ia = i.a) := hia
  have HLC : Hid (lc = lessC k U D) := hlc
  have HIS : Hid (ia.size = 5) := by rw [hia]; rfl
  have HL0 : Hid (Has W0 (w.heap.size + 1) lc 64) := hl0
  have HI0 : Hid (Has W0 w.heap.size ia 38) := hi0
  rw [← hia, ← hlc]
  clear hia hlc hG hl0
  have f1 : decide (c < 0) = false := decide_eq_false h1
  have f2 : decide (256 < c) = false := decide_eq_false h2
  go_enter Tryd.func8, Tryd.ntmps8
  go_upto_region 1 with fail
  rw [← hW0]
  clear hW0
  go_wp2_with (first | refine wpList_load_row_if rfl 38 _ rfl w.heap.size (by kernel_rfl) 38 ia (0, 0) _ hi0 Tryd.underlying38 rfl (by rw [HIS.out]; kernel_rfl) ?_ | (go_at_call 18; refine (HM.out _).mono ?_; rintro e W1 ⟨rfl, hB1⟩; clear hi0; have HB1 : Hid (Below w.heap.size w W1) := hB0.trans (hB1.mono hB0.size); have hl1 : Hid (Has W1 (w.heap.size + 1) lc 64) := HL0.out.below hB1 HL0.out.lt; have hi1 : Hid (Has W1 w.heap.size ia 38) := HI0.out.below hB1 HI0.out.lt; clear hB0 hB1; try rw [hmay]) | ((try rw [f1, f2]); refine wpList_ld_if rfl 43 _ rfl ⟨w.heap.size + 1, 0, none⟩ (by kernel_rfl) (.agg k.a) (ld_row (l := k.cells) (HLR.out _ hl1.out) (by kernel_rfl)) ?_) | (go_at_call 19; refine (HR.out _).mono ?_; rintro e W2 ⟨rfl, hB2⟩; have HB2 : Hid (Below w.heap.size w W2) := HB1.out.trans (hB2.mono HB1.out.size); have hl2 : Hid (Has W2 (w.heap.size + 1) lc 64) := hl1.out.below hB2 hl1.out.lt; have hi2 : Hid (Has W2 w.heap.size ia 38) := hi1.out.below hB2 hi1.out.lt; clear hB2; have d0 : W2.cell? ⟨w.heap.size + 1, 0, none⟩ = some (.bool k.come) := HLR.out _ hl2.out 0 _ rfl; try rw [hkb]; try rw [hcome] at d0) | (go_at_call 12; refine (HN.out _ HB2.out).mono ?_; rintro e W9 ⟨rfl, hB9⟩))
  go_ret
  exact ⟨rfl, HB2.out.trans (hB9.mono HB2.out.size)⟩
set_option maxRecDepth 10000 in
set_option maxHeartbeats 4000000 in
theorem less_e4 (i : Ins) (hu : i.imm < 4294967296) (c : Int) (k : Kn) (U D : Nat → Nat) (w : World) (hG : Glob w) (hmay : i.may = true) (h1 : ¬ c < 0) (h2 : ¬ 256 < c) (hkb : knB k = true) (hcome : k.come = false) :
    Calls Tryd.prog 8 #[.agg i.a, .int .i64 c, .agg (lessC k U D)] w fun e w' => e = .returned (.bool true) ∧ Below w.heap.size w w' := by
  obtain ⟨ia, hia⟩ : ∃ ia, ia = i.a := ⟨_, rfl⟩
  obtain ⟨lc, hlc⟩ : ∃ lc, lc = lessC k U D := ⟨_, rfl⟩
  obtain ⟨W0, hW0⟩ : ∃ W0, W0 = (w.alloc (.cells ia 38)).alloc (.cells lc 64) := ⟨_, rfl⟩
  have hi0 : Has W0 w.heap.size ia 38 := by rw [hW0]; exact has_old (has_new _ _ _ _ rfl)
  have hl0 : Has W0 (w.heap.size + 1) lc 64 := by rw [hW0]; exact has_new _ _ _ _ (by simp)
  have hB0 : Below w.heap.size w W0 := by rw [hW0]; exact ((Below.refl _ _).alloc (Nat.le_refl _) _).alloc (by simp) _
  have HM : Hid (∀ X, Calls Tryd.prog 18 #[.agg ia] X fun e X' => e = .returned (.bool i.may) ∧ Below X.heap.size X X') := fun X => by rw [hia]; exact rmay_any i.op i.dst i.src i.off i.imm X (by omega)
  have HR : Hid (∀ X, Calls Tryd.prog 19 #[.agg k.a] X fun e X' => e = .returned (.bool (knB k)) ∧ Below X.heap.size X X') := fun X => rright_any k X
  have HN : Hid (∀ X, Below w.heap.size w X → Calls Tryd.prog 12 #[] X fun e X' => e = .returned (.bool true) ∧ Below X.heap.size X X') := fun X hX => knownl_any X (hG.below hX hG.size)
  have HLR : Hid (∀ X, Has X (w.heap.size + 1) lc 64 → X.rangeAt (w.heap.size + 1) 0 k.cells) := fun X hX => by rw [hlc] at hX; exact less_kn hX
  have HIA : Hid (ia = i.a) := hia
  have HLC : Hid (lc = lessC k U D) := hlc
  have HIS : Hid (ia.size = 5) := by rw [hia]; rfl
  have HL0 : Hid (Has W0 (w.heap.size + 1) lc 64) := hl0
  have HI0 : Hid (Has W0 w.heap.size ia 38) := hi0
  rw [← hia, ← hlc]
  clear hia hlc hG hl0
  have f1 : decide (c < 0) = false := decide_eq_false h1
  have f2 : decide (256 < c) = false := decide_eq_false h2
  go_enter Tryd.func8, Tryd.ntmps8
  go_upto_region 1 with fail
  rw [← hW0]
  clear hW0
  go_wp2_with (first | refine wpList_load_row_if rfl 38 _ rfl w.heap.size (by kernel_rfl) 38 ia (0, 0) _ hi0 Tryd.underlying38 rfl (by rw [HIS.out]; kernel_rfl) ?_ | (go_at_call 18; refine (HM.out _).mono ?_; rintro e W1 ⟨rfl, hB1⟩; clear hi0; have HB1 : Hid (Below w.heap.size w W1) := hB0.trans (hB1.mono hB0.size); have hl1 : Hid (Has W1 (w.heap.size + 1) lc 64) := HL0.out.below hB1 HL0.out.lt; have hi1 : Hid (Has W1 w.heap.size ia 38) := HI0.out.below hB1 HI0.out.lt; clear hB0 hB1; try rw [hmay]) | ((try rw [f1, f2]); refine wpList_ld_if rfl 43 _ rfl ⟨w.heap.size + 1, 0, none⟩ (by kernel_rfl) (.agg k.a) (ld_row (l := k.cells) (HLR.out _ hl1.out) (by kernel_rfl)) ?_) | (go_at_call 19; refine (HR.out _).mono ?_; rintro e W2 ⟨rfl, hB2⟩; have HB2 : Hid (Below w.heap.size w W2) := HB1.out.trans (hB2.mono HB1.out.size); have hl2 : Hid (Has W2 (w.heap.size + 1) lc 64) := hl1.out.below hB2 hl1.out.lt; have hi2 : Hid (Has W2 w.heap.size ia 38) := hi1.out.below hB2 hi1.out.lt; clear hB2; have d0 : W2.cell? ⟨w.heap.size + 1, 0, none⟩ = some (.bool k.come) := HLR.out _ hl2.out 0 _ rfl; try rw [hkb]; try rw [hcome] at d0) | (go_at_call 12; refine (HN.out _ HB2.out).mono ?_; rintro e W9 ⟨rfl, hB9⟩))
  go_ret
  exact ⟨rfl, HB2.out.trans (hB9.mono HB2.out.size)⟩
end Go.Proofs.YtodkehpldlmgaaaDoor
