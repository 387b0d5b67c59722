/- Texts put together, in build order: K4, N1, V1, V2, M6, M7, V3, B6, A2, A5, A7, A8. -/
import Derived.Test.YtodkehpldlmgaaaDoorZq2
import Derived.Deep.Light
import Derived.Test.YtodkehpldlmgaaaDoorZq1
import Derived.Deep.Cut
/- The document's May: the same as the program's. -/
namespace Go.Proofs.YtodkehpldlmgaaaDoor
open Go.RowKit

theorem regB_iff {u p n : Int} : regB u p n = true ↔ (hasB u p = true ∧ 0 ≤ n ∧ n < 10) ∨ (hasB u p = false ∧ n = 0) := by
  unfold regB; cases hasB u p <;> simp
theorem offB_iff {u n : Int} : offB u n = true ↔ (hasB u 32 = true ∧ -32768 ≤ n ∧ n ≤ 32767) ∨ (hasB u 32 = false ∧ hasB u 64 = true ∧ 0 ≤ n ∧ n ≤ 255) ∨ (hasB u 32 = false ∧ hasB u 64 = false ∧ n = 0) := by
  unfold offB; cases hasB u 32 <;> cases hasB u 64 <;> simp
theorem immB_iff {u n : Int} : immB u n = true ↔ hasB u 4 = true ∨ (hasB u 4 = false ∧ hasB u 8 = true ∧ n ≤ 31) ∨ (hasB u 4 = false ∧ hasB u 8 = false ∧ hasB u 16 = true ∧ n < 8) ∨ (hasB u 4 = false ∧ hasB u 8 = false ∧ hasB u 16 = false ∧ n = 0) := by
  unfold immB; cases hasB u 4 <;> cases hasB u 8 <;> cases hasB u 16 <;> simp
theorem flags : ∀ n : Fin 25, hasB (usesN n.val) 1 = useD n.val ∧ hasB (usesN n.val) 2 = useS n.val ∧ hasB (usesN n.val) 32 = decide (16 ≤ (n.val : Int) ∧ (n.val : Int) ≤ 18) ∧ hasB (usesN n.val) 64 = decide (19 ≤ (n.val : Int) ∧ (n.val : Int) ≤ 22)
    ∧ hasB (usesN n.val) 4 = decide ((n.val : Int) = 1 ∨ (n.val : Int) = 3 ∨ (n.val : Int) = 6 ∨ (n.val : Int) = 8 ∨ (n.val : Int) = 20 ∨ (n.val : Int) = 21) ∧ hasB (usesN n.val) 8 = decide ((n.val : Int) = 12 ∨ (n.val : Int) = 13) ∧ hasB (usesN n.val) 16 = decide ((n.val : Int) = 23) := by decide +kernel
/-- What an instruction that may be is like. -/
def MayP (op dst src off imm : Int) : Prop := (1 ≤ op ∧ op ≤ 24)
  ∧ ((1 ≤ op ∧ op ≤ 18 ∨ 20 ≤ op ∧ op ≤ 22) ∧ 0 ≤ dst ∧ dst < 10 ∨ ¬ (1 ≤ op ∧ op ≤ 18 ∨ 20 ≤ op ∧ op ≤ 22) ∧ dst = 0)
  ∧ ((op = 2 ∨ op = 4 ∨ op = 5 ∨ op = 7 ∨ 9 ≤ op ∧ op ≤ 11 ∨ 14 ≤ op ∧ op ≤ 18 ∨ op = 22) ∧ 0 ≤ src ∧ src < 10 ∨ ¬ (op = 2 ∨ op = 4 ∨ op = 5 ∨ op = 7 ∨ 9 ≤ op ∧ op ≤ 11 ∨ 14 ≤ op ∧ op ≤ 18 ∨ op = 22) ∧ src = 0)
  ∧ (16 ≤ op ∧ op ≤ 18 ∧ -32768 ≤ off ∧ off ≤ 32767 ∨ 19 ≤ op ∧ op ≤ 22 ∧ 0 ≤ off ∧ off ≤ 255 ∨ (op < 16 ∨ 22 < op) ∧ off = 0)
  ∧ ((op = 1 ∨ op = 3 ∨ op = 6 ∨ op = 8 ∨ op = 20 ∨ op = 21) ∨ (op = 12 ∨ op = 13) ∧ imm ≤ 31 ∨ op = 23 ∧ imm < 8 ∨ ¬ (op = 1 ∨ op = 3 ∨ op = 6 ∨ op = 8 ∨ op = 20 ∨ op = 21 ∨ op = 12 ∨ op = 13 ∨ op = 23) ∧ imm = 0)
theorem mayB_iff {op dst src off imm : Int} : mayB op dst src off imm = true ↔ MayP op dst src off imm := by
  unfold mayB thereB MayP
  by_cases h : 1 ≤ op ∧ op ≤ 24
  · obtain ⟨n, rfl⟩ : ∃ n : Nat, op = n := ⟨op.toNat, by omega⟩
    obtain ⟨f1, f2, f3, f4, f5, f6, f7⟩ := flags ⟨n, by omega⟩
    simp only at f1 f2 f3 f4 f5 f6 f7
    unfold fitB
    rw [Int.toNat_natCast]
    simp only [Bool.and_eq_true, regB_iff, offB_iff, immB_iff, f1, f2, f3, f4, f5, f6, f7, useD, useS, decide_eq_true_eq, decide_eq_false_iff_not]
    clear f1 f2 f3 f4 f5 f6 f7
    generalize (n : Int) = op at *
    constructor
    · rintro ⟨h0, h1, h2, h3, h4⟩
      exact ⟨by omega, by omega, by omega, by omega, by omega⟩
    · rintro ⟨h0, h1, h2, h3, h4⟩
      exact ⟨⟨by omega, by omega⟩, by omega, by omega, by omega, by omega⟩
  · constructor
    · intro hh; simp only [Bool.and_eq_true, decide_eq_true_eq] at hh; omega
    · rintro ⟨h0, _⟩; omega
theorem beqT {a b : Int} (h : a = b) : (a == b) = true := by simpa using h
theorem beqF {a b : Int} (h : ¬ a = b) : (a == b) = false := by simpa using h
theorem bneT {a b : Int} (h : ¬ a = b) : (a != b) = true := by simpa using h
theorem bneF {a b : Int} (h : a = b) : (a != b) = false := by simpa using h
theorem un {a : Int} (h : (a != 0) = false) : a = 0 := by simpa using h
theorem uy {a : Int} (h : (a != 0) = true) : a ≠ 0 := by simpa using h
theorem end_yes {op dst src off imm : Int} (h : MayP op dst src off imm) : Ending.returned (.bool true) = .returned (.bool (mayB op dst src off imm)) := by rw [mayB_iff.2 h]
theorem end_no {op dst src off imm : Int} (h : ¬ MayP op dst src off imm) : Ending.returned (.bool false) = .returned (.bool (mayB op dst src off imm)) := by
  rw [Bool.eq_false_iff.2 (fun k => h (mayB_iff.1 k))]
theorem end_is {p : Prop} [Decidable p] {op dst src off imm : Int} (h : p ↔ MayP op dst src off imm) : Ending.returned (.bool (decide p)) = .returned (.bool (mayB op dst src off imm)) := by
  cases k : mayB op dst src off imm
  · rw [decide_eq_false (fun hp => by rw [mayB_iff.2 (h.1 hp)] at k; cases k)]
  · rw [decide_eq_true (h.2 (mayB_iff.1 k))]
set_option maxHeartbeats 4000000 in
theorem rmay_a (op dst src off imm : Int) (w : World) (_hi : 0 ≤ imm) (hop : op = 1 ∨ op = 3 ∨ op = 6 ∨ op = 8) :
    Calls Tryd.prog 18 #[.agg #[.int .i64 op, .int .i64 dst, .int .i64 src, .int .i64 off, .int .u32 imm]] w fun e w' => e = .returned (.bool (mayB op dst src off imm)) ∧ Below w.heap.size w w' := by
  have hD : useD op = true := decide_eq_true (by omega)
  have hS : useS op = false := decide_eq_false (by omega)
  have hO : useO op = false := decide_eq_false (by omega)
  have hM : useM op = true := decide_eq_true (by omega)
  have hI : useI op = true := decide_eq_true (by omega)
  have h16 : ¬ 16 ≤ op := by omega
  have h19 : ¬ 19 ≤ op := by omega
  have h12 : (op == 12) = false := beqF (by omega)
  have h13 : (op == 13) = false := beqF (by omega)
  have h23 : (op != 23) = true := bneT (by omega)
  have Hop : Hid (op = 1 ∨ op = 3 ∨ op = 6 ∨ op = 8) := hop
  clear hop
  go_enter Tryd.func18, Tryd.ntmps18
  go_wp2_with (go_at_call 34; refine (uses_any _ _).mono ?_; rintro e w' ⟨rfl, rfl⟩)
  all_goals
    go_ret
    refine ⟨?_, (Below.refl _ _).alloc (Nat.le_refl _) _⟩
    go_light
    have hop := Hop.out
    clear Hop hD hS hO hM hI h12 h13 h23
    try have _e0 : imm = 0 := un (by assumption)
    try have _e1 : imm ≠ 0 := uy (by assumption)
    first
      | (refine end_yes ?_; exact ⟨by omega, by omega, by omega, by omega, by omega⟩)
      | (refine end_no ?_; rintro ⟨k0, k1, k2, k3, k4⟩; omega)
      | (refine end_is (p := imm < 8) ⟨fun _ => ?_, ?_⟩; exact ⟨by omega, by omega, by omega, by omega, by omega⟩; rintro ⟨k0, k1, k2, k3, k4⟩; omega)
set_option maxHeartbeats 4000000 in
theorem rmay_b (op dst src off imm : Int) (w : World) (_hi : 0 ≤ imm) (hop : op = 12) :
    Calls Tryd.prog 18 #[.agg #[.int .i64 op, .int .i64 dst, .int .i64 src, .int .i64 off, .int .u32 imm]] w fun e w' => e = .returned (.bool (mayB op dst src off imm)) ∧ Below w.heap.size w w' := by
  have hD : useD op = true := decide_eq_true (by omega)
  have hS : useS op = false := decide_eq_false (by omega)
  have hO : useO op = false := decide_eq_false (by omega)
  have hM : useM op = true := decide_eq_true (by omega)
  have hI : useI op = true := decide_eq_true (by omega)
  have h16 : ¬ 16 ≤ op := by omega
  have h19 : ¬ 19 ≤ op := by omega
  have h12 : (op == 12) = true := beqT (by omega)
  have h23 : (op != 23) = true := bneT (by omega)
  have Hop : Hid (op = 12) := hop
  clear hop
  go_enter Tryd.func18, Tryd.ntmps18
  go_wp2_with (go_at_call 34; refine (uses_any _ _).mono ?_; rintro e w' ⟨rfl, rfl⟩)
  all_goals
    go_ret
    refine ⟨?_, (Below.refl _ _).alloc (Nat.le_refl _) _⟩
    go_light
    have hop := Hop.out
    clear Hop hD hS hO hM hI h12 h23
    try have _e0 : imm = 0 := un (by assumption)
    try have _e1 : imm ≠ 0 := uy (by assumption)
    first
      | (refine end_yes ?_; exact ⟨by omega, by omega, by omega, by omega, by omega⟩)
      | (refine end_no ?_; rintro ⟨k0, k1, k2, k3, k4⟩; omega)
      | (refine end_is (p := imm < 8) ⟨fun _ => ?_, ?_⟩; exact ⟨by omega, by omega, by omega, by omega, by omega⟩; rintro ⟨k0, k1, k2, k3, k4⟩; omega)
set_option maxHeartbeats 4000000 in
theorem rmay_b2 (op dst src off imm : Int) (w : World) (_hi : 0 ≤ imm) (hop : op = 13) :
    Calls Tryd.prog 18 #[.agg #[.int .i64 op, .int .i64 dst, .int .i64 src, .int .i64 off, .int .u32 imm]] w fun e w' => e = .returned (.bool (mayB op dst src off imm)) ∧ Below w.heap.size w w' := by
  have hD : useD op = true := decide_eq_true (by omega)
  have hS : useS op = false := decide_eq_false (by omega)
  have hO : useO op = false := decide_eq_false (by omega)
  have hM : useM op = true := decide_eq_true (by omega)
  have hI : useI op = true := decide_eq_true (by omega)
  have h16 : ¬ 16 ≤ op := by omega
  have h19 : ¬ 19 ≤ op := by omega
  have h12 : (op == 12) = false := beqF (by omega)
  have h13 : (op == 13) = true := beqT (by omega)
  have h23 : (op != 23) = true := bneT (by omega)
  have Hop : Hid (op = 13) := hop
  clear hop
  go_enter Tryd.func18, Tryd.ntmps18
  go_wp2_with (go_at_call 34; refine (uses_any _ _).mono ?_; rintro e w' ⟨rfl, rfl⟩)
  all_goals
    go_ret
    refine ⟨?_, (Below.refl _ _).alloc (Nat.le_refl _) _⟩
    go_light
    have hop := Hop.out
    clear Hop hD hS hO hM hI h12 h13 h23
    try have _e0 : imm = 0 := un (by assumption)
    try have _e1 : imm ≠ 0 := uy (by assumption)
    first
      | (refine end_yes ?_; exact ⟨by omega, by omega, by omega, by omega, by omega⟩)
      | (refine end_no ?_; rintro ⟨k0, k1, k2, k3, k4⟩; omega)
      | (refine end_is (p := imm < 8) ⟨fun _ => ?_, ?_⟩; exact ⟨by omega, by omega, by omega, by omega, by omega⟩; rintro ⟨k0, k1, k2, k3, k4⟩; omega)
set_option maxHeartbeats 4000000 in
theorem rmay_c (op dst src off imm : Int) (w : World) (_hi : 0 ≤ imm) (hop : op = 2 ∨ op = 4 ∨ op = 5 ∨ op = 7 ∨ 9 ≤ op ∧ op ≤ 11 ∨ op = 14 ∨ op = 15) :
    Calls Tryd.prog 18 #[.agg #[.int .i64 op, .int .i64 dst, .int .i64 src, .int .i64 off, .int .u32 imm]] w fun e w' => e = .returned (.bool (mayB op dst src off imm)) ∧ Below w.heap.size w w' := by
  have hD : useD op = true := decide_eq_true (by omega)
  have hS : useS op = true := decide_eq_true (by omega)
  have hO : useO op = false := decide_eq_false (by omega)
  have hM : useM op = false := decide_eq_false (by omega)
  have hI : useI op = true := decide_eq_true (by omega)
  have h16 : ¬ 16 ≤ op := by omega
  have h19 : ¬ 19 ≤ op := by omega
  have h12 : (op == 12) = false := beqF (by omega)
  have h13 : (op == 13) = false := beqF (by omega)
  have h23 : (op != 23) = true := bneT (by omega)
  have Hop : Hid (op = 2 ∨ op = 4 ∨ op = 5 ∨ op = 7 ∨ 9 ≤ op ∧ op ≤ 11 ∨ op = 14 ∨ op = 15) := hop
  clear hop
  go_enter Tryd.func18, Tryd.ntmps18
  go_wp2_with (go_at_call 34; refine (uses_any _ _).mono ?_; rintro e w' ⟨rfl, rfl⟩)
  all_goals
    go_ret
    refine ⟨?_, (Below.refl _ _).alloc (Nat.le_refl _) _⟩
    go_light
    have hop := Hop.out
    clear Hop hD hS hO hM hI h12 h13 h23
    try have _e0 : imm = 0 := un (by assumption)
    try have _e1 : imm ≠ 0 := uy (by assumption)
    first
      | (refine end_yes ?_; exact ⟨by omega, by omega, by omega, by omega, by omega⟩)
      | (refine end_no ?_; rintro ⟨k0, k1, k2, k3, k4⟩; omega)
      | (refine end_is (p := imm < 8) ⟨fun _ => ?_, ?_⟩; exact ⟨by omega, by omega, by omega, by omega, by omega⟩; rintro ⟨k0, k1, k2, k3, k4⟩; omega)
set_option maxHeartbeats 4000000 in
theorem rmay_d (op dst src off imm : Int) (w : World) (_hi : 0 ≤ imm) (hop : 16 ≤ op ∧ op ≤ 18) :
    Calls Tryd.prog 18 #[.agg #[.int .i64 op, .int .i64 dst, .int .i64 src, .int .i64 off, .int .u32 imm]] w fun e w' => e = .returned (.bool (mayB op dst src off imm)) ∧ Below w.heap.size w w' := by
  have hD : useD op = true := decide_eq_true (by omega)
  have hS : useS op = true := decide_eq_true (by omega)
  have hO : useO op = true := decide_eq_true (by omega)
  have hM : useM op = false := decide_eq_false (by omega)
  have hI : useI op = true := decide_eq_true (by omega)
  have h16 : 16 ≤ op := by omega
  have h18 : op ≤ 18 := by omega
  have h19 : ¬ 19 ≤ op := by omega
  have h12 : (op == 12) = false := beqF (by omega)
  have h13 : (op == 13) = false := beqF (by omega)
  have h23 : (op != 23) = true := bneT (by omega)
  have Hop : Hid (16 ≤ op ∧ op ≤ 18) := hop
  clear hop
  go_enter Tryd.func18, Tryd.ntmps18
  go_wp2_with (go_at_call 34; refine (uses_any _ _).mono ?_; rintro e w' ⟨rfl, rfl⟩)
  all_goals
    go_ret
    refine ⟨?_, (Below.refl _ _).alloc (Nat.le_refl _) _⟩
    go_light
    have hop := Hop.out
    clear Hop hD hS hO hM hI h12 h13 h23
    try have _e0 : imm = 0 := un (by assumption)
    try have _e1 : imm ≠ 0 := uy (by assumption)
    first
      | (refine end_yes ?_; exact ⟨by omega, by omega, by omega, by omega, by omega⟩)
      | (refine end_no ?_; rintro ⟨k0, k1, k2, k3, k4⟩; omega)
      | (refine end_is (p := imm < 8) ⟨fun _ => ?_, ?_⟩; exact ⟨by omega, by omega, by omega, by omega, by omega⟩; rintro ⟨k0, k1, k2, k3, k4⟩; omega)
set_option maxHeartbeats 4000000 in
theorem rmay_e (op dst src off imm : Int) (w : World) (_hi : 0 ≤ imm) (hop : op = 19) :
    Calls Tryd.prog 18 #[.agg #[.int .i64 op, .int .i64 dst, .int .i64 src, .int .i64 off, .int .u32 imm]] w fun e w' => e = .returned (.bool (mayB op dst src off imm)) ∧ Below w.heap.size w w' := by
  have hD : useD op = false := decide_eq_false (by omega)
  have hS : useS op = false := decide_eq_false (by omega)
  have hO : useO op = true := decide_eq_true (by omega)
  have hM : useM op = false := decide_eq_false (by omega)
  have hI : useI op = true := decide_eq_true (by omega)
  have h16 : 16 ≤ op := by omega
  have h18 : ¬ op ≤ 18 := by omega
  have h19 : 19 ≤ op := by omega
  have h12 : (op == 12) = false := beqF (by omega)
  have h13 : (op == 13) = false := beqF (by omega)
  have h23 : (op != 23) = true := bneT (by omega)
  have Hop : Hid (op = 19) := hop
  clear hop
  go_enter Tryd.func18, Tryd.ntmps18
  go_wp2_with (go_at_call 34; refine (uses_any _ _).mono ?_; rintro e w' ⟨rfl, rfl⟩)
  all_goals
    go_ret
    refine ⟨?_, (Below.refl _ _).alloc (Nat.le_refl _) _⟩
    go_light
    have hop := Hop.out
    clear Hop hD hS hO hM hI h12 h13 h23
    try have _e0 : imm = 0 := un (by assumption)
    try have _e1 : imm ≠ 0 := uy (by assumption)
    first
      | (refine end_yes ?_; exact ⟨by omega, by omega, by omega, by omega, by omega⟩)
      | (refine end_no ?_; rintro ⟨k0, k1, k2, k3, k4⟩; omega)
      | (refine end_is (p := imm < 8) ⟨fun _ => ?_, ?_⟩; exact ⟨by omega, by omega, by omega, by omega, by omega⟩; rintro ⟨k0, k1, k2, k3, k4⟩; omega)
set_option maxHeartbeats 4000000 in
theorem rmay_f (op dst src off imm : Int) (w : World) (_hi : 0 ≤ imm) (hop : op = 20 ∨ op = 21) :
    Calls Tryd.prog 18 #[.agg #[.int .i64 op, .int .i64 dst, .int .i64 src, .int .i64 off, .int .u32 imm]] w fun e w' => e = .returned (.bool (mayB op dst src off imm)) ∧ Below w.heap.size w w' := by
  have hD : useD op = true := decide_eq_true (by omega)
  have hS : useS op = false := decide_eq_false (by omega)
  have hO : useO op = true := decide_eq_true (by omega)
  have hM : useM op = true := decide_eq_true (by omega)
  have hI : useI op = true := decide_eq_true (by omega)
  have h16 : 16 ≤ op := by omega
  have h18 : ¬ op ≤ 18 := by omega
  have h19 : 19 ≤ op := by omega
  have h12 : (op == 12) = false := beqF (by omega)
  have h13 : (op == 13) = false := beqF (by omega)
  have h23 : (op != 23) = true := bneT (by omega)
  have Hop : Hid (op = 20 ∨ op = 21) := hop
  clear hop
  go_enter Tryd.func18, Tryd.ntmps18
  go_wp2_with (go_at_call 34; refine (uses_any _ _).mono ?_; rintro e w' ⟨rfl, rfl⟩)
  all_goals
    go_ret
    refine ⟨?_, (Below.refl _ _).alloc (Nat.le_refl _) _⟩
    go_light
    have hop := Hop.out
    clear Hop hD hS hO hM hI h12 h13 h23
    try have _e0 : imm = 0 := un (by assumption)
    try have _e1 : imm ≠ 0 := uy (by assumption)
    first
      | (refine end_yes ?_; exact ⟨by omega, by omega, by omega, by omega, by omega⟩)
      | (refine end_no ?_; rintro ⟨k0, k1, k2, k3, k4⟩; omega)
      | (refine end_is (p := imm < 8) ⟨fun _ => ?_, ?_⟩; exact ⟨by omega, by omega, by omega, by omega, by omega⟩; rintro ⟨k0, k1, k2, k3, k4⟩; omega)
set_option maxHeartbeats 4000000 in
theorem rmay_g (op dst src off imm : Int) (w : World) (_hi : 0 ≤ imm) (hop : op = 22) :
    Calls Tryd.prog 18 #[.agg #[.int .i64 op, .int .i64 dst, .int .i64 src, .int .i64 off, .int .u32 imm]] w fun e w' => e = .returned (.bool (mayB op dst src off imm)) ∧ Below w.heap.size w w' := by
  have hD : useD op = true := decide_eq_true (by omega)
  have hS : useS op = true := decide_eq_true (by omega)
  have hO : useO op = true := decide_eq_true (by omega)
  have hM : useM op = false := decide_eq_false (by omega)
  have hI : useI op = true := decide_eq_true (by omega)
  have h16 : 16 ≤ op := by omega
  have h18 : ¬ op ≤ 18 := by omega
  have h19 : 19 ≤ op := by omega
  have h12 : (op == 12) = false := beqF (by omega)
  have h13 : (op == 13) = false := beqF (by omega)
  have h23 : (op != 23) = true := bneT (by omega)
  have Hop : Hid (op = 22) := hop
  clear hop
  go_enter Tryd.func18, Tryd.ntmps18
  go_wp2_with (go_at_call 34; refine (uses_any _ _).mono ?_; rintro e w' ⟨rfl, rfl⟩)
  all_goals
    go_ret
    refine ⟨?_, (Below.refl _ _).alloc (Nat.le_refl _) _⟩
    go_light
    have hop := Hop.out
    clear Hop hD hS hO hM hI h12 h13 h23
    try have _e0 : imm = 0 := un (by assumption)
    try have _e1 : imm ≠ 0 := uy (by assumption)
    first
      | (refine end_yes ?_; exact ⟨by omega, by omega, by omega, by omega, by omega⟩)
      | (refine end_no ?_; rintro ⟨k0, k1, k2, k3, k4⟩; omega)
      | (refine end_is (p := imm < 8) ⟨fun _ => ?_, ?_⟩; exact ⟨by omega, by omega, by omega, by omega, by omega⟩; rintro ⟨k0, k1, k2, k3, k4⟩; omega)
set_option maxHeartbeats 4000000 in
theorem rmay_h (op dst src off imm : Int) (w : World) (_hi : 0 ≤ imm) (hop : op = 23) :
    Calls Tryd.prog 18 #[.agg #[.int .i64 op, .int .i64 dst, .int .i64 src, .int .i64 off, .int .u32 imm]] w fun e w' => e = .returned (.bool (mayB op dst src off imm)) ∧ Below w.heap.size w w' := by
  have hD : useD op = false := decide_eq_false (by omega)
  have hS : useS op = false := decide_eq_false (by omega)
  have hO : useO op = false := decide_eq_false (by omega)
  have hM : useM op = true := decide_eq_true (by omega)
  have hI : useI op = true := decide_eq_true (by omega)
  have h16 : 16 ≤ op := by omega
  have h18 : ¬ op ≤ 18 := by omega
  have h19 : 19 ≤ op := by omega
  have h12 : (op == 12) = false := beqF (by omega)
  have h13 : (op == 13) = false := beqF (by omega)
  have h23 : (op != 23) = false := bneF (by omega)
  have Hop : Hid (op = 23) := hop
  clear hop
  go_enter Tryd.func18, Tryd.ntmps18
  go_wp2_with (go_at_call 34; refine (uses_any _ _).mono ?_; rintro e w' ⟨rfl, rfl⟩)
  all_goals
    go_ret
    refine ⟨?_, (Below.refl _ _).alloc (Nat.le_refl _) _⟩
    go_light
    have hop := Hop.out
    clear Hop hD hS hO hM hI h12 h13 h23
    try have _e0 : imm = 0 := un (by assumption)
    try have _e1 : imm ≠ 0 := uy (by assumption)
    first
      | (refine end_yes ?_; exact ⟨by omega, by omega, by omega, by omega, by omega⟩)
      | (refine end_no ?_; rintro ⟨k0, k1, k2, k3, k4⟩; omega)
      | (refine end_is (p := imm < 8) ⟨fun _ => ?_, ?_⟩; exact ⟨by omega, by omega, by omega, by omega, by omega⟩; rintro ⟨k0, k1, k2, k3, k4⟩; omega)
set_option maxHeartbeats 4000000 in
theorem rmay_i (op dst src off imm : Int) (w : World) (_hi : 0 ≤ imm) (hop : op = 24) :
    Calls Tryd.prog 18 #[.agg #[.int .i64 op, .int .i64 dst, .int .i64 src, .int .i64 off, .int .u32 imm]] w fun e w' => e = .returned (.bool (mayB op dst src off imm)) ∧ Below w.heap.size w w' := by
  have hD : useD op = false := decide_eq_false (by omega)
  have hS : useS op = false := decide_eq_false (by omega)
  have hO : useO op = false := decide_eq_false (by omega)
  have hM : useM op = false := decide_eq_false (by omega)
  have hI : useI op = true := decide_eq_true (by omega)
  have h16 : 16 ≤ op := by omega
  have h18 : ¬ op ≤ 18 := by omega
  have h19 : 19 ≤ op := by omega
  have h12 : (op == 12) = false := beqF (by omega)
  have h13 : (op == 13) = false := beqF (by omega)
  have h23 : (op != 23) = true := bneT (by omega)
  have Hop : Hid (op = 24) := hop
  clear hop
  go_enter Tryd.func18, Tryd.ntmps18
  go_wp2_with (go_at_call 34; refine (uses_any _ _).mono ?_; rintro e w' ⟨rfl, rfl⟩)
  all_goals
    go_ret
    refine ⟨?_, (Below.refl _ _).alloc (Nat.le_refl _) _⟩
    go_light
    have hop := Hop.out
    clear Hop hD hS hO hM hI h12 h13 h23
    try have _e0 : imm = 0 := un (by assumption)
    try have _e1 : imm ≠ 0 := uy (by assumption)
    first
      | (refine end_yes ?_; exact ⟨by omega, by omega, by omega, by omega, by omega⟩)
      | (refine end_no ?_; rintro ⟨k0, k1, k2, k3, k4⟩; omega)
      | (refine end_is (p := imm < 8) ⟨fun _ => ?_, ?_⟩; exact ⟨by omega, by omega, by omega, by omega, by omega⟩; rintro ⟨k0, k1, k2, k3, k4⟩; omega)
set_option maxHeartbeats 4000000 in
theorem rmay_j (op dst src off imm : Int) (w : World) (_hi : 0 ≤ imm) (hop : op < 1 ∨ 24 < op) :
    Calls Tryd.prog 18 #[.agg #[.int .i64 op, .int .i64 dst, .int .i64 src, .int .i64 off, .int .u32 imm]] w fun e w' => e = .returned (.bool (mayB op dst src off imm)) ∧ Below w.heap.size w w' := by
  have hD : useD op = false := decide_eq_false (by omega)
  have hS : useS op = false := decide_eq_false (by omega)
  have hO : useO op = false := decide_eq_false (by omega)
  have hM : useM op = false := decide_eq_false (by omega)
  have hI : useI op = false := decide_eq_false (by omega)
  have Hop : Hid (op < 1 ∨ 24 < op) := hop
  clear hop
  go_enter Tryd.func18, Tryd.ntmps18
  go_wp2_with (go_at_call 34; refine (uses_any _ _).mono ?_; rintro e w' ⟨rfl, rfl⟩)
  all_goals
    go_ret
    refine ⟨?_, (Below.refl _ _).alloc (Nat.le_refl _) _⟩
    go_light
    have hop := Hop.out
    clear Hop hD hS hO hM hI
    try have _e0 : imm = 0 := un (by assumption)
    try have _e1 : imm ≠ 0 := uy (by assumption)
    first
      | (refine end_yes ?_; exact ⟨by omega, by omega, by omega, by omega, by omega⟩)
      | (refine end_no ?_; rintro ⟨k0, k1, k2, k3, k4⟩; omega)
      | (refine end_is (p := imm < 8) ⟨fun _ => ?_, ?_⟩; exact ⟨by omega, by omega, by omega, by omega, by omega⟩; rintro ⟨k0, k1, k2, k3, k4⟩; omega)
/-- The document's May is the program's. -/
theorem rmay_any (op dst src off imm : Int) (w : World) (hi : 0 ≤ imm) :
    Calls Tryd.prog 18 #[.agg #[.int .i64 op, .int .i64 dst, .int .i64 src, .int .i64 off, .int .u32 imm]] w fun e w' => e = .returned (.bool (mayB op dst src off imm)) ∧ Below w.heap.size w w' := by
  by_cases hj : op < 1 ∨ 24 < op
  · exact rmay_j op dst src off imm w hi hj
  by_cases ha : op = 1 ∨ op = 3 ∨ op = 6 ∨ op = 8
  · exact rmay_a op dst src off imm w hi ha
  by_cases hc : op = 2 ∨ op = 4 ∨ op = 5 ∨ op = 7 ∨ 9 ≤ op ∧ op ≤ 11 ∨ op = 14 ∨ op = 15
  · exact rmay_c op dst src off imm w hi hc
  by_cases hd : 16 ≤ op ∧ op ≤ 18
  · exact rmay_d op dst src off imm w hi hd
  by_cases hf : op = 20 ∨ op = 21
  · exact rmay_f op dst src off imm w hi hf
  rcases (show op = 12 ∨ op = 13 ∨ op = 19 ∨ op = 22 ∨ op = 23 ∨ op = 24 by omega) with h | h | h | h | h | h
  · exact rmay_b op dst src off imm w hi h
  · exact rmay_b2 op dst src off imm w hi h
  · exact rmay_e op dst src off imm w hi h
  · exact rmay_g op dst src off imm w hi h
  · exact rmay_h op dst src off imm w hi h
  · exact rmay_i op dst src off imm w hi h
end Go.Proofs.YtodkehpldlmgaaaDoor
/- What an instruction makes of a step. -/
namespace Go.Proofs.YtodkehpldlmgaaaDoor
open Go.RowKit

def bindE {α β : Type} (x : Except Wrong α) (f : α → Except Wrong β) : Except Wrong β := match x with
  | .ok a => f a
  | .error e => .error e
theorem bindE_ok {α β : Type} (a : α) (f : α → Except Wrong β) : bindE (.ok a) f = f a := rfl
theorem bindE_error {α β : Type} (e : Wrong) (f : α → Except Wrong β) : bindE (.error e) f = .error e := rfl
def needE (k : Kn) (n : Nat) : Except Wrong Rg := if k.r n = noR then .error .unset else .ok (k.r n)
theorem needE_no {k : Kn} {n : Nat} (h : k.r n = noR) : needE k n = .error .unset := by unfold needE; rw [if_pos h]
theorem needE_ok {k : Kn} {n : Nat} (h : k.r n ≠ noR) : needE k n = .ok (k.r n) := by unfold needE; rw [if_neg h]
def quoE (f : Rg → Rg → Rg) (d s : Rg) : Except Wrong Rg := if s.least = 0 then .error .zero else .ok (f d s)
def foldE (k : Kn) (d : Nat) (o : Except Wrong Rg) (F : Rg → Rg → Except Wrong Rg) : Except Wrong (Kn × Kn) :=
  bindE (needE k d) fun r => bindE o fun q => bindE (F r q) fun m => .ok (k.set d m, noK)
/-- What both ways are behind an instruction that is come to, or what it is given up by. -/
def outI (i : Ins) (c : Int) (k : Kn) : Except Wrong (Kn × Kn) :=
  let d := i.dst.toNat
  let s := i.src.toNat
  let im : Except Wrong Rg := .ok (fromR i.imm i.imm)
  let pw : Except Wrong Rg := .ok (fromR (2 ^ i.imm) (2 ^ i.imm))
  match i.op.toNat with
  | 1 => .ok (k.set d (fromR i.imm i.imm), noK)
  | 2 => bindE (needE k s) fun o => .ok (k.set d o, noK)
  | 3 => foldE k d im fun r q => .ok (sumR r q)
  | 4 => foldE k d (needE k s) fun r q => .ok (sumR r q)
  | 5 => foldE k d (needE k s) fun r q => .ok (diffR r q)
  | 6 => foldE k d im fun r q => .ok (prodR r q)
  | 7 => foldE k d (needE k s) fun r q => .ok (prodR r q)
  | 8 => foldE k d im fun r q => .ok (comR r q)
  | 9 => foldE k d (needE k s) fun r q => .ok (comR r q)
  | 10 => foldE k d (needE k s) fun r q => .ok (eitR r q)
  | 11 => foldE k d (needE k s) fun r q => .ok (apaR r q)
  | 12 => foldE k d pw fun r q => .ok (prodR r q)
  | 13 => foldE k d pw (quoE quoR)
  | 14 => foldE k d (needE k s) (quoE quoR)
  | 15 => foldE k d (needE k s) (quoE restR)
  | 16 => bindE (needE k s) fun r => if fits r i.off c then .ok (k.set d (fromR 0 255), noK) else .error .beyond
  | 17 => bindE (needE k s) fun r => if fits r i.off 64 then .ok (k.set d (fromR 0 255), noK) else .error .beyond
  | 18 => bindE (needE k d) fun r => bindE (needE k s) fun _ => if fits r i.off 64 then .ok (k, noK) else .error .beyond
  | 19 => .ok (noK, k)
  | 20 => bindE (needE k d) fun r => .ok (if r = fromR i.imm i.imm then noK else k.set d (witR r i.imm), if hasR r i.imm then k.set d (fromR i.imm i.imm) else noK)
  | 21 => bindE (needE k d) fun r => .ok (if i.imm ≤ r.great then k.set d (atLeastR r i.imm) else noK, if r.least < i.imm then k.set d (atMostR r (i.imm - 1)) else noK)
  | 22 => bindE (needE k d) fun r => bindE (needE k s) fun q => if d = s then .ok (k, noK) else
      .ok (if q.least ≤ r.great then (k.set d (atLeastR r q.least)).set s (atMostR q r.great) else noK, if r.least < q.great then (k.set d (atMostR r (q.great - 1))).set s (atLeastR q (r.least + 1)) else noK)
  | 23 => .ok (callK k 5, noK)
  | 24 => bindE (needE k 0) fun _ => .ok (noK, noK)
  | _ => .ok (noK, noK)
def endW : Except Wrong (Kn × Kn) → Ending
  | .ok p => .returned (two p.1 p.2)
  | .error x => .panicked x.entry
/-- Ranges that may be, each within its type's bounds. -/
def KnR (k : Kn) : Prop := ∀ n, n < 10 → rgB (k.r n) = true ∧ (k.r n).Ok
theorem KnR.le {k : Kn} (h : KnR k) {n : Nat} (hn : n < 10) : (k.r n).least ≤ (k.r n).great := by
  have := (h n hn).1
  unfold rgB at this
  simp only [Bool.and_eq_true, decide_eq_true_eq] at this
  exact this.1
theorem KnR.set {k : Kn} (h : KnR k) {n : Nat} (hn : n < 10) (h0 : k.r n ≠ noR) : (k.r n).set = true := by
  have := (h n hn).1
  unfold rgB at this
  simp only [Bool.and_eq_true, decide_eq_true_eq, Bool.or_eq_true] at this
  rcases this.2 with h1 | h1
  · exact h1
  · exact absurd h1 h0
/-- The value at an Op makes what the document says. -/
def MakeOk (i : Ins) (c : Int) (k : Kn) (v : Value) (W : World) : Prop := ∃ F cap, v = .func (.func F) #[] cap ∧ (∀ args X, (callFunc F args).run Tryd.prog X = .ok (.enter F args) X) ∧
  Calls Tryd.prog F (#[.agg (stA i c k)] ++ cap) W fun e W' => e = endW (outI i c k) ∧ Below W.heap.size W W'
theorem fromR_ok {l g : Nat} (h1 : l < 4294967296) (h2 : g < 4294967296) : (fromR l g).Ok := ⟨h1, h2⟩
theorem pow_ok {m : Nat} (h : m ≤ 31) : (fromR (2 ^ m) (2 ^ m)).Ok ∧ 0 < 2 ^ m := by
  have h1 : 2 ^ m ≤ 2 ^ 31 := Nat.pow_le_pow_right (by decide) h
  have h2 : (2 : Nat) ^ 31 = 2147483648 := by decide
  exact ⟨⟨by show 2 ^ m < _; omega, by show 2 ^ m < _; omega⟩, Nat.pow_pos (by decide)⟩
/-- An instruction that may be. -/
def MayI (i : Ins) : Prop := MayP i.op i.dst i.src i.off (i.imm : Int) ∧ i.imm < 4294967296
end Go.Proofs.YtodkehpldlmgaaaDoor
/- What an instruction makes of ranges that may be may be. -/
namespace Go.Proofs.YtodkehpldlmgaaaDoor
open Go.RowKit

/-- A range that may be. -/
def Good (r : Rg) : Prop := rgB r = true ∧ r.Ok
theorem good_from {l g : Nat} (h1 : l ≤ g) (h2 : g < 4294967296) : Good (fromR l g) :=
  ⟨by simp [rgB, fromR, h1], ⟨by show l < _; omega, h2⟩⟩
theorem good_all : Good allR := good_from (Nat.zero_le _) (by decide)
theorem good_no : Good noR := ⟨by decide, by decide, by decide⟩
theorem good_le {r : Rg} (h : Good r) : r.least ≤ r.great := by
  have := h.1
  unfold rgB at this
  simp only [Bool.and_eq_true, decide_eq_true_eq] at this
  exact this.1
theorem good_set {r : Rg} (h : Good r) (h0 : r ≠ noR) : r.set = true := by
  have := h.1
  unfold rgB at this
  simp only [Bool.and_eq_true, decide_eq_true_eq, Bool.or_eq_true] at this
  rcases this.2 with h1 | h1
  · exact h1
  · exact absurd h1 h0
theorem good_wide {l g : Nat} (h : l ≤ g) : Good (wideR l g) := by
  by_cases k : 4294967295 < g
  · rw [wideR_all k]; exact good_all
  · rw [wideR_in k]; exact good_from h (by omega)
theorem good_sum {d s : Rg} (h : Good d) (k : Good s) : Good (sumR d s) := good_wide (Nat.add_le_add (good_le h) (good_le k))
theorem good_prod {d s : Rg} (h : Good d) (k : Good s) : Good (prodR d s) := good_wide (Nat.mul_le_mul (good_le h) (good_le k))
theorem good_diff {d s : Rg} (h : Good d) (k : Good s) : Good (diffR d s) := by
  have h1 := good_le h
  have k1 := good_le k
  have h2 := h.2.great
  unfold diffR
  split
  · exact good_all
  · exact good_from (by omega) (by omega)
theorem good_quo {d s : Rg} (h : Good d) (k : Good s) (h0 : s.least ≠ 0) : Good (quoR d s) := by
  have h2 := h.2.great
  have := Nat.div_le_self d.great s.least
  exact good_from (Nat.div_le_div (good_le h) (good_le k) h0) (by omega)
theorem good_rest {d s : Rg} (h : Good d) : Good (restR d s) := by
  have h2 := h.2.great
  exact good_from (Nat.zero_le _) (by omega)
theorem good_com {d s : Rg} (h : Good d) : Good (comR d s) := by
  have h2 := h.2.great
  exact good_from (Nat.zero_le _) (by omega)
theorem le_ones (n : Nat) : n ≤ onesN n := by
  unfold onesN
  split
  · omega
  · have := @Nat.lt_log2_self n
    omega
theorem good_eit {d s : Rg} (h : Good d) (k : Good s) : Good (eitR d s) := by
  have h1 := good_le h
  have k1 := good_le k
  have h2 := h.2.great
  have k2 := k.2.great
  have := le_ones (max d.great s.great)
  exact good_from (by omega) (onesN_lt _ (by omega))
theorem good_apa {d s : Rg} (h : Good d) (k : Good s) : Good (apaR d s) := by
  have h2 := h.2.great
  have k2 := k.2.great
  exact good_from (Nat.zero_le _) (onesN_lt _ (by omega))
theorem good_span {d s : Rg} (h : Good d) (k : Good s) : Good (spanR d s) := by
  have h1 := good_le h
  have k1 := good_le k
  have h2 := h.2.great
  have k2 := k.2.great
  unfold spanR
  split
  · exact good_from (by omega) (by omega)
  · exact good_no
theorem good_wit {r : Rg} {n : Nat} (h : Good r) (h0 : r ≠ noR) (hn : n < 4294967296) (hne : r ≠ fromR n n) : Good (witR r n) := by
  have h1 := good_le h
  have h2 := h.2
  have h3 := good_set h h0
  obtain ⟨rs, rl, rg⟩ := r
  simp only at h3 h1
  subst h3
  have h4 : rg < 4294967296 := h2.great
  unfold witR
  simp only
  split
  · rename_i e
    subst e
    refine good_from ?_ h4
    by_cases e2 : rg = n
    · subst e2; exact absurd rfl hne
    · omega
  · split
    · rename_i e1 e2
      subst e2
      exact good_from (by omega) (by omega)
    · exact h
theorem good_most {r : Rg} {n : Nat} (h : Good r) (hn : r.least ≤ n) : Good (atMostR r n) := by
  have h1 := good_le h
  have h2 := h.2.great
  exact good_from (by omega) (by omega)
theorem good_least {r : Rg} {n : Nat} (h : Good r) (hn : n ≤ r.great) : Good (atLeastR r n) := by
  have h1 := good_le h
  have h2 := h.2.great
  exact good_from (by omega) (by omega)
theorem KnR.setR {k : Kn} (h : KnR k) (n : Nat) {r : Rg} (hr : Good r) : KnR (k.set n r) := fun m hm => by
  show rgB (if m = n then r else k.r m) = true ∧ (if m = n then r else k.r m).Ok
  split
  · exact hr
  · exact h m hm
theorem noK_right : KnR noK := fun _ _ => good_no
theorem callK_right {k : Kn} (h : KnR k) : ∀ q, KnR (callK k q)
  | 0 => h.setR 0 good_all
  | q + 1 => (callK_right h q).setR (q + 1) good_no
theorem join_right {a b : Kn} (h : KnR a) (k : KnR b) : KnR (joinK a b) := by
  unfold joinK
  split
  · exact k
  · split
    · exact h
    · intro n hn
      show rgB (if n < 10 then spanR (a.r n) (b.r n) else a.r n) = true ∧ (if n < 10 then spanR (a.r n) (b.r n) else a.r n).Ok
      rw [if_pos hn]
      exact good_span (h n hn) (k n hn)
theorem KnR.ok {k : Kn} (h : KnR k) : ∀ n, n < 10 → (k.r n).Ok := fun n hn => (h n hn).2
theorem need_good {k : Kn} (h : KnR k) {n : Nat} (hn : n < 10) {r : Rg} (e : needE k n = .ok r) : Good r ∧ r ≠ noR := by
  unfold needE at e
  split at e
  · cases e
  · rename_i h0
    cases e
    exact ⟨h n hn, h0⟩
theorem fold_right {k n j : Kn} {d : Nat} (h : KnR k) (hd : d < 10) {o : Except Wrong Rg} {F : Rg → Rg → Except Wrong Rg} (ho : ∀ q, o = .ok q → Good q) (hF : ∀ r q m, Good r → Good q → F r q = .ok m → Good m) (e : foldE k d o F = .ok (n, j)) : KnR n ∧ KnR j := by
  unfold foldE at e
  cases h1 : needE k d with
  | error x => rw [h1] at e; cases e
  | ok r =>
    rw [h1, bindE_ok] at e
    cases h2 : o with
    | error x => rw [h2] at e; cases e
    | ok q =>
      rw [h2, bindE_ok] at e
      cases h3 : F r q with
      | error x => rw [h3] at e; cases e
      | ok m =>
        rw [h3, bindE_ok] at e
        cases e
        exact ⟨h.setR d (hF r q m (need_good h hd h1).1 (ho q h2) h3), noK_right⟩
theorem quo_right {f : Rg → Rg → Rg} (hf : ∀ r q, Good r → Good q → q.least ≠ 0 → Good (f r q)) : ∀ r q m, Good r → Good q → quoE f r q = .ok m → Good m := fun r q m h k e => by
  unfold quoE at e
  split at e
  · cases e
  · rename_i h0
    cases e
    exact hf r q h k h0
end Go.Proofs.YtodkehpldlmgaaaDoor
/- Behind an instruction that may be, what may be known may be. -/
namespace Go.Proofs.YtodkehpldlmgaaaDoor
open Go.RowKit

theorem bind_inv {α β : Type} {x : Except Wrong α} {f : α → Except Wrong β} {z : β} (h : bindE x f = .ok z) : ∃ a, x = .ok a ∧ f a = .ok z := by
  cases x with
  | error e => cases h
  | ok a => exact ⟨a, rfl, h⟩
theorem good_pow {m : Nat} (h : m ≤ 31) : Good (fromR (2 ^ m) (2 ^ m)) := good_from (Nat.le_refl _) (pow_ok h).1.great
theorem may_d {i : Ins} (h : MayI i) (n : Nat) (_e : i.op.toNat = n) (_hn : 1 ≤ n ∧ n ≤ 18 ∨ 20 ≤ n ∧ n ≤ 22) : i.dst.toNat < 10 := by
  have := h.1.2.1
  have := h.1.1
  omega
theorem may_s {i : Ins} (h : MayI i) (n : Nat) (_e : i.op.toNat = n) (_hn : n = 2 ∨ n = 4 ∨ n = 5 ∨ n = 7 ∨ 9 ≤ n ∧ n ≤ 11 ∨ 14 ≤ n ∧ n ≤ 18 ∨ n = 22) : i.src.toNat < 10 := by
  have := h.1.2.2.1
  have := h.1.1
  omega
theorem may_p {i : Ins} (h : MayI i) (n : Nat) (_e : i.op.toNat = n) (_hn : n = 12 ∨ n = 13) : i.imm ≤ 31 := by
  have := h.1.2.2.2.2
  have := h.1.1
  omega
theorem set2_right {k : Kn} (h : KnR k) {r : Rg} (d : Nat) (hr : Good r) : KnR (k.set d r) ∧ KnR noK := ⟨h.setR d hr, noK_right⟩
theorem good_im {i : Ins} (h : MayI i) : ∀ q, (Except.ok (fromR i.imm i.imm) : Except Wrong Rg) = .ok q → Good q := fun q e => by
  cases e; exact good_from (Nat.le_refl _) h.2
theorem good_pw {m : Nat} (h : m ≤ 31) : ∀ q, (Except.ok (fromR (2 ^ m) (2 ^ m)) : Except Wrong Rg) = .ok q → Good q := fun q e => by
  cases e; exact good_pow h
theorem fold_pure {f : Rg → Rg → Rg} (hf : ∀ r q, Good r → Good q → Good (f r q)) : ∀ r q m, Good r → Good q → (Except.ok (f r q) : Except Wrong Rg) = .ok m → Good m := fun r q m h k e => by
  cases e; exact hf r q h k
theorem outI_right {i : Ins} {c : Int} {k n j : Kn} (hi : MayI i) (h : KnR k) (e : outI i c k = .ok (n, j)) : KnR n ∧ KnR j := by
  have hs : i.src.toNat < 10 → ∀ q, needE k i.src.toNat = .ok q → Good q := fun hs q e => (need_good h hs e).1
  unfold outI at e
  simp only at e
  split at e
  · cases e; exact set2_right h _ (good_from (Nat.le_refl _) hi.2)
  · rename_i o
    obtain ⟨r, h1, h2⟩ := bind_inv e
    cases h2
    exact set2_right h _ (hs (may_s hi _ o (by omega)) r h1)
  · rename_i o; exact fold_right h (may_d hi _ o (by omega)) (good_im hi) (fold_pure fun _ _ => good_sum) e
  · rename_i o; exact fold_right h (may_d hi _ o (by omega)) (hs (may_s hi _ o (by omega))) (fold_pure fun _ _ => good_sum) e
  · rename_i o; exact fold_right h (may_d hi _ o (by omega)) (hs (may_s hi _ o (by omega))) (fold_pure fun _ _ => good_diff) e
  · rename_i o; exact fold_right h (may_d hi _ o (by omega)) (good_im hi) (fold_pure fun _ _ => good_prod) e
  · rename_i o; exact fold_right h (may_d hi _ o (by omega)) (hs (may_s hi _ o (by omega))) (fold_pure fun _ _ => good_prod) e
  · rename_i o; exact fold_right h (may_d hi _ o (by omega)) (good_im hi) (fold_pure fun _ _ h _ => good_com h) e
  · rename_i o; exact fold_right h (may_d hi _ o (by omega)) (hs (may_s hi _ o (by omega))) (fold_pure fun _ _ h _ => good_com h) e
  · rename_i o; exact fold_right h (may_d hi _ o (by omega)) (hs (may_s hi _ o (by omega))) (fold_pure fun _ _ => good_eit) e
  · rename_i o; exact fold_right h (may_d hi _ o (by omega)) (hs (may_s hi _ o (by omega))) (fold_pure fun _ _ => good_apa) e
  · rename_i o; exact fold_right h (may_d hi _ o (by omega)) (good_pw (may_p hi _ o (by omega))) (fold_pure fun _ _ => good_prod) e
  · rename_i o; exact fold_right h (may_d hi _ o (by omega)) (good_pw (may_p hi _ o (by omega))) (quo_right fun _ _ => good_quo) e
  · rename_i o; exact fold_right h (may_d hi _ o (by omega)) (hs (may_s hi _ o (by omega))) (quo_right fun _ _ => good_quo) e
  · rename_i o; exact fold_right h (may_d hi _ o (by omega)) (hs (may_s hi _ o (by omega))) (quo_right fun _ _ h _ _ => good_rest h) e
  · obtain ⟨r, h1, h2⟩ := bind_inv e
    split at h2
    · cases h2; exact set2_right h _ (good_from (Nat.zero_le _) (by decide))
    · cases h2
  · obtain ⟨r, h1, h2⟩ := bind_inv e
    split at h2
    · cases h2; exact set2_right h _ (good_from (Nat.zero_le _) (by decide))
    · cases h2
  · obtain ⟨r, h1, h2⟩ := bind_inv e
    obtain ⟨q, h3, h4⟩ := bind_inv h2
    split at h4
    · cases h4; exact ⟨h, noK_right⟩
    · cases h4
  · cases e; exact ⟨noK_right, h⟩
  · rename_i o
    obtain ⟨r, h1, h2⟩ := bind_inv e
    obtain ⟨g1, g2⟩ := need_good h (may_d hi _ o (by omega)) h1
    cases h2
    constructor
    · split
      · exact noK_right
      · rename_i h0; exact h.setR _ (good_wit g1 g2 hi.2 h0)
    · split
      · exact h.setR _ (good_from (Nat.le_refl _) hi.2)
      · exact noK_right
  · rename_i o
    obtain ⟨r, h1, h2⟩ := bind_inv e
    obtain ⟨g1, g2⟩ := need_good h (may_d hi _ o (by omega)) h1
    cases h2
    constructor
    · split
      · rename_i h0; exact h.setR _ (good_least g1 h0)
      · exact noK_right
    · split
      · rename_i h0; exact h.setR _ (good_most g1 (by omega))
      · exact noK_right
  · rename_i o
    obtain ⟨r, h1, h2⟩ := bind_inv e
    obtain ⟨q, h3, h4⟩ := bind_inv h2
    obtain ⟨g1, g2⟩ := need_good h (may_d hi _ o (by omega)) h1
    obtain ⟨g3, g4⟩ := need_good h (may_s hi _ o (by omega)) h3
    split at h4
    · cases h4; exact ⟨h, noK_right⟩
    · cases h4
      constructor
      · split
        · rename_i h0; exact (h.setR _ (good_least g1 h0)).setR _ (good_most g3 h0)
        · exact noK_right
      · split
        · rename_i h0; exact (h.setR _ (good_most g1 (by omega))).setR _ (good_least g3 (by omega))
        · exact noK_right
  · cases e; exact ⟨callK_right h 5, noK_right⟩
  · obtain ⟨r, h1, h2⟩ := bind_inv e
    cases h2
    exact ⟨noK_right, noK_right⟩
  · cases e; exact ⟨noK_right, noK_right⟩
end Go.Proofs.YtodkehpldlmgaaaDoor
/- All ways: their variable; a way is joined to those that lead to the same place. -/
namespace Go.Proofs.YtodkehpldlmgaaaDoor
open Go.RowKit

theorem Kn.cells_len (k : Kn) : k.cells.length = 31 := rfl
def zWays : Array Value := (List.replicate 256 noK.cells).flatten.toArray
set_option maxRecDepth 1000000 in
theorem info97 : (Tryd.prog.info? 97).map (fun i => (i.zero, i.size)) = some (some (.agg zWays), 7936) := by kernel_rfl
theorem flat_at : ∀ (L : List (List Value)), (∀ l ∈ L, l.length = 31) → ∀ (j i : Nat), j < L.length → i < 31 → L.flatten[j * 31 + i]? = (L[j]?.getD [])[i]?
  | [], _, _, _, hj, _ => by simp at hj
  | l :: L, h, 0, i, _, hi => by
    have hl : l.length = 31 := h l (by simp)
    rw [List.flatten_cons, Nat.zero_mul, Nat.zero_add, List.getElem?_append_left (by omega)]
    rfl
  | l :: L, h, j + 1, i, hj, hi => by
    have hl : l.length = 31 := h l (by simp)
    rw [List.flatten_cons, List.getElem?_append_right (by omega), show (j + 1) * 31 + i - l.length = j * 31 + i by omega, flat_at L (fun q hq => h q (by simp [hq])) j i (by simpa using hj) hi]
    simp
theorem zW_len (N : Nat) : (List.replicate N noK.cells).flatten.toArray.size = N * 31 := by
  rw [List.size_toArray, List.length_flatten, List.map_replicate, List.sum_replicate_nat]
  rfl
theorem zW_at (N j i : Nat) (hj : j < N) (hi : i < noK.cells.length) : (List.replicate N noK.cells).flatten.toArray[j * 31 + i]? = noK.cells[i]? := by
  rw [List.getElem?_toArray, flat_at _ (fun l hl => by rw [List.eq_of_mem_replicate hl]; rfl) j i (by rw [List.length_replicate]; exact hj) hi, List.getElem?_replicate, if_pos hj]
  rfl
/-- What is known by all ways, for each instruction, lies in a variable. -/
structure WaysAt (X : World) (wb : Nat) (ws : Nat → Kn) : Prop where
  has : ∃ cs, Has X wb cs 97 ∧ cs.size = 7936
  at_ : ∀ j, j < 256 → X.rangeAt wb (j * 31) (ws j).cells
theorem WaysAt.lt {X : World} {wb : Nat} {ws : Nat → Kn} (h : WaysAt X wb ws) : wb < X.heap.size := by
  obtain ⟨cs, h1, _⟩ := h.has; exact h1.lt
theorem range_eq {X X' : World} {b o : Nat} {l : List Value} (h : X.rangeAt b o l) (k : X'.heap[b]? = X.heap[b]?) : X'.rangeAt b o l := fun j v hv => (World.cell?_of_block (w := X) k).trans (h j v hv)
theorem WaysAt.below {X X' : World} {wb : Nat} {ws : Nat → Kn} (h : WaysAt X wb ws) (k : Below X.heap.size X X') : WaysAt X' wb ws := by
  obtain ⟨⟨cs, h1, h2⟩, h3⟩ := h
  exact ⟨⟨cs, h1.below k h1.lt, h2⟩, fun j hj => range_eq (h3 j hj) (k.block wb h1.lt)⟩
theorem WaysAt.ex {X X' : World} {wb c : Nat} {ws : Nat → Kn} (h : WaysAt X wb ws) (k : Ex c X X') (hc : wb ≠ c) : WaysAt X' wb ws := by
  obtain ⟨⟨cs, h1, h2⟩, h3⟩ := h
  exact ⟨⟨cs, h1.ex k hc, h2⟩, fun j hj => range_eq (h3 j hj) (k.block wb h1.lt hc)⟩
theorem WaysAt.zero {X : World} {wb : Nat} (h : Has X wb zWays 97) : WaysAt X wb (fun _ => noK) :=
  ⟨⟨zWays, h, (zW_len 256)⟩, fun j hj => has_range h _ _ fun i hi => zW_at 256 j i hj hi⟩
theorem has_setCells {b t : Nat} : ∀ (l : List Value) (o : Nat) (X : World) (cs : Array Value), Has X b cs t → ∃ cs', Has (X.setCells b o l) b cs' t ∧ cs'.size = cs.size ∧ Ex b X (X.setCells b o l)
  | [], o, X, cs, h => ⟨cs, h, rfl, Ex.refl _ _⟩
  | v :: r, o, X, cs, h => by
    obtain ⟨cs', h1, h2, h3⟩ := has_setCells r (o + 1) _ _ (h.set o v)
    exact ⟨cs', h1, by rw [h2]; simp, (Ex.set b X o v).trans h3⟩
theorem there_of {X : World} {b t o n : Nat} {cs : Array Value} (h : Has X b cs t) (hn : o + n ≤ cs.size) : X.there b o n := fun j hj =>
  ⟨by rw [h.cell, Array.getElem?_eq_getElem (by omega)]; rfl, h.free _⟩
theorem WaysAt.set {X : World} {wb : Nat} {ws : Nat → Kn} (h : WaysAt X wb ws) (to : Nat) (hto : to < 256) (k : Kn) : WaysAt (X.setCells wb (to * 31) k.cells) wb (upd ws to k) ∧ Ex wb X (X.setCells wb (to * 31) k.cells) := by
  obtain ⟨⟨cs, h1, h2⟩, h3⟩ := h
  obtain ⟨cs', g1, g2, g3⟩ := has_setCells k.cells (to * 31) X cs h1
  refine ⟨⟨⟨cs', g1, by omega⟩, fun j hj => ?_⟩, g3⟩
  by_cases e : j = to
  · subst e
    rw [upd_same]
    exact World.rangeAt_setCells_same X wb (j * 31) k.cells (there_of h1 (by rw [h2, k.cells_len]; omega))
  · rw [upd_other _ _ e]
    exact World.rangeAt_setCells_apart (h3 j hj) wb (to * 31) k.cells (by rw [k.cells_len, (ws j).cells_len]; omega)
def KOk (k : Kn) : Prop := ∀ n, n < 10 → (k.r n).Ok
def leadW (ws : Nat → Kn) (to : Nat) (k : Kn) : Nat → Kn := if k.come = true then upd ws to (joinK (ws to) k) else ws
theorem run_st_way {o : Oper} {ρ : Operand → Value} {X : World} (x y : Operand) (ho : o.op = .store 43 x y) (wb to : Nat) (ws : Nat → Kn) (k : Kn) (hx : ρ x = .pointer (some ⟨wb, to * 31, none⟩)) (hy : ρ y = .agg k.a) (h : WaysAt X wb ws) (hto : to < 256) :
    (execOp ρ o).run Tryd.prog X = .ok .skip (X.setCells wb (to * 31) k.cells) := by
  obtain ⟨⟨cs, h1, h2⟩, h3⟩ := h
  unfold execOp
  simp only [ho, hx, hy, Instr.storeAt, Instr.sureAddr, Sem.run_bind, Sem.run_pure, Result.andThen_ok, run_storeVar_mid (P := Tryd.prog) X wb (to * 31) 43 k.a (there_of h1 (by rw [h2, Kn.a_size]; omega)) (by rw [Kn.a_size]; kernel_rfl) (Kn.a_one k)]
  rfl
set_option maxRecDepth 10000 in
set_option maxHeartbeats 2000000 in
theorem lead_no (k : Kn) (wb : Nat) (to : Int) (w : World) (hk : k.come = false) :
    Calls Tryd.prog 40 #[.pointer (some ⟨wb, 0, none⟩), .int .i64 to, .agg k.a] w fun e w' => e = .returned (.tuple #[]) ∧ Below w.heap.size w w' := by
  have c0 : (w.alloc (.cells k.a 43)).cell? ⟨w.heap.size, 0, none⟩ = some (.bool k.come) := (has_new _ _ _ _ rfl : Has (w.alloc (.cells k.a 43)) w.heap.size k.a 43).cell 0
  rw [hk] at c0
  generalize k.a = ka at *
  go_enter Tryd.func40, Tryd.ntmps40
  go_wp2
  go_end0
  exact ⟨rfl, (Below.refl _ _).alloc (Nat.le_refl _) _⟩
set_option maxRecDepth 10000 in
set_option maxHeartbeats 2000000 in
theorem lead_yes (k : Kn) (wb to : Nat) (ws : Nat → Kn) (w : World) (hk : k.come = true) (hto : to < 256) (hW : WaysAt w wb ws) (h1 : KOk (ws to)) (h2 : KOk k) :
    Calls Tryd.prog 40 #[.pointer (some ⟨wb, 0, none⟩), .int .i64 (to : Int), .agg k.a] w fun e w' => e = .returned (.tuple #[]) ∧ WaysAt w' wb (upd ws to (joinK (ws to) k)) ∧ Ex wb w w' := by
  obtain ⟨W0, hW0⟩ : ∃ W0, W0 = w.alloc (.cells k.a 43) := ⟨_, rfl⟩
  have h5 : Has W0 w.heap.size k.a 43 := by rw [hW0]; exact has_new _ _ _ _ rfl
  have hB0 : Below w.heap.size w W0 := by rw [hW0]; exact (Below.refl _ _).alloc (Nat.le_refl _) _
  have hW1 := hW.below hB0
  have c0 : W0.cell? ⟨w.heap.size, 0, none⟩ = some (.bool k.come) := h5.cell 0
  rw [hk, hW0] at c0
  have hlt : (to : Int) < 256 := by omega
  have HT : Hid (to < 256) := hto
  have HWB : Hid (wb < w.heap.size) := hW.lt
  clear hk hW hto
  obtain ⟨ka, hka⟩ : ∃ ka, ka = k.a := ⟨_, rfl⟩
  have HKA : Hid (ka = k.a) := hka
  rw [← hka] at h5 hW0 c0 ⊢
  clear hka
  go_enter Tryd.func40, Tryd.ntmps40
  go_upto_region 2 with fail
  rw [← hW0]
  clear c0 hW0
  refine wp_region_inv (Φ := fun l vs X => Vals (fun q => match q with | 0 => some (.pointer (some ⟨wb, 0, none⟩)) | 1 => some (.int .i64 (to : Int)) | 2 => some (.pointer (some ⟨wb, 0, none⟩)) | 3 => some (.int .i64 (to : Int)) | 4 => some (.pointer (some ⟨wb, 0, none⟩)) | 5 => some (.pointer (some ⟨wb, to * 31, none⟩)) | 6 => some (.agg (ws to).a) | 7 => some (.agg k.a) | 8 => some (.agg (joinK (ws to) k).a) | 9 => some (.pointer (some ⟨wb, 0, none⟩)) | 10 => some (.pointer (some ⟨wb, to * 31, none⟩)) | _ => none) l vs ∧ Pre1 11 (Below W0.heap.size W0) (fun X => WaysAt X wb (upd ws to (joinK (ws to) k)) ∧ Ex wb w X) l X) (PQ := fun _ _ => False)
    (by kernel_rfl) (by kernel_rfl) (by kernel_rfl) (by kernel_rfl) ⟨Vals.none _ _, Pre1.start ((Below.refl _ _).drew)⟩ ?hop ?hend (fun _ _ _ _ h => h.elim)
  case hop =>
    refine ⟨?_, ?_, ?_, ?_, ?_, ?_, ?_, ?_, ?_, ?_, ?_, ?_, trivial⟩
    · intro l vs X A hA ⟨hV, hS⟩ hl hd hcl
      have hk := nY 11 hcl hl
      have hX := hS.1 hk
      have hB := hX
      have a0 := eO hA 0 rfl
      refine show_value (v := .pointer (some ⟨wb, 0, none⟩)) (X' := X) ?_ ⟨hV.upd (fun _ h => Option.some.inj h), Pre1.keep hk (by decide) (hX)⟩
      generalize A.eval = ρ at *
      clear hA hl hd hcl hV hS
      go_simp
    · intro l vs X A hA ⟨hV, hS⟩ hl hd hcl
      have hk := nY 11 hcl hl
      have hX := hS.1 hk
      have hB := hX
      have a1 := eO hA 1 rfl
      refine show_value (v := .int .i64 (to : Int)) (X' := X) ?_ ⟨hV.upd (fun _ h => Option.some.inj h), Pre1.keep hk (by decide) (hX)⟩
      generalize A.eval = ρ at *
      clear hA hl hd hcl hV hS
      go_simp
    · intro l vs X A hA ⟨hV, hS⟩ hl hd hcl
      have hk := nY 11 hcl hl
      have hX := hS.1 hk
      have hB := hX
      have a0 := eO hA 0 rfl
      refine show_value (v := .pointer (some ⟨wb, 0, none⟩)) (X' := X) ?_ ⟨hV.upd (fun _ h => Option.some.inj h), Pre1.keep hk (by decide) (hX)⟩
      generalize A.eval = ρ at *
      clear hA hl hd hcl hV hS
      go_simp
    · intro l vs X A hA ⟨hV, hS⟩ hl hd hcl
      have hk := nY 11 hcl hl
      have hX := hS.1 hk
      have hB := hX
      have a1 := eO hA 1 rfl
      refine show_value (v := .int .i64 (to : Int)) (X' := X) ?_ ⟨hV.upd (fun _ h => Option.some.inj h), Pre1.keep hk (by decide) (hX)⟩
      generalize A.eval = ρ at *
      clear hA hl hd hcl hV hS
      go_simp
    · intro l vs X A hA ⟨hV, hS⟩ hl hd hcl
      have hk := nY 11 hcl hl
      have hX := hS.1 hk
      have hB := hX
      have a10 := eN hA 10 2 hd hV rfl
      refine show_value (v := .pointer (some ⟨wb, 0, none⟩)) (X' := X) ?_ ⟨hV.upd (fun _ h => Option.some.inj h), Pre1.keep hk (by decide) (hX)⟩
      generalize A.eval = ρ at *
      clear hA hl hd hcl hV hS
      go_simp
    · intro l vs X A hA ⟨hV, hS⟩ hl hd hcl
      have hk := nY 11 hcl hl
      have hX := hS.1 hk
      have hB := hX
      have a11 := eN hA 11 3 hd hV rfl
      have a12 := eN hA 12 4 hd hV rfl
      refine show_value (v := .pointer (some ⟨wb, to * 31, none⟩)) (X' := X) ?_ ⟨hV.upd (fun _ h => Option.some.inj h), Pre1.keep hk (by decide) (hX)⟩
      clear hB hX
      generalize A.eval = ρ at *
      clear hA hl hd hcl hV hS
      go_simp
    · intro l vs X A hA ⟨hV, hS⟩ hl hd hcl
      have hk := nY 11 hcl hl
      have hX := hS.1 hk
      have hB := hX
      have a13 := eN hA 13 5 hd hV rfl
      refine show_value (v := .agg (ws to).a) (X' := X) (run_ld 43 _ rfl _ a13 (ld_row (l := (ws to).cells) ((hW1.below hB).at_ to HT.out) (by kernel_rfl))) ⟨hV.upd (fun _ h => Option.some.inj h), Pre1.keep hk (by decide) (hX)⟩
    · intro l vs X A hA ⟨hV, hS⟩ hl hd hcl
      have hk := nY 11 hcl hl
      have hX := hS.1 hk
      have hB := hX
      have a5 := eO hA 5 rfl
      refine show_value (v := .agg k.a) (X' := X) (run_ld 43 _ rfl _ a5 (ld_row (l := k.cells) (has_whole (by have := h5.below hB h5.lt; rw [HKA.out] at this; exact this)) (by kernel_rfl))) ⟨hV.upd (fun _ h => Option.some.inj h), Pre1.keep hk (by decide) (hX)⟩
    · intro l vs X A hA ⟨hV, hS⟩ hl hd hcl
      have hk := nY 11 hcl hl
      have hX := hS.1 hk
      have hB := hX
      have a14 := eN hA 14 6 hd hV rfl
      have a15 := eN hA 15 7 hd hV rfl
      have aF0 : A.eval (.func 74) = .func (.func 74) #[] #[] := rfl
      refine show_call (f := 74) (args := #[.agg (ws to).a, .agg k.a]) ?_ (join_any (ws to) k X h1 h2) ?_
      · generalize A.eval = ρ at *
        clear hA hl hd hcl hV hS
        go_simp
      · rintro e X' ⟨rfl, hB1⟩
        exact .inl ⟨_, rfl, hV.upd (fun _ h => Option.some.inj h), Pre1.keep hk (by decide) (hX.trans (hB1.mono hX.size))⟩
    · intro l vs X A hA ⟨hV, hS⟩ hl hd hcl
      have hk := nY 11 hcl hl
      have hX := hS.1 hk
      have hB := hX
      have a8 := eN hA 8 0 hd hV rfl
      refine show_value (v := .pointer (some ⟨wb, 0, none⟩)) (X' := X) ?_ ⟨hV.upd (fun _ h => Option.some.inj h), Pre1.keep hk (by decide) (hX)⟩
      generalize A.eval = ρ at *
      clear hA hl hd hcl hV hS
      go_simp
    · intro l vs X A hA ⟨hV, hS⟩ hl hd hcl
      have hk := nY 11 hcl hl
      have hX := hS.1 hk
      have hB := hX
      have a9 := eN hA 9 1 hd hV rfl
      have a17 := eN hA 17 9 hd hV rfl
      refine show_value (v := .pointer (some ⟨wb, to * 31, none⟩)) (X' := X) ?_ ⟨hV.upd (fun _ h => Option.some.inj h), Pre1.keep hk (by decide) (hX)⟩
      clear hB hX
      generalize A.eval = ρ at *
      clear hA hl hd hcl hV hS
      go_simp
    · intro l vs X A hA ⟨hV, hS⟩ hl hd hcl
      have hX := hS.1 hl
      have hB := hX
      have a16 := eN hA 16 8 hd hV rfl
      have a18 := eN hA 18 10 hd hV rfl
      have hg := hW1.below hX
      have hs := hg.set to HT.out (joinK (ws to) k)
      refine show_skip (X' := X.setCells wb (to * 31) (joinK (ws to) k).cells) (run_st_way _ _ rfl wb to ws (joinK (ws to) k) a18 a16 hg HT.out) ⟨hV.upd (fun _ h => by cases h), Pre1.last ⟨hs.1, (Ex.below (hB0.trans (hX.mono hB0.size))).trans hs.2⟩⟩
  case hend =>
    intro l vs X hl ⟨hV, hS⟩
    have hX := hS.2 (hl 11 (by decide))
    have v0 := hV 0 _ (hl 0 (by decide)) rfl
    have v1 := hV 1 _ (hl 1 (by decide)) rfl
    have v2 := hV 2 _ (hl 2 (by decide)) rfl
    have v3 := hV 3 _ (hl 3 (by decide)) rfl
    have v4 := hV 4 _ (hl 4 (by decide)) rfl
    have v5 := hV 5 _ (hl 5 (by decide)) rfl
    have v6 := hV 6 _ (hl 6 (by decide)) rfl
    have v7 := hV 7 _ (hl 7 (by decide)) rfl
    have v8 := hV 8 _ (hl 8 (by decide)) rfl
    have v9 := hV 9 _ (hl 9 (by decide)) rfl
    have v10 := hV 10 _ (hl 10 (by decide)) rfl
    clear hV hS hl
    simp only [canonL, if_true, v0, v1, v2, v3, v4, v5, v6, v7, v8, v9, v10]
    clear v0 v1 v2 v3 v4 v5 v6 v7 v8 v9 v10
    go_simp
    obtain ⟨g1, g2⟩ := hX
    go_wp2_with fail
    go_end0
    exact ⟨rfl, g1, g2⟩
end Go.Proofs.YtodkehpldlmgaaaDoor
/- How far an instruction leads. -/
namespace Go.Proofs.YtodkehpldlmgaaaDoor
open Go.RowKit

def reachI (i : Ins) : Int := if i.op = 24 then 0 else if 19 ≤ i.op ∧ i.op ≤ 22 then 1 + i.off else 1
set_option maxRecDepth 10000 in
set_option maxHeartbeats 2000000 in
theorem reach_any (i : Ins) (w : World) (h1 : -32768 ≤ i.off) (h2 : i.off ≤ 32767) :
    Calls Tryd.prog 41 #[.agg i.a] w fun e w' => e = .returned (.int .i64 (reachI i)) ∧ Below w.heap.size w w' := by
  obtain ⟨op, dst, src, off, imm⟩ := i
  simp only at h1 h2
  show Calls Tryd.prog 41 #[.agg #[.int .i64 op, .int .i64 dst, .int .i64 src, .int .i64 off, .int .u32 imm]] w _
  have e0 : wrap64 (1 + off) = 1 + off := by simp only [wrap64]; omega
  have fin : ∀ v : Int, v = reachI ⟨op, dst, src, off, imm⟩ → Ending.returned (.int .i64 v) = .returned (.int .i64 (reachI ⟨op, dst, src, off, imm⟩)) := fun v hv => by rw [hv]
  have HF : Hid (∀ v : Int, v = reachI ⟨op, dst, src, off, imm⟩ → Ending.returned (.int .i64 v) = .returned (.int .i64 (reachI ⟨op, dst, src, off, imm⟩))) := fin
  clear fin
  by_cases c24 : op = 24
  · have d24 : (op == 24) = true := by simpa using c24
    go_enter Tryd.func41, Tryd.ntmps41
    go_wp2
    go_ret
    exact ⟨HF.out _ (by unfold reachI; rw [if_pos c24]), (Below.refl _ _).alloc (Nat.le_refl _) _⟩
  · have d24 : (op == 24) = false := by simpa using c24
    by_cases cj : 19 ≤ op ∧ op ≤ 22
    · have hv : 1 + off = reachI ⟨op, dst, src, off, imm⟩ := by unfold reachI; rw [if_neg c24, if_pos cj]
      have HV : Hid (1 + off = reachI ⟨op, dst, src, off, imm⟩) := hv
      clear hv c24
      by_cases c19 : op = 19
      · have d : (op == 19) = true := by simpa using c19
        clear c19 cj
        go_enter Tryd.func41, Tryd.ntmps41
        go_wp2
        go_ret
        exact ⟨HF.out _ HV.out, (Below.refl _ _).alloc (Nat.le_refl _) _⟩
      · have d : (op == 19) = false := by simpa using c19
        by_cases c20 : op = 20
        · have f : (op == 20) = true := by simpa using c20
          clear c19 c20 cj
          go_enter Tryd.func41, Tryd.ntmps41
          go_wp2
          go_ret
          exact ⟨HF.out _ HV.out, (Below.refl _ _).alloc (Nat.le_refl _) _⟩
        · have f : (op == 20) = false := by simpa using c20
          by_cases c21 : op = 21
          · have g : (op == 21) = true := by simpa using c21
            clear c19 c20 c21 cj
            go_enter Tryd.func41, Tryd.ntmps41
            go_wp2
            go_ret
            exact ⟨HF.out _ HV.out, (Below.refl _ _).alloc (Nat.le_refl _) _⟩
          · have g : (op == 21) = false := by simpa using c21
            have q : (op == 22) = true := by simp; omega
            clear c19 c20 c21 cj
            go_enter Tryd.func41, Tryd.ntmps41
            go_wp2
            go_ret
            exact ⟨HF.out _ HV.out, (Below.refl _ _).alloc (Nat.le_refl _) _⟩
    · have hv : 1 = reachI ⟨op, dst, src, off, imm⟩ := by unfold reachI; rw [if_neg c24, if_neg cj]
      have HV : Hid (1 = reachI ⟨op, dst, src, off, imm⟩) := hv
      have d : (op == 19) = false := by simp; omega
      have f : (op == 20) = false := by simp; omega
      have g : (op == 21) = false := by simp; omega
      have q : (op == 22) = false := by simp; omega
      clear hv c24 cj
      go_enter Tryd.func41, Tryd.ntmps41
      go_wp2
      go_ret
      exact ⟨HF.out _ HV.out, (Below.refl _ _).alloc (Nat.le_refl _) _⟩
end Go.Proofs.YtodkehpldlmgaaaDoor
/- All the ways through a program, as a function of its instructions. -/
namespace Go.Proofs.YtodkehpldlmgaaaDoor
open Go.RowKit

/-- An instruction's turn: what is known on all the ways behind it, or what the program is given up by (none: it leads astray). -/
def turnE (n : Nat) (c : Int) (at_ : Nat) (i : Ins) (ws : Nat → Kn) : Except (Option Wrong) (Nat → Kn) :=
  if (ws at_).come = false then .ok ws
  else match outI i c (ws at_) with
    | .error x => .error (some x)
    | .ok p => if (n : Int) ≤ (at_ : Int) + reachI i then .error none else .ok (leadW (leadW ws (at_ + 1) p.1) (at_ + 1 + i.off.toNat) p.2)
def aheadE (n : Nat) (c : Int) : List Ins → Nat → (Nat → Kn) → Except (Option Wrong) (Nat → Kn)
  | [], _, ws => .ok ws
  | i :: l, at_, ws => match turnE n c at_ i ws with
    | .error x => .error x
    | .ok ws' => aheadE n c l (at_ + 1) ws'
/-- What is known ahead of the first instruction. -/
def comeK : Kn := ⟨true, fun _ => noR⟩
def startW : Nat → Kn := upd (fun _ => noK) 0 comeK
theorem startW_lead : leadW (fun _ => noK) 0 comeK = startW := rfl
theorem comeK_right : KnR comeK := fun _ _ => good_no
theorem upd_right {ws : Nat → Kn} (h : ∀ j, KnR (ws j)) (t : Nat) {k : Kn} (hk : KnR k) : ∀ j, KnR (upd ws t k j) := fun j => by
  unfold upd
  split
  · exact hk
  · exact h j
theorem startW_right : ∀ j, KnR (startW j) := upd_right (fun _ => noK_right) 0 comeK_right
theorem leadW_right {ws : Nat → Kn} (h : ∀ j, KnR (ws j)) (t : Nat) {k : Kn} (hk : KnR k) : ∀ j, KnR (leadW ws t k j) := fun j => by
  unfold leadW
  split
  · exact upd_right h t (join_right (h t) hk) j
  · exact h j
theorem turn_right {n : Nat} {c : Int} {at_ : Nat} {i : Ins} {ws ws' : Nat → Kn} (hi : MayI i) (h : ∀ j, KnR (ws j)) (e : turnE n c at_ i ws = .ok ws') : ∀ j, KnR (ws' j) := by
  unfold turnE at e
  split at e
  · cases e; exact h
  · cases h1 : outI i c (ws at_) with
    | error x => rw [h1] at e; cases e
    | ok p =>
      rw [h1] at e
      simp only at e
      split at e
      · cases e
      · cases e
        obtain ⟨g1, g2⟩ := outI_right hi (h at_) h1
        exact leadW_right (leadW_right h _ g1) _ g2
theorem ahead_right {n : Nat} {c : Int} : ∀ (l : List Ins) (at_ : Nat) (ws ws' : Nat → Kn), (∀ i, i ∈ l → MayI i) → (∀ j, KnR (ws j)) → aheadE n c l at_ ws = .ok ws' → ∀ j, KnR (ws' j)
  | [], _, ws, ws', _, h, e => by cases e; exact h
  | i :: l, at_, ws, ws', hl, h, e => by
    unfold aheadE at e
    cases h1 : turnE n c at_ i ws with
    | error x => rw [h1] at e; cases e
    | ok w2 =>
      rw [h1] at e
      exact ahead_right l (at_ + 1) w2 ws' (fun i hi => hl i (List.mem_cons_of_mem _ hi)) (turn_right (hl i (List.mem_cons_self ..)) h h1) e
/-- Where an instruction goes on, its reach says so. -/
theorem fold_come {k n j : Kn} {d : Nat} {o : Except Wrong Rg} {F : Rg → Rg → Except Wrong Rg} (e : foldE k d o F = .ok (n, j)) : j.come = false := by
  unfold foldE at e
  obtain ⟨r, _, e⟩ := bind_inv e
  obtain ⟨q, _, e⟩ := bind_inv e
  obtain ⟨m, _, e⟩ := bind_inv e
  cases e
  rfl
theorem out_jump {i : Ins} {c : Int} {k n j : Kn} (e : outI i c k = .ok (n, j)) (hj : j.come = true) : 19 ≤ i.op.toNat ∧ i.op.toNat ≤ 22 := by
  have no : j.come = false → 19 ≤ i.op.toNat ∧ i.op.toNat ≤ 22 := fun h => by rw [h] at hj; cases hj
  unfold outI at e
  simp only at e
  split at e
  case h_19 => rename_i o; omega
  case h_20 => rename_i o; omega
  case h_21 => rename_i o; omega
  case h_22 => rename_i o; omega
  case h_1 => cases e; exact no rfl
  case h_2 =>
    obtain ⟨r, _, e⟩ := bind_inv e
    cases e; exact no rfl
  case h_16 =>
    obtain ⟨r, _, e⟩ := bind_inv e
    split at e
    · cases e; exact no rfl
    · cases e
  case h_17 =>
    obtain ⟨r, _, e⟩ := bind_inv e
    split at e
    · cases e; exact no rfl
    · cases e
  case h_18 =>
    obtain ⟨r, _, e⟩ := bind_inv e
    obtain ⟨q, _, e⟩ := bind_inv e
    split at e
    · cases e; exact no rfl
    · cases e
  case h_23 => cases e; exact no rfl
  case h_24 =>
    obtain ⟨r, _, e⟩ := bind_inv e
    cases e; exact no rfl
  case h_25 => cases e; exact no rfl
  all_goals exact no (fold_come e)
theorem out_next {i : Ins} {c : Int} {k n j : Kn} (e : outI i c k = .ok (n, j)) (hn : n.come = true) : i.op.toNat ≠ 24 := fun h => by
  unfold outI at e
  rw [h] at e
  simp only at e
  obtain ⟨r, _, e⟩ := bind_inv e
  cases e
  cases hn
theorem reach_next {i : Ins} {c : Int} {k n j : Kn} (hi : MayI i) (e : outI i c k = .ok (n, j)) (hn : n.come = true) : 1 ≤ reachI i := by
  have h1 := out_next e hn
  have h2 := hi.1.2.2.2.1
  have h3 := hi.1.1
  unfold reachI
  rw [if_neg (by omega)]
  split
  · omega
  · omega
theorem reach_jump {i : Ins} {c : Int} {k n j : Kn} (hi : MayI i) (e : outI i c k = .ok (n, j)) (hj : j.come = true) : reachI i = 1 + i.off ∧ 0 ≤ i.off := by
  have h1 := out_jump e hj
  have h2 := hi.1.2.2.2.1
  have h3 := hi.1.1
  unfold reachI
  rw [if_neg (by omega), if_pos (by omega)]
  exact ⟨rfl, by omega⟩
end Go.Proofs.YtodkehpldlmgaaaDoor
/- What makes D of D and of something else. -/
namespace Go.Proofs.YtodkehpldlmgaaaDoor
open Go.RowKit
set_option maxRecDepth 10000 in
set_option maxHeartbeats 2000000 in
theorem fold_ok (i : Ins) (c : Int) (k : Kn) (d F G bf bg : Nat) (o m : Rg) (w : World) (hdst : i.dst = (d : Int)) (hdn : d < 10) (hk0 : k.r d ≠ noR) (hboxG : Has w bg #[.func (.func G) #[] #[]] 103) (hboxF : Has w bf #[.func (.func F) #[] #[]] 105)
    (heG : ∀ args X, (callFunc G args).run Tryd.prog X = .ok (.enter G args) X)
    (hG : ∀ X, Below w.heap.size w X → Calls Tryd.prog G #[.agg (stA i c k)] X fun e X' => e = .returned o.v ∧ Below X.heap.size X X')
    (heF : ∀ args X, (callFunc F args).run Tryd.prog X = .ok (.enter F args) X)
    (hF : ∀ X, Below w.heap.size w X → Calls Tryd.prog F #[(k.r d).v, o.v] X fun e X' => e = .returned m.v ∧ Below X.heap.size X X') :
    Calls Tryd.prog 79 #[.agg (stA i c k), .pointer (some ⟨bg, 0, none⟩), .pointer (some ⟨bf, 0, none⟩)] w fun e w' => e = .returned (two (k.set d m) noK) ∧ Below w.heap.size w w' := by
  obtain ⟨W0, hW0⟩ : ∃ W0, W0 = ((w.alloc (.cells (stA i c k) 82)).alloc (.cells noK.a 43)).alloc (.cells noK.a 43) := ⟨_, rfl⟩
  obtain ⟨hst, h3, h4, hB0, hz0⟩ := ways_world i c k w W0 hW0
  have HZ : Hid (W0.heap.size = w.heap.size + 3) := hz0
  clear hz0
  have hbG := hboxG.below hB0 hboxG.lt
  have hbF := hboxF.below hB0 hboxF.lt
  go_enter Tryd.func79, Tryd.ntmps79
  go_upto_region 1 with fail
  refine named2 (p := fun X => Code.wp _ _ _ _ X) ?_
  intro W9 hW9
  have hW : W0 = W9 := hW0.trans hW9.symm
  subst hW
  clear hW9 hW0
  refine wp_region_inv (Φ := fun l vs X => Vals (fun q => match q with | 0 => some (.agg (stA i c k)) | 1 => some ((k.r d).v) | 2 => some (.func (.func G) #[] #[]) | 3 => some (.agg (stA i c k)) | 4 => some (o.v) | _ => none) l vs ∧ Ph2 7 8 (Two W0.heap.size 40 noR.a W0 5 6) (fun vs X => Both W0.heap.size 40 (k.r d).a noR.a W0 (vs 5) (vs 6) X) (fun vs X => Both W0.heap.size 40 (k.r d).a o.a W0 (vs 5) (vs 6) X) l vs X) (PQ := fun _ _ => False)
    (by kernel_rfl) (by kernel_rfl) (by kernel_rfl) (by kernel_rfl) ⟨Vals.none _ _, Ph2.start (Two.start ((Below.refl _ _).drew) (Nat.le_refl _))⟩ ?hop ?hend (fun _ _ _ _ h => h.elim)
  case hop =>
    refine ⟨?_, ?_, ?_, ?_, ?_, ?_, ?_, ?_, ?_, trivial⟩
    · intro l vs X A hA ⟨hV, hS⟩ hl hd hcl
      have hj := nY 7 hcl hl
      have hk := nY 8 hcl hl
      have hX := hS.1 hj
      have hB := hX.below
      have a3 := eO hA 3 rfl
      refine show_value (v := .agg (stA i c k)) (X' := X) (run_ld 82 _ rfl _ a3 (ld_row (l := stCells i c k) (has_whole (hst.below hB hst.lt)) (by kernel_rfl))) ⟨hV.upd (fun _ h => Option.some.inj h), Ph2.keep hj hk (by decide) (by decide) (hX.grow (Below.refl _ _) (by decide) (by decide) _)⟩
    · intro l vs X A hA ⟨hV, hS⟩ hl hd hcl
      have hj := nY 7 hcl hl
      have hk := nY 8 hcl hl
      have hX := hS.1 hj
      have hB := hX.below
      have a8 := eN hA 8 0 hd hV rfl
      have aF0 : A.eval (.func 80) = .func (.func 80) #[] #[] := rfl
      refine show_call (f := 80) (args := #[.agg (stA i c k)]) ?_ (dst_ok i c k d X hdst hdn hk0) ?_
      · generalize A.eval = ρ at *
        clear hA hl hd hcl hV hS
        go_simp
      · rintro e X' ⟨rfl, hB1⟩
        exact .inl ⟨_, rfl, hV.upd (fun _ h => Option.some.inj h), Ph2.keep hj hk (by decide) (by decide) (hX.grow hB1 (by decide) (by decide) _)⟩
    · intro l vs X A hA ⟨hV, hS⟩ hl hd hcl
      have hj := nY 7 hcl hl
      have hk := nY 8 hcl hl
      have hX := hS.1 hj
      have hB := hX.below
      have a1 := eO hA 1 rfl
      have cc := (hbG.below hB hbG.lt).cell 0
      refine show_value (v := .func (.func G) #[] #[]) (X' := X) ?_ ⟨hV.upd (fun _ h => Option.some.inj h), Ph2.keep hj hk (by decide) (by decide) (hX.grow (Below.refl _ _) (by decide) (by decide) _)⟩
      generalize A.eval = ρ at *
      clear hA hl hd hcl hV hS
      go_simp
    · intro l vs X A hA ⟨hV, hS⟩ hl hd hcl
      have hj := nY 7 hcl hl
      have hk := nY 8 hcl hl
      have hX := hS.1 hj
      have hB := hX.below
      have a3 := eO hA 3 rfl
      refine show_value (v := .agg (stA i c k)) (X' := X) (run_ld 82 _ rfl _ a3 (ld_row (l := stCells i c k) (has_whole (hst.below hB hst.lt)) (by kernel_rfl))) ⟨hV.upd (fun _ h => Option.some.inj h), Ph2.keep hj hk (by decide) (by decide) (hX.grow (Below.refl _ _) (by decide) (by decide) _)⟩
    · intro l vs X A hA ⟨hV, hS⟩ hl hd hcl
      have hj := nY 7 hcl hl
      have hk := nY 8 hcl hl
      have hX := hS.1 hj
      have hB := hX.below
      have a10 := eN hA 10 2 hd hV rfl
      have a11 := eN hA 11 3 hd hV rfl
      refine show_call (f := G) (args := #[.agg (stA i c k)]) ?_ (hG X (hB0.trans (hB.mono hB0.size))) ?_
      · generalize A.eval = ρ at *
        clear hA hl hd hcl hV hS
        go_simp
      · rintro e X' ⟨rfl, hB1⟩
        exact .inl ⟨_, rfl, hV.upd (fun _ h => Option.some.inj h), Ph2.keep hj hk (by decide) (by decide) (hX.grow hB1 (by decide) (by decide) _)⟩
    · intro l vs X A hA ⟨hV, hS⟩ hl hd hcl
      have hj := nY 7 hcl hl
      have hk := nY 8 hcl hl
      have hX := hS.1 hj
      have hB := hX.below
      refine show_value (v := .pointer (some ⟨X.heap.size, 0, none⟩)) (X' := X.alloc (.cells noR.a 40)) ?_ ⟨hV.upd (fun _ h => by cases h), Ph2.keep hj hk (by decide) (by decide) (hX.mkFst (by decide))⟩
      generalize A.eval = ρ at *
      clear hA hl hd hcl hV hS
      rfl
    · intro l vs X A hA ⟨hV, hS⟩ hl hd hcl
      have hj := nY 7 hcl hl
      have hk := nY 8 hcl hl
      have hX := hS.1 hj
      have hB := hX.below
      refine show_value (v := .pointer (some ⟨X.heap.size, 0, none⟩)) (X' := X.alloc (.cells noR.a 40)) ?_ ⟨hV.upd (fun _ h => by cases h), Ph2.keep hj hk (by decide) (by decide) (hX.mkSnd (by decide))⟩
      generalize A.eval = ρ at *
      clear hA hl hd hcl hV hS
      rfl
    · intro l vs X A hA ⟨hV, hS⟩ hl hd hcl
      have hk := nY 8 hcl hl
      have hX := hS.1 hl
      have a6 := eval_new hA 6 5 (by kernel_rfl) (by kernel_rfl) (by kernel_rfl) (hd 5 (by kernel_rfl)) (rfl : vs 5 = vs 5)
      have a9 := eN hA 9 1 hd hV rfl
      obtain ⟨b, hb, hH, hT⟩ := (hX.both (hd 5 (by kernel_rfl)) (hd 6 (by kernel_rfl))).setFst (x' := (k.r d).a)
      rw [hb] at a6
      refine show_skip (run_st_row 40 _ _ rfl b _ _ _ a6 a9 hH (by kernel_rfl) (by kernel_rfl) (Rg.a_one _)) ⟨hV.upd (fun _ h => by cases h), Ph2.mid hk (by decide) ?_⟩
      exact hT
    · intro l vs X A hA ⟨hV, hS⟩ hl hd hcl
      have hX := hS.2.1 (hd 7 (by kernel_rfl)) hl
      have a7 := eval_new hA 7 6 (by kernel_rfl) (by kernel_rfl) (by kernel_rfl) (hd 6 (by kernel_rfl)) (rfl : vs 6 = vs 6)
      have a12 := eN hA 12 4 hd hV rfl
      obtain ⟨b, hb, hH, hT⟩ := hX.setSnd (y' := o.a)
      rw [hb] at a7
      refine show_skip (run_st_row 40 _ _ rfl b _ _ _ a7 a12 hH (by kernel_rfl) (by kernel_rfl) (Rg.a_one _)) ⟨hV.upd (fun _ h => by cases h), Ph2.last (hd 7 (by kernel_rfl)) ?_⟩
      exact hT
  case hend =>
    intro l vs X hl ⟨hV, hS⟩
    have hX := hS.2.2 (hl 8 (by decide))
    have v0 := hV 0 _ (hl 0 (by decide)) rfl
    have v1 := hV 1 _ (hl 1 (by decide)) rfl
    have v2 := hV 2 _ (hl 2 (by decide)) rfl
    have v3 := hV 3 _ (hl 3 (by decide)) rfl
    have v4 := hV 4 _ (hl 4 (by decide)) rfl
    clear hV hS hl
    obtain ⟨b6, b7, u6, u7, g6, g7, hne, hb6, hb7, hB9⟩ := hX
    simp only [canonL, if_true, v0, v1, v2, v3, v4, u6, u7]
    clear v0 v1 v2 v3 v4 u6 u7
    go_simp
    have hst1 := hst.below hB9 hst.lt
    have h31 := h3.below hB9 h3.lt
    have h41 := h4.below hB9 h4.lt
    have hf1 := hbF.below hB9 hbF.lt
    have hB01 : Below w.heap.size w X := hB0.trans (hB9.mono hB0.size)
    have hw1 := hB01.size
    obtain ⟨W1, hW1⟩ : ∃ W1, W1 = X := ⟨_, rfl⟩
    subst hW1
    clear hst h3 h4 hbF hbG hB9 hB0
    go_upto_region 2 with fail
    refine wp_region_inv (Φ := fun l vs X => Vals (fun q => match q with | 0 => some (.agg (stA i c k)) | 1 => some (.func (.func F) #[] #[]) | 2 => some ((k.r d).v) | 3 => some (o.v) | 4 => some (m.v) | 5 => some (.agg (k.set d m).a) | 6 => some (.agg noK.a) | _ => none) l vs ∧ Pre2 7 8 (Below W1.heap.size W1) (fun X => Below w.heap.size w X ∧ Has X (w.heap.size + 1) ((k.set d m).a) 43 ∧ Has X (w.heap.size + 2) (noK.a) 43) (fun X => Below w.heap.size w X ∧ Has X (w.heap.size + 1) ((k.set d m).a) 43 ∧ Has X (w.heap.size + 2) (noK.a) 43) l X) (PQ := fun _ _ => False)
      (by kernel_rfl) (by kernel_rfl) (by kernel_rfl) (by kernel_rfl) ⟨Vals.none _ _, Pre2.start ((Below.refl _ _).drew)⟩ ?hop ?hend (fun _ _ _ _ h => h.elim)
    case hop =>
      refine ⟨?_, ?_, ?_, ?_, ?_, ?_, ?_, ?_, ?_, trivial⟩
      · intro l vs X A hA ⟨hV, hS⟩ hl hd hcl
        have hj := nY 7 hcl hl
        have hk := nY 8 hcl hl
        have hX := hS.1 hj
        have hB := hX
        have a3 := eO hA 3 rfl
        refine show_value (v := .agg (stA i c k)) (X' := X) (run_ld 82 _ rfl _ a3 (ld_row (l := stCells i c k) (has_whole (hst1.below hB hst1.lt)) (by kernel_rfl))) ⟨hV.upd (fun _ h => Option.some.inj h), Pre2.keep hj hk (by decide) (by decide) (hX)⟩
      · intro l vs X A hA ⟨hV, hS⟩ hl hd hcl
        have hj := nY 7 hcl hl
        have hk := nY 8 hcl hl
        have hX := hS.1 hj
        have hB := hX
        have a2 := eO hA 2 rfl
        have cc := (hf1.below hB hf1.lt).cell 0
        refine show_value (v := .func (.func F) #[] #[]) (X' := X) ?_ ⟨hV.upd (fun _ h => Option.some.inj h), Pre2.keep hj hk (by decide) (by decide) (hX)⟩
        generalize A.eval = ρ at *
        clear hA hl hd hcl hV hS
        go_simp
      · intro l vs X A hA ⟨hV, hS⟩ hl hd hcl
        have hj := nY 7 hcl hl
        have hk := nY 8 hcl hl
        have hX := hS.1 hj
        have hB := hX
        have a6 := eO hA 6 rfl
        refine show_value (v := (k.r d).v) (X' := X) (run_ld 40 _ rfl _ a6 (ld_row (l := (k.r d).cells) (has_whole (hb6.below hB hb6.lt)) (by kernel_rfl))) ⟨hV.upd (fun _ h => Option.some.inj h), Pre2.keep hj hk (by decide) (by decide) (hX)⟩
      · intro l vs X A hA ⟨hV, hS⟩ hl hd hcl
        have hj := nY 7 hcl hl
        have hk := nY 8 hcl hl
        have hX := hS.1 hj
        have hB := hX
        have a7 := eO hA 7 rfl
        refine show_value (v := o.v) (X' := X) (run_ld 40 _ rfl _ a7 (ld_row (l := o.cells) (has_whole (hb7.below hB hb7.lt)) (by kernel_rfl))) ⟨hV.upd (fun _ h => Option.some.inj h), Pre2.keep hj hk (by decide) (by decide) (hX)⟩
      · intro l vs X A hA ⟨hV, hS⟩ hl hd hcl
        have hj := nY 7 hcl hl
        have hk := nY 8 hcl hl
        have hX := hS.1 hj
        have hB := hX
        have a14 := eN hA 14 1 hd hV rfl
        have a15 := eN hA 15 2 hd hV rfl
        have a16 := eN hA 16 3 hd hV rfl
        refine show_call (f := F) (args := #[(k.r d).v, o.v]) ?_ (hF X (hB01.trans (hB.mono hB01.size))) ?_
        · generalize A.eval = ρ at *
          clear hA hl hd hcl hV hS
          go_simp
        · rintro e X' ⟨rfl, hB1⟩
          exact .inl ⟨_, rfl, hV.upd (fun _ h => Option.some.inj h), Pre2.keep hj hk (by decide) (by decide) (hX.trans (hB1.mono hX.size))⟩
      · intro l vs X A hA ⟨hV, hS⟩ hl hd hcl
        have hj := nY 7 hcl hl
        have hk := nY 8 hcl hl
        have hX := hS.1 hj
        have hB := hX
        have a13 := eN hA 13 0 hd hV rfl
        have a17 := eN hA 17 4 hd hV rfl
        have aF0 : A.eval (.func 76) = .func (.func 76) #[] #[] := rfl
        refine show_call (f := 76) (args := #[.agg (stA i c k), m.v]) ?_ (with_any i c k d m X hdst hdn) ?_
        · generalize A.eval = ρ at *
          clear hA hl hd hcl hV hS
          go_simp
        · rintro e X' ⟨rfl, hB1⟩
          exact .inl ⟨_, rfl, hV.upd (fun _ h => Option.some.inj h), Pre2.keep hj hk (by decide) (by decide) (hX.trans (hB1.mono hX.size))⟩
      · intro l vs X A hA ⟨hV, hS⟩ hl hd hcl
        have hk := nY 8 hcl hl
        have a5 := eO hA 5 rfl
        cases hj : l 7 with
        | true =>
          have hX := hS.2.1 hj hk
          exact show_value (v := .agg noK.a) (X' := X) (run_ld 43 _ rfl _ a5 (ld_row (l := noK.cells) (has_whole hX.2.2) (by kernel_rfl))) ⟨hV.upd (fun _ h => Option.some.inj h), Pre2.keepMid hj hk (by decide) (by decide) hX⟩
        | false =>
          have hX := hS.1 hj
          have hB := hX
          exact show_value (v := .agg noK.a) (X' := X) (run_ld 43 _ rfl _ a5 (ld_row (l := noK.cells) (has_whole (h41.below hB h41.lt)) (by kernel_rfl))) ⟨hV.upd (fun _ h => Option.some.inj h), Pre2.keep hj hk (by decide) (by decide) hX⟩
      · intro l vs X A hA ⟨hV, hS⟩ hl hd hcl
        have hk := nY 8 hcl hl
        have hX := hS.1 hl
        have a4 := eO hA 4 rfl
        have a18 := eN hA 18 5 hd hV rfl
        refine show_skip (X' := X.setRow (w.heap.size + 1) ((k.set d m).a)) (run_st_row 43 _ _ rfl (w.heap.size + 1) _ _ _ a4 a18 (h31.below hX h31.lt) (by kernel_rfl) (by kernel_rfl) (Kn.a_one _)) ⟨hV.upd (fun _ h => by cases h), Pre2.mid hk (by decide) ⟨setRow_below (hB01.trans (hX.mono hB01.size)) (by omega) _, setRow_has (h31.below hX h31.lt) _, (h41.below hX h41.lt).ex (setRow_ex _ _ _) (by omega)⟩⟩
      · intro l vs X A hA ⟨hV, hS⟩ hl hd hcl
        have hX := hS.2.1 (hd 7 (by kernel_rfl)) hl
        have a5 := eO hA 5 rfl
        have a19 := eN hA 19 6 hd hV rfl
        refine show_skip (X' := X.setRow (w.heap.size + 2) (noK.a)) (run_st_row 43 _ _ rfl (w.heap.size + 2) _ _ _ a5 a19 (hX.2.2) (by kernel_rfl) (by kernel_rfl) (Kn.a_one _)) ⟨hV.upd (fun _ h => by cases h), Pre2.last (hd 7 (by kernel_rfl)) ⟨setRow_below hX.1 (by omega) _, hX.2.1.ex (setRow_ex _ _ _) (by omega), setRow_has hX.2.2 _⟩⟩
    case hend =>
      intro l vs X hl ⟨hV, hS⟩
      have hX := hS.2.2 (hl 8 (by decide))
      have v0 := hV 0 _ (hl 0 (by decide)) rfl
      have v1 := hV 1 _ (hl 1 (by decide)) rfl
      have v2 := hV 2 _ (hl 2 (by decide)) rfl
      have v3 := hV 3 _ (hl 3 (by decide)) rfl
      have v4 := hV 4 _ (hl 4 (by decide)) rfl
      have v5 := hV 5 _ (hl 5 (by decide)) rfl
      have v6 := hV 6 _ (hl 6 (by decide)) rfl
      clear hV hS hl
      simp only [canonL, if_true, v0, v1, v2, v3, v4, v5, v6]
      clear v0 v1 v2 v3 v4 v5 v6
      go_simp
      obtain ⟨hB9, h5, h6⟩ := hX
      go_wp2_with fail
      refine bodyPost_ret (results_rows2 rfl _ _ (w.heap.size + 1) (w.heap.size + 2) 43 _ _ _ rfl rfl h5 h6 Tryd.underlying43 rfl (by kernel_rfl) (by kernel_rfl)) rfl ?_
      exact ⟨rfl, hB9⟩
set_option maxRecDepth 10000 in
set_option maxHeartbeats 2000000 in
theorem fold_dno (i : Ins) (c : Int) (k : Kn) (d F G bf bg : Nat) (w : World) (hdst : i.dst = (d : Int)) (hdn : d < 10) (hk0 : k.r d = noR) (hboxG : Has w bg #[.func (.func G) #[] #[]] 103) (hboxF : Has w bf #[.func (.func F) #[] #[]] 105) :
    Calls Tryd.prog 79 #[.agg (stA i c k), .pointer (some ⟨bg, 0, none⟩), .pointer (some ⟨bf, 0, none⟩)] w fun e w' => e = .panicked Wrong.unset.entry ∧ Below w.heap.size w w' := by
  obtain ⟨W0, hW0⟩ : ∃ W0, W0 = ((w.alloc (.cells (stA i c k) 82)).alloc (.cells noK.a 43)).alloc (.cells noK.a 43) := ⟨_, rfl⟩
  obtain ⟨hst, h3, h4, hB0, hz0⟩ := ways_world i c k w W0 hW0
  have HZ : Hid (W0.heap.size = w.heap.size + 3) := hz0
  clear hz0
  have hbG := hboxG.below hB0 hboxG.lt
  have hbF := hboxF.below hB0 hboxF.lt
  go_enter Tryd.func79, Tryd.ntmps79
  go_upto_region 1 with fail
  refine named2 (p := fun X => Code.wp _ _ _ _ X) ?_
  intro W9 hW9
  have hW : W0 = W9 := hW0.trans hW9.symm
  subst hW
  clear hW9 hW0
  refine wp_region_inv (Φ := fun l vs X => Vals (fun q => match q with | 0 => some (.agg (stA i c k)) | 2 => some (.func (.func G) #[] #[]) | 3 => some (.agg (stA i c k)) | _ => none) l vs ∧ Ph2 7 8 (Two W0.heap.size 40 noR.a W0 5 6) (fun vs X => Both W0.heap.size 40 noR.a noR.a W0 (vs 5) (vs 6) X) (fun vs X => Both W0.heap.size 40 noR.a noR.a W0 (vs 5) (vs 6) X) l vs X ∧ l 1 = false) (PQ := fun q X => q = Wrong.unset.entry ∧ Below W0.heap.size W0 X)
    (by kernel_rfl) (by kernel_rfl) (by kernel_rfl) (by kernel_rfl) ⟨Vals.none _ _, Ph2.start (Two.start ((Below.refl _ _).drew) (Nat.le_refl _)), rfl⟩ ?hop ?hend (fun c a X hq hp => ⟨hq, by rw [hp.1]; exact ⟨rfl, hB0.trans (hp.2.mono hB0.size)⟩⟩)
  case hop =>
    refine ⟨?_, ?_, ?_, ?_, ?_, ?_, ?_, ?_, ?_, trivial⟩
    · intro l vs X A hA ⟨hV, hS, hN1⟩ hl hd hcl
      have hj := nY 7 hcl hl
      have hk := nY 8 hcl hl
      have hX := hS.1 hj
      have hB := hX.below
      have a3 := eO hA 3 rfl
      refine show_value (v := .agg (stA i c k)) (X' := X) (run_ld 82 _ rfl _ a3 (ld_row (l := stCells i c k) (has_whole (hst.below hB hst.lt)) (by kernel_rfl))) ⟨hV.upd (fun _ h => Option.some.inj h), Ph2.keep hj hk (by decide) (by decide) (hX.grow (Below.refl _ _) (by decide) (by decide) _), (upd_other _ _ (by decide)).trans hN1⟩
    · intro l vs X A hA ⟨hV, hS, hN1⟩ hl hd hcl
      have hj := nY 7 hcl hl
      have hk := nY 8 hcl hl
      have hX := hS.1 hj
      have hB := hX.below
      have a8 := eN hA 8 0 hd hV rfl
      have aF0 : A.eval (.func 80) = .func (.func 80) #[] #[] := rfl
      refine show_call (f := 80) (args := #[.agg (stA i c k)]) ?_ (dst_no i c k d X hdst hdn hk0) ?_
      · generalize A.eval = ρ at *
        clear hA hl hd hcl hV hS
        go_simp
      · rintro e X' ⟨rfl, hB1⟩
        exact .inr ⟨_, rfl, rfl, hB.trans (hB1.mono hX.size)⟩
    · intro l vs X A hA ⟨hV, hS, hN1⟩ hl hd hcl
      have hj := nY 7 hcl hl
      have hk := nY 8 hcl hl
      have hX := hS.1 hj
      have hB := hX.below
      have a1 := eO hA 1 rfl
      have cc := (hbG.below hB hbG.lt).cell 0
      refine show_value (v := .func (.func G) #[] #[]) (X' := X) ?_ ⟨hV.upd (fun _ h => Option.some.inj h), Ph2.keep hj hk (by decide) (by decide) (hX.grow (Below.refl _ _) (by decide) (by decide) _), (upd_other _ _ (by decide)).trans hN1⟩
      generalize A.eval = ρ at *
      clear hA hl hd hcl hV hS
      go_simp
    · intro l vs X A hA ⟨hV, hS, hN1⟩ hl hd hcl
      have hj := nY 7 hcl hl
      have hk := nY 8 hcl hl
      have hX := hS.1 hj
      have hB := hX.below
      have a3 := eO hA 3 rfl
      refine show_value (v := .agg (stA i c k)) (X' := X) (run_ld 82 _ rfl _ a3 (ld_row (l := stCells i c k) (has_whole (hst.below hB hst.lt)) (by kernel_rfl))) ⟨hV.upd (fun _ h => Option.some.inj h), Ph2.keep hj hk (by decide) (by decide) (hX.grow (Below.refl _ _) (by decide) (by decide) _), (upd_other _ _ (by decide)).trans hN1⟩
    · intro l vs X A hA ⟨hV, hS, hN1⟩ hl hd hcl
      have hj := nY 7 hcl hl
      have hk := nY 8 hcl hl
      have hX := hS.1 hj
      have hB := hX.below
      exact absurd (hd 1 (by kernel_rfl)) (by rw [hN1]; decide)
    · intro l vs X A hA ⟨hV, hS, hN1⟩ hl hd hcl
      have hj := nY 7 hcl hl
      have hk := nY 8 hcl hl
      have hX := hS.1 hj
      have hB := hX.below
      refine show_value (v := .pointer (some ⟨X.heap.size, 0, none⟩)) (X' := X.alloc (.cells noR.a 40)) ?_ ⟨hV.upd (fun _ h => by cases h), Ph2.keep hj hk (by decide) (by decide) (hX.mkFst (by decide)), (upd_other _ _ (by decide)).trans hN1⟩
      generalize A.eval = ρ at *
      clear hA hl hd hcl hV hS
      rfl
    · intro l vs X A hA ⟨hV, hS, hN1⟩ hl hd hcl
      have hj := nY 7 hcl hl
      have hk := nY 8 hcl hl
      have hX := hS.1 hj
      have hB := hX.below
      refine show_value (v := .pointer (some ⟨X.heap.size, 0, none⟩)) (X' := X.alloc (.cells noR.a 40)) ?_ ⟨hV.upd (fun _ h => by cases h), Ph2.keep hj hk (by decide) (by decide) (hX.mkSnd (by decide)), (upd_other _ _ (by decide)).trans hN1⟩
      generalize A.eval = ρ at *
      clear hA hl hd hcl hV hS
      rfl
    · intro l vs X A hA ⟨hV, hS, hN1⟩ hl hd hcl
      have hk := nY 8 hcl hl
      have hX := hS.1 hl
      exact absurd (hd 1 (by kernel_rfl)) (by rw [hN1]; decide)
    · intro l vs X A hA ⟨hV, hS, hN1⟩ hl hd hcl
      have hX := hS.2.1 (hd 7 (by kernel_rfl)) hl
      exact absurd (hd 1 (by kernel_rfl)) (by rw [hN1]; decide)
  case hend =>
    intro l vs X hl ⟨hV, hS, hN1⟩
    exact absurd (hl 1 (by decide)) (by rw [hN1]; decide)
set_option maxRecDepth 10000 in
set_option maxHeartbeats 2000000 in
theorem fold_ono (i : Ins) (c : Int) (k : Kn) (d F G bf bg : Nat) (x : Wrong) (w : World) (hdst : i.dst = (d : Int)) (hdn : d < 10) (hk0 : k.r d ≠ noR) (hboxG : Has w bg #[.func (.func G) #[] #[]] 103) (hboxF : Has w bf #[.func (.func F) #[] #[]] 105)
    (heG : ∀ args X, (callFunc G args).run Tryd.prog X = .ok (.enter G args) X)
    (hG : ∀ X, Below w.heap.size w X → Calls Tryd.prog G #[.agg (stA i c k)] X fun e X' => e = .panicked x.entry ∧ Below X.heap.size X X') :
    Calls Tryd.prog 79 #[.agg (stA i c k), .pointer (some ⟨bg, 0, none⟩), .pointer (some ⟨bf, 0, none⟩)] w fun e w' => e = .panicked x.entry ∧ Below w.heap.size w w' := by
  obtain ⟨W0, hW0⟩ : ∃ W0, W0 = ((w.alloc (.cells (stA i c k) 82)).alloc (.cells noK.a 43)).alloc (.cells noK.a 43) := ⟨_, rfl⟩
  obtain ⟨hst, h3, h4, hB0, hz0⟩ := ways_world i c k w W0 hW0
  have HZ : Hid (W0.heap.size = w.heap.size + 3) := hz0
  clear hz0
  have hbG := hboxG.below hB0 hboxG.lt
  have hbF := hboxF.below hB0 hboxF.lt
  go_enter Tryd.func79, Tryd.ntmps79
  go_upto_region 1 with fail
  refine named2 (p := fun X => Code.wp _ _ _ _ X) ?_
  intro W9 hW9
  have hW : W0 = W9 := hW0.trans hW9.symm
  subst hW
  clear hW9 hW0
  refine wp_region_inv (Φ := fun l vs X => Vals (fun q => match q with | 0 => some (.agg (stA i c k)) | 1 => some ((k.r d).v) | 2 => some (.func (.func G) #[] #[]) | 3 => some (.agg (stA i c k)) | _ => none) l vs ∧ Ph2 7 8 (Two W0.heap.size 40 noR.a W0 5 6) (fun vs X => Both W0.heap.size 40 (k.r d).a noR.a W0 (vs 5) (vs 6) X) (fun vs X => Both W0.heap.size 40 (k.r d).a noR.a W0 (vs 5) (vs 6) X) l vs X ∧ l 4 = false) (PQ := fun q X => q = x.entry ∧ Below W0.heap.size W0 X)
    (by kernel_rfl) (by kernel_rfl) (by kernel_rfl) (by kernel_rfl) ⟨Vals.none _ _, Ph2.start (Two.start ((Below.refl _ _).drew) (Nat.le_refl _)), rfl⟩ ?hop ?hend (fun c a X hq hp => ⟨hq, by rw [hp.1]; exact ⟨rfl, hB0.trans (hp.2.mono hB0.size)⟩⟩)
  case hop =>
    refine ⟨?_, ?_, ?_, ?_, ?_, ?_, ?_, ?_, ?_, trivial⟩
    · intro l vs X A hA ⟨hV, hS, hN4⟩ hl hd hcl
      have hj := nY 7 hcl hl
      have hk := nY 8 hcl hl
      have hX := hS.1 hj
      have hB := hX.below
      have a3 := eO hA 3 rfl
      refine show_value (v := .agg (stA i c k)) (X' := X) (run_ld 82 _ rfl _ a3 (ld_row (l := stCells i c k) (has_whole (hst.below hB hst.lt)) (by kernel_rfl))) ⟨hV.upd (fun _ h => Option.some.inj h), Ph2.keep hj hk (by decide) (by decide) (hX.grow (Below.refl _ _) (by decide) (by decide) _), (upd_other _ _ (by decide)).trans hN4⟩
    · intro l vs X A hA ⟨hV, hS, hN4⟩ hl hd hcl
      have hj := nY 7 hcl hl
      have hk := nY 8 hcl hl
      have hX := hS.1 hj
      have hB := hX.below
      have a8 := eN hA 8 0 hd hV rfl
      have aF0 : A.eval (.func 80) = .func (.func 80) #[] #[] := rfl
      refine show_call (f := 80) (args := #[.agg (stA i c k)]) ?_ (dst_ok i c k d X hdst hdn hk0) ?_
      · generalize A.eval = ρ at *
        clear hA hl hd hcl hV hS
        go_simp
      · rintro e X' ⟨rfl, hB1⟩
        exact .inl ⟨_, rfl, hV.upd (fun _ h => Option.some.inj h), Ph2.keep hj hk (by decide) (by decide) (hX.grow hB1 (by decide) (by decide) _), (upd_other _ _ (by decide)).trans hN4⟩
    · intro l vs X A hA ⟨hV, hS, hN4⟩ hl hd hcl
      have hj := nY 7 hcl hl
      have hk := nY 8 hcl hl
      have hX := hS.1 hj
      have hB := hX.below
      have a1 := eO hA 1 rfl
      have cc := (hbG.below hB hbG.lt).cell 0
      refine show_value (v := .func (.func G) #[] #[]) (X' := X) ?_ ⟨hV.upd (fun _ h => Option.some.inj h), Ph2.keep hj hk (by decide) (by decide) (hX.grow (Below.refl _ _) (by decide) (by decide) _), (upd_other _ _ (by decide)).trans hN4⟩
      generalize A.eval = ρ at *
      clear hA hl hd hcl hV hS
      go_simp
    · intro l vs X A hA ⟨hV, hS, hN4⟩ hl hd hcl
      have hj := nY 7 hcl hl
      have hk := nY 8 hcl hl
      have hX := hS.1 hj
      have hB := hX.below
      have a3 := eO hA 3 rfl
      refine show_value (v := .agg (stA i c k)) (X' := X) (run_ld 82 _ rfl _ a3 (ld_row (l := stCells i c k) (has_whole (hst.below hB hst.lt)) (by kernel_rfl))) ⟨hV.upd (fun _ h => Option.some.inj h), Ph2.keep hj hk (by decide) (by decide) (hX.grow (Below.refl _ _) (by decide) (by decide) _), (upd_other _ _ (by decide)).trans hN4⟩
    · intro l vs X A hA ⟨hV, hS, hN4⟩ hl hd hcl
      have hj := nY 7 hcl hl
      have hk := nY 8 hcl hl
      have hX := hS.1 hj
      have hB := hX.below
      have a10 := eN hA 10 2 hd hV rfl
      have a11 := eN hA 11 3 hd hV rfl
      refine show_call (f := G) (args := #[.agg (stA i c k)]) ?_ (hG X (hB0.trans (hB.mono hB0.size))) ?_
      · generalize A.eval = ρ at *
        clear hA hl hd hcl hV hS
        go_simp
      · rintro e X' ⟨rfl, hB1⟩
        exact .inr ⟨_, rfl, rfl, hB.trans (hB1.mono hX.size)⟩
    · intro l vs X A hA ⟨hV, hS, hN4⟩ hl hd hcl
      have hj := nY 7 hcl hl
      have hk := nY 8 hcl hl
      have hX := hS.1 hj
      have hB := hX.below
      refine show_value (v := .pointer (some ⟨X.heap.size, 0, none⟩)) (X' := X.alloc (.cells noR.a 40)) ?_ ⟨hV.upd (fun _ h => by cases h), Ph2.keep hj hk (by decide) (by decide) (hX.mkFst (by decide)), (upd_other _ _ (by decide)).trans hN4⟩
      generalize A.eval = ρ at *
      clear hA hl hd hcl hV hS
      rfl
    · intro l vs X A hA ⟨hV, hS, hN4⟩ hl hd hcl
      have hj := nY 7 hcl hl
      have hk := nY 8 hcl hl
      have hX := hS.1 hj
      have hB := hX.below
      refine show_value (v := .pointer (some ⟨X.heap.size, 0, none⟩)) (X' := X.alloc (.cells noR.a 40)) ?_ ⟨hV.upd (fun _ h => by cases h), Ph2.keep hj hk (by decide) (by decide) (hX.mkSnd (by decide)), (upd_other _ _ (by decide)).trans hN4⟩
      generalize A.eval = ρ at *
      clear hA hl hd hcl hV hS
      rfl
    · intro l vs X A hA ⟨hV, hS, hN4⟩ hl hd hcl
      have hk := nY 8 hcl hl
      have hX := hS.1 hl
      exact absurd (hd 4 (by kernel_rfl)) (by rw [hN4]; decide)
    · intro l vs X A hA ⟨hV, hS, hN4⟩ hl hd hcl
      have hX := hS.2.1 (hd 7 (by kernel_rfl)) hl
      exact absurd (hd 4 (by kernel_rfl)) (by rw [hN4]; decide)
  case hend =>
    intro l vs X hl ⟨hV, hS, hN4⟩
    exact absurd (hl 4 (by decide)) (by rw [hN4]; decide)
set_option maxRecDepth 10000 in
set_option maxHeartbeats 2000000 in
theorem fold_fno (i : Ins) (c : Int) (k : Kn) (d F G bf bg : Nat) (o : Rg) (x : Wrong) (w : World) (hdst : i.dst = (d : Int)) (hdn : d < 10) (hk0 : k.r d ≠ noR) (hboxG : Has w bg #[.func (.func G) #[] #[]] 103) (hboxF : Has w bf #[.func (.func F) #[] #[]] 105)
    (heG : ∀ args X, (callFunc G args).run Tryd.prog X = .ok (.enter G args) X)
    (hG : ∀ X, Below w.heap.size w X → Calls Tryd.prog G #[.agg (stA i c k)] X fun e X' => e = .returned o.v ∧ Below X.heap.size X X')
    (heF : ∀ args X, (callFunc F args).run Tryd.prog X = .ok (.enter F args) X)
    (hF : ∀ X, Below w.heap.size w X → Calls Tryd.prog F #[(k.r d).v, o.v] X fun e X' => e = .panicked x.entry ∧ Below X.heap.size X X') :
    Calls Tryd.prog 79 #[.agg (stA i c k), .pointer (some ⟨bg, 0, none⟩), .pointer (some ⟨bf, 0, none⟩)] w fun e w' => e = .panicked x.entry ∧ Below w.heap.size w w' := by
  obtain ⟨W0, hW0⟩ : ∃ W0, W0 = ((w.alloc (.cells (stA i c k) 82)).alloc (.cells noK.a 43)).alloc (.cells noK.a 43) := ⟨_, rfl⟩
  obtain ⟨hst, h3, h4, hB0, hz0⟩ := ways_world i c k w W0 hW0
  have HZ : Hid (W0.heap.size = w.heap.size + 3) := hz0
  clear hz0
  have hbG := hboxG.below hB0 hboxG.lt
  have hbF := hboxF.below hB0 hboxF.lt
  go_enter Tryd.func79, Tryd.ntmps79
  go_upto_region 1 with fail
  refine named2 (p := fun X => Code.wp _ _ _ _ X) ?_
  intro W9 hW9
  have hW : W0 = W9 := hW0.trans hW9.symm
  subst hW
  clear hW9 hW0
  refine wp_region_inv (Φ := fun l vs X => Vals (fun q => match q with | 0 => some (.agg (stA i c k)) | 1 => some ((k.r d).v) | 2 => some (.func (.func G) #[] #[]) | 3 => some (.agg (stA i c k)) | 4 => some (o.v) | _ => none) l vs ∧ Ph2 7 8 (Two W0.heap.size 40 noR.a W0 5 6) (fun vs X => Both W0.heap.size 40 (k.r d).a noR.a W0 (vs 5) (vs 6) X) (fun vs X => Both W0.heap.size 40 (k.r d).a o.a W0 (vs 5) (vs 6) X) l vs X) (PQ := fun _ _ => False)
    (by kernel_rfl) (by kernel_rfl) (by kernel_rfl) (by kernel_rfl) ⟨Vals.none _ _, Ph2.start (Two.start ((Below.refl _ _).drew) (Nat.le_refl _))⟩ ?hop ?hend (fun _ _ _ _ h => h.elim)
  case hop =>
    refine ⟨?_, ?_, ?_, ?_, ?_, ?_, ?_, ?_, ?_, trivial⟩
    · intro l vs X A hA ⟨hV, hS⟩ hl hd hcl
      have hj := nY 7 hcl hl
      have hk := nY 8 hcl hl
      have hX := hS.1 hj
      have hB := hX.below
      have a3 := eO hA 3 rfl
      refine show_value (v := .agg (stA i c k)) (X' := X) (run_ld 82 _ rfl _ a3 (ld_row (l := stCells i c k) (has_whole (hst.below hB hst.lt)) (by kernel_rfl))) ⟨hV.upd (fun _ h => Option.some.inj h), Ph2.keep hj hk (by decide) (by decide) (hX.grow (Below.refl _ _) (by decide) (by decide) _)⟩
    · intro l vs X A hA ⟨hV, hS⟩ hl hd hcl
      have hj := nY 7 hcl hl
      have hk := nY 8 hcl hl
      have hX := hS.1 hj
      have hB := hX.below
      have a8 := eN hA 8 0 hd hV rfl
      have aF0 : A.eval (.func 80) = .func (.func 80) #[] #[] := rfl
      refine show_call (f := 80) (args := #[.agg (stA i c k)]) ?_ (dst_ok i c k d X hdst hdn hk0) ?_
      · generalize A.eval = ρ at *
        clear hA hl hd hcl hV hS
        go_simp
      · rintro e X' ⟨rfl, hB1⟩
        exact .inl ⟨_, rfl, hV.upd (fun _ h => Option.some.inj h), Ph2.keep hj hk (by decide) (by decide) (hX.grow hB1 (by decide) (by decide) _)⟩
    · intro l vs X A hA ⟨hV, hS⟩ hl hd hcl
      have hj := nY 7 hcl hl
      have hk := nY 8 hcl hl
      have hX := hS.1 hj
      have hB := hX.below
      have a1 := eO hA 1 rfl
      have cc := (hbG.below hB hbG.lt).cell 0
      refine show_value (v := .func (.func G) #[] #[]) (X' := X) ?_ ⟨hV.upd (fun _ h => Option.some.inj h), Ph2.keep hj hk (by decide) (by decide) (hX.grow (Below.refl _ _) (by decide) (by decide) _)⟩
      generalize A.eval = ρ at *
      clear hA hl hd hcl hV hS
      go_simp
    · intro l vs X A hA ⟨hV, hS⟩ hl hd hcl
      have hj := nY 7 hcl hl
      have hk := nY 8 hcl hl
      have hX := hS.1 hj
      have hB := hX.below
      have a3 := eO hA 3 rfl
      refine show_value (v := .agg (stA i c k)) (X' := X) (run_ld 82 _ rfl _ a3 (ld_row (l := stCells i c k) (has_whole (hst.below hB hst.lt)) (by kernel_rfl))) ⟨hV.upd (fun _ h => Option.some.inj h), Ph2.keep hj hk (by decide) (by decide) (hX.grow (Below.refl _ _) (by decide) (by decide) _)⟩
    · intro l vs X A hA ⟨hV, hS⟩ hl hd hcl
      have hj := nY 7 hcl hl
      have hk := nY 8 hcl hl
      have hX := hS.1 hj
      have hB := hX.below
      have a10 := eN hA 10 2 hd hV rfl
      have a11 := eN hA 11 3 hd hV rfl
      refine show_call (f := G) (args := #[.agg (stA i c k)]) ?_ (hG X (hB0.trans (hB.mono hB0.size))) ?_
      · generalize A.eval = ρ at *
        clear hA hl hd hcl hV hS
        go_simp
      · rintro e X' ⟨rfl, hB1⟩
        exact .inl ⟨_, rfl, hV.upd (fun _ h => Option.some.inj h), Ph2.keep hj hk (by decide) (by decide) (hX.grow hB1 (by decide) (by decide) _)⟩
    · intro l vs X A hA ⟨hV, hS⟩ hl hd hcl
      have hj := nY 7 hcl hl
      have hk := nY 8 hcl hl
      have hX := hS.1 hj
      have hB := hX.below
      refine show_value (v := .pointer (some ⟨X.heap.size, 0, none⟩)) (X' := X.alloc (.cells noR.a 40)) ?_ ⟨hV.upd (fun _ h => by cases h), Ph2.keep hj hk (by decide) (by decide) (hX.mkFst (by decide))⟩
      generalize A.eval = ρ at *
      clear hA hl hd hcl hV hS
      rfl
    · intro l vs X A hA ⟨hV, hS⟩ hl hd hcl
      have hj := nY 7 hcl hl
      have hk := nY 8 hcl hl
      have hX := hS.1 hj
      have hB := hX.below
      refine show_value (v := .pointer (some ⟨X.heap.size, 0, none⟩)) (X' := X.alloc (.cells noR.a 40)) ?_ ⟨hV.upd (fun _ h => by cases h), Ph2.keep hj hk (by decide) (by decide) (hX.mkSnd (by decide))⟩
      generalize A.eval = ρ at *
      clear hA hl hd hcl hV hS
      rfl
    · intro l vs X A hA ⟨hV, hS⟩ hl hd hcl
      have hk := nY 8 hcl hl
      have hX := hS.1 hl
      have a6 := eval_new hA 6 5 (by kernel_rfl) (by kernel_rfl) (by kernel_rfl) (hd 5 (by kernel_rfl)) (rfl : vs 5 = vs 5)
      have a9 := eN hA 9 1 hd hV rfl
      obtain ⟨b, hb, hH, hT⟩ := (hX.both (hd 5 (by kernel_rfl)) (hd 6 (by kernel_rfl))).setFst (x' := (k.r d).a)
      rw [hb] at a6
      refine show_skip (run_st_row 40 _ _ rfl b _ _ _ a6 a9 hH (by kernel_rfl) (by kernel_rfl) (Rg.a_one _)) ⟨hV.upd (fun _ h => by cases h), Ph2.mid hk (by decide) ?_⟩
      exact hT
    · intro l vs X A hA ⟨hV, hS⟩ hl hd hcl
      have hX := hS.2.1 (hd 7 (by kernel_rfl)) hl
      have a7 := eval_new hA 7 6 (by kernel_rfl) (by kernel_rfl) (by kernel_rfl) (hd 6 (by kernel_rfl)) (rfl : vs 6 = vs 6)
      have a12 := eN hA 12 4 hd hV rfl
      obtain ⟨b, hb, hH, hT⟩ := hX.setSnd (y' := o.a)
      rw [hb] at a7
      refine show_skip (run_st_row 40 _ _ rfl b _ _ _ a7 a12 hH (by kernel_rfl) (by kernel_rfl) (Rg.a_one _)) ⟨hV.upd (fun _ h => by cases h), Ph2.last (hd 7 (by kernel_rfl)) ?_⟩
      exact hT
  case hend =>
    intro l vs X hl ⟨hV, hS⟩
    have hX := hS.2.2 (hl 8 (by decide))
    have v0 := hV 0 _ (hl 0 (by decide)) rfl
    have v1 := hV 1 _ (hl 1 (by decide)) rfl
    have v2 := hV 2 _ (hl 2 (by decide)) rfl
    have v3 := hV 3 _ (hl 3 (by decide)) rfl
    have v4 := hV 4 _ (hl 4 (by decide)) rfl
    clear hV hS hl
    obtain ⟨b6, b7, u6, u7, g6, g7, hne, hb6, hb7, hB9⟩ := hX
    simp only [canonL, if_true, v0, v1, v2, v3, v4, u6, u7]
    clear v0 v1 v2 v3 v4 u6 u7
    go_simp
    have hst1 := hst.below hB9 hst.lt
    have h31 := h3.below hB9 h3.lt
    have h41 := h4.below hB9 h4.lt
    have hf1 := hbF.below hB9 hbF.lt
    have hB01 : Below w.heap.size w X := hB0.trans (hB9.mono hB0.size)
    have hw1 := hB01.size
    obtain ⟨W1, hW1⟩ : ∃ W1, W1 = X := ⟨_, rfl⟩
    subst hW1
    clear hst h3 h4 hbF hbG hB9 hB0
    go_upto_region 2 with fail
    refine wp_region_inv (Φ := fun l vs X => Vals (fun q => match q with | 0 => some (.agg (stA i c k)) | 1 => some (.func (.func F) #[] #[]) | 2 => some ((k.r d).v) | 3 => some (o.v) | 6 => some (.agg noK.a) | _ => none) l vs ∧ Pre2 7 8 (Below W1.heap.size W1) (fun X => Below w.heap.size w X ∧ Has X (w.heap.size + 1) (noK.a) 43 ∧ Has X (w.heap.size + 2) (noK.a) 43) (fun X => Below w.heap.size w X ∧ Has X (w.heap.size + 1) (noK.a) 43 ∧ Has X (w.heap.size + 2) (noK.a) 43) l X ∧ l 4 = false) (PQ := fun q X => q = x.entry ∧ Below W1.heap.size W1 X)
      (by kernel_rfl) (by kernel_rfl) (by kernel_rfl) (by kernel_rfl) ⟨Vals.none _ _, Pre2.start ((Below.refl _ _).drew), rfl⟩ ?hop ?hend (fun c a X hq hp => ⟨hq, by rw [hp.1]; exact ⟨rfl, hB01.trans (hp.2.mono hB01.size)⟩⟩)
    case hop =>
      refine ⟨?_, ?_, ?_, ?_, ?_, ?_, ?_, ?_, ?_, trivial⟩
      · intro l vs X A hA ⟨hV, hS, hN4⟩ hl hd hcl
        have hj := nY 7 hcl hl
        have hk := nY 8 hcl hl
        have hX := hS.1 hj
        have hB := hX
        have a3 := eO hA 3 rfl
        refine show_value (v := .agg (stA i c k)) (X' := X) (run_ld 82 _ rfl _ a3 (ld_row (l := stCells i c k) (has_whole (hst1.below hB hst1.lt)) (by kernel_rfl))) ⟨hV.upd (fun _ h => Option.some.inj h), Pre2.keep hj hk (by decide) (by decide) (hX), (upd_other _ _ (by decide)).trans hN4⟩
      · intro l vs X A hA ⟨hV, hS, hN4⟩ hl hd hcl
        have hj := nY 7 hcl hl
        have hk := nY 8 hcl hl
        have hX := hS.1 hj
        have hB := hX
        have a2 := eO hA 2 rfl
        have cc := (hf1.below hB hf1.lt).cell 0
        refine show_value (v := .func (.func F) #[] #[]) (X' := X) ?_ ⟨hV.upd (fun _ h => Option.some.inj h), Pre2.keep hj hk (by decide) (by decide) (hX), (upd_other _ _ (by decide)).trans hN4⟩
        generalize A.eval = ρ at *
        clear hA hl hd hcl hV hS
        go_simp
      · intro l vs X A hA ⟨hV, hS, hN4⟩ hl hd hcl
        have hj := nY 7 hcl hl
        have hk := nY 8 hcl hl
        have hX := hS.1 hj
        have hB := hX
        have a6 := eO hA 6 rfl
        refine show_value (v := (k.r d).v) (X' := X) (run_ld 40 _ rfl _ a6 (ld_row (l := (k.r d).cells) (has_whole (hb6.below hB hb6.lt)) (by kernel_rfl))) ⟨hV.upd (fun _ h => Option.some.inj h), Pre2.keep hj hk (by decide) (by decide) (hX), (upd_other _ _ (by decide)).trans hN4⟩
      · intro l vs X A hA ⟨hV, hS, hN4⟩ hl hd hcl
        have hj := nY 7 hcl hl
        have hk := nY 8 hcl hl
        have hX := hS.1 hj
        have hB := hX
        have a7 := eO hA 7 rfl
        refine show_value (v := o.v) (X' := X) (run_ld 40 _ rfl _ a7 (ld_row (l := o.cells) (has_whole (hb7.below hB hb7.lt)) (by kernel_rfl))) ⟨hV.upd (fun _ h => Option.some.inj h), Pre2.keep hj hk (by decide) (by decide) (hX), (upd_other _ _ (by decide)).trans hN4⟩
      · intro l vs X A hA ⟨hV, hS, hN4⟩ hl hd hcl
        have hj := nY 7 hcl hl
        have hk := nY 8 hcl hl
        have hX := hS.1 hj
        have hB := hX
        have a14 := eN hA 14 1 hd hV rfl
        have a15 := eN hA 15 2 hd hV rfl
        have a16 := eN hA 16 3 hd hV rfl
        refine show_call (f := F) (args := #[(k.r d).v, o.v]) ?_ (hF X (hB01.trans (hB.mono hB01.size))) ?_
        · generalize A.eval = ρ at *
          clear hA hl hd hcl hV hS
          go_simp
        · rintro e X' ⟨rfl, hB1⟩
          exact .inr ⟨_, rfl, rfl, hB.trans (hB1.mono (Nat.le_trans hB.size (Nat.le_refl _)))⟩
      · intro l vs X A hA ⟨hV, hS, hN4⟩ hl hd hcl
        have hj := nY 7 hcl hl
        have hk := nY 8 hcl hl
        have hX := hS.1 hj
        have hB := hX
        exact absurd (hd 4 (by kernel_rfl)) (by rw [hN4]; decide)
      · intro l vs X A hA ⟨hV, hS, hN4⟩ hl hd hcl
        have hk := nY 8 hcl hl
        have a5 := eO hA 5 rfl
        cases hj : l 7 with
        | true =>
          have hX := hS.2.1 hj hk
          exact show_value (v := .agg noK.a) (X' := X) (run_ld 43 _ rfl _ a5 (ld_row (l := noK.cells) (has_whole hX.2.2) (by kernel_rfl))) ⟨hV.upd (fun _ h => Option.some.inj h), Pre2.keepMid hj hk (by decide) (by decide) hX, (upd_other _ _ (by decide)).trans hN4⟩
        | false =>
          have hX := hS.1 hj
          have hB := hX
          exact show_value (v := .agg noK.a) (X' := X) (run_ld 43 _ rfl _ a5 (ld_row (l := noK.cells) (has_whole (h41.below hB h41.lt)) (by kernel_rfl))) ⟨hV.upd (fun _ h => Option.some.inj h), Pre2.keep hj hk (by decide) (by decide) hX, (upd_other _ _ (by decide)).trans hN4⟩
      · intro l vs X A hA ⟨hV, hS, hN4⟩ hl hd hcl
        have hk := nY 8 hcl hl
        have hX := hS.1 hl
        exact absurd (hd 4 (by kernel_rfl)) (by rw [hN4]; decide)
      · intro l vs X A hA ⟨hV, hS, hN4⟩ hl hd hcl
        have hX := hS.2.1 (hd 7 (by kernel_rfl)) hl
        exact absurd (hd 4 (by kernel_rfl)) (by rw [hN4]; decide)
    case hend =>
      intro l vs X hl ⟨hV, hS, hN4⟩
      exact absurd (hl 4 (by decide)) (by rw [hN4]; decide)
end Go.Proofs.YtodkehpldlmgaaaDoor
/- Sums and products of ranges. -/
namespace Go.Proofs.YtodkehpldlmgaaaDoor
open Go.RowKit

set_option maxRecDepth 10000 in
set_option maxHeartbeats 1000000 in
theorem sum_any (d s : Rg) (hd : d.Ok) (hs : s.Ok) (w : World) (hl : d.least ≤ d.great) (hm : s.least ≤ s.great) :
    Calls Tryd.prog 48 #[d.v, s.v] w fun e w' => e = .returned (sumR d s).v ∧ Below w.heap.size w w' := by
  obtain ⟨ds, dl, dg⟩ := d
  obtain ⟨d1, d2⟩ := hd
  simp only at d1 d2
  obtain ⟨ss, sl, sg⟩ := s
  obtain ⟨s1, s2⟩ := hs
  simp only at s1 s2
  simp only at hl hm
  go_enter Tryd.func48, Tryd.ntmps48
  go_wp2_with (go_at_call 81;  refine (wide_any _ _ _ (by omega) (by omega) (by omega)).mono ?_; rintro e W1 ⟨rfl, hB1⟩; obtain ⟨hc, hf⟩ := bcell hB1; have hz := hB1.size; simp at hz)
  refine bodyPost_ret (v := Rg.v (wideR (dl + sl) (dg + sg))) (by simp [results, Tryd.results48, go_sem, hc]) rfl ⟨rfl, (((((((((Below.refl _ _).alloc (by simp <;> omega) _).alloc (by simp <;> omega) _).alloc (by simp <;> omega) _)).trans (hB1.mono (by simp <;> omega)))).setCell (by simp <;> omega) _).setCell (by simp <;> omega) _).setCell (by simp <;> omega) _⟩
set_option maxRecDepth 10000 in
set_option maxHeartbeats 1000000 in
theorem prod_any (d s : Rg) (hd : d.Ok) (hs : s.Ok) (w : World) (hl : d.least ≤ d.great) (hm : s.least ≤ s.great) :
    Calls Tryd.prog 50 #[d.v, s.v] w fun e w' => e = .returned (prodR d s).v ∧ Below w.heap.size w w' := by
  obtain ⟨ds, dl, dg⟩ := d
  obtain ⟨d1, d2⟩ := hd
  simp only at d1 d2
  obtain ⟨ss, sl, sg⟩ := s
  obtain ⟨s1, s2⟩ := hs
  simp only at s1 s2
  simp only at hl hm
  have m1 : dl * sl ≤ dg * sg := Nat.mul_le_mul hl hm
  have m2 : dg * sg ≤ 4294967295 * 4294967295 := Nat.mul_le_mul (by omega) (by omega)
  have e1 : (dl : Int) * sl = ((dl * sl : Nat) : Int) := by push_cast; rfl
  have e2 : (dg : Int) * sg = ((dg * sg : Nat) : Int) := by push_cast; rfl
  have HP : prodR ⟨ds, dl, dg⟩ ⟨ss, sl, sg⟩ = wideR (dl * sl) (dg * sg) := rfl
  rw [HP]
  clear HP hl hm
  generalize dl * sl = p at *
  generalize dg * sg = q at *
  go_enter Tryd.func50, Tryd.ntmps50
  go_wp2_with (go_at_call 81;  refine (wide_any _ _ _ (by omega) (by omega) (by omega)).mono ?_; rintro e W1 ⟨rfl, hB1⟩; obtain ⟨hc, hf⟩ := bcell hB1; have hz := hB1.size; simp at hz)
  refine bodyPost_ret (v := Rg.v (wideR p q)) (by simp [results, Tryd.results50, go_sem, hc]) rfl ⟨rfl, (((((((((Below.refl _ _).alloc (by simp <;> omega) _).alloc (by simp <;> omega) _).alloc (by simp <;> omega) _)).trans (hB1.mono (by simp <;> omega)))).setCell (by simp <;> omega) _).setCell (by simp <;> omega) _).setCell (by simp <;> omega) _⟩
end Go.Proofs.YtodkehpldlmgaaaDoor
/- Numbers that are not 0; rests; what either or one alone has. -/
namespace Go.Proofs.YtodkehpldlmgaaaDoor
open Go.RowKit

set_option maxRecDepth 10000 in
set_option maxHeartbeats 1000000 in
theorem notZero_ok (s : Rg) (w : World) (h : s.least ≠ 0) :
    Calls Tryd.prog 85 #[s.v] w fun e w' => e = .returned (.tuple #[]) ∧ Below w.heap.size w w' := by
  obtain ⟨ss, sl, sg⟩ := s
  have h' : ((sl : Int) == 0) = false := by simp only at h; simp; omega
  clear h
  go_enter Tryd.func85, Tryd.ntmps85
  go_wp2
  go_end0
  exact ⟨rfl, (Below.refl _ _).alloc (Nat.le_refl _) _⟩
set_option maxRecDepth 10000 in
set_option maxHeartbeats 1000000 in
theorem notZero_no (s : Rg) (w : World) (h : s.least = 0) :
    Calls Tryd.prog 85 #[s.v] w fun e w' => e = .panicked Wrong.zero.entry ∧ Below w.heap.size w w' := by
  obtain ⟨ss, sl, sg⟩ := s
  have h' : ((sl : Int) == 0) = true := by simp only at h; simp; omega
  clear h
  go_enter Tryd.func85, Tryd.ntmps85
  go_wp2
  exact ⟨rfl, rfl, (Below.refl _ _).alloc (Nat.le_refl _) _⟩
set_option maxRecDepth 10000 in
set_option maxHeartbeats 1000000 in
theorem rest_ok (d s : Rg) (hd : d.Ok) (hs : s.Ok) (w : World) (hl : s.least ≠ 0) (hm : s.least ≤ s.great) :
    Calls Tryd.prog 56 #[d.v, s.v] w fun e w' => e = .returned (restR d s).v ∧ Below w.heap.size w w' := by
  obtain ⟨ds, dl, dg⟩ := d
  obtain ⟨d1, d2⟩ := hd
  simp only at d1 d2
  obtain ⟨ss, sl, sg⟩ := s
  obtain ⟨s1, s2⟩ := hs
  simp only at s1 s2
  simp only at hl hm
  have HN : Hid ((⟨ss, sl, sg⟩ : Rg).least ≠ 0) := hl
  have hg : (0 : Int) < sg := by omega
  have e1 : IntKind.u32.wrap ((sg : Int) - 1) = ((sg - 1 : Nat) : Int) := by rw [IntKind.wrap_u32]; omega
  by_cases h : sg - 1 < dg
  · have h' : ((sg - 1 : Nat) : Int) < (dg : Int) := by omega
    have HE : Hid (restR ⟨ds, dl, dg⟩ ⟨ss, sl, sg⟩ = fromR 0 (sg - 1)) := by show _ = _; simp only [restR]; congr 1; omega
    clear h hl hm
    go_enter Tryd.func56, Tryd.ntmps56
    go_wp2_with (first | (go_at_call 85; refine (notZero_ok ⟨ss, sl, sg⟩ _ HN.out).mono ?_; rintro e W1 ⟨rfl, hB1⟩; obtain ⟨hc, hf⟩ := bcell hB1; have hz := hB1.size; simp at hz) | (go_at_call 83; refine (from_any _ _ _ (by omega) (by omega)).mono ?_; rintro e W2 ⟨rfl, hB2⟩; obtain ⟨hc2, hf2⟩ := bcell hB2; have hz2 := hB2.size; have hy : w.heap.size + 1 + 1 < W1.heap.size := by omega))
    refine bodyPost_ret (v := Rg.v (fromR 0 (sg - 1))) (by simp [results, Tryd.results56, go_sem, hc2, hc, show w.heap.size + 1 + 1 < W1.heap.size by omega]) rfl ⟨by rw [HE.out], ((((((((Below.refl _ _).alloc (by first | omega | (simp; done) | (simp; omega)) _).alloc (by first | omega | (simp; done) | (simp; omega)) _).alloc (by first | omega | (simp; done) | (simp; omega)) _).trans (hB1.mono (by first | omega | (simp; done) | (simp; omega)))).trans (hB2.mono (by first | omega | (simp; done) | (simp; omega)))).setCell (by first | omega | (simp; done) | (simp; omega)) _).setCell (by first | omega | (simp; done) | (simp; omega)) _).setCell (by first | omega | (simp; done) | (simp; omega)) _⟩
  · have h' : ¬ ((sg - 1 : Nat) : Int) < (dg : Int) := by omega
    have HE : Hid (restR ⟨ds, dl, dg⟩ ⟨ss, sl, sg⟩ = fromR 0 dg) := by show _ = _; simp only [restR]; congr 1; omega
    clear h hl hm
    go_enter Tryd.func56, Tryd.ntmps56
    go_wp2_with (first | (go_at_call 85; refine (notZero_ok ⟨ss, sl, sg⟩ _ HN.out).mono ?_; rintro e W1 ⟨rfl, hB1⟩; obtain ⟨hc, hf⟩ := bcell hB1; have hz := hB1.size; simp at hz) | (go_at_call 83; refine (from_any _ _ _ (by omega) (by omega)).mono ?_; rintro e W2 ⟨rfl, hB2⟩; obtain ⟨hc2, hf2⟩ := bcell hB2; have hz2 := hB2.size; have hy : w.heap.size + 1 + 1 < W1.heap.size := by omega))
    refine bodyPost_ret (v := Rg.v (fromR 0 dg)) (by simp [results, Tryd.results56, go_sem, hc2, hc, show w.heap.size + 1 + 1 < W1.heap.size by omega]) rfl ⟨by rw [HE.out], ((((((((Below.refl _ _).alloc (by first | omega | (simp; done) | (simp; omega)) _).alloc (by first | omega | (simp; done) | (simp; omega)) _).alloc (by first | omega | (simp; done) | (simp; omega)) _).trans (hB1.mono (by first | omega | (simp; done) | (simp; omega)))).trans (hB2.mono (by first | omega | (simp; done) | (simp; omega)))).setCell (by first | omega | (simp; done) | (simp; omega)) _).setCell (by first | omega | (simp; done) | (simp; omega)) _).setCell (by first | omega | (simp; done) | (simp; omega)) _⟩
set_option maxRecDepth 10000 in
set_option maxHeartbeats 1000000 in
theorem rest_no (d s : Rg) (w : World) (hl : s.least = 0) :
    Calls Tryd.prog 56 #[d.v, s.v] w fun e w' => e = .panicked Wrong.zero.entry ∧ Below w.heap.size w w' := by
  obtain ⟨ss, sl, sg⟩ := s
  obtain ⟨ds, dl, dg⟩ := d
  have HN : Hid ((⟨ss, sl, sg⟩ : Rg).least = 0) := hl
  clear hl
  go_enter Tryd.func56, Tryd.ntmps56
  go_wp2_with (go_at_call 85; refine (notZero_no ⟨ss, sl, sg⟩ _ HN.out).mono ?_; rintro e W1 ⟨rfl, hB1⟩)
  exact ⟨rfl, rfl, ((((Below.refl _ _).alloc (by first | omega | (simp; done) | (simp; omega)) _).alloc (by first | omega | (simp; done) | (simp; omega)) _).alloc (by first | omega | (simp; done) | (simp; omega)) _).trans (hB1.mono (by first | omega | (simp; done) | (simp; omega)))⟩
set_option maxRecDepth 10000 in
set_option maxHeartbeats 1000000 in
theorem apa_any (d s : Rg) (hd : d.Ok) (hs : s.Ok) (w : World) :
    Calls Tryd.prog 53 #[d.v, s.v] w fun e w' => e = .returned (apaR d s).v ∧ Below w.heap.size w w' := by
  obtain ⟨ds, dl, dg⟩ := d
  obtain ⟨d1, d2⟩ := hd
  simp only at d1 d2
  obtain ⟨ss, sl, sg⟩ := s
  obtain ⟨s1, s2⟩ := hs
  simp only at s1 s2
  by_cases h : dg < sg
  · have h' : (dg : Int) < (sg : Int) := by omega
    have HE : Hid (apaR ⟨ds, dl, dg⟩ ⟨ss, sl, sg⟩ = fromR 0 (onesN sg)) := by show _ = _; simp only [apaR]; congr 2; omega
    clear h
    go_enter Tryd.func53, Tryd.ntmps53
    go_wp2_with (first | (go_at_call 84; refine (ones_any (sg : Nat) _ (by omega) (by omega)).mono ?_; rintro e W1 ⟨rfl, hW⟩; obtain rfl := hW; rw [Int.toNat_natCast]) | (go_at_call 83; refine (from_any _ _ _ (by omega) (by omega)).mono ?_; rintro e W2 ⟨rfl, hB2⟩; obtain ⟨hc2, hf2⟩ := bcell hB2; have hz2 := hB2.size; simp at hz2))
    refine bodyPost_ret (v := Rg.v (fromR 0 (onesN sg))) (by simp [results, Tryd.results53, go_sem, hc2]) rfl ⟨by rw [HE.out], (((((((Below.refl _ _).alloc (by first | omega | (simp; done) | (simp; omega)) _).alloc (by first | omega | (simp; done) | (simp; omega)) _).alloc (by first | omega | (simp; done) | (simp; omega)) _).trans (hB2.mono (by first | omega | (simp; done) | (simp; omega)))).setCell (by first | omega | (simp; done) | (simp; omega)) _).setCell (by first | omega | (simp; done) | (simp; omega)) _).setCell (by first | omega | (simp; done) | (simp; omega)) _⟩
  · have h' : ¬ (dg : Int) < (sg : Int) := by omega
    have HE : Hid (apaR ⟨ds, dl, dg⟩ ⟨ss, sl, sg⟩ = fromR 0 (onesN dg)) := by show _ = _; simp only [apaR]; congr 2; omega
    clear h
    go_enter Tryd.func53, Tryd.ntmps53
    go_wp2_with (first | (go_at_call 84; refine (ones_any (dg : Nat) _ (by omega) (by omega)).mono ?_; rintro e W1 ⟨rfl, hW⟩; obtain rfl := hW; rw [Int.toNat_natCast]) | (go_at_call 83; refine (from_any _ _ _ (by omega) (by omega)).mono ?_; rintro e W2 ⟨rfl, hB2⟩; obtain ⟨hc2, hf2⟩ := bcell hB2; have hz2 := hB2.size; simp at hz2))
    refine bodyPost_ret (v := Rg.v (fromR 0 (onesN dg))) (by simp [results, Tryd.results53, go_sem, hc2]) rfl ⟨by rw [HE.out], (((((((Below.refl _ _).alloc (by first | omega | (simp; done) | (simp; omega)) _).alloc (by first | omega | (simp; done) | (simp; omega)) _).alloc (by first | omega | (simp; done) | (simp; omega)) _).trans (hB2.mono (by first | omega | (simp; done) | (simp; omega)))).setCell (by first | omega | (simp; done) | (simp; omega)) _).setCell (by first | omega | (simp; done) | (simp; omega)) _).setCell (by first | omega | (simp; done) | (simp; omega)) _⟩
end Go.Proofs.YtodkehpldlmgaaaDoor
/- Either of two ranges; quotients; bytes of memory. -/
namespace Go.Proofs.YtodkehpldlmgaaaDoor
open Go.RowKit

set_option maxRecDepth 10000 in
set_option maxHeartbeats 1000000 in
theorem eit_any (d s : Rg) (hd : d.Ok) (hs : s.Ok) (w : World) :
    Calls Tryd.prog 52 #[d.v, s.v] w fun e w' => e = .returned (eitR d s).v ∧ Below w.heap.size w w' := by
  obtain ⟨ds, dl, dg⟩ := d
  obtain ⟨d1, d2⟩ := hd
  simp only at d1 d2
  obtain ⟨ss, sl, sg⟩ := s
  obtain ⟨s1, s2⟩ := hs
  simp only at s1 s2
  obtain ⟨W0, hW0⟩ : ∃ W0, W0 = ((w.alloc (.cells #[.bool ds, .int .u32 (dl : Int), .int .u32 (dg : Int)] 40)).alloc (.cells #[.bool ss, .int .u32 (sl : Int), .int .u32 (sg : Int)] 40)).alloc (.cells #[.bool false, .int .u32 0, .int .u32 0] 40) := ⟨_, rfl⟩
  have hB0 : Below w.heap.size w W0 := by rw [hW0]; exact (((Below.refl _ _).alloc (Nat.le_refl _) _).alloc (by simp) _).alloc (by simp <;> omega) _
  have h0 : Has W0 w.heap.size #[.bool ds, .int .u32 (dl : Int), .int .u32 (dg : Int)] 40 := by rw [hW0]; exact has_old (has_old (has_new _ _ _ _ rfl))
  have h1 : Has W0 (w.heap.size + 1) #[.bool ss, .int .u32 (sl : Int), .int .u32 (sg : Int)] 40 := by rw [hW0]; exact has_old (has_new _ _ _ _ (by simp))
  have h2 : Has W0 (w.heap.size + 2) noR.a 40 := by rw [hW0]; exact has_new _ _ _ _ (by simp)
  have HS : Hid (w.heap.size + 3 = W0.heap.size) := by show _ = _; rw [hW0]; simp
  go_enter Tryd.func52, Tryd.ntmps52
  go_upto_region 1 with fail
  rw [← hW0]
  clear hW0
  refine wp_region_inv (Φ := fun l vs X => Vals (fun q => match q with | 0 => some (.pointer (some ⟨w.heap.size, 1, none⟩)) | 1 => some (.int .u32 (dl : Int)) | 2 => some (.pointer (some ⟨w.heap.size + 1, 1, none⟩)) | 3 => some (.int .u32 (sl : Int)) | 4 => some (.int .u32 ((max dl sl : Nat) : Int)) | 5 => some (.pointer (some ⟨w.heap.size, 2, none⟩)) | 6 => some (.int .u32 (dg : Int)) | 7 => some (.pointer (some ⟨w.heap.size + 1, 2, none⟩)) | 8 => some (.int .u32 (sg : Int)) | 9 => some (.int .u32 ((max dg sg : Nat) : Int)) | 10 => some (.int .u32 (onesN (max dg sg) : Int)) | 11 => some ((eitR (⟨ds, dl, dg⟩ : Rg) (⟨ss, sl, sg⟩ : Rg)).v) | _ => none) l vs ∧ Pre1 12 (Below W0.heap.size W0) (fun X => ∃ X', Below W0.heap.size W0 X' ∧ X = X'.setRow (w.heap.size + 2) (eitR (⟨ds, dl, dg⟩ : Rg) (⟨ss, sl, sg⟩ : Rg)).a) l X) (PQ := fun _ _ => False)
    (by kernel_rfl) (by kernel_rfl) (by kernel_rfl) (by kernel_rfl) ⟨Vals.none _ _, Pre1.start ((Below.refl _ _).drew)⟩ ?hop ?hend (fun _ _ _ _ h => h.elim)
  case hop =>
    refine ⟨?_, ?_, ?_, ?_, ?_, ?_, ?_, ?_, ?_, ?_, ?_, ?_, ?_, trivial⟩
    · intro l vs X A hA ⟨hV, hS⟩ hl hd hcl
      have hk := nY 12 hcl hl
      have hX := hS.1 hk
      have hB := hX
      have a2 := eO hA 2 rfl
      refine show_value (v := .pointer (some ⟨w.heap.size, 1, none⟩)) (X' := X) ?_ ⟨hV.upd (fun _ h => Option.some.inj h), Pre1.keep hk (by decide) (hX)⟩
      generalize A.eval = ρ at *
      clear hA hl hd hcl hV hS
      go_simp
    · intro l vs X A hA ⟨hV, hS⟩ hl hd hcl
      have hk := nY 12 hcl hl
      have hX := hS.1 hk
      have hB := hX
      have a5 := eN hA 5 0 hd hV rfl
      have cc := (h0.below hB h0.lt).cell 1
      refine show_value (v := .int .u32 (dl : Int)) (X' := X) ?_ ⟨hV.upd (fun _ h => Option.some.inj h), Pre1.keep hk (by decide) (hX)⟩
      generalize A.eval = ρ at *
      clear hA hl hd hcl hV hS
      go_simp
    · intro l vs X A hA ⟨hV, hS⟩ hl hd hcl
      have hk := nY 12 hcl hl
      have hX := hS.1 hk
      have hB := hX
      have a3 := eO hA 3 rfl
      refine show_value (v := .pointer (some ⟨w.heap.size + 1, 1, none⟩)) (X' := X) ?_ ⟨hV.upd (fun _ h => Option.some.inj h), Pre1.keep hk (by decide) (hX)⟩
      generalize A.eval = ρ at *
      clear hA hl hd hcl hV hS
      go_simp
    · intro l vs X A hA ⟨hV, hS⟩ hl hd hcl
      have hk := nY 12 hcl hl
      have hX := hS.1 hk
      have hB := hX
      have a7 := eN hA 7 2 hd hV rfl
      have cc := (h1.below hB h1.lt).cell 1
      refine show_value (v := .int .u32 (sl : Int)) (X' := X) ?_ ⟨hV.upd (fun _ h => Option.some.inj h), Pre1.keep hk (by decide) (hX)⟩
      generalize A.eval = ρ at *
      clear hA hl hd hcl hV hS
      go_simp
    · intro l vs X A hA ⟨hV, hS⟩ hl hd hcl
      have hk := nY 12 hcl hl
      have hX := hS.1 hk
      have hB := hX
      have a6 := eN hA 6 1 hd hV rfl
      have a8 := eN hA 8 3 hd hV rfl
      refine show_value (v := .int .u32 ((max dl sl : Nat) : Int)) (X' := X) ?_ ⟨hV.upd (fun _ h => Option.some.inj h), Pre1.keep hk (by decide) (hX)⟩
      generalize A.eval = ρ at *
      clear hA hl hd hcl hV hS
      go_simp
      by_cases hh : dl < sl
      · rw [if_pos hh, Nat.max_eq_right (by omega)]
      · rw [if_neg hh, Nat.max_eq_left (by omega)]
    · intro l vs X A hA ⟨hV, hS⟩ hl hd hcl
      have hk := nY 12 hcl hl
      have hX := hS.1 hk
      have hB := hX
      have a2 := eO hA 2 rfl
      refine show_value (v := .pointer (some ⟨w.heap.size, 2, none⟩)) (X' := X) ?_ ⟨hV.upd (fun _ h => Option.some.inj h), Pre1.keep hk (by decide) (hX)⟩
      generalize A.eval = ρ at *
      clear hA hl hd hcl hV hS
      go_simp
    · intro l vs X A hA ⟨hV, hS⟩ hl hd hcl
      have hk := nY 12 hcl hl
      have hX := hS.1 hk
      have hB := hX
      have a10 := eN hA 10 5 hd hV rfl
      have cc := (h0.below hB h0.lt).cell 2
      refine show_value (v := .int .u32 (dg : Int)) (X' := X) ?_ ⟨hV.upd (fun _ h => Option.some.inj h), Pre1.keep hk (by decide) (hX)⟩
      generalize A.eval = ρ at *
      clear hA hl hd hcl hV hS
      go_simp
    · intro l vs X A hA ⟨hV, hS⟩ hl hd hcl
      have hk := nY 12 hcl hl
      have hX := hS.1 hk
      have hB := hX
      have a3 := eO hA 3 rfl
      refine show_value (v := .pointer (some ⟨w.heap.size + 1, 2, none⟩)) (X' := X) ?_ ⟨hV.upd (fun _ h => Option.some.inj h), Pre1.keep hk (by decide) (hX)⟩
      generalize A.eval = ρ at *
      clear hA hl hd hcl hV hS
      go_simp
    · intro l vs X A hA ⟨hV, hS⟩ hl hd hcl
      have hk := nY 12 hcl hl
      have hX := hS.1 hk
      have hB := hX
      have a12 := eN hA 12 7 hd hV rfl
      have cc := (h1.below hB h1.lt).cell 2
      refine show_value (v := .int .u32 (sg : Int)) (X' := X) ?_ ⟨hV.upd (fun _ h => Option.some.inj h), Pre1.keep hk (by decide) (hX)⟩
      generalize A.eval = ρ at *
      clear hA hl hd hcl hV hS
      go_simp
    · intro l vs X A hA ⟨hV, hS⟩ hl hd hcl
      have hk := nY 12 hcl hl
      have hX := hS.1 hk
      have hB := hX
      have a11 := eN hA 11 6 hd hV rfl
      have a13 := eN hA 13 8 hd hV rfl
      refine show_value (v := .int .u32 ((max dg sg : Nat) : Int)) (X' := X) ?_ ⟨hV.upd (fun _ h => Option.some.inj h), Pre1.keep hk (by decide) (hX)⟩
      generalize A.eval = ρ at *
      clear hA hl hd hcl hV hS
      go_simp
      by_cases hh : dg < sg
      · rw [if_pos hh, Nat.max_eq_right (by omega)]
      · rw [if_neg hh, Nat.max_eq_left (by omega)]
    · intro l vs X A hA ⟨hV, hS⟩ hl hd hcl
      have hk := nY 12 hcl hl
      have hX := hS.1 hk
      have hB := hX
      have a14 := eN hA 14 9 hd hV rfl
      have aF0 : A.eval (.func 84) = .func (.func 84) #[] #[] := rfl
      refine show_call (f := 84) (args := #[.int .u32 ((max dg sg : Nat) : Int)]) ?_ (ones_any _ X (by omega) (by omega)) ?_
      · generalize A.eval = ρ at *
        clear hA hl hd hcl hV hS
        go_simp
      · rintro e X' ⟨rfl, rfl⟩
        exact .inl ⟨_, rfl, hV.upd (fun _ h => Option.some.inj h), Pre1.keep hk (by decide) (hX)⟩
    · intro l vs X A hA ⟨hV, hS⟩ hl hd hcl
      have hk := nY 12 hcl hl
      have hX := hS.1 hk
      have hB := hX
      have a9 := eN hA 9 4 hd hV rfl
      have a15 := eN hA 15 10 hd hV rfl
      have aF0 : A.eval (.func 83) = .func (.func 83) #[] #[] := rfl
      refine show_call (f := 83) (args := #[.int .u32 ((max dl sl : Nat) : Int), .int .u32 (onesN (max dg sg) : Int)]) ?_ (from_any _ _ X (by omega) (by omega)) ?_
      · generalize A.eval = ρ at *
        clear hA hl hd hcl hV hS
        go_simp
      · rintro e X' ⟨rfl, hB1⟩
        exact .inl ⟨_, rfl, hV.upd (fun _ h => Option.some.inj h), Pre1.keep hk (by decide) (hX.trans (hB1.mono hX.size))⟩
    · intro l vs X A hA ⟨hV, hS⟩ hl hd hcl
      have hX := hS.1 hl
      have hB := hX
      have a4 := eO hA 4 rfl
      have a16 := eN hA 16 11 hd hV rfl
      refine show_skip (X' := X.setRow (w.heap.size + 2) (eitR (⟨ds, dl, dg⟩ : Rg) (⟨ss, sl, sg⟩ : Rg)).a) (run_st_row 40 _ _ rfl (w.heap.size + 2) _ _ _ a4 a16 (h2.below hB h2.lt) (by kernel_rfl) (by kernel_rfl) (Rg.a_one _)) ⟨hV.upd (fun _ h => by cases h), Pre1.last ⟨X, hX, rfl⟩⟩
  case hend =>
    intro l vs X hl ⟨hV, hS⟩
    have hX := hS.2 (hl 12 (by decide))
    have v0 := hV 0 _ (hl 0 (by decide)) rfl
    have v1 := hV 1 _ (hl 1 (by decide)) rfl
    have v2 := hV 2 _ (hl 2 (by decide)) rfl
    have v3 := hV 3 _ (hl 3 (by decide)) rfl
    have v4 := hV 4 _ (hl 4 (by decide)) rfl
    have v5 := hV 5 _ (hl 5 (by decide)) rfl
    have v6 := hV 6 _ (hl 6 (by decide)) rfl
    have v7 := hV 7 _ (hl 7 (by decide)) rfl
    have v8 := hV 8 _ (hl 8 (by decide)) rfl
    have v9 := hV 9 _ (hl 9 (by decide)) rfl
    have v10 := hV 10 _ (hl 10 (by decide)) rfl
    have v11 := hV 11 _ (hl 11 (by decide)) rfl
    clear hV hS hl
    simp only [canonL, if_true, v0, v1, v2, v3, v4, v5, v6, v7, v8, v9, v10, v11]
    clear v0 v1 v2 v3 v4 v5 v6 v7 v8 v9 v10 v11
    go_simp
    obtain ⟨X', hX', rfl⟩ := hX
    have hrow : Has (X'.setRow (w.heap.size + 2) (eitR (⟨ds, dl, dg⟩ : Rg) (⟨ss, sl, sg⟩ : Rg)).a) (w.heap.size + 2) (eitR (⟨ds, dl, dg⟩ : Rg) (⟨ss, sl, sg⟩ : Rg)).a 40 := setRow_has (h2.below hX' h2.lt) _
    have hB9 : Below w.heap.size w (X'.setRow (w.heap.size + 2) (eitR (⟨ds, dl, dg⟩ : Rg) (⟨ss, sl, sg⟩ : Rg)).a) := setRow_below (hB0.trans (hX'.mono hB0.size)) (by omega) _
    generalize X'.setRow (w.heap.size + 2) (eitR (⟨ds, dl, dg⟩ : Rg) (⟨ss, sl, sg⟩ : Rg)).a = X9 at *
    go_wp2_with fail
    refine bodyPost_ret (results_cell_row rfl _ _ (w.heap.size + 2) 40 _ (0, 0) _ rfl hrow Tryd.underlying40 rfl (by kernel_rfl)) rfl ?_
    exact ⟨rfl, hB9⟩
end Go.Proofs.YtodkehpldlmgaaaDoor
/- Quotients of ranges. -/
namespace Go.Proofs.YtodkehpldlmgaaaDoor
open Go.RowKit

set_option maxRecDepth 10000 in
set_option maxHeartbeats 1000000 in
theorem quo_ok (d s : Rg) (hd : d.Ok) (hs : s.Ok) (w : World) (hl : s.least ≠ 0) (hm : s.least ≤ s.great) :
    Calls Tryd.prog 55 #[d.v, s.v] w fun e w' => e = .returned (quoR d s).v ∧ Below w.heap.size w w' := by
  obtain ⟨ds, dl, dg⟩ := d
  obtain ⟨d1, d2⟩ := hd
  simp only at d1 d2
  obtain ⟨ss, sl, sg⟩ := s
  obtain ⟨s1, s2⟩ := hs
  simp only at s1 s2
  simp only at hl hm
  obtain ⟨W9, hW9⟩ : ∃ W9, W9 = ((w.alloc (.cells #[.bool ds, .int .u32 (dl : Int), .int .u32 (dg : Int)] 40)).alloc (.cells #[.bool ss, .int .u32 (sl : Int), .int .u32 (sg : Int)] 40)).alloc (.cells #[.bool false, .int .u32 0, .int .u32 0] 40) := ⟨_, rfl⟩
  have hB9 : Below w.heap.size w W9 := by rw [hW9]; exact (((Below.refl _ _).alloc (Nat.le_refl _) _).alloc (by simp) _).alloc (by simp <;> omega) _
  have k0 : Has W9 w.heap.size #[.bool ds, .int .u32 (dl : Int), .int .u32 (dg : Int)] 40 := by rw [hW9]; exact has_old (has_old (has_new _ _ _ _ rfl))
  have k1 : Has W9 (w.heap.size + 1) #[.bool ss, .int .u32 (sl : Int), .int .u32 (sg : Int)] 40 := by rw [hW9]; exact has_old (has_new _ _ _ _ (by simp))
  have k2 : Has W9 (w.heap.size + 2) noR.a 40 := by rw [hW9]; exact has_new _ _ _ _ (by simp)
  have c0 := k1.cell 0
  have c1 := k1.cell 1
  have c2 := k1.cell 2
  have HN : Hid ((⟨ss, sl, sg⟩ : Rg).least ≠ 0) := hl
  have hl' : (0 : Int) < sl := by omega
  have hg' : (0 : Int) < sg := by omega
  have HB : Hid (hl = hl) := rfl
  clear HB hl hm
  go_enter Tryd.func55, Tryd.ntmps55
  go_upto_region 1 with fail
  rw [← hW9]
  clear hW9
  go_upto_region 2 with (go_at_call 85; refine (notZero_ok ⟨ss, sl, sg⟩ _ HN.out).mono ?_; rintro e W0 ⟨rfl, hBn⟩; clear c0 c1 c2)
  have hB0 : Below w.heap.size w W0 := hB9.trans (hBn.mono hB9.size)
  have h0 := k0.below hBn k0.lt
  have h1 := k1.below hBn k1.lt
  have h2 := k2.below hBn k2.lt
  clear k0 k1 k2 hBn hB9
  refine wp_region_inv (Φ := fun l vs X => Vals (fun q => match q with | 0 => some (.pointer (some ⟨w.heap.size, 1, none⟩)) | 1 => some (.int .u32 (dl : Int)) | 2 => some (.pointer (some ⟨w.heap.size + 1, 2, none⟩)) | 3 => some (.int .u32 (sg : Int)) | 4 => some (.int .u32 ((dl / sg : Nat) : Int)) | 5 => some (.pointer (some ⟨w.heap.size, 2, none⟩)) | 6 => some (.int .u32 (dg : Int)) | 7 => some (.pointer (some ⟨w.heap.size + 1, 1, none⟩)) | 8 => some (.int .u32 (sl : Int)) | 9 => some (.int .u32 ((dg / sl : Nat) : Int)) | 10 => some ((quoR (⟨ds, dl, dg⟩ : Rg) (⟨ss, sl, sg⟩ : Rg)).v) | _ => none) l vs ∧ Pre1 11 (Below W0.heap.size W0) (fun X => ∃ X', Below W0.heap.size W0 X' ∧ X = X'.setRow (w.heap.size + 2) (quoR (⟨ds, dl, dg⟩ : Rg) (⟨ss, sl, sg⟩ : Rg)).a) l X) (PQ := fun _ _ => False)
    (by kernel_rfl) (by kernel_rfl) (by kernel_rfl) (by kernel_rfl) ⟨Vals.none _ _, Pre1.start ((Below.refl _ _).drew)⟩ ?hop ?hend (fun _ _ _ _ h => h.elim)
  case hop =>
    refine ⟨?_, ?_, ?_, ?_, ?_, ?_, ?_, ?_, ?_, ?_, ?_, ?_, trivial⟩
    · intro l vs X A hA ⟨hV, hS⟩ hl hd hcl
      have hk := nY 11 hcl hl
      have hX := hS.1 hk
      have hB := hX
      have a2 := eO hA 2 rfl
      refine show_value (v := .pointer (some ⟨w.heap.size, 1, none⟩)) (X' := X) ?_ ⟨hV.upd (fun _ h => Option.some.inj h), Pre1.keep hk (by decide) (hX)⟩
      generalize A.eval = ρ at *
      clear hA hl hd hcl hV hS
      go_simp
    · intro l vs X A hA ⟨hV, hS⟩ hl hd hcl
      have hk := nY 11 hcl hl
      have hX := hS.1 hk
      have hB := hX
      have a7 := eN hA 7 0 hd hV rfl
      have cc := (h0.below hB h0.lt).cell 1
      refine show_value (v := .int .u32 (dl : Int)) (X' := X) ?_ ⟨hV.upd (fun _ h => Option.some.inj h), Pre1.keep hk (by decide) (hX)⟩
      generalize A.eval = ρ at *
      clear hA hl hd hcl hV hS
      go_simp
    · intro l vs X A hA ⟨hV, hS⟩ hl hd hcl
      have hk := nY 11 hcl hl
      have hX := hS.1 hk
      have hB := hX
      have a3 := eO hA 3 rfl
      refine show_value (v := .pointer (some ⟨w.heap.size + 1, 2, none⟩)) (X' := X) ?_ ⟨hV.upd (fun _ h => Option.some.inj h), Pre1.keep hk (by decide) (hX)⟩
      generalize A.eval = ρ at *
      clear hA hl hd hcl hV hS
      go_simp
    · intro l vs X A hA ⟨hV, hS⟩ hl hd hcl
      have hk := nY 11 hcl hl
      have hX := hS.1 hk
      have hB := hX
      have a9 := eN hA 9 2 hd hV rfl
      have cc := (h1.below hB h1.lt).cell 2
      refine show_value (v := .int .u32 (sg : Int)) (X' := X) ?_ ⟨hV.upd (fun _ h => Option.some.inj h), Pre1.keep hk (by decide) (hX)⟩
      generalize A.eval = ρ at *
      clear hA hl hd hcl hV hS
      go_simp
    · intro l vs X A hA ⟨hV, hS⟩ hl hd hcl
      have hk := nY 11 hcl hl
      have hX := hS.1 hk
      have hB := hX
      have a8 := eN hA 8 1 hd hV rfl
      have a10 := eN hA 10 3 hd hV rfl
      refine show_value (v := .int .u32 ((dl / sg : Nat) : Int)) (X' := X) ?_ ⟨hV.upd (fun _ h => Option.some.inj h), Pre1.keep hk (by decide) (hX)⟩
      generalize A.eval = ρ at *
      clear hA hl hd hcl hV hS
      go_simp
      have q1 : dl / sg ≤ dl := Nat.div_le_self _ _
      have q2 : ((dl : Int) / (sg : Int)) = ((dl / sg : Nat) : Int) := by push_cast; rfl
      rw [if_neg (by omega), q2, IntKind.wrap_u32]
      generalize dl / sg = z at *
      rw [show ((z : Int) % 4294967296) = z by omega]
    · intro l vs X A hA ⟨hV, hS⟩ hl hd hcl
      have hk := nY 11 hcl hl
      have hX := hS.1 hk
      have hB := hX
      have a2 := eO hA 2 rfl
      refine show_value (v := .pointer (some ⟨w.heap.size, 2, none⟩)) (X' := X) ?_ ⟨hV.upd (fun _ h => Option.some.inj h), Pre1.keep hk (by decide) (hX)⟩
      generalize A.eval = ρ at *
      clear hA hl hd hcl hV hS
      go_simp
    · intro l vs X A hA ⟨hV, hS⟩ hl hd hcl
      have hk := nY 11 hcl hl
      have hX := hS.1 hk
      have hB := hX
      have a12 := eN hA 12 5 hd hV rfl
      have cc := (h0.below hB h0.lt).cell 2
      refine show_value (v := .int .u32 (dg : Int)) (X' := X) ?_ ⟨hV.upd (fun _ h => Option.some.inj h), Pre1.keep hk (by decide) (hX)⟩
      generalize A.eval = ρ at *
      clear hA hl hd hcl hV hS
      go_simp
    · intro l vs X A hA ⟨hV, hS⟩ hl hd hcl
      have hk := nY 11 hcl hl
      have hX := hS.1 hk
      have hB := hX
      have a3 := eO hA 3 rfl
      refine show_value (v := .pointer (some ⟨w.heap.size + 1, 1, none⟩)) (X' := X) ?_ ⟨hV.upd (fun _ h => Option.some.inj h), Pre1.keep hk (by decide) (hX)⟩
      generalize A.eval = ρ at *
      clear hA hl hd hcl hV hS
      go_simp
    · intro l vs X A hA ⟨hV, hS⟩ hl hd hcl
      have hk := nY 11 hcl hl
      have hX := hS.1 hk
      have hB := hX
      have a14 := eN hA 14 7 hd hV rfl
      have cc := (h1.below hB h1.lt).cell 1
      refine show_value (v := .int .u32 (sl : Int)) (X' := X) ?_ ⟨hV.upd (fun _ h => Option.some.inj h), Pre1.keep hk (by decide) (hX)⟩
      generalize A.eval = ρ at *
      clear hA hl hd hcl hV hS
      go_simp
    · intro l vs X A hA ⟨hV, hS⟩ hl hd hcl
      have hk := nY 11 hcl hl
      have hX := hS.1 hk
      have hB := hX
      have a13 := eN hA 13 6 hd hV rfl
      have a15 := eN hA 15 8 hd hV rfl
      refine show_value (v := .int .u32 ((dg / sl : Nat) : Int)) (X' := X) ?_ ⟨hV.upd (fun _ h => Option.some.inj h), Pre1.keep hk (by decide) (hX)⟩
      generalize A.eval = ρ at *
      clear hA hl hd hcl hV hS
      go_simp
      have q1 : dg / sl ≤ dg := Nat.div_le_self _ _
      have q2 : ((dg : Int) / (sl : Int)) = ((dg / sl : Nat) : Int) := by push_cast; rfl
      rw [if_neg (by omega), q2, IntKind.wrap_u32]
      generalize dg / sl = z at *
      rw [show ((z : Int) % 4294967296) = z by omega]
    · intro l vs X A hA ⟨hV, hS⟩ hl hd hcl
      have hk := nY 11 hcl hl
      have hX := hS.1 hk
      have hB := hX
      have a11 := eN hA 11 4 hd hV rfl
      have a16 := eN hA 16 9 hd hV rfl
      have aF0 : A.eval (.func 83) = .func (.func 83) #[] #[] := rfl
      refine show_call (f := 83) (args := #[.int .u32 ((dl / sg : Nat) : Int), .int .u32 ((dg / sl : Nat) : Int)]) ?_ (from_any _ _ X (Int.natCast_nonneg _) (Int.natCast_nonneg _)) ?_
      · generalize A.eval = ρ at *
        clear hA hl hd hcl hV hS
        go_simp
      · rintro e X' ⟨rfl, hB1⟩
        exact .inl ⟨_, rfl, hV.upd (fun _ h => Option.some.inj h), Pre1.keep hk (by decide) (hX.trans (hB1.mono hX.size))⟩
    · intro l vs X A hA ⟨hV, hS⟩ hl hd hcl
      have hX := hS.1 hl
      have hB := hX
      have a4 := eO hA 4 rfl
      have a17 := eN hA 17 10 hd hV rfl
      refine show_skip (X' := X.setRow (w.heap.size + 2) (quoR (⟨ds, dl, dg⟩ : Rg) (⟨ss, sl, sg⟩ : Rg)).a) (run_st_row 40 _ _ rfl (w.heap.size + 2) _ _ _ a4 a17 (h2.below hB h2.lt) (by kernel_rfl) (by kernel_rfl) (Rg.a_one _)) ⟨hV.upd (fun _ h => by cases h), Pre1.last ⟨X, hX, rfl⟩⟩
  case hend =>
    intro l vs X hl ⟨hV, hS⟩
    have hX := hS.2 (hl 11 (by decide))
    have v0 := hV 0 _ (hl 0 (by decide)) rfl
    have v1 := hV 1 _ (hl 1 (by decide)) rfl
    have v2 := hV 2 _ (hl 2 (by decide)) rfl
    have v3 := hV 3 _ (hl 3 (by decide)) rfl
    have v4 := hV 4 _ (hl 4 (by decide)) rfl
    have v5 := hV 5 _ (hl 5 (by decide)) rfl
    have v6 := hV 6 _ (hl 6 (by decide)) rfl
    have v7 := hV 7 _ (hl 7 (by decide)) rfl
    have v8 := hV 8 _ (hl 8 (by decide)) rfl
    have v9 := hV 9 _ (hl 9 (by decide)) rfl
    have v10 := hV 10 _ (hl 10 (by decide)) rfl
    clear hV hS hl
    simp only [canonL, if_true, v0, v1, v2, v3, v4, v5, v6, v7, v8, v9, v10]
    clear v0 v1 v2 v3 v4 v5 v6 v7 v8 v9 v10
    go_simp
    obtain ⟨X', hX', rfl⟩ := hX
    have hrow : Has (X'.setRow (w.heap.size + 2) (quoR (⟨ds, dl, dg⟩ : Rg) (⟨ss, sl, sg⟩ : Rg)).a) (w.heap.size + 2) (quoR (⟨ds, dl, dg⟩ : Rg) (⟨ss, sl, sg⟩ : Rg)).a 40 := setRow_has (h2.below hX' h2.lt) _
    have hB9 : Below w.heap.size w (X'.setRow (w.heap.size + 2) (quoR (⟨ds, dl, dg⟩ : Rg) (⟨ss, sl, sg⟩ : Rg)).a) := setRow_below (hB0.trans (hX'.mono hB0.size)) (by omega) _
    generalize X'.setRow (w.heap.size + 2) (quoR (⟨ds, dl, dg⟩ : Rg) (⟨ss, sl, sg⟩ : Rg)).a = X9 at *
    go_wp2_with fail
    refine bodyPost_ret (results_cell_row rfl _ _ (w.heap.size + 2) 40 _ (0, 0) _ rfl hrow Tryd.underlying40 rfl (by kernel_rfl)) rfl ?_
    exact ⟨rfl, hB9⟩
set_option maxRecDepth 10000 in
set_option maxHeartbeats 1000000 in
theorem quo_no (d s : Rg) (w : World) (hl : s.least = 0) :
    Calls Tryd.prog 55 #[d.v, s.v] w fun e w' => e = .panicked Wrong.zero.entry ∧ Below w.heap.size w w' := by
  obtain ⟨ss, sl, sg⟩ := s
  obtain ⟨ds, dl, dg⟩ := d
  have HN : Hid ((⟨ss, sl, sg⟩ : Rg).least = 0) := hl
  clear hl
  go_enter Tryd.func55, Tryd.ntmps55
  go_wp2_with (go_at_call 85; refine (notZero_no ⟨ss, sl, sg⟩ _ HN.out).mono ?_; rintro e W1 ⟨rfl, hB1⟩)
  exact ⟨rfl, rfl, ((((Below.refl _ _).alloc (Nat.le_refl _) _).alloc (by simp) _).alloc (by simp <;> omega) _).trans (hB1.mono (by simp <;> omega))⟩
end Go.Proofs.YtodkehpldlmgaaaDoor
