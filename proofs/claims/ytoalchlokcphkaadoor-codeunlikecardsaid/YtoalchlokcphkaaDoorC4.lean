/- The document's May: the same as the program's. -/
import Derived.Test.YtoalchlokcphkaaDoorC3
import Derived.Deep.Light
namespace Go.Proofs.YtoalchlokcphkaaDoor
open Go.RowKit

theorem regB_iff {u p n : Int} : regB u p n = true ↔ (hasB u p = true ∧ 0 ≤ n ∧ n < 10) ∨ (hasB u p = false ∧ n = 0) := by
  unfold regB; cases hasB u p <;> simp
theorem offB_iff {u n : Int} : offB u n = true ↔ (hasB u 32 = true ∧ -32768 ≤ n ∧ n ≤ 32767) ∨ (hasB u 32 = false ∧ hasB u 64 = true ∧ 0 ≤ n ∧ n ≤ 255) ∨ (hasB u 32 = false ∧ hasB u 64 = false ∧ n = 0) := by
  unfold offB; cases hasB u 32 <;> cases hasB u 64 <;> simp
theorem immB_iff {u n : Int} : immB u n = true ↔ hasB u 4 = true ∨ (hasB u 4 = false ∧ hasB u 8 = true ∧ n ≤ 31) ∨ (hasB u 4 = false ∧ hasB u 8 = false ∧ hasB u 16 = true ∧ n < 8) ∨ (hasB u 4 = false ∧ hasB u 8 = false ∧ hasB u 16 = false ∧ n = 0) := by
  unfold immB; cases hasB u 4 <;> cases hasB u 8 <;> cases hasB u 16 <;> simp
theorem flags : ∀ n : Fin 25, hasB (usesN n.val) 1 = useD n.val ∧ hasB (usesN n.val) 2 = useS n.val ∧ hasB (usesN n.val) 32 = decide (16 ≤ (n.val : Int) ∧ (n.val : Int) ≤ 18) ∧ hasB (usesN n.val) 64 = decide (19 ≤ (n.val : Int) ∧ (n.val : Int) ≤ 22)
    ∧ hasB (usesN n.val) 4 = decide ((n.val : Int) = 1 ∨ (n.val : Int) = 3 ∨ (n.val : Int) = 6 ∨ (n.val : Int) = 8 ∨ (n.val : Int) = 20 ∨ (n.val : Int) = 21) ∧ hasB (usesN n.val) 8 = decide ((n.val : Int) = 12 ∨ (n.val : Int) = 13) ∧ hasB (usesN n.val) 16 = decide ((n.val : Int) = 23) := by decide +kernel
/-- What an instruction that may be is like. -/
def MayP (op dst src off imm : Int) : Prop := (1 ≤ op ∧ op ≤ 24)
  ∧ ((1 ≤ op ∧ op ≤ 18 ∨ 20 ≤ op ∧ op ≤ 22) ∧ 0 ≤ dst ∧ dst < 10 ∨ ¬ (1 ≤ op ∧ op ≤ 18 ∨ 20 ≤ op ∧ op ≤ 22) ∧ dst = 0)
  ∧ ((op = 2 ∨ op = 4 ∨ op = 5 ∨ op = 7 ∨ 9 ≤ op ∧ op ≤ 11 ∨ 14 ≤ op ∧ op ≤ 18 ∨ op = 22) ∧ 0 ≤ src ∧ src < 10 ∨ ¬ (op = 2 ∨ op = 4 ∨ op = 5 ∨ op = 7 ∨ 9 ≤ op ∧ op ≤ 11 ∨ 14 ≤ op ∧ op ≤ 18 ∨ op = 22) ∧ src = 0)
  ∧ (16 ≤ op ∧ op ≤ 18 ∧ -32768 ≤ off ∧ off ≤ 32767 ∨ 19 ≤ op ∧ op ≤ 22 ∧ 0 ≤ off ∧ off ≤ 255 ∨ (op < 16 ∨ 22 < op) ∧ off = 0)
  ∧ ((op = 1 ∨ op = 3 ∨ op = 6 ∨ op = 8 ∨ op = 20 ∨ op = 21) ∨ (op = 12 ∨ op = 13) ∧ imm ≤ 31 ∨ op = 23 ∧ imm < 8 ∨ ¬ (op = 1 ∨ op = 3 ∨ op = 6 ∨ op = 8 ∨ op = 20 ∨ op = 21 ∨ op = 12 ∨ op = 13 ∨ op = 23) ∧ imm = 0)
theorem mayB_iff {op dst src off imm : Int} : mayB op dst src off imm = true ↔ MayP op dst src off imm := by
  unfold mayB thereB MayP
  by_cases h : 1 ≤ op ∧ op ≤ 24
  · obtain ⟨n, rfl⟩ : ∃ n : Nat, op = n := ⟨op.toNat, by omega⟩
    obtain ⟨f1, f2, f3, f4, f5, f6, f7⟩ := flags ⟨n, by omega⟩
    simp only at f1 f2 f3 f4 f5 f6 f7
    unfold fitB
    rw [Int.toNat_natCast]
    simp only [Bool.and_eq_true, regB_iff, offB_iff, immB_iff, f1, f2, f3, f4, f5, f6, f7, useD, useS, decide_eq_true_eq, decide_eq_false_iff_not]
    clear f1 f2 f3 f4 f5 f6 f7
    generalize (n : Int) = op at *
    constructor
    · rintro ⟨h0, h1, h2, h3, h4⟩
      exact ⟨by omega, by omega, by omega, by omega, by omega⟩
    · rintro ⟨h0, h1, h2, h3, h4⟩
      exact ⟨⟨by omega, by omega⟩, by omega, by omega, by omega, by omega⟩
  · constructor
    · intro hh; simp only [Bool.and_eq_true, decide_eq_true_eq] at hh; omega
    · rintro ⟨h0, _⟩; omega
theorem beqT {a b : Int} (h : a = b) : (a == b) = true := by simpa using h
theorem beqF {a b : Int} (h : ¬ a = b) : (a == b) = false := by simpa using h
theorem bneT {a b : Int} (h : ¬ a = b) : (a != b) = true := by simpa using h
theorem bneF {a b : Int} (h : a = b) : (a != b) = false := by simpa using h
theorem un {a : Int} (h : (a != 0) = false) : a = 0 := by simpa using h
theorem uy {a : Int} (h : (a != 0) = true) : a ≠ 0 := by simpa using h
theorem end_yes {op dst src off imm : Int} (h : MayP op dst src off imm) : Ending.returned (.bool true) = .returned (.bool (mayB op dst src off imm)) := by rw [mayB_iff.2 h]
theorem end_no {op dst src off imm : Int} (h : ¬ MayP op dst src off imm) : Ending.returned (.bool false) = .returned (.bool (mayB op dst src off imm)) := by
  rw [Bool.eq_false_iff.2 (fun k => h (mayB_iff.1 k))]
theorem end_is {p : Prop} [Decidable p] {op dst src off imm : Int} (h : p ↔ MayP op dst src off imm) : Ending.returned (.bool (decide p)) = .returned (.bool (mayB op dst src off imm)) := by
  cases k : mayB op dst src off imm
  · rw [decide_eq_false (fun hp => by rw [mayB_iff.2 (h.1 hp)] at k; cases k)]
  · rw [decide_eq_true (h.2 (mayB_iff.1 k))]
set_option maxHeartbeats 4000000 in
theorem rmay_a (op dst src off imm : Int) (w : World) (_hi : 0 ≤ imm) (hop : op = 1 ∨ op = 3 ∨ op = 6 ∨ op = 8) :
    Calls Tryd.prog 22 #[.agg #[.int .i64 op, .int .i64 dst, .int .i64 src, .int .i64 off, .int .u32 imm]] w fun e w' => e = .returned (.bool (mayB op dst src off imm)) ∧ Below w.heap.size w w' := by
  have hD : useD op = true := decide_eq_true (by omega)
  have hS : useS op = false := decide_eq_false (by omega)
  have hO : useO op = false := decide_eq_false (by omega)
  have hM : useM op = true := decide_eq_true (by omega)
  have hI : useI op = true := decide_eq_true (by omega)
  have h16 : ¬ 16 ≤ op := by omega
  have h19 : ¬ 19 ≤ op := by omega
  have h12 : (op == 12) = false := beqF (by omega)
  have h13 : (op == 13) = false := beqF (by omega)
  have h23 : (op != 23) = true := bneT (by omega)
  have Hop : Hid (op = 1 ∨ op = 3 ∨ op = 6 ∨ op = 8) := hop
  clear hop
  go_enter Tryd.func22, Tryd.ntmps22
  go_wp2_with (go_at_call 36; refine (uses_any _ _).mono ?_; rintro e w' ⟨rfl, rfl⟩)
  all_goals
    go_ret
    refine ⟨?_, (Below.refl _ _).alloc (Nat.le_refl _) _⟩
    go_light
    have hop := Hop.out
    clear Hop hD hS hO hM hI h12 h13 h23
    try have _e0 : imm = 0 := un (by assumption)
    try have _e1 : imm ≠ 0 := uy (by assumption)
    first
      | (refine end_yes ?_; exact ⟨by omega, by omega, by omega, by omega, by omega⟩)
      | (refine end_no ?_; rintro ⟨k0, k1, k2, k3, k4⟩; omega)
      | (refine end_is (p := imm < 8) ⟨fun _ => ?_, ?_⟩; exact ⟨by omega, by omega, by omega, by omega, by omega⟩; rintro ⟨k0, k1, k2, k3, k4⟩; omega)
set_option maxHeartbeats 4000000 in
theorem rmay_b (op dst src off imm : Int) (w : World) (_hi : 0 ≤ imm) (hop : op = 12) :
    Calls Tryd.prog 22 #[.agg #[.int .i64 op, .int .i64 dst, .int .i64 src, .int .i64 off, .int .u32 imm]] w fun e w' => e = .returned (.bool (mayB op dst src off imm)) ∧ Below w.heap.size w w' := by
  have hD : useD op = true := decide_eq_true (by omega)
  have hS : useS op = false := decide_eq_false (by omega)
  have hO : useO op = false := decide_eq_false (by omega)
  have hM : useM op = true := decide_eq_true (by omega)
  have hI : useI op = true := decide_eq_true (by omega)
  have h16 : ¬ 16 ≤ op := by omega
  have h19 : ¬ 19 ≤ op := by omega
  have h12 : (op == 12) = true := beqT (by omega)
  have h23 : (op != 23) = true := bneT (by omega)
  have Hop : Hid (op = 12) := hop
  clear hop
  go_enter Tryd.func22, Tryd.ntmps22
  go_wp2_with (go_at_call 36; refine (uses_any _ _).mono ?_; rintro e w' ⟨rfl, rfl⟩)
  all_goals
    go_ret
    refine ⟨?_, (Below.refl _ _).alloc (Nat.le_refl _) _⟩
    go_light
    have hop := Hop.out
    clear Hop hD hS hO hM hI h12 h23
    try have _e0 : imm = 0 := un (by assumption)
    try have _e1 : imm ≠ 0 := uy (by assumption)
    first
      | (refine end_yes ?_; exact ⟨by omega, by omega, by omega, by omega, by omega⟩)
      | (refine end_no ?_; rintro ⟨k0, k1, k2, k3, k4⟩; omega)
      | (refine end_is (p := imm < 8) ⟨fun _ => ?_, ?_⟩; exact ⟨by omega, by omega, by omega, by omega, by omega⟩; rintro ⟨k0, k1, k2, k3, k4⟩; omega)
set_option maxHeartbeats 4000000 in
theorem rmay_b2 (op dst src off imm : Int) (w : World) (_hi : 0 ≤ imm) (hop : op = 13) :
    Calls Tryd.prog 22 #[.agg #[.int .i64 op, .int .i64 dst, .int .i64 src, .int .i64 off, .int .u32 imm]] w fun e w' => e = .returned (.bool (mayB op dst src off imm)) ∧ Below w.heap.size w w' := by
  have hD : useD op = true := decide_eq_true (by omega)
  have hS : useS op = false := decide_eq_false (by omega)
  have hO : useO op = false := decide_eq_false (by omega)
  have hM : useM op = true := decide_eq_true (by omega)
  have hI : useI op = true := decide_eq_true (by omega)
  have h16 : ¬ 16 ≤ op := by omega
  have h19 : ¬ 19 ≤ op := by omega
  have h12 : (op == 12) = false := beqF (by omega)
  have h13 : (op == 13) = true := beqT (by omega)
  have h23 : (op != 23) = true := bneT (by omega)
  have Hop : Hid (op = 13) := hop
  clear hop
  go_enter Tryd.func22, Tryd.ntmps22
  go_wp2_with (go_at_call 36; refine (uses_any _ _).mono ?_; rintro e w' ⟨rfl, rfl⟩)
  all_goals
    go_ret
    refine ⟨?_, (Below.refl _ _).alloc (Nat.le_refl _) _⟩
    go_light
    have hop := Hop.out
    clear Hop hD hS hO hM hI h12 h13 h23
    try have _e0 : imm = 0 := un (by assumption)
    try have _e1 : imm ≠ 0 := uy (by assumption)
    first
      | (refine end_yes ?_; exact ⟨by omega, by omega, by omega, by omega, by omega⟩)
      | (refine end_no ?_; rintro ⟨k0, k1, k2, k3, k4⟩; omega)
      | (refine end_is (p := imm < 8) ⟨fun _ => ?_, ?_⟩; exact ⟨by omega, by omega, by omega, by omega, by omega⟩; rintro ⟨k0, k1, k2, k3, k4⟩; omega)
set_option maxHeartbeats 4000000 in
theorem rmay_c (op dst src off imm : Int) (w : World) (_hi : 0 ≤ imm) (hop : op = 2 ∨ op = 4 ∨ op = 5 ∨ op = 7 ∨ 9 ≤ op ∧ op ≤ 11 ∨ op = 14 ∨ op = 15) :
    Calls Tryd.prog 22 #[.agg #[.int .i64 op, .int .i64 dst, .int .i64 src, .int .i64 off, .int .u32 imm]] w fun e w' => e = .returned (.bool (mayB op dst src off imm)) ∧ Below w.heap.size w w' := by
  have hD : useD op = true := decide_eq_true (by omega)
  have hS : useS op = true := decide_eq_true (by omega)
  have hO : useO op = false := decide_eq_false (by omega)
  have hM : useM op = false := decide_eq_false (by omega)
  have hI : useI op = true := decide_eq_true (by omega)
  have h16 : ¬ 16 ≤ op := by omega
  have h19 : ¬ 19 ≤ op := by omega
  have h12 : (op == 12) = false := beqF (by omega)
  have h13 : (op == 13) = false := beqF (by omega)
  have h23 : (op != 23) = true := bneT (by omega)
  have Hop : Hid (op = 2 ∨ op = 4 ∨ op = 5 ∨ op = 7 ∨ 9 ≤ op ∧ op ≤ 11 ∨ op = 14 ∨ op = 15) := hop
  clear hop
  go_enter Tryd.func22, Tryd.ntmps22
  go_wp2_with (go_at_call 36; refine (uses_any _ _).mono ?_; rintro e w' ⟨rfl, rfl⟩)
  all_goals
    go_ret
    refine ⟨?_, (Below.refl _ _).alloc (Nat.le_refl _) _⟩
    go_light
    have hop := Hop.out
    clear Hop hD hS hO hM hI h12 h13 h23
    try have _e0 : imm = 0 := un (by assumption)
    try have _e1 : imm ≠ 0 := uy (by assumption)
    first
      | (refine end_yes ?_; exact ⟨by omega, by omega, by omega, by omega, by omega⟩)
      | (refine end_no ?_; rintro ⟨k0, k1, k2, k3, k4⟩; omega)
      | (refine end_is (p := imm < 8) ⟨fun _ => ?_, ?_⟩; exact ⟨by omega, by omega, by omega, by omega, by omega⟩; rintro ⟨k0, k1, k2, k3, k4⟩; omega)
set_option maxHeartbeats 4000000 in
theorem rmay_d (op dst src off imm : Int) (w : World) (_hi : 0 ≤ imm) (hop : 16 ≤ op ∧ op ≤ 18) :
    Calls Tryd.prog 22 #[.agg #[.int .i64 op, .int .i64 dst, .int .i64 src, .int .i64 off, .int .u32 imm]] w fun e w' => e = .returned (.bool (mayB op dst src off imm)) ∧ Below w.heap.size w w' := by
  have hD : useD op = true := decide_eq_true (by omega)
  have hS : useS op = true := decide_eq_true (by omega)
  have hO : useO op = true := decide_eq_true (by omega)
  have hM : useM op = false := decide_eq_false (by omega)
  have hI : useI op = true := decide_eq_true (by omega)
  have h16 : 16 ≤ op := by omega
  have h18 : op ≤ 18 := by omega
  have h19 : ¬ 19 ≤ op := by omega
  have h12 : (op == 12) = false := beqF (by omega)
  have h13 : (op == 13) = false := beqF (by omega)
  have h23 : (op != 23) = true := bneT (by omega)
  have Hop : Hid (16 ≤ op ∧ op ≤ 18) := hop
  clear hop
  go_enter Tryd.func22, Tryd.ntmps22
  go_wp2_with (go_at_call 36; refine (uses_any _ _).mono ?_; rintro e w' ⟨rfl, rfl⟩)
  all_goals
    go_ret
    refine ⟨?_, (Below.refl _ _).alloc (Nat.le_refl _) _⟩
    go_light
    have hop := Hop.out
    clear Hop hD hS hO hM hI h12 h13 h23
    try have _e0 : imm = 0 := un (by assumption)
    try have _e1 : imm ≠ 0 := uy (by assumption)
    first
      | (refine end_yes ?_; exact ⟨by omega, by omega, by omega, by omega, by omega⟩)
      | (refine end_no ?_; rintro ⟨k0, k1, k2, k3, k4⟩; omega)
      | (refine end_is (p := imm < 8) ⟨fun _ => ?_, ?_⟩; exact ⟨by omega, by omega, by omega, by omega, by omega⟩; rintro ⟨k0, k1, k2, k3, k4⟩; omega)
set_option maxHeartbeats 4000000 in
theorem rmay_e (op dst src off imm : Int) (w : World) (_hi : 0 ≤ imm) (hop : op = 19) :
    Calls Tryd.prog 22 #[.agg #[.int .i64 op, .int .i64 dst, .int .i64 src, .int .i64 off, .int .u32 imm]] w fun e w' => e = .returned (.bool (mayB op dst src off imm)) ∧ Below w.heap.size w w' := by
  have hD : useD op = false := decide_eq_false (by omega)
  have hS : useS op = false := decide_eq_false (by omega)
  have hO : useO op = true := decide_eq_true (by omega)
  have hM : useM op = false := decide_eq_false (by omega)
  have hI : useI op = true := decide_eq_true (by omega)
  have h16 : 16 ≤ op := by omega
  have h18 : ¬ op ≤ 18 := by omega
  have h19 : 19 ≤ op := by omega
  have h12 : (op == 12) = false := beqF (by omega)
  have h13 : (op == 13) = false := beqF (by omega)
  have h23 : (op != 23) = true := bneT (by omega)
  have Hop : Hid (op = 19) := hop
  clear hop
  go_enter Tryd.func22, Tryd.ntmps22
  go_wp2_with (go_at_call 36; refine (uses_any _ _).mono ?_; rintro e w' ⟨rfl, rfl⟩)
  all_goals
    go_ret
    refine ⟨?_, (Below.refl _ _).alloc (Nat.le_refl _) _⟩
    go_light
    have hop := Hop.out
    clear Hop hD hS hO hM hI h12 h13 h23
    try have _e0 : imm = 0 := un (by assumption)
    try have _e1 : imm ≠ 0 := uy (by assumption)
    first
      | (refine end_yes ?_; exact ⟨by omega, by omega, by omega, by omega, by omega⟩)
      | (refine end_no ?_; rintro ⟨k0, k1, k2, k3, k4⟩; omega)
      | (refine end_is (p := imm < 8) ⟨fun _ => ?_, ?_⟩; exact ⟨by omega, by omega, by omega, by omega, by omega⟩; rintro ⟨k0, k1, k2, k3, k4⟩; omega)
set_option maxHeartbeats 4000000 in
theorem rmay_f (op dst src off imm : Int) (w : World) (_hi : 0 ≤ imm) (hop : op = 20 ∨ op = 21) :
    Calls Tryd.prog 22 #[.agg #[.int .i64 op, .int .i64 dst, .int .i64 src, .int .i64 off, .int .u32 imm]] w fun e w' => e = .returned (.bool (mayB op dst src off imm)) ∧ Below w.heap.size w w' := by
  have hD : useD op = true := decide_eq_true (by omega)
  have hS : useS op = false := decide_eq_false (by omega)
  have hO : useO op = true := decide_eq_true (by omega)
  have hM : useM op = true := decide_eq_true (by omega)
  have hI : useI op = true := decide_eq_true (by omega)
  have h16 : 16 ≤ op := by omega
  have h18 : ¬ op ≤ 18 := by omega
  have h19 : 19 ≤ op := by omega
  have h12 : (op == 12) = false := beqF (by omega)
  have h13 : (op == 13) = false := beqF (by omega)
  have h23 : (op != 23) = true := bneT (by omega)
  have Hop : Hid (op = 20 ∨ op = 21) := hop
  clear hop
  go_enter Tryd.func22, Tryd.ntmps22
  go_wp2_with (go_at_call 36; refine (uses_any _ _).mono ?_; rintro e w' ⟨rfl, rfl⟩)
  all_goals
    go_ret
    refine ⟨?_, (Below.refl _ _).alloc (Nat.le_refl _) _⟩
    go_light
    have hop := Hop.out
    clear Hop hD hS hO hM hI h12 h13 h23
    try have _e0 : imm = 0 := un (by assumption)
    try have _e1 : imm ≠ 0 := uy (by assumption)
    first
      | (refine end_yes ?_; exact ⟨by omega, by omega, by omega, by omega, by omega⟩)
      | (refine end_no ?_; rintro ⟨k0, k1, k2, k3, k4⟩; omega)
      | (refine end_is (p := imm < 8) ⟨fun _ => ?_, ?_⟩; exact ⟨by omega, by omega, by omega, by omega, by omega⟩; rintro ⟨k0, k1, k2, k3, k4⟩; omega)
set_option maxHeartbeats 4000000 in
theorem rmay_g (op dst src off imm : Int) (w : World) (_hi : 0 ≤ imm) (hop : op = 22) :
    Calls Tryd.prog 22 #[.agg #[.int .i64 op, .int .i64 dst, .int .i64 src, .int .i64 off, .int .u32 imm]] w fun e w' => e = .returned (.bool (mayB op dst src off imm)) ∧ Below w.heap.size w w' := by
  have hD : useD op = true := decide_eq_true (by omega)
  have hS : useS op = true := decide_eq_true (by omega)
  have hO : useO op = true := decide_eq_true (by omega)
  have hM : useM op = false := decide_eq_false (by omega)
  have hI : useI op = true := decide_eq_true (by omega)
  have h16 : 16 ≤ op := by omega
  have h18 : ¬ op ≤ 18 := by omega
  have h19 : 19 ≤ op := by omega
  have h12 : (op == 12) = false := beqF (by omega)
  have h13 : (op == 13) = false := beqF (by omega)
  have h23 : (op != 23) = true := bneT (by omega)
  have Hop : Hid (op = 22) := hop
  clear hop
  go_enter Tryd.func22, Tryd.ntmps22
  go_wp2_with (go_at_call 36; refine (uses_any _ _).mono ?_; rintro e w' ⟨rfl, rfl⟩)
  all_goals
    go_ret
    refine ⟨?_, (Below.refl _ _).alloc (Nat.le_refl _) _⟩
    go_light
    have hop := Hop.out
    clear Hop hD hS hO hM hI h12 h13 h23
    try have _e0 : imm = 0 := un (by assumption)
    try have _e1 : imm ≠ 0 := uy (by assumption)
    first
      | (refine end_yes ?_; exact ⟨by omega, by omega, by omega, by omega, by omega⟩)
      | (refine end_no ?_; rintro ⟨k0, k1, k2, k3, k4⟩; omega)
      | (refine end_is (p := imm < 8) ⟨fun _ => ?_, ?_⟩; exact ⟨by omega, by omega, by omega, by omega, by omega⟩; rintro ⟨k0, k1, k2, k3, k4⟩; omega)
set_option maxHeartbeats 4000000 in
theorem rmay_h (op dst src off imm : Int) (w : World) (_hi : 0 ≤ imm) (hop : op = 23) :
    Calls Tryd.prog 22 #[.agg #[.int .i64 op, .int .i64 dst, .int .i64 src, .int .i64 off, .int .u32 imm]] w fun e w' => e = .returned (.bool (mayB op dst src off imm)) ∧ Below w.heap.size w w' := by
  have hD : useD op = false := decide_eq_false (by omega)
  have hS : useS op = false := decide_eq_false (by omega)
  have hO : useO op = false := decide_eq_false (by omega)
  have hM : useM op = true := decide_eq_true (by omega)
  have hI : useI op = true := decide_eq_true (by omega)
  have h16 : 16 ≤ op := by omega
  have h18 : ¬ op ≤ 18 := by omega
  have h19 : 19 ≤ op := by omega
  have h12 : (op == 12) = false := beqF (by omega)
  have h13 : (op == 13) = false := beqF (by omega)
  have h23 : (op != 23) = false := bneF (by omega)
  have Hop : Hid (op = 23) := hop
  clear hop
  go_enter Tryd.func22, Tryd.ntmps22
  go_wp2_with (go_at_call 36; refine (uses_any _ _).mono ?_; rintro e w' ⟨rfl, rfl⟩)
  all_goals
    go_ret
    refine ⟨?_, (Below.refl _ _).alloc (Nat.le_refl _) _⟩
    go_light
    have hop := Hop.out
    clear Hop hD hS hO hM hI h12 h13 h23
    try have _e0 : imm = 0 := un (by assumption)
    try have _e1 : imm ≠ 0 := uy (by assumption)
    first
      | (refine end_yes ?_; exact ⟨by omega, by omega, by omega, by omega, by omega⟩)
      | (refine end_no ?_; rintro ⟨k0, k1, k2, k3, k4⟩; omega)
      | (refine end_is (p := imm < 8) ⟨fun _ => ?_, ?_⟩; exact ⟨by omega, by omega, by omega, by omega, by omega⟩; rintro ⟨k0, k1, k2, k3, k4⟩; omega)
set_option maxHeartbeats 4000000 in
theorem rmay_i (op dst src off imm : Int) (w : World) (_hi : 0 ≤ imm) (hop : op = 24) :
    Calls Tryd.prog 22 #[.agg #[.int .i64 op, .int .i64 dst, .int .i64 src, .int .i64 off, .int .u32 imm]] w fun e w' => e = .returned (.bool (mayB op dst src off imm)) ∧ Below w.heap.size w w' := by
  have hD : useD op = false := decide_eq_false (by omega)
  have hS : useS op = false := decide_eq_false (by omega)
  have hO : useO op = false := decide_eq_false (by omega)
  have hM : useM op = false := decide_eq_false (by omega)
  have hI : useI op = true := decide_eq_true (by omega)
  have h16 : 16 ≤ op := by omega
  have h18 : ¬ op ≤ 18 := by omega
  have h19 : 19 ≤ op := by omega
  have h12 : (op == 12) = false := beqF (by omega)
  have h13 : (op == 13) = false := beqF (by omega)
  have h23 : (op != 23) = true := bneT (by omega)
  have Hop : Hid (op = 24) := hop
  clear hop
  go_enter Tryd.func22, Tryd.ntmps22
  go_wp2_with (go_at_call 36; refine (uses_any _ _).mono ?_; rintro e w' ⟨rfl, rfl⟩)
  all_goals
    go_ret
    refine ⟨?_, (Below.refl _ _).alloc (Nat.le_refl _) _⟩
    go_light
    have hop := Hop.out
    clear Hop hD hS hO hM hI h12 h13 h23
    try have _e0 : imm = 0 := un (by assumption)
    try have _e1 : imm ≠ 0 := uy (by assumption)
    first
      | (refine end_yes ?_; exact ⟨by omega, by omega, by omega, by omega, by omega⟩)
      | (refine end_no ?_; rintro ⟨k0, k1, k2, k3, k4⟩; omega)
      | (refine end_is (p := imm < 8) ⟨fun _ => ?_, ?_⟩; exact ⟨by omega, by omega, by omega, by omega, by omega⟩; rintro ⟨k0, k1, k2, k3, k4⟩; omega)
set_option maxHeartbeats 4000000 in
theorem rmay_j (op dst src off imm : Int) (w : World) (_hi : 0 ≤ imm) (hop : op < 1 ∨ 24 < op) :
    Calls Tryd.prog 22 #[.agg #[.int .i64 op, .int .i64 dst, .int .i64 src, .int .i64 off, .int .u32 imm]] w fun e w' => e = .returned (.bool (mayB op dst src off imm)) ∧ Below w.heap.size w w' := by
  have hD : useD op = false := decide_eq_false (by omega)
  have hS : useS op = false := decide_eq_false (by omega)
  have hO : useO op = false := decide_eq_false (by omega)
  have hM : useM op = false := decide_eq_false (by omega)
  have hI : useI op = false := decide_eq_false (by omega)
  have Hop : Hid (op < 1 ∨ 24 < op) := hop
  clear hop
  go_enter Tryd.func22, Tryd.ntmps22
  go_wp2_with (go_at_call 36; refine (uses_any _ _).mono ?_; rintro e w' ⟨rfl, rfl⟩)
  all_goals
    go_ret
    refine ⟨?_, (Below.refl _ _).alloc (Nat.le_refl _) _⟩
    go_light
    have hop := Hop.out
    clear Hop hD hS hO hM hI
    try have _e0 : imm = 0 := un (by assumption)
    try have _e1 : imm ≠ 0 := uy (by assumption)
    first
      | (refine end_yes ?_; exact ⟨by omega, by omega, by omega, by omega, by omega⟩)
      | (refine end_no ?_; rintro ⟨k0, k1, k2, k3, k4⟩; omega)
      | (refine end_is (p := imm < 8) ⟨fun _ => ?_, ?_⟩; exact ⟨by omega, by omega, by omega, by omega, by omega⟩; rintro ⟨k0, k1, k2, k3, k4⟩; omega)
/-- The document's May is the program's. -/
theorem rmay_any (op dst src off imm : Int) (w : World) (hi : 0 ≤ imm) :
    Calls Tryd.prog 22 #[.agg #[.int .i64 op, .int .i64 dst, .int .i64 src, .int .i64 off, .int .u32 imm]] w fun e w' => e = .returned (.bool (mayB op dst src off imm)) ∧ Below w.heap.size w w' := by
  by_cases hj : op < 1 ∨ 24 < op
  · exact rmay_j op dst src off imm w hi hj
  by_cases ha : op = 1 ∨ op = 3 ∨ op = 6 ∨ op = 8
  · exact rmay_a op dst src off imm w hi ha
  by_cases hc : op = 2 ∨ op = 4 ∨ op = 5 ∨ op = 7 ∨ 9 ≤ op ∧ op ≤ 11 ∨ op = 14 ∨ op = 15
  · exact rmay_c op dst src off imm w hi hc
  by_cases hd : 16 ≤ op ∧ op ≤ 18
  · exact rmay_d op dst src off imm w hi hd
  by_cases hf : op = 20 ∨ op = 21
  · exact rmay_f op dst src off imm w hi hf
  rcases (show op = 12 ∨ op = 13 ∨ op = 19 ∨ op = 22 ∨ op = 23 ∨ op = 24 by omega) with h | h | h | h | h | h
  · exact rmay_b op dst src off imm w hi h
  · exact rmay_b2 op dst src off imm w hi h
  · exact rmay_e op dst src off imm w hi h
  · exact rmay_g op dst src off imm w hi h
  · exact rmay_h op dst src off imm w hi h
  · exact rmay_i op dst src off imm w hi h
end Go.Proofs.YtoalchlokcphkaaDoor
