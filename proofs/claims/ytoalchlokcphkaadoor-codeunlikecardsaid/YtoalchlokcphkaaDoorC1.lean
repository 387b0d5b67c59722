/- The small functions of ops.go: has, there, takesRegister, takesOff, takesImm. -/
import Derived.Test.YtoalchlokcphkaaDoorProg
import Derived.Test.YtoalchlokcphkaaDoorU1
namespace Go.Proofs.YtoalchlokcphkaaDoor
open Go.RowKit

/-- Is a flag among those that are used? -/
def hasB (u p : Int) : Bool := bits BinOp.and IntKind.i64 u p != 0
def thereB (op : Int) : Bool := decide (0 < op) && decide (op ≤ 24)
def regB (u p n : Int) : Bool := if hasB u p then decide (0 ≤ n) && decide (n < 10) else decide (n = 0)
def offB (u n : Int) : Bool := if hasB u 32 then decide (-32768 ≤ n) && decide (n ≤ 32767) else if hasB u 64 then decide (0 ≤ n) && decide (n ≤ 255) else decide (n = 0)
def immB (u n : Int) : Bool := if hasB u 4 then true else if hasB u 8 then decide (n ≤ 31) else if hasB u 16 then decide (n < 8) else decide (n = 0)

theorem has_any (u p : Int) (w : World) :
    Calls Tryd.prog 30 #[.int .i64 u, .int .i64 p] w fun e w' => e = .returned (.bool (hasB u p)) ∧ w = w' := by
  go_enter Tryd.func30, Tryd.ntmps30
  go_wp2
  go_ret
  exact ⟨rfl, rfl⟩
theorem there_any (op : Int) (w : World) :
    Calls Tryd.prog 35 #[.int .i64 op] w fun e w' => e = .returned (.bool (thereB op)) ∧ w = w' := by
  unfold thereB
  by_cases h : 0 < op
  · rw [decide_eq_true h, Bool.true_and]
    go_enter Tryd.func35, Tryd.ntmps35
    go_wp2
    go_ret
    exact ⟨rfl, rfl⟩
  · rw [decide_eq_false h, Bool.false_and]
    go_enter Tryd.func35, Tryd.ntmps35
    go_wp2
    go_ret
    exact ⟨rfl, rfl⟩
theorem regB_no {u p n : Int} (h : hasB u p = false) : regB u p n = decide (n = 0) := by unfold regB; rw [h]; rfl
theorem regB_in {u p n : Int} (h : hasB u p = true) (k : 0 ≤ n) : regB u p n = decide (n < 10) := by unfold regB; rw [h, if_pos rfl, decide_eq_true k]; rfl
theorem regB_out {u p n : Int} (h : hasB u p = true) (k : ¬ 0 ≤ n) : regB u p n = false := by unfold regB; rw [h, if_pos rfl, decide_eq_false k]; rfl
theorem reg_any (u p n : Int) (w : World) :
    Calls Tryd.prog 40 #[.int .i64 u, .int .i64 p, .int .i64 n] w fun e w' => e = .returned (.bool (regB u p n)) ∧ w = w' := by
  cases hc : hasB u p
  · rw [regB_no hc]
    go_enter Tryd.func40, Tryd.ntmps40
    go_wp2_with (go_at_call 30; refine (has_any _ _ _).mono ?_; rintro e w' ⟨rfl, rfl⟩)
    go_ret
    exact ⟨rfl, rfl⟩
  · by_cases h : 0 ≤ n
    · rw [regB_in hc h]
      go_enter Tryd.func40, Tryd.ntmps40
      go_wp2_with (go_at_call 30; refine (has_any _ _ _).mono ?_; rintro e w' ⟨rfl, rfl⟩)
      go_ret
      exact ⟨rfl, rfl⟩
    · rw [regB_out hc h]
      go_enter Tryd.func40, Tryd.ntmps40
      go_wp2_with (go_at_call 30; refine (has_any _ _ _).mono ?_; rintro e w' ⟨rfl, rfl⟩)
      go_ret
      exact ⟨rfl, rfl⟩
theorem offB_a {u n : Int} (h : hasB u 32 = true) (k : -32768 ≤ n) : offB u n = decide (n ≤ 32767) := by unfold offB; rw [h, if_pos rfl, decide_eq_true k]; rfl
theorem offB_b {u n : Int} (h : hasB u 32 = true) (k : ¬ -32768 ≤ n) : offB u n = false := by unfold offB; rw [h, if_pos rfl, decide_eq_false k]; rfl
theorem offB_c {u n : Int} (h : hasB u 32 = false) (i : hasB u 64 = true) (k : 0 ≤ n) : offB u n = decide (n ≤ 255) := by unfold offB; rw [h, i, if_neg (by decide), if_pos rfl, decide_eq_true k]; rfl
theorem offB_d {u n : Int} (h : hasB u 32 = false) (i : hasB u 64 = true) (k : ¬ 0 ≤ n) : offB u n = false := by unfold offB; rw [h, i, if_neg (by decide), if_pos rfl, decide_eq_false k]; rfl
theorem offB_e {u n : Int} (h : hasB u 32 = false) (i : hasB u 64 = false) : offB u n = decide (n = 0) := by unfold offB; rw [h, i, if_neg (by decide), if_neg (by decide)]
theorem off_any (u n : Int) (w : World) :
    Calls Tryd.prog 41 #[.int .i64 u, .int .i64 n] w fun e w' => e = .returned (.bool (offB u n)) ∧ w = w' := by
  cases hc : hasB u 32
  · cases hd : hasB u 64
    · rw [offB_e hc hd]
      go_enter Tryd.func41, Tryd.ntmps41
      go_wp2_with (go_at_call 30; refine (has_any _ _ _).mono ?_; rintro e w' ⟨rfl, rfl⟩)
      go_ret
      exact ⟨rfl, rfl⟩
    · by_cases h : 0 ≤ n
      · rw [offB_c hc hd h]
        go_enter Tryd.func41, Tryd.ntmps41
        go_wp2_with (go_at_call 30; refine (has_any _ _ _).mono ?_; rintro e w' ⟨rfl, rfl⟩)
        go_ret
        exact ⟨rfl, rfl⟩
      · rw [offB_d hc hd h]
        go_enter Tryd.func41, Tryd.ntmps41
        go_wp2_with (go_at_call 30; refine (has_any _ _ _).mono ?_; rintro e w' ⟨rfl, rfl⟩)
        go_ret
        exact ⟨rfl, rfl⟩
  · by_cases h : -32768 ≤ n
    · rw [offB_a hc h]
      go_enter Tryd.func41, Tryd.ntmps41
      go_wp2_with (go_at_call 30; refine (has_any _ _ _).mono ?_; rintro e w' ⟨rfl, rfl⟩)
      go_ret
      exact ⟨rfl, rfl⟩
    · rw [offB_b hc h]
      go_enter Tryd.func41, Tryd.ntmps41
      go_wp2_with (go_at_call 30; refine (has_any _ _ _).mono ?_; rintro e w' ⟨rfl, rfl⟩)
      go_ret
      exact ⟨rfl, rfl⟩
theorem immB_a {u n : Int} (h : hasB u 4 = true) : immB u n = true := by unfold immB; rw [h, if_pos rfl]
theorem immB_b {u n : Int} (h : hasB u 4 = false) (i : hasB u 8 = true) : immB u n = decide (n ≤ 31) := by unfold immB; rw [h, i, if_neg (by decide), if_pos rfl]
theorem immB_c {u n : Int} (h : hasB u 4 = false) (i : hasB u 8 = false) (j : hasB u 16 = true) : immB u n = decide (n < 8) := by unfold immB; rw [h, i, j, if_neg (by decide), if_neg (by decide), if_pos rfl]
theorem immB_d {u n : Int} (h : hasB u 4 = false) (i : hasB u 8 = false) (j : hasB u 16 = false) : immB u n = decide (n = 0) := by unfold immB; rw [h, i, j, if_neg (by decide), if_neg (by decide), if_neg (by decide)]
theorem imm_any (u n : Int) (w : World) :
    Calls Tryd.prog 42 #[.int .i64 u, .int .u32 n] w fun e w' => e = .returned (.bool (immB u n)) ∧ w = w' := by
  cases hc : hasB u 4
  · cases hd : hasB u 8
    · cases hf : hasB u 16
      · rw [immB_d hc hd hf]
        go_enter Tryd.func42, Tryd.ntmps42
        go_wp2_with (go_at_call 30; refine (has_any _ _ _).mono ?_; rintro e w' ⟨rfl, rfl⟩)
        go_ret
        exact ⟨rfl, rfl⟩
      · rw [immB_c hc hd hf]
        go_enter Tryd.func42, Tryd.ntmps42
        go_wp2_with (go_at_call 30; refine (has_any _ _ _).mono ?_; rintro e w' ⟨rfl, rfl⟩)
        go_ret
        exact ⟨rfl, rfl⟩
    · rw [immB_b hc hd]
      go_enter Tryd.func42, Tryd.ntmps42
      go_wp2_with (go_at_call 30; refine (has_any _ _ _).mono ?_; rintro e w' ⟨rfl, rfl⟩)
      go_ret
      exact ⟨rfl, rfl⟩
  · rw [immB_a hc]
    go_enter Tryd.func42, Tryd.ntmps42
    go_wp2_with (go_at_call 30; refine (has_any _ _ _).mono ?_; rintro e w' ⟨rfl, rfl⟩)
    go_ret
    exact ⟨rfl, rfl⟩
end Go.Proofs.YtoalchlokcphkaaDoor
