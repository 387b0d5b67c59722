/- The document's Uses and May. -/
import Derived.Test.YtoalchlokcphkaaDoorC2
namespace Go.Proofs.YtoalchlokcphkaaDoor
open Go.RowKit

def useD (op : Int) : Bool := decide (1 ≤ op ∧ op ≤ 18 ∨ 20 ≤ op ∧ op ≤ 22)
def useS (op : Int) : Bool := decide (op = 2 ∨ op = 4 ∨ op = 5 ∨ op = 7 ∨ 9 ≤ op ∧ op ≤ 11 ∨ 14 ≤ op ∧ op ≤ 18 ∨ op = 22)
def useO (op : Int) : Bool := decide (16 ≤ op ∧ op ≤ 22)
def useM (op : Int) : Bool := decide (op = 1 ∨ op = 3 ∨ op = 6 ∨ op = 8 ∨ op = 12 ∨ op = 13 ∨ op = 20 ∨ op = 21 ∨ op = 23)
def useI (op : Int) : Bool := decide (1 ≤ op ∧ op ≤ 24)
theorem yb {op k : Int} (h : (op == k) = true) : op = k := by simpa using h
theorem nb {op k : Int} (h : (op == k) = false) : op ≠ k := by simpa using h
set_option maxHeartbeats 2000000 in
theorem uses_any (op : Int) (w : World) :
    Calls Tryd.prog 36 #[.int .i64 op] w fun e w' => e = .returned (.tuple #[.bool (useD op), .bool (useS op), .bool (useO op), .bool (useM op), .bool (useI op)]) ∧ w = w' := by
  go_enter Tryd.func36, Tryd.ntmps36
  go_wp2
  all_goals
    refine bodyPost_ret (v := .tuple #[.bool (useD op), .bool (useS op), .bool (useO op), .bool (useM op), .bool (useI op)]) ?_ rfl ⟨rfl, rfl⟩
    simp [results, Tryd.results36, go_sem]
    first
      | (rename_i hk; obtain rfl := yb hk; decide)
      | (have hs : op ≠ 1 ∧ op ≠ 2 ∧ op ≠ 3 ∧ op ≠ 4 ∧ op ≠ 5 ∧ op ≠ 6 ∧ op ≠ 7 ∧ op ≠ 8 ∧ op ≠ 9 ∧ op ≠ 10 ∧ op ≠ 11 ∧ op ≠ 12 ∧ op ≠ 13 ∧ op ≠ 14 ∧ op ≠ 15 ∧ op ≠ 16 ∧ op ≠ 17 ∧ op ≠ 18 ∧ op ≠ 19 ∧ op ≠ 20 ∧ op ≠ 21 ∧ op ≠ 22 ∧ op ≠ 23 ∧ op ≠ 24 := ⟨nb (by assumption), nb (by assumption), nb (by assumption), nb (by assumption), nb (by assumption), nb (by assumption), nb (by assumption), nb (by assumption), nb (by assumption), nb (by assumption), nb (by assumption), nb (by assumption), nb (by assumption), nb (by assumption), nb (by assumption), nb (by assumption), nb (by assumption), nb (by assumption), nb (by assumption), nb (by assumption), nb (by assumption), nb (by assumption), nb (by assumption), nb (by assumption)⟩
         unfold useD useS useO useM useI
         refine ⟨?_, ?_, ?_, ?_, ?_⟩ <;> exact decide_eq_false (by omega))
end Go.Proofs.YtoalchlokcphkaaDoor
