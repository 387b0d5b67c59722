/- MerkleSteps: the law's walk. -/
import Derived.Test.YtcmkjgodgocdfaaDoorT9
namespace Go.Proofs.YtcmkjgodgocdfaaDoor
open Go.RowKit

set_option maxRecDepth 100000 in
set_option maxHeartbeats 1000000 in
theorem steps_walk (i n : Int) (w : World) (hg : Glob w) : Calls Tryd.prog 7 #[.int .i64 i, .int .i64 n] w fun e w' => e = .returned (.bool true) ∧ Below w.heap.size w w' := by
  have h1 := steps_any i n w
  have h2 := refsteps_any i n
  obtain ⟨V, hV⟩ : ∃ V, stepsV i n = V := ⟨_, rfl⟩
  obtain ⟨E, hE⟩ : ∃ E, stepsE i n = E := ⟨_, rfl⟩
  simp only [hV, hE] at h1 h2
  clear hV hE
  go_enter Tryd.func7, Tryd.ntmps7
  go_wp2_with (first
    | (go_at_call 28; refine h1.mono ?_; rintro e W1 ⟨rfl, hB1⟩; have hg1 := hg.below hB1 hg.size; have hwk := works_any W1 hg1)
    | (go_at_call 29; refine (h2 _).mono ?_; rintro e w' ⟨rfl, hw⟩; obtain rfl := hw.symm)
    | (go_at_call 20; refine (num_any _ _).mono ?_; rintro e w' ⟨rfl, hw⟩; obtain rfl := hw.symm)
    | (go_at_call 13; refine hwk.mono ?_; rintro e W2 ⟨rfl, hB2⟩))
  go_ret
  exact ⟨rfl, hB1.trans (hB2.mono hB1.size)⟩
end Go.Proofs.YtcmkjgodgocdfaaDoor
