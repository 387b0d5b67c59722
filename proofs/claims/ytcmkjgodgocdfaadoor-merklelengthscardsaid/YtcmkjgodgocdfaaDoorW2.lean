/- MerkleLengths: the law's walk. -/
import Derived.Test.YtcmkjgodgocdfaaDoorT9
namespace Go.Proofs.YtcmkjgodgocdfaaDoor
open Go.RowKit

theorem sides4 : ∀ n : Fin 17, ∀ i : Fin 17, i.val < n.val → (sidesL i.val n.val).length ≤ 4 := by decide +kernel
set_option maxRecDepth 100000 in
set_option maxHeartbeats 1000000 in
theorem lengths_walk (w : World) (hg : Glob w) : Calls Tryd.prog 11 #[] w fun e w' => e = .returned (.bool true) ∧ Below w.heap.size w w' := by
  go_enter Tryd.func11, Tryd.ntmps11
  go_wp2_with fail
  go_loopw [1] (fun n wr => ∃ N : Nat, 1 ≤ N ∧ N ≤ 17 ∧ n = .int .i64 N ∧ Below w.heap.size w wr) (fun n _ => 17 - (intOf n).toNat)
  case atStart => exact ⟨1, by omega, by omega, rfl, Below.refl _ _⟩
  case round =>
    obtain ⟨N, hN1, hN2, rfl, hB⟩ := hrel
    by_cases hlt : N ≤ 16
    · have hdN : decide ((N : Int) ≤ 16) = true := by simp; omega
      go_wp2_with fail
      go_loopw [2] (fun i w2 => ∃ I : Nat, I ≤ N ∧ i = .int .i64 I ∧ Below w.heap.size w w2) (fun i _ => N - (intOf i).toNat)
      case atStart => exact ⟨0, by omega, rfl, hB⟩
      case round =>
        clear hB
        obtain ⟨I, hI, rfl, hB⟩ := hrel
        by_cases hIN : I < N
        · have hb4 := sides4 ⟨N, by omega⟩ ⟨I, by omega⟩ hIN
          simp only [] at hb4
          have hE : stepsE (I : Int) (N : Int) = 0 := by
            unfold stepsE
            rw [show mayB (N : Int) = true by simp [mayB]; omega, show thereB (I : Int) (N : Int) = true by simp [thereB]; omega]
            rfl
          have hV : stepsV (I : Int) (N : Int) = ((sidesL I N).length : Int) := by
            unfold stepsV
            rw [show mayB (N : Int) = true by simp [mayB]; omega, show thereB (I : Int) (N : Int) = true by simp [thereB]; omega]
            rfl
          obtain ⟨L, hL⟩ : ∃ L, (sidesL I N).length = L := ⟨_, rfl⟩
          rw [hL] at hV hb4
          have h1 := steps_any (I : Int) (N : Int)
          have h2 := refsteps_any (I : Int) (N : Int)
          simp only [hV, hE] at h1 h2
          clear hV hE hL
          go_wp2_with (first
            | (go_at_call 28; refine (h1 _).mono ?_; rintro e W1 ⟨rfl, hB1⟩)
            | (go_at_call 29; refine (h2 _).mono ?_; rintro e w' ⟨rfl, hw⟩; obtain rfl := hw.symm)
            | (go_at_call 20; refine (num_any _ _).mono ?_; rintro e w' ⟨rfl, hw⟩; obtain rfl := hw.symm))
          go_roundw
          case rel => exact ⟨I + 1, by omega, by go_num, hB.trans (hB1.mono hB.size)⟩
          case measure => simp [intOf]; omega
        · have h1 := fun w => steps_range (N : Int) (N : Int) (show mayB (N : Int) = true by simp [mayB]; omega) (show thereB (N : Int) (N : Int) = false by simp [thereB]) w
          go_wp2_with (first
            | (go_at_call 28; refine (h1 _).mono ?_; rintro e w' ⟨rfl, hw⟩; obtain rfl := hw.symm)
            | (go_at_call 20; refine (num_any _ _).mono ?_; rintro e w' ⟨rfl, hw⟩; obtain rfl := hw.symm))
          go_roundw
          case rel => exact ⟨N + 1, by omega, by omega, by go_num, hB⟩
          case measure => simp [intOf]; omega
    · obtain rfl : N = 17 := by omega
      have hg1 := hg.below hB hg.size
      have hwk := works_any wr hg1
      have h1 := fun w => steps_arg 0 17 (by decide) w
      go_wp2_with (first
        | (go_at_call 28; refine (h1 _).mono ?_; rintro e w' ⟨rfl, hw⟩; obtain rfl := hw.symm)
        | (go_at_call 20; refine (num_any _ _).mono ?_; rintro e w' ⟨rfl, hw⟩; obtain rfl := hw.symm)
        | (go_at_call 13; refine hwk.mono ?_; rintro e W2 ⟨rfl, hB2⟩))
      go_ret
      exact ⟨rfl, hB.trans (hB2.mono hB.size)⟩
end Go.Proofs.YtcmkjgodgocdfaaDoor
