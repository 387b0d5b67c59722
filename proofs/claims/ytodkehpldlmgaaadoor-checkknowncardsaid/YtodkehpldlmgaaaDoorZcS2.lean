/- The document's least number of ones that is as great, and its powers. -/
import Derived.Test.YtodkehpldlmgaaaDoorZq1
namespace Go.Proofs.YtodkehpldlmgaaaDoor
open Go.RowKit

theorem ones_is {n k : Nat} (h1 : n ≤ 2 ^ k - 1) (h2 : k = 0 ∨ 2 ^ (k - 1) - 1 < n) : onesN n = 2 ^ k - 1 := by
  have hp : 0 < 2 ^ k := Nat.pow_pos (by decide)
  unfold onesN
  rcases h2 with rfl | h2
  · rw [if_pos (by simpa using h1)]
  · by_cases h0 : n = 0
    · omega
    · rw [if_neg h0]
      have h3 : n.log2 = k - 1 := by
        rw [Nat.log2_eq_iff h0]
        cases k with
        | zero => simp at h1; omega
        | succ k =>
          simp only [Nat.add_sub_cancel] at h2 ⊢
          have hq : 0 < 2 ^ k := Nat.pow_pos (by decide)
          omega
      cases k with
      | zero => simp at h1; omega
      | succ k => rw [h3]; rfl
set_option maxRecDepth 10000 in
set_option maxHeartbeats 1000000 in
theorem rones_any (n : Nat) (h : n < 4294967296) (w : World) :
    Calls Tryd.prog 68 #[.int .i64 (n : Int)] w fun e w' => e = .returned (.int .i64 (onesN n : Int)) ∧ w = w' := by
  go_enter Tryd.func68, Tryd.ntmps68
  go_wp2
  go_loopw [3] (fun i wr => wr = w ∧ ∃ k m : Nat, i = .int .i64 (m : Int) ∧ m = 2 ^ k - 1 ∧ k ≤ 32 ∧ (k = 0 ∨ 2 ^ (k - 1) - 1 < n)) (fun i _ => 4294967296 - (intOf i).toNat)
  case atStart => exact ⟨rfl, 0, 0, rfl, rfl, by decide, .inl rfl⟩
  case round =>
    obtain ⟨rfl, k, m, rfl, hm, hk, hk2⟩ := hrel
    have hp : 2 ^ k ≤ 2 ^ 32 := Nat.pow_le_pow_right (by decide) hk
    have hpp : 0 < 2 ^ k := Nat.pow_pos (by decide)
    have he : (2 : Nat) ^ 32 = 4294967296 := by decide
    have hm2 : m < 4294967296 := by omega
    have HF : Hid (n ≤ m → onesN n = m) := fun hl => by rw [hm]; exact ones_is (by omega) hk2
    have HR : Hid (m < n → k + 1 ≤ 32 ∧ 2 * m + 1 = 2 ^ (k + 1) - 1 ∧ 2 ^ (k + 1 - 1) - 1 < n) := fun hl => by
      refine ⟨?_, by rw [Nat.pow_succ]; omega, by rw [Nat.add_sub_cancel]; omega⟩
      by_cases e : k = 32
      · subst e; omega
      · omega
    clear hm hk hk2 hp hpp he
    by_cases hlt : m < n
    · have hlt' : (m : Int) < (n : Int) := by omega
      obtain ⟨g1, g2, g3⟩ := HR.out hlt
      have HG : Hid (2 * m + 1 = 2 ^ (k + 1) - 1 ∧ 2 ^ (k + 1 - 1) - 1 < n) := ⟨g2, g3⟩
      clear g2 g3 HR HF
      go_wp2
      go_roundw
      case rel => exact ⟨trivial, k + 1, 2 * m + 1, by simp [Int.natCast_add], HG.out.1, g1, .inr HG.out.2⟩
      case measure => simp [intOf]; omega
    · have hlt' : ¬ (m : Int) < (n : Int) := by omega
      have HQ : Hid (onesN n = m) := HF.out (by omega)
      clear HR HF
      go_wp2
      go_ret
      exact ⟨by rw [HQ.out]; rfl, rfl⟩
set_option maxRecDepth 10000 in
set_option maxHeartbeats 1000000 in
theorem rpower_any (n : Nat) (h : n ≤ 31) (w : World) :
    Calls Tryd.prog 69 #[.int .i64 (n : Int)] w fun e w' => e = .returned (.int .i64 ((2 ^ n : Nat) : Int)) ∧ w = w' := by
  go_enter Tryd.func69, Tryd.ntmps69
  go_wp2
  go_loopw [3, 4] (fun i j wr => wr = w ∧ ∃ k m : Nat, i = .int .i64 (m : Int) ∧ j = .int .i64 (k : Int) ∧ m = 2 ^ k ∧ k ≤ n) (fun _ j _ => n - (intOf j).toNat)
  case atStart => exact ⟨rfl, 0, 1, rfl, rfl, rfl, Nat.zero_le _⟩
  case round =>
    obtain ⟨rfl, k, m, rfl, rfl, hm, hk⟩ := hrel
    have hp : 2 ^ k ≤ 2 ^ 31 := Nat.pow_le_pow_right (by decide) (by omega)
    have he : (2 : Nat) ^ 31 = 2147483648 := by decide
    have hm2 : m < 4294967296 := by omega
    have HR : Hid (2 * m = 2 ^ (k + 1)) := by show _ = _; rw [Nat.pow_succ]; omega
    have HQ : Hid (k = n → 2 ^ n = m) := fun e => by rw [← e, hm]
    clear hm hp he
    by_cases hlt : k < n
    · have hlt' : (k : Int) < (n : Int) := by omega
      clear HQ
      go_wp2
      go_roundw
      case rel => exact ⟨trivial, k + 1, 2 * m, by simp, by simp [Int.natCast_add], HR.out, hlt⟩
      case measure => simp [intOf]; omega
    · have hlt' : ¬ (k : Int) < (n : Int) := by omega
      have HS : Hid ((2 : Int) ^ n = (m : Int)) := by
        have e := HQ.out (by omega)
        show (2 : Int) ^ n = (m : Int)
        rw [← e]
        simp
      clear HR HQ
      go_wp2
      go_ret
      exact ⟨by rw [HS.out]; rfl, rfl⟩
end Go.Proofs.YtodkehpldlmgaaaDoor
