/- Numbers go there and back: plain mathematics. -/
import Derived.Test.YtgoflpfafkmmgaaL3
namespace Go.Proofs.Ytgoflpfafkmmgaa
open Go.RowKit

theorem scan_numL (x : List UInt8) : ∀ (f m i acc : Nat), i + f = 9 → m < 2 ^ (7 * f) → (i = 0 ∨ m ≠ 0) → 0 < f → scan i acc (numL m ++ x) = .ok (acc + m * 2 ^ (7 * i), i + (numL m).length)
  | 0, _, _, _, _, _, _, h => by omega
  | f + 1, m, i, acc, hf, hm, hz, _ => by
    by_cases h : m < 128
    · rw [numL_lo m h, List.singleton_append]
      have e : (UInt8.ofNat m).toNat = m := by rw [UInt8.toNat_ofNat']; omega
      rw [scan_ok i acc (UInt8.ofNat m) x (by omega) (by rw [e]; omega), e]
      simp
    · rw [numL_hi m h, List.cons_append]
      have e : (UInt8.ofNat (m % 128 + 128)).toNat = m % 128 + 128 := by rw [UInt8.toNat_ofNat']; omega
      have hf0 : 0 < f := by
        cases f with
        | zero => omega
        | succ f => omega
      rw [scan_go i acc _ _ (by omega) (by omega), scan_numL x f (m / 128) (i + 1) _ (by omega) (by rw [pow7] at hm; omega) (.inr (by omega)) hf0, e]
      have e2 : acc + (m % 128 + 128 - 128) * 2 ^ (7 * i) + m / 128 * 2 ^ (7 * (i + 1)) = acc + m * 2 ^ (7 * i) := by
        rw [pow7]
        generalize 2 ^ (7 * i) = P
        have e3 : m / 128 * (P * 128) = (m / 128 * 128) * P := by rw [Nat.mul_comm P 128, Nat.mul_assoc]
        have e4 : m * P = (m / 128 * 128 + m % 128) * P := by rw [Nat.div_add_mod']
        rw [e3, e4, Nat.add_mul, Nat.add_sub_cancel]
        generalize m / 128 * 128 * P = A
        generalize m % 128 * P = B
        omega
      rw [e2]
      simp; omega
theorem scan_num (x : List UInt8) (m : Nat) (h : m < 9223372036854775808) : scan 0 0 (numL m ++ x) = .ok (m, (numL m).length) := by
  rw [scan_numL x 9 m 0 0 rfl (by omega) (.inl rfl) (by omega)]; simp
theorem unf_fold (n : Int) (h : inS n = true) : unf (foldN n) = n := by
  have hb : -4611686018427387904 ≤ n ∧ n ≤ 4611686018427387903 := by unfold inS at h; simpa using h
  unfold unf foldN
  by_cases h0 : n < 0
  · rw [if_pos h0, if_pos (by omega)]; omega
  · rw [if_neg h0, if_neg (by omega)]; omega
theorem lsig_num (x : List UInt8) (n : Int) (h : inS n = true) : lsig (numL (foldN n) ++ x) = .ok (n, x) := by
  unfold lsig
  rw [scan_num x (foldN n) (foldN_lt n h)]
  simp [unf_fold n h]
end Go.Proofs.Ytgoflpfafkmmgaa
