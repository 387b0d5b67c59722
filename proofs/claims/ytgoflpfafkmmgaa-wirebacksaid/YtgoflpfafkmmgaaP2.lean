/- What is read is laid as the same bytes: plain mathematics. -/
import Derived.Test.YtgoflpfafkmmgaaP1
import Derived.Test.YtgoflpfafkmmgaaM2
namespace Go.Proofs.Ytgoflpfafkmmgaa
open Go.RowKit

theorem u8_of_toNat (b : UInt8) (m : Nat) (h : m = b.toNat) : UInt8.ofNat m = b := by subst h; simp
theorem scan_back : ∀ (l : List UInt8) (i acc n k : Nat), scan i acc l = .ok (n, k) → i ≤ 8 → ∃ m, n = acc + m * 2 ^ (7 * i) ∧ i < k ∧ l = numL m ++ l.drop (k - i) ∧ (i = 0 ∨ m ≠ 0)
  | [], _, _, _, _, h, _ => by cases h
  | b :: l, i, acc, n, k, h, hi => by
    have hb := b.toNat_lt
    by_cases h1 : 128 ≤ b.toNat
    · by_cases h2 : i = 8
      · rw [scan_end i acc b l h1 h2] at h; cases h
      · rw [scan_go i acc b l h1 h2] at h
        obtain ⟨m, e1, e2, e3, e4⟩ := scan_back l (i + 1) _ n k h (by omega)
        have hm : m ≠ 0 := by omega
        refine ⟨b.toNat - 128 + 128 * m, ?_, by omega, ?_, .inr (by omega)⟩
        · rw [e1, pow7]
          generalize 2 ^ (7 * i) = P
          have q1 : (b.toNat - 128 + 128 * m) * P = (b.toNat - 128) * P + m * (P * 128) := by
            rw [Nat.add_mul, Nat.mul_comm P 128, ← Nat.mul_assoc m 128 P, Nat.mul_comm m 128]
          rw [q1, Nat.add_assoc]
        · rw [numL_hi _ (by omega), List.cons_append, show (b.toNat - 128 + 128 * m) % 128 + 128 = b.toNat by omega, u8_of_toNat b b.toNat rfl, show (b.toNat - 128 + 128 * m) / 128 = m by omega]
          obtain ⟨q, hq⟩ : ∃ q, k - i = q + 1 := ⟨k - i - 1, by omega⟩
          rw [hq, List.drop_succ_cons]
          have hq2 : k - (i + 1) = q := by omega
          rw [hq2] at e3
          rw [← e3]
    · by_cases h2 : b.toNat = 0 ∧ 0 < i
      · rw [scan_zero i acc b l h2.1 h2.2] at h; cases h
      · rw [scan_ok i acc b l h1 h2] at h
        simp only [Except.ok.injEq, Prod.mk.injEq] at h
        obtain ⟨rfl, rfl⟩ := h
        refine ⟨b.toNat, rfl, by omega, ?_, by omega⟩
        rw [numL_lo _ (by omega), u8_of_toNat b b.toNat rfl, show i + 1 - i = 1 by omega]
        rfl
theorem scan_same {l : List UInt8} {n k : Nat} (h : scan 0 0 l = .ok (n, k)) : l = numL n ++ l.drop k := by
  obtain ⟨m, e1, _, e3, _⟩ := scan_back l 0 0 n k h (by omega)
  simp at e1
  subst e1
  simpa using e3
theorem lnum_same {most : Int} {l rest : List UInt8} {n : Nat} (h : lnum most l = .ok (n, rest)) : l = numL n ++ rest ∧ n < 9223372036854775808 := by
  unfold lnum at h
  split at h
  · cases h
  · rename_i n0 k0 hs
    split at h
    · cases h
    · simp only [Except.ok.injEq, Prod.mk.injEq] at h
      obtain ⟨rfl, rfl⟩ := h
      exact ⟨scan_same hs, (scan_lt hs).1⟩
theorem fold_unf (n : Nat) (h : n < 9223372036854775808) : inS (unf n) = true ∧ foldN (unf n) = n := by
  unfold inS unf foldN
  by_cases h1 : n % 2 = 1
  · rw [if_pos h1]
    refine ⟨by simp; omega, ?_⟩
    rw [if_pos (by omega)]; omega
  · rw [if_neg h1]
    refine ⟨by simp; omega, ?_⟩
    rw [if_neg (by omega)]; omega
theorem lsig_same {l rest : List UInt8} {z : Int} (h : lsig l = .ok (z, rest)) : l = numL (foldN z) ++ rest ∧ inS z = true := by
  unfold lsig at h
  split at h
  · cases h
  · rename_i n0 k0 hs
    simp only [Except.ok.injEq, Prod.mk.injEq] at h
    obtain ⟨rfl, rfl⟩ := h
    obtain ⟨h1, h2⟩ := fold_unf n0 (scan_lt hs).1
    rw [h2]
    exact ⟨scan_same hs, h1⟩
theorem lraw_same {n : Nat} {l d rest : List UInt8} (h : lraw n l = .ok (d, rest)) : l = d ++ rest ∧ d.length = n := by
  unfold lraw at h
  split at h
  · cases h
  · simp only [Except.ok.injEq, Prod.mk.injEq] at h
    obtain ⟨rfl, rfl⟩ := h
    exact ⟨(List.take_append_drop n l).symm, by simp; omega⟩
theorem lbyt_same {most : Int} {l d rest : List UInt8} (h : lbyt most l = .ok (d, rest)) : l = bytL d ++ rest := by
  unfold lbyt at h
  split at h
  · cases h
  · rename_i n0 r0 hs
    obtain ⟨h1, h2⟩ := lraw_same h
    obtain ⟨h3, _⟩ := lnum_same hs
    unfold bytL
    rw [h3, h1, h2, List.append_assoc]
theorem ltru_same {l rest : List UInt8} {b : Bool} (h : ltru l = .ok (b, rest)) : l = [if b then 1 else 0] ++ rest := by
  unfold ltru at h
  split at h
  · cases h
  · rename_i c l'
    split at h
    · cases h
    · rename_i hc
      simp only [Except.ok.injEq, Prod.mk.injEq] at h
      obtain ⟨rfl, rfl⟩ := h
      rw [List.singleton_append]
      congr 1
      have hc' := c.toNat_lt
      by_cases h1 : c.toNat = 1
      · simp [h1]; exact (u8_of_toNat c 1 h1.symm).symm
      · have h0 : c.toNat = 0 := by omega
        simp [h0]; exact (u8_of_toNat c 0 h0.symm).symm
theorem lnum_num (n : Nat) (rest : List UInt8) (h : n < 9223372036854775808) (most : Int) (hm : (n : Int) ≤ most) : lnum most (numL n ++ rest) = .ok (n, rest) := by
  unfold lnum
  rw [scan_num rest n h]
  simp only [if_neg (show ¬ most < (n : Int) by omega), List.drop_left]
theorem lbyt_byt (d rest : List UInt8) (h : d.length < 9223372036854775808) : lbyt (d.length : Int) (bytL d ++ rest) = .ok (d, rest) := by
  unfold lbyt bytL
  rw [List.append_assoc, lnum_num d.length (d ++ rest) h _ (Int.le_refl _)]
  simp only [lraw]
  rw [if_neg (by simp)]
  simp
theorem ltru_tru (b : Bool) (rest : List UInt8) : ltru ([if b then 1 else 0] ++ rest) = .ok (b, rest) := by cases b <;> rfl
end Go.Proofs.Ytgoflpfafkmmgaa
