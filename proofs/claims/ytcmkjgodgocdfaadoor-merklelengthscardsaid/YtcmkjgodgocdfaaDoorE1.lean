/- The document's turned, and math/bits.Mul64. -/
import Derived.Test.YtcmkjgodgocdfaaDoorU0
namespace Go.Proofs.YtcmkjgodgocdfaaDoor
open Go.RowKit

def rotN (x : Wd) : Nat → Wd
  | 0 => x
  | n + 1 => (rotN x n).rotateRight 1
theorem rotN_eq (x : Wd) : ∀ n, n < 32 → rotN x n = x.rotateRight n
  | 0, _ => by
    apply BitVec.eq_of_getLsbD_eq
    intro i hi
    rw [BitVec.getLsbD_rotateRight]
    simp [hi, rotN]
  | n + 1, h => by
    show (rotN x n).rotateRight 1 = _
    rw [rotN_eq x n (by omega)]
    apply BitVec.eq_of_getLsbD_eq
    intro i hi
    simp only [BitVec.getLsbD_rotateRight, Nat.mod_eq_of_lt h, Nat.mod_eq_of_lt (show n < 32 by omega), Nat.mod_eq_of_lt (show 1 < 32 by omega), Bool.cond_eq_ite, decide_eq_true_eq]
    by_cases h1 : i < 31
    · rw [if_pos (by omega)]
      by_cases h2 : i < 32 - (n + 1)
      · rw [if_pos (by omega), if_pos (by omega)]
        congr 1; omega
      · rw [if_neg (by omega), if_neg (by omega)]
        have : decide (1 + i < 32) = true := by simp; omega
        have h3 : decide (i < 32) = true := by simp; omega
        rw [this, h3]
        congr 2; omega
    · have hi31 : i = 31 := by omega
      subst hi31
      rw [if_neg (by omega), if_pos (by omega), if_neg (by omega)]
      congr 2; omega
theorem rot1 (x : Wd) : wv x / 2 + wv x % 2 * 2147483648 = wv (x.rotateRight 1) := by
  rw [← wd_rot x 1 (by decide)]
  have e : (x <<< (32 - 1) ||| x >>> 1) = x >>> 1 + x <<< 31 := by
    rw [BitVec.or_comm, ← BitVec.add_eq_or_of_and_eq_zero]
    apply BitVec.eq_of_getLsbD_eq
    intro i hi
    by_cases h : i < 31
    · simp [h]
    · obtain rfl : i = 31 := by omega
      simp
  rw [e]
  unfold wv
  rw [BitVec.toNat_add, BitVec.toNat_ushiftRight, BitVec.toNat_shiftLeft, Nat.shiftRight_eq_div_pow, Nat.shiftLeft_eq]
  have := x.isLt
  omega

set_option maxHeartbeats 400000 in
theorem refturned_any (x : Wd) (n : Nat) (hn : n < 32) (w : World) :
    Calls Tryd.prog 56 #[.int .u32 (wv x), .int .i64 n] w fun e w' => e = .returned (.int .u32 (wv (x.rotateRight n))) ∧ w' = w := by
  go_enter Tryd.func56, Tryd.ntmps56
  go_wp2_with fail
  go_loop [0, 5] (fun t i => ∃ k : Nat, k ≤ n ∧ i = .int .i64 k ∧ t = .int .u32 (wv (rotN x k))) (fun _ i => n - (intOf i).toNat)
  case atStart => exact ⟨0, by omega, rfl, rfl⟩
  case round =>
    obtain ⟨k, hk, rfl, rfl⟩ := hrel
    have Hs : Hid (rotN x (k + 1) = (rotN x k).rotateRight 1) := rfl
    by_cases hkn : k < n
    · have h1 := rot1 (rotN x k)
      have h2 := wv_nonneg (rotN x k)
      have h3 := wv_lt (rotN x k)
      generalize rotN x k = y at *
      have i1 : (k : Int) < n := by omega
      go_wp2_with fail
      go_round
      case rel => exact ⟨k + 1, by omega, by go_num, by rw [Hs.out]⟩
      case measure => simp [intOf]; omega
    · have e : k = n := by omega
      subst e
      have hr : Hid (rotN x k = x.rotateRight k) := rotN_eq x k hn
      go_wp2_with fail
      go_ret
      exact ⟨by rw [← hr.out]; rfl, rfl⟩

theorem and32 (m : Nat) : bits .and .u64 (nv m) 4294967295 = nv (m % 4294967296) := by
  have e2 : BitVec.ofInt 64 4294967295 = BitVec.ofNat 64 4294967295 := rfl
  have e1 : BitVec.ofInt 64 (nv m) = BitVec.ofNat 64 m := rfl
  show IntKind.u64.wrap _ = _
  simp only [IntKind.bits]
  have h : (BitVec.ofNat 64 m &&& BitVec.ofNat 64 4294967295).toNat = m % 4294967296 := by
    rw [BitVec.toNat_and, BitVec.toNat_ofNat, BitVec.toNat_ofNat]
    have := Nat.and_two_pow_sub_one_eq_mod (m % 2 ^ 64) 32
    simp only [show (2 : Nat) ^ 32 - 1 = 4294967295 from rfl] at this
    rw [show 4294967295 % 2 ^ 64 = 4294967295 from rfl, this]
    omega
  show IntKind.u64.wrap ((BitVec.ofNat 64 m &&& BitVec.ofNat 64 4294967295).toNat : Int) = _
  rw [h, IntKind.wrap_u64]; unfold nv; omega
theorem sh32 (m : Nat) : nv m / 4294967296 = nv (m / 4294967296) := by unfold nv; omega
theorem wr64 (m : Nat) (h : m < 18446744073709551616) : IntKind.u64.wrap (nv m) = nv m := by
  rw [IntKind.wrap_u64]; unfold nv; omega
theorem nv_mul (a b : Nat) : nv a * nv b = nv (a * b) := by unfold nv; simp
theorem nv_add (a b : Nat) : nv a + nv b = nv (a + b) := by unfold nv; simp
theorem mul_lt32 (a b : Nat) (ha : a < 4294967296) (hb : b < 4294967296) : a * b ≤ 18446744065119617025 := by
  have := Nat.mul_le_mul (Nat.le_of_lt_succ ha) (Nat.le_of_lt_succ hb)
  exact this
theorem mul_parts (x1 x0 y1 y0 : Nat) : (x1 * 4294967296 + x0) * (y1 * 4294967296 + y0) = x1 * y1 * 18446744073709551616 + (x1 * y0 + x0 * y1) * 4294967296 + x0 * y0 := by
  rw [Nat.add_mul, Nat.mul_add, Nat.mul_add]
  have h1 : x1 * 4294967296 * (y1 * 4294967296) = x1 * y1 * 18446744073709551616 := by
    rw [Nat.mul_mul_mul_comm]
  have h2 : x1 * 4294967296 * y0 = x1 * y0 * 4294967296 := by rw [Nat.mul_right_comm]
  have h3 : x0 * (y1 * 4294967296) = x0 * y1 * 4294967296 := by rw [Nat.mul_assoc]
  rw [h1, h2, h3]
  omega
theorem mul_hi (x y : Nat) (hx : x < 18446744073709551616) (hy : y < 18446744073709551616) :
    IntKind.u64.wrap (IntKind.u64.wrap (IntKind.u64.wrap (nv x / 4294967296 * (nv y / 4294967296)) + IntKind.u64.wrap (IntKind.u64.wrap (nv x / 4294967296 * bits BinOp.and IntKind.u64 (nv y) 4294967295) + IntKind.u64.wrap (bits BinOp.and IntKind.u64 (nv x) 4294967295 * bits BinOp.and IntKind.u64 (nv y) 4294967295) / 4294967296) / 4294967296) +
      IntKind.u64.wrap (bits BinOp.and IntKind.u64 (IntKind.u64.wrap (IntKind.u64.wrap (nv x / 4294967296 * bits BinOp.and IntKind.u64 (nv y) 4294967295) + IntKind.u64.wrap (bits BinOp.and IntKind.u64 (nv x) 4294967295 * bits BinOp.and IntKind.u64 (nv y) 4294967295) / 4294967296)) 4294967295 + IntKind.u64.wrap (bits BinOp.and IntKind.u64 (nv x) 4294967295 * (nv y / 4294967296))) / 4294967296) = nv (x * y / 18446744073709551616) := by
  have ex : x = x / 4294967296 * 4294967296 + x % 4294967296 := by omega
  have ey : y = y / 4294967296 * 4294967296 + y % 4294967296 := by omega
  have l1 : x / 4294967296 < 4294967296 := by omega
  have l2 : x % 4294967296 < 4294967296 := by omega
  have l3 : y / 4294967296 < 4294967296 := by omega
  have l4 : y % 4294967296 < 4294967296 := by omega
  have hm := mul_parts (x / 4294967296) (x % 4294967296) (y / 4294967296) (y % 4294967296)
  rw [← ex, ← ey] at hm
  simp only [and32, sh32]
  generalize x / 4294967296 = x1 at *
  generalize x % 4294967296 = x0 at *
  generalize y / 4294967296 = y1 at *
  generalize y % 4294967296 = y0 at *
  have m1 := mul_lt32 x1 y1 l1 l3
  have m2 := mul_lt32 x1 y0 l1 l4
  have m3 := mul_lt32 x0 y1 l2 l3
  have m4 := mul_lt32 x0 y0 l2 l4
  rw [nv_mul, nv_mul, nv_mul, nv_mul, hm]
  clear hm ex ey
  generalize x1 * y1 = a at *
  generalize x1 * y0 = b at *
  generalize x0 * y1 = c at *
  generalize x0 * y0 = d at *
  rw [wr64 a (by omega), wr64 b (by omega), wr64 c (by omega), wr64 d (by omega), sh32 d, nv_add b, wr64 (b + d / 4294967296) (by omega), sh32 (b + d / 4294967296), and32, nv_add _ c, wr64 _ (show (b + d / 4294967296) % 4294967296 + c < _ by omega), sh32, nv_add a, wr64 _ (show a + (b + d / 4294967296) / 4294967296 < _ by omega), nv_add, wr64 _ (by omega)]
  congr 1
  omega

set_option maxRecDepth 10000 in
set_option maxHeartbeats 400000 in
theorem mul64_any (x y : Nat) (hx : x < 18446744073709551616) (hy : y < 18446744073709551616) (w : World) :
    Calls Tryd.prog 71 #[.int .u64 (nv x), .int .u64 (nv y)] w fun e w' => e = .returned (.tuple #[.int .u64 (nv (x * y / 18446744073709551616)), .int .u64 (nv (x * y % 18446744073709551616))]) ∧ w' = w := by
  have H : Hid (x < 18446744073709551616 ∧ y < 18446744073709551616) := ⟨hx, hy⟩
  clear hx hy
  go_enter Tryd.func71, Tryd.ntmps71
  go_wp2_with fail
  go_ret2
  rw [mul_hi x y H.out.1 H.out.2, nv_mul]
  refine ⟨?_, rfl⟩
  congr 5
end Go.Proofs.YtcmkjgodgocdfaaDoor
