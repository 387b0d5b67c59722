/- Plain arithmetic of words: what the walk writes of a 32-bit word is a BitVec's own operation. -/
import Derived.WalkKit
namespace Go.Proofs.YtcmkjgodgocdfaaDoor
open Go.RowKit

abbrev Wd := BitVec 32
/-- A word as the number that a slot holds. -/
def wv (x : Wd) : Int := (x.toNat : Int)
/-- A byte as the number that a slot holds. -/
def bv (x : UInt8) : Int := (x.toNat : Int)

theorem wv_nonneg (x : Wd) : 0 ≤ wv x := Int.natCast_nonneg _
theorem wv_lt (x : Wd) : wv x < 4294967296 := by unfold wv; have := x.isLt; omega
theorem wv_ofInt (x : Wd) : BitVec.ofInt 32 (wv x) = x := by
  apply BitVec.eq_of_toNat_eq
  unfold wv
  rw [BitVec.toNat_ofInt]; have := x.isLt; omega
theorem wv_wrap (x : Wd) : IntKind.u32.wrap (wv x) = wv x := by
  rw [IntKind.wrap_u32]; unfold wv; have := x.isLt; omega
theorem wm_add (x y : Wd) : (wv x + wv y) % 4294967296 = wv (x + y) := by
  unfold wv; rw [BitVec.toNat_add]; omega
theorem wr_add (x y : Wd) : IntKind.u32.wrap (wv x + wv y) = wv (x + y) := by
  rw [IntKind.wrap_u32]; exact wm_add x y
theorem wm_shl (x : Wd) (n : Nat) : (wv x * 2 ^ n) % 4294967296 = wv (x <<< n) := by
  unfold wv; rw [BitVec.toNat_shiftLeft, Nat.shiftLeft_eq]; simp
theorem wm_shr (x : Wd) (n : Nat) : wv x / 2 ^ n = wv (x >>> n) := by
  unfold wv; rw [BitVec.toNat_ushiftRight, Nat.shiftRight_eq_div_pow]; simp
theorem wm_and (x y : Wd) : bits .and .u32 (wv x) (wv y) = wv (x &&& y) := by
  show IntKind.u32.wrap _ = _
  simp only [IntKind.bits, wv_ofInt]; exact wv_wrap _
theorem wm_xor (x y : Wd) : bits .xor .u32 (wv x) (wv y) = wv (x ^^^ y) := by
  show IntKind.u32.wrap _ = _
  simp only [IntKind.bits, wv_ofInt]; exact wv_wrap _
theorem wm_or (x y : Wd) : bits .or .u32 (wv x) (wv y) = wv (x ||| y) := by
  show IntKind.u32.wrap _ = _
  simp only [IntKind.bits, wv_ofInt]; exact wv_wrap _
theorem wm_not (x : Wd) : bits .xor .u32 4294967295 (wv x) = wv (~~~x) := by
  show IntKind.u32.wrap _ = _
  simp only [IntKind.bits, wv_ofInt]
  rw [← BitVec.allOnes_xor]
  exact wv_wrap (BitVec.allOnes 32 ^^^ x)
theorem wr_not (x : Wd) : bits .xor .u32 (IntKind.max .u32) (wv x) = wv (~~~x) := wm_not x
theorem wi_not (x : Wd) : bits .xor .u32 (if IntKind.u32.signed = true then -1 else IntKind.u32.max) (wv x) = wv (~~~x) := wm_not x
/-- A byte as a word; a word's lowest byte; a 64-bit word's. -/
def zx (b : UInt8) : Wd := BitVec.ofNat 32 b.toNat
def lo (x : Wd) : UInt8 := UInt8.ofNat x.toNat
theorem bv_nonneg (b : UInt8) : 0 ≤ bv b := Int.natCast_nonneg _
theorem bv_lt (b : UInt8) : bv b < 256 := by unfold bv; have := b.toNat_lt; omega
theorem bm_zx (b : UInt8) : bv b % 4294967296 = wv (zx b) := by
  unfold bv wv zx; rw [BitVec.toNat_ofNat]; have := b.toNat_lt; omega
theorem bm_lo (x : Wd) : wv x % 256 = bv (lo x) := by
  unfold bv wv lo; rw [UInt8.toNat_ofNat']; omega
theorem wm_shl8 (x : Wd) : (wv x * (256 : Int)) % 4294967296 = wv (x <<< 8) := by have := wm_shl x 8; simpa using this
theorem wm_shr8 (x : Wd) : wv x / (256 : Int) = wv (x >>> 8) := by have := wm_shr x 8; simpa using this
theorem wv_zero : (0 : Int) = wv 0 := rfl
/-- A number from 0 on, as a slot holds it. -/
def nv (m : Nat) : Int := (m : Int)
theorem nv_nonneg (m : Nat) : 0 ≤ nv m := Int.natCast_nonneg _
theorem nm_shr8 (m : Nat) : nv m / (256 : Int) = nv (m / 256) := by unfold nv; omega
theorem nm_lo (m : Nat) : nv m % 256 = bv (UInt8.ofNat m) := by
  unfold bv nv; rw [UInt8.toNat_ofNat']; omega
theorem wd_rot (x : Wd) (n : Nat) (h : n < 32) : (x <<< (32 - n)) ||| (x >>> n) = x.rotateRight n := by
  rw [BitVec.rotateRight_def, Nat.mod_eq_of_lt h, BitVec.or_comm]
theorem rot_cnt (n : Nat) (h0 : 0 < n) (h : n < 32) : bits .and .u64 (IntKind.u64.wrap (-(n : Int))) 31 = ((32 - n : Nat) : Int) := by
  have : ∀ m : Fin 32, 0 < m.val → bits .and .u64 (IntKind.u64.wrap (-(m.val : Int))) 31 = ((32 - m.val : Nat) : Int) := by decide
  exact this ⟨n, h⟩ h0
theorem rot_two (n : Nat) (h : n < 32) : IntKind.u64.wrap (32 - ((32 - n : Nat) : Int)) = (n : Int) := by
  rw [IntKind.wrap_u64]; omega
end Go.Proofs.YtcmkjgodgocdfaaDoor
