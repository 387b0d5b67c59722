/- What an Op makes of two words. -/
import Derived.Test.YtodkehpldlmgaaaDoorZq7
import Derived.Test.YtodkehpldlmgaaaDoorZcW1
import Derived.IntWalk
namespace Go.Proofs.YtodkehpldlmgaaaDoor
open Go.RowKit

def diffN (a b : Nat) : Nat := if b ≤ a then a - b else a + 4294967296 - b
def madeN (op a b : Nat) : Nat := match op with
  | 2 => b
  | 4 => (a + b) % 4294967296
  | 5 => diffN a b
  | 7 => a * b % 4294967296
  | 9 => a &&& b
  | 10 => a ||| b
  | 11 => a ^^^ b
  | 14 => a / b
  | _ => a % b
abbrev Wd := BitVec 32
def wv (x : Wd) : Int := (x.toNat : Int)
theorem wv_ofInt (x : Wd) : BitVec.ofInt 32 (wv x) = x := by
  apply BitVec.eq_of_toNat_eq
  unfold wv
  rw [BitVec.toNat_ofInt]; have := x.isLt; omega
theorem wv_wrap (x : Wd) : IntKind.u32.wrap (wv x) = wv x := by
  rw [IntKind.wrap_u32]; unfold wv; have := x.isLt; omega
theorem wm_and (x y : Wd) : bits .and .u32 (wv x) (wv y) = wv (x &&& y) := by
  show IntKind.u32.wrap _ = _
  simp only [IntKind.bits, wv_ofInt]; exact wv_wrap _
theorem wm_xor (x y : Wd) : bits .xor .u32 (wv x) (wv y) = wv (x ^^^ y) := by
  show IntKind.u32.wrap _ = _
  simp only [IntKind.bits, wv_ofInt]; exact wv_wrap _
theorem wm_or (x y : Wd) : bits .or .u32 (wv x) (wv y) = wv (x ||| y) := by
  show IntKind.u32.wrap _ = _
  simp only [IntKind.bits, wv_ofInt]; exact wv_wrap _
theorem wv_of {a : Nat} (h : a < 4294967296) : wv (BitVec.ofNat 32 a) = (a : Int) := by
  unfold wv; rw [BitVec.toNat_ofNat, Nat.mod_eq_of_lt h]
theorem and32 {a b : Nat} (h1 : a < 4294967296) (h2 : b < 4294967296) : bits .and .u32 (a : Int) (b : Int) = ((a &&& b : Nat) : Int) := by
  have := wm_and (BitVec.ofNat 32 a) (BitVec.ofNat 32 b)
  rw [wv_of h1, wv_of h2] at this
  rw [this]; unfold wv; rw [BitVec.toNat_and, BitVec.toNat_ofNat, BitVec.toNat_ofNat, Nat.mod_eq_of_lt h1, Nat.mod_eq_of_lt h2]
theorem or32 {a b : Nat} (h1 : a < 4294967296) (h2 : b < 4294967296) : bits .or .u32 (a : Int) (b : Int) = ((a ||| b : Nat) : Int) := by
  have := wm_or (BitVec.ofNat 32 a) (BitVec.ofNat 32 b)
  rw [wv_of h1, wv_of h2] at this
  rw [this]; unfold wv; rw [BitVec.toNat_or, BitVec.toNat_ofNat, BitVec.toNat_ofNat, Nat.mod_eq_of_lt h1, Nat.mod_eq_of_lt h2]
theorem xor32 {a b : Nat} (h1 : a < 4294967296) (h2 : b < 4294967296) : bits .xor .u32 (a : Int) (b : Int) = ((a ^^^ b : Nat) : Int) := by
  have := wm_xor (BitVec.ofNat 32 a) (BitVec.ofNat 32 b)
  rw [wv_of h1, wv_of h2] at this
  rw [this]; unfold wv; rw [BitVec.toNat_xor, BitVec.toNat_ofNat, BitVec.toNat_ofNat, Nat.mod_eq_of_lt h1, Nat.mod_eq_of_lt h2]
theorem mul32 {a b : Nat} (h1 : a < 4294967296) (h2 : b < 4294967296) : (wrap64 (wrap64 ((wrap64 ((a : Int) / 65536 * (b : Int))).tmod 4294967296 * 65536) + wrap64 ((a : Int) % 65536 * (b : Int)))).tmod 4294967296 % 4294967296 = ((a * b % 4294967296 : Nat) : Int) := by
  have p0 : a / 65536 * b ≤ 65535 * 4294967295 := Nat.mul_le_mul (by omega) (by omega)
  have q0 : a % 65536 * b ≤ 65535 * 4294967295 := Nat.mul_le_mul (by omega) (by omega)
  have s0 : a * b = a / 65536 * b * 65536 + a % 65536 * b := by
    have h := Nat.div_add_mod a 65536
    generalize a / 65536 = A at *
    generalize a % 65536 = r at *
    subst h
    rw [Nat.add_mul, Nat.mul_comm 65536 A, Nat.mul_assoc, Nat.mul_assoc, Nat.mul_comm 65536 b]
  rw [s0]
  have e1 : (a : Int) / 65536 * (b : Int) = ((a / 65536 * b : Nat) : Int) := by simp
  have e2 : (a : Int) % 65536 * (b : Int) = ((a % 65536 * b : Nat) : Int) := by simp
  rw [e1, e2]
  generalize a / 65536 * b = P at *
  generalize a % 65536 * b = Q at *
  have w1 : wrap64 (P : Int) = P := by unfold wrap64; omega
  have w2 : wrap64 (Q : Int) = Q := by unfold wrap64; omega
  have t1 : Int.tmod (P : Int) 4294967296 = (P : Int) % 4294967296 := Int.tmod_eq_emod_of_nonneg (by omega)
  rw [w1, w2, t1]
  have hdm := Int.emod_add_mul_ediv (P : Int) 4294967296
  have r1 : 0 ≤ (P : Int) % 4294967296 := Int.emod_nonneg _ (by decide)
  have r2 : (P : Int) % 4294967296 < 4294967296 := Int.emod_lt_of_pos _ (by decide)
  have e4 : (((P * 65536 + Q) % 4294967296 : Nat) : Int) = ((P : Int) * 65536 + Q) % 4294967296 := by rw [Int.natCast_emod, Int.natCast_add, Int.natCast_mul]; rfl
  rw [e4]
  generalize (P : Int) % 4294967296 = r at *
  generalize (P : Int) / 4294967296 = u at *
  have w3 : wrap64 (r * 65536) = r * 65536 := Go.IntWalk.wrap64_in _ (by omega)
  have w4 : wrap64 (r * 65536 + Q) = r * 65536 + Q := Go.IntWalk.wrap64_in _ (by omega)
  have t2 : Int.tmod (r * 65536 + Q) 4294967296 = (r * 65536 + Q) % 4294967296 := Int.tmod_eq_emod_of_nonneg (by omega)
  rw [w3, w4, t2, Int.emod_emod_of_dvd _ (Int.dvd_refl _)]
  have e3 : (P : Int) * 65536 + Q = (r * 65536 + Q) + 4294967296 * (u * 65536) := by omega
  rw [e3, Int.add_mul_emod_self_left]
set_option maxRecDepth 10000 in
set_option maxHeartbeats 2000000 in
theorem made_2 (a b : Nat) (w : World) (h1 : a < 4294967296) (h2 : b < 4294967296) :
    Calls Tryd.prog 22 #[.int .i64 2, .int .u32 (a : Int), .int .u32 (b : Int)] w fun e w' => e = .returned (.int .u32 (madeN 2 a b : Int)) ∧ w = w' := by
  have e1 : IntKind.i64.wrap (a : Int) = (a : Int) := by rw [IntKind.wrap_i64]; omega
  have e2 : IntKind.i64.wrap (b : Int) = (b : Int) := by rw [IntKind.wrap_i64]; omega
  go_enter Tryd.func22, Tryd.ntmps22
  go_wp2
  go_ret
  refine ⟨?_, rfl⟩
  show Ending.returned (.int .u32 _) = Ending.returned (.int .u32 _)
  rfl
set_option maxRecDepth 10000 in
set_option maxHeartbeats 2000000 in
theorem made_4 (a b : Nat) (w : World) (h1 : a < 4294967296) (h2 : b < 4294967296) :
    Calls Tryd.prog 22 #[.int .i64 4, .int .u32 (a : Int), .int .u32 (b : Int)] w fun e w' => e = .returned (.int .u32 (madeN 4 a b : Int)) ∧ w = w' := by
  have e1 : IntKind.i64.wrap (a : Int) = (a : Int) := by rw [IntKind.wrap_i64]; omega
  have e2 : IntKind.i64.wrap (b : Int) = (b : Int) := by rw [IntKind.wrap_i64]; omega
  go_enter Tryd.func22, Tryd.ntmps22
  go_wp2
  go_ret
  refine ⟨?_, rfl⟩
  show Ending.returned (.int .u32 _) = Ending.returned (.int .u32 _)
  refine congrArg (fun z : Int => Ending.returned (.int .u32 z)) ?_
  show _ = (((a + b) % 4294967296 : Nat) : Int)
  omega
set_option maxRecDepth 10000 in
set_option maxHeartbeats 2000000 in
theorem made_5 (a b : Nat) (w : World) (h1 : a < 4294967296) (h2 : b < 4294967296) :
    Calls Tryd.prog 22 #[.int .i64 5, .int .u32 (a : Int), .int .u32 (b : Int)] w fun e w' => e = .returned (.int .u32 (madeN 5 a b : Int)) ∧ w = w' := by
  have e1 : IntKind.i64.wrap (a : Int) = (a : Int) := by rw [IntKind.wrap_i64]; omega
  have e2 : IntKind.i64.wrap (b : Int) = (b : Int) := by rw [IntKind.wrap_i64]; omega
  go_enter Tryd.func22, Tryd.ntmps22
  go_wp2
  go_ret
  refine ⟨?_, rfl⟩
  show Ending.returned (.int .u32 _) = Ending.returned (.int .u32 _)
  refine congrArg (fun z : Int => Ending.returned (.int .u32 z)) ?_
  show _ = ((diffN a b : Nat) : Int)
  unfold diffN
  split
  · omega
  · omega
set_option maxRecDepth 10000 in
set_option maxHeartbeats 2000000 in
theorem made_7 (a b : Nat) (w : World) (h1 : a < 4294967296) (h2 : b < 4294967296) :
    Calls Tryd.prog 22 #[.int .i64 7, .int .u32 (a : Int), .int .u32 (b : Int)] w fun e w' => e = .returned (.int .u32 (madeN 7 a b : Int)) ∧ w = w' := by
  have e1 : IntKind.i64.wrap (a : Int) = (a : Int) := by rw [IntKind.wrap_i64]; omega
  have e2 : IntKind.i64.wrap (b : Int) = (b : Int) := by rw [IntKind.wrap_i64]; omega
  go_enter Tryd.func22, Tryd.ntmps22
  go_wp2
  go_ret
  refine ⟨?_, rfl⟩
  show Ending.returned (.int .u32 _) = Ending.returned (.int .u32 _)
  rw [mul32 h1 h2]; rfl
set_option maxRecDepth 10000 in
set_option maxHeartbeats 2000000 in
theorem made_9 (a b : Nat) (w : World) (h1 : a < 4294967296) (h2 : b < 4294967296) :
    Calls Tryd.prog 22 #[.int .i64 9, .int .u32 (a : Int), .int .u32 (b : Int)] w fun e w' => e = .returned (.int .u32 (madeN 9 a b : Int)) ∧ w = w' := by
  have e1 : IntKind.i64.wrap (a : Int) = (a : Int) := by rw [IntKind.wrap_i64]; omega
  have e2 : IntKind.i64.wrap (b : Int) = (b : Int) := by rw [IntKind.wrap_i64]; omega
  go_enter Tryd.func22, Tryd.ntmps22
  go_wp2
  go_ret
  refine ⟨?_, rfl⟩
  show Ending.returned (.int .u32 _) = Ending.returned (.int .u32 _)
  rw [and32 h1 h2]; rfl
set_option maxRecDepth 10000 in
set_option maxHeartbeats 2000000 in
theorem made_10 (a b : Nat) (w : World) (h1 : a < 4294967296) (h2 : b < 4294967296) :
    Calls Tryd.prog 22 #[.int .i64 10, .int .u32 (a : Int), .int .u32 (b : Int)] w fun e w' => e = .returned (.int .u32 (madeN 10 a b : Int)) ∧ w = w' := by
  have e1 : IntKind.i64.wrap (a : Int) = (a : Int) := by rw [IntKind.wrap_i64]; omega
  have e2 : IntKind.i64.wrap (b : Int) = (b : Int) := by rw [IntKind.wrap_i64]; omega
  go_enter Tryd.func22, Tryd.ntmps22
  go_wp2
  go_ret
  refine ⟨?_, rfl⟩
  show Ending.returned (.int .u32 _) = Ending.returned (.int .u32 _)
  rw [or32 h1 h2]; rfl
set_option maxRecDepth 10000 in
set_option maxHeartbeats 2000000 in
theorem made_11 (a b : Nat) (w : World) (h1 : a < 4294967296) (h2 : b < 4294967296) :
    Calls Tryd.prog 22 #[.int .i64 11, .int .u32 (a : Int), .int .u32 (b : Int)] w fun e w' => e = .returned (.int .u32 (madeN 11 a b : Int)) ∧ w = w' := by
  have e1 : IntKind.i64.wrap (a : Int) = (a : Int) := by rw [IntKind.wrap_i64]; omega
  have e2 : IntKind.i64.wrap (b : Int) = (b : Int) := by rw [IntKind.wrap_i64]; omega
  go_enter Tryd.func22, Tryd.ntmps22
  go_wp2
  go_ret
  refine ⟨?_, rfl⟩
  show Ending.returned (.int .u32 _) = Ending.returned (.int .u32 _)
  rw [xor32 h1 h2]; rfl
set_option maxRecDepth 10000 in
set_option maxHeartbeats 2000000 in
theorem made_14 (a b : Nat) (w : World) (h1 : a < 4294967296) (h2 : b < 4294967296) (h3 : 0 < b) :
    Calls Tryd.prog 22 #[.int .i64 14, .int .u32 (a : Int), .int .u32 (b : Int)] w fun e w' => e = .returned (.int .u32 (madeN 14 a b : Int)) ∧ w = w' := by
  have e1 : IntKind.i64.wrap (a : Int) = (a : Int) := by rw [IntKind.wrap_i64]; omega
  have e2 : IntKind.i64.wrap (b : Int) = (b : Int) := by rw [IntKind.wrap_i64]; omega
  have h0 : ¬ (b : Int) = 0 := by omega
  go_enter Tryd.func22, Tryd.ntmps22
  go_wp2
  go_ret
  refine ⟨?_, rfl⟩
  show Ending.returned (.int .u32 _) = Ending.returned (.int .u32 _)
  refine congrArg (fun z : Int => Ending.returned (.int .u32 z)) ?_
  show _ = ((a / b : Nat) : Int)
  have hd := Nat.div_le_self a b
  rw [← Int.natCast_ediv]
  generalize a / b = q at *
  exact Int.emod_eq_of_lt (by omega) (by omega)
set_option maxRecDepth 10000 in
set_option maxHeartbeats 2000000 in
theorem made_15 (a b : Nat) (w : World) (h1 : a < 4294967296) (h2 : b < 4294967296) (h3 : 0 < b) :
    Calls Tryd.prog 22 #[.int .i64 15, .int .u32 (a : Int), .int .u32 (b : Int)] w fun e w' => e = .returned (.int .u32 (madeN 15 a b : Int)) ∧ w = w' := by
  have e1 : IntKind.i64.wrap (a : Int) = (a : Int) := by rw [IntKind.wrap_i64]; omega
  have e2 : IntKind.i64.wrap (b : Int) = (b : Int) := by rw [IntKind.wrap_i64]; omega
  have h0 : ¬ (b : Int) = 0 := by omega
  go_enter Tryd.func22, Tryd.ntmps22
  go_wp2
  go_ret
  refine ⟨?_, rfl⟩
  show Ending.returned (.int .u32 _) = Ending.returned (.int .u32 _)
  refine congrArg (fun z : Int => Ending.returned (.int .u32 z)) ?_
  show _ = ((a % b : Nat) : Int)
  rw [Int.natCast_emod]
end Go.Proofs.YtodkehpldlmgaaaDoor
