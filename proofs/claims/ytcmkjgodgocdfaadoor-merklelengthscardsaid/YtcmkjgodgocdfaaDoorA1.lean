/- The words' turns: math/bits.RotateLeft32, sha.turn, the closures of turned and shifted. -/
import Derived.Test.YtcmkjgodgocdfaaDoorProg
import Derived.Test.YtcmkjgodgocdfaaDoorSp
import Derived.WalkSpells
import Derived.WalkLawsBesides
import Derived.BigQuiet
import Derived.Deep.QuietTactic
namespace Go.Proofs.YtcmkjgodgocdfaaDoor
open Go.RowKit
attribute [local go_sem] wm_add wm_shl wm_shr wm_and wm_xor wm_or wv_nonneg bm_zx bm_lo wm_shl8 wm_shr8
set_option maxHeartbeats 400000 in
theorem rot_any (x : Wd) (n : Nat) (h0 : 0 < n) (h : n < 32) (w : World) :
    Calls Tryd.prog 76 #[.int .u32 (wv x), .int .i64 (-(n : Int))] w fun e w' => e = .returned (.int .u32 (wv (x.rotateRight n))) ∧ w' = w := by
  have e1 := rot_cnt n h0 h
  have e2 := rot_two n h
  have e3 : min (32 - n) 32 = 32 - n := by omega
  have e4 : min n 32 = n := by omega
  go_enter Tryd.func76, Tryd.ntmps76
  go_wp2
  go_ret
  rw [← wd_rot x n h]
  exact ⟨rfl, rfl⟩

set_option maxHeartbeats 400000 in
theorem turn_any (x : Wd) (k : Int) (w : World) (h0 : 0 < k) (h : k < 32) :
    Calls Tryd.prog 73 #[.int .u32 (wv x), .int .i64 k] w fun e w' => e = .returned (.int .u32 (wv (x.rotateRight k.toNat))) ∧ w' = w := by
  obtain ⟨n, rfl⟩ := Int.eq_ofNat_of_zero_le (Int.le_of_lt h0)
  have e1 : wrap64 (-(n : Int)) = -(n : Int) := by unfold wrap64; omega
  go_enter Tryd.func73, Tryd.ntmps73
  go_wp2_with fail
  refine (rot_any x n (by omega) (by omega) _).mono ?_
  rintro e w' ⟨rfl, rfl⟩
  go_wp2
  go_ret
  exact ⟨rfl, rfl⟩

set_option maxHeartbeats 400000 in
theorem turned1_any (x : Wd) (a1 a2 a3 : Addr) (n1 n2 n3 : Int) (w : World)
    (h10 : 0 < n1) (h11 : n1 < 32) (h20 : 0 < n2) (h21 : n2 < 32) (h30 : 0 < n3) (h31 : n3 < 32)
    (c1 : w.cell? a1 = some (.int .i64 n1)) (c2 : w.cell? a2 = some (.int .i64 n2)) (c3 : w.cell? a3 = some (.int .i64 n3)) :
    Calls Tryd.prog 72 #[.int .u32 (wv x), .pointer (some a1), .pointer (some a2), .pointer (some a3)] w fun e w' =>
      e = .returned (.int .u32 (wv (x.rotateRight n1.toNat ^^^ x.rotateRight n2.toNat ^^^ x.rotateRight n3.toNat))) ∧ ∃ k, w' = w.drewN k := by
  go_enter Tryd.func72, Tryd.ntmps72
  go_wp2
  go_quiet ((go_at_call 73; refine Calls.quiet_of_same (turn_any _ _ _ ?_ ?_) <;> assumption))
  go_wp2
  go_ret
  exact ⟨rfl, _, rfl⟩

set_option maxHeartbeats 400000 in
theorem shifted1_any (x : Wd) (a1 a2 a3 : Addr) (n1 n2 n3 : Int) (w : World)
    (h10 : 0 < n1) (h11 : n1 < 32) (h20 : 0 < n2) (h21 : n2 < 32) (h30 : 0 ≤ n3) (h31 : n3 < 32)
    (c1 : w.cell? a1 = some (.int .i64 n1)) (c2 : w.cell? a2 = some (.int .i64 n2)) (c3 : w.cell? a3 = some (.int .i64 n3)) :
    Calls Tryd.prog 77 #[.int .u32 (wv x), .pointer (some a1), .pointer (some a2), .pointer (some a3)] w fun e w' =>
      e = .returned (.int .u32 (wv (x.rotateRight n1.toNat ^^^ x.rotateRight n2.toNat ^^^ x >>> n3.toNat))) ∧ ∃ k, w' = w.drewN k := by
  have e4 : min n3.toNat 32 = n3.toNat := by omega
  go_enter Tryd.func77, Tryd.ntmps77
  go_wp2
  go_quiet ((go_at_call 73; refine Calls.quiet_of_same (turn_any _ _ _ ?_ ?_) <;> assumption))
  go_wp2
  go_ret
  exact ⟨rfl, _, rfl⟩

set_option maxHeartbeats 400000 in
theorem turned_any (n1 n2 n3 : Int) (w : World) :
    Calls Tryd.prog 67 #[.int .i64 n1, .int .i64 n2, .int .i64 n3] w fun e w' =>
      e = .returned (.func (.func 72) #[] #[.pointer (some ⟨w.heap.size, 0, none⟩), .pointer (some ⟨w.heap.size + 1, 0, none⟩), .pointer (some ⟨w.heap.size + 2, 0, none⟩)]) ∧
        w' = ((w.alloc (.cells #[.int .i64 n1] 3)).alloc (.cells #[.int .i64 n2] 3)).alloc (.cells #[.int .i64 n3] 3) := by
  go_enter Tryd.func67, Tryd.ntmps67
  go_wp2
  go_ret
  exact ⟨rfl, rfl⟩

set_option maxHeartbeats 400000 in
theorem shifted_any (n1 n2 n3 : Int) (w : World) :
    Calls Tryd.prog 74 #[.int .i64 n1, .int .i64 n2, .int .i64 n3] w fun e w' =>
      e = .returned (.func (.func 77) #[] #[.pointer (some ⟨w.heap.size, 0, none⟩), .pointer (some ⟨w.heap.size + 1, 0, none⟩), .pointer (some ⟨w.heap.size + 2, 0, none⟩)]) ∧
        w' = ((w.alloc (.cells #[.int .i64 n1] 3)).alloc (.cells #[.int .i64 n2] 3)).alloc (.cells #[.int .i64 n3] 3) := by
  go_enter Tryd.func74, Tryd.ntmps74
  go_wp2
  go_ret
  exact ⟨rfl, rfl⟩

set_option maxHeartbeats 400000 in
theorem read32_any (l : List UInt8) (b o cap : Nat) (w : World) (hl : l.length ≤ 64)
    (hc : ∀ i, i < l.length → w.cell? ⟨b, o + i, none⟩ = some (.int .u8 (bv (l[i]?.getD 0)))) :
    Calls Tryd.prog 75 #[.slice (some ⟨b, o, none⟩) l.length cap, .int .i64 8] w fun e w' => e = .returned (.int .u32 (wv (rd l))) ∧ w' = w := by
  go_enter Tryd.func75, Tryd.ntmps75
  go_wp2
  go_loop [5, 10] (fun n i => ∃ k : Nat, k ≤ l.length ∧ i = .int .i64 k ∧ n = .int .u32 (wv (rd (l.take k)))) (fun _ i => l.length - (intOf i).toNat)
  case atStart => exact ⟨0, Nat.zero_le _, rfl, rfl⟩
  case round =>
    obtain ⟨k, hk, rfl, rfl⟩ := hrel
    by_cases hlt : k < l.length
    · have hcell := hc k hlt
      go_wp2
      go_round
      case rel => exact ⟨k + 1, by omega, by go_num, by rw [take_snoc' l k hlt, rd_snoc, ← wm_or, ← wm_shl8]; simp [hlt]⟩
      case measure => simp [intOf]; omega
    · go_wp2
      go_ret
      rw [List.take_of_length_le (by omega)]
      exact ⟨rfl, rfl⟩

/-- What 'read' makes of two halves of a byte. -/
theorem nib (a b : UInt8) (ha : a.toNat < 16) (hb : b.toNat < 16) : bits .or .u8 (bv a * 16 % 256) (bv b) = bv (a * 16 + b) := by
  have key : ∀ x y : Fin 16, bits .or .u8 ((x.val : Int) * 16 % 256) (y.val : Int) = ((x.val * 16 + y.val : Nat) : Int) := by decide
  have h1 := key ⟨a.toNat, ha⟩ ⟨b.toNat, hb⟩
  have h2 : (a * 16 + b).toNat = a.toNat * 16 + b.toNat := by
    rw [UInt8.toNat_add, UInt8.toNat_mul]; simp; omega
  unfold bv
  rw [h2]; exact h1

end Go.Proofs.YtcmkjgodgocdfaaDoor
