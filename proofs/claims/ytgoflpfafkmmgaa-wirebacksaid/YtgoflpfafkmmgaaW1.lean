/- A writer: number, folded, New, Raw, All. -/
import Derived.Test.YtgoflpfafkmmgaaProg
import Derived.Test.YtgoflpfafkmmgaaU1
namespace Go.Proofs.Ytgoflpfafkmmgaa
open Go.RowKit

theorem info5 : (Try.prog.info? 5).map (fun i => (i.zero, i.size, i.bytes)) = some (some (.int .u8 0), 1, 1) := by kernel_rfl

/-- A number's bytes. -/
def numL (n : Nat) : List UInt8 := if h : n < 128 then [UInt8.ofNat n] else UInt8.ofNat (n % 128 + 128) :: numL (n / 128)
termination_by n
decreasing_by omega
theorem numL_lo (n : Nat) (h : n < 128) : numL n = [UInt8.ofNat n] := by rw [numL, dif_pos h]
theorem numL_hi (n : Nat) (h : ¬ n < 128) : numL n = UInt8.ofNat (n % 128 + 128) :: numL (n / 128) := by rw [numL, dif_neg h]
theorem numL_len : ∀ (k n : Nat), n < 128 ^ k → 0 < k → (numL n).length ≤ k
  | 0, _, _, h => by omega
  | 1, n, h, _ => by rw [numL_lo n (by omega)]; simp
  | k + 2, n, h, _ => by
    by_cases hn : n < 128
    · rw [numL_lo n hn]; simp
    · rw [numL_hi n hn]
      have := numL_len (k + 1) (n / 128) (by rw [Nat.pow_succ] at h; omega) (by omega)
      simp; omega
theorem numL_len9 (n : Nat) (h : n < 9223372036854775808) : (numL n).length ≤ 9 := numL_len 9 n (by omega) (by omega)
theorem numL_pos (n : Nat) : 0 < (numL n).length := by
  by_cases h : n < 128
  · rw [numL_lo n h]; simp
  · rw [numL_hi n h]; simp
theorem bv_of (n : Nat) (h : n < 256) : bv (UInt8.ofNat n) = (n : Int) := by
  unfold bv; rw [UInt8.toNat_ofNat']; omega
theorem hi_byte (n : Nat) : IntKind.u8.wrap ((n : Int) % 128 + 128) = bv (UInt8.ofNat (n % 128 + 128)) := by
  rw [bv_of _ (by omega), IntKind.wrap_u8]; omega
theorem bytes_one (w : World) (x : UInt8) : Bytes (w.alloc (.cells #[bc x] 5)) (.slice (some ⟨w.heap.size, 0, none⟩) 1 1) [x] := by
  refine ⟨_, _, w.heap.size, 0, rfl, Nat.le_refl _, fun _ => rfl, fun j hj => ?_, by simp⟩
  obtain rfl : j = 0 := by simpa using hj
  exact (has_new w #[bc x] 5 w.heap.size rfl).cell 0
theorem own_alloc {w : World} {v : Value} {d : List UInt8} (h : Own w v d) (o : Obj) : Own (w.alloc o) v d := World.ownsRow.alloc h o
/-- An owned row that was not there at first. -/
def New (w w' : World) (v : Value) (d : List UInt8) : Prop := Own w' v d ∧ (∀ k, v.ownBlock = some k → w.heap.size ≤ k) ∧ Below w.heap.size w w'

theorem New.own {w w' : World} {v : Value} {d : List UInt8} (h : New w w' v d) : Own w' v d := h.1
theorem New.below {w w' : World} {v : Value} {d : List UInt8} (h : New w w' v d) : Below w.heap.size w w' := h.2.2
theorem new_step {w wr w2 : World} {v v' : Value} {o : Obj} {d x : List UInt8} (h : New w wr v d) (hown : Own w2 v' (d ++ x)) (hg : (wr.alloc o).grownBy w2 v.ownBlock) (hv' : Loc (wr.alloc o) v v') : New w w2 v' (d ++ x) := by
  obtain ⟨h1, h2, h3⟩ := h
  refine ⟨hown, fun k hk => ?_, ?_⟩
  · rcases hv' k hk with h | h
    · exact h2 k h
    · have := h3.size; simp at h; omega
  · refine ⟨hg.os.trans h3.os, hg.tape.trans h3.tape, hg.output.trans h3.output, by have := hg.size; have := h3.size; simp at *; omega, fun k hk => ?_⟩
    have hs := h3.size
    rw [hg.block k (by simp; omega) (fun e => by have := h2 k e.symm; omega), alloc_get, if_neg (by omega)]
    exact h3.block k hk

set_option maxRecDepth 10000 in
set_option maxHeartbeats 1000000 in
theorem number64_any (n : Nat) (hn : n < 9223372036854775808) (w : World) :
    Calls Try.prog 63 #[.int .i64 n] w fun e w' => ∃ v, e = .returned v ∧ New w w' v (numL n) := by
  go_enter Try.func63, Try.ntmps63
  go_wp2_with fail
  go_loopw [0, 3] (fun t v wr => ∃ m : Nat, ∃ d : List UInt8, t = .int .i64 m ∧ d ++ numL m = numL n ∧ m ≤ n ∧ New w wr v d) (fun t _ _ => (intOf t).toNat)
  case atStart => exact ⟨n, [], rfl, rfl, Nat.le_refl _, Own.nil w, fun k hk => (by cases hk), Below.refl _ _⟩
  case round =>
    obtain ⟨m, d, rfl, hd, hmn, hN⟩ := hrel
    have hdl : Hid (d.length ≤ 9) := by
      have h1 := numL_len9 n hn
      rw [← hd, List.length_append] at h1
      show _ ≤ _
      omega
    have HD : Hid (d ++ numL m = numL n) := hd
    clear hd
    have hmb : m < 9223372036854775808 := by omega
    by_cases hm : m < 128
    · have HM := numL_lo m hm
      have hw : IntKind.u8.wrap (m : Int) = bv (UInt8.ofNat m) := by rw [bv_of _ (by omega), IntKind.wrap_u8]; omega
      have i1 : ¬ (128 : Int) ≤ m := by omega
      have Hx : Hid (d ++ [UInt8.ofNat m] = numL n) := by show _ = _; rw [← HM]; exact HD.out
      clear HM HD
      generalize UInt8.ofNat m = x at *
      go_wp2_with (refine wpList_append_bytes _ rfl _ _ 27 27 rfl info5 Try.underlying27 Try.underlying27 _ _ d [x] rfl rfl (own_alloc hN.own _) (bytes_one _ x) (by have := hdl.out; simp; omega) ?_; intro v' w2 hown2 hgr hloc hnil; clear hnil)
      go_ret
      exact ⟨_, rfl, by rw [← Hx.out]; exact new_step hN hown2 hgr hloc⟩
    · have Hx : Hid ((d ++ [UInt8.ofNat (m % 128 + 128)]) ++ numL (m / 128) = numL n) := by
        show _ = _
        rw [List.append_assoc, List.singleton_append, ← numL_hi m hm]; exact HD.out
      have hw := hi_byte m
      have i1 : (128 : Int) ≤ m := by omega
      obtain ⟨q, hq⟩ : ∃ q : Nat, q = m / 128 := ⟨_, rfl⟩
      have i2 : (m : Int) / 128 = (q : Int) := by omega
      rw [← hq] at Hx
      have Hm : Hid (q ≤ n ∧ q < m) := ⟨by omega, by omega⟩
      clear HD hq
      generalize UInt8.ofNat (m % 128 + 128) = x at *
      go_wp2_with (refine wpList_append_bytes _ rfl _ _ 27 27 rfl info5 Try.underlying27 Try.underlying27 _ _ d [x] rfl rfl (own_alloc hN.own _) (bytes_one _ x) (by have := hdl.out; simp; omega) ?_; intro v' w2 hown2 hgr hloc hnil; clear hnil)
      go_roundw
      case rel => exact ⟨q, d ++ [x], rfl, Hx.out, Hm.out.1, new_step hN hown2 hgr hloc⟩
      case measure => have := Hm.out; simp [intOf]; omega

set_option maxRecDepth 10000 in
set_option maxHeartbeats 1000000 in
theorem numberI_any (n : Nat) (hn : n < 9223372036854775808) (w : World) :
    Calls Try.prog 43 #[.int .i64 n] w fun e w' => ∃ v, e = .returned v ∧ New w w' v (numL n) := by
  go_enter Try.func43, Try.ntmps43
  go_wp2_with fail
  go_loopw [0, 3] (fun t v wr => ∃ m : Nat, ∃ d : List UInt8, t = .int .i64 m ∧ d ++ numL m = numL n ∧ m ≤ n ∧ New w wr v d) (fun t _ _ => (intOf t).toNat)
  case atStart => exact ⟨n, [], rfl, rfl, Nat.le_refl _, Own.nil w, fun k hk => (by cases hk), Below.refl _ _⟩
  case round =>
    obtain ⟨m, d, rfl, hd, hmn, hN⟩ := hrel
    have hdl : Hid (d.length ≤ 9) := by
      have h1 := numL_len9 n hn
      rw [← hd, List.length_append] at h1
      show _ ≤ _
      omega
    have HD : Hid (d ++ numL m = numL n) := hd
    clear hd
    have hmb : m < 9223372036854775808 := by omega
    by_cases hm : m < 128
    · have HM := numL_lo m hm
      have hw : IntKind.u8.wrap (m : Int) = bv (UInt8.ofNat m) := by rw [bv_of _ (by omega), IntKind.wrap_u8]; omega
      have i1 : ¬ (128 : Int) ≤ m := by omega
      have Hx : Hid (d ++ [UInt8.ofNat m] = numL n) := by show _ = _; rw [← HM]; exact HD.out
      clear HM HD
      generalize UInt8.ofNat m = x at *
      go_wp2_with (refine wpList_append_bytes _ rfl _ _ 27 27 rfl info5 Try.underlying27 Try.underlying27 _ _ d [x] rfl rfl (own_alloc hN.own _) (bytes_one _ x) (by have := hdl.out; simp; omega) ?_; intro v' w2 hown2 hgr hloc hnil; clear hnil)
      go_ret
      exact ⟨_, rfl, by rw [← Hx.out]; exact new_step hN hown2 hgr hloc⟩
    · have Hx : Hid ((d ++ [UInt8.ofNat (m % 128 + 128)]) ++ numL (m / 128) = numL n) := by
        show _ = _
        rw [List.append_assoc, List.singleton_append, ← numL_hi m hm]; exact HD.out
      have hw := hi_byte m
      have i1 : (128 : Int) ≤ m := by omega
      obtain ⟨q, hq⟩ : ∃ q : Nat, q = m / 128 := ⟨_, rfl⟩
      have i2 : (m : Int) / 128 = (q : Int) := by omega
      rw [← hq] at Hx
      have Hm : Hid (q ≤ n ∧ q < m) := ⟨by omega, by omega⟩
      clear HD hq
      generalize UInt8.ofNat (m % 128 + 128) = x at *
      go_wp2_with (refine wpList_append_bytes _ rfl _ _ 27 27 rfl info5 Try.underlying27 Try.underlying27 _ _ d [x] rfl rfl (own_alloc hN.own _) (bytes_one _ x) (by have := hdl.out; simp; omega) ?_; intro v' w2 hown2 hgr hloc hnil; clear hnil)
      go_roundw
      case rel => exact ⟨q, d ++ [x], rfl, Hx.out, Hm.out.1, new_step hN hown2 hgr hloc⟩
      case measure => have := Hm.out; simp [intOf]; omega
end Go.Proofs.Ytgoflpfafkmmgaa
