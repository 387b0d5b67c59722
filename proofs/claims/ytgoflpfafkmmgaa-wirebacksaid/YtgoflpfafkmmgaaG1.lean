/- The document's answer: Number, InSign, Signed, Bytes, take. -/
import Derived.Test.YtgoflpfafkmmgaaL3
namespace Go.Proofs.Ytgoflpfafkmmgaa
open Go.RowKit

theorem hi_byte2 (n : Nat) : (n : Int) % 128 + 128 = bv (UInt8.ofNat (n % 128 + 128)) := by
  rw [bv_of _ (by omega)]; omega
set_option maxRecDepth 10000 in
set_option maxHeartbeats 1000000 in
theorem refnumber_any (n : Nat) (hn : n < 9223372036854775808) (w : World) :
    Calls Try.prog 25 #[.int .i64 n] w fun e w' => ∃ v, e = .returned v ∧ New w w' v (numL n) := by
  go_enter Try.func25, Try.ntmps25
  go_wp2_with fail
  go_loopw [0, 3] (fun t v wr => ∃ m : Nat, ∃ d : List UInt8, t = .int .i64 m ∧ d ++ numL m = numL n ∧ m ≤ n ∧ New w wr v d) (fun t _ _ => (intOf t).toNat)
  case atStart => exact ⟨n, [], rfl, rfl, Nat.le_refl _, Own.nil w, fun k hk => (by cases hk), Below.refl _ _⟩
  case round =>
    obtain ⟨m, d, rfl, hd, hmn, hN⟩ := hrel
    have hdl : Hid (d.length ≤ 9) := by
      have h1 := numL_len9 n hn
      rw [← hd, List.length_append] at h1
      show _ ≤ _
      omega
    have HD : Hid (d ++ numL m = numL n) := hd
    clear hd
    have hmb : m < 9223372036854775808 := by omega
    by_cases hm : m < 128
    · have HM := numL_lo m hm
      have hw : IntKind.u8.wrap (m : Int) = bv (UInt8.ofNat m) := by rw [bv_of _ (by omega), IntKind.wrap_u8]; omega
      have i1 : ¬ (128 : Int) ≤ m := by omega
      have Hx : Hid (d ++ [UInt8.ofNat m] = numL n) := by show _ = _; rw [← HM]; exact HD.out
      clear HM HD
      generalize UInt8.ofNat m = x at *
      go_wp2_with (refine wpList_append_bytes _ rfl _ _ 27 27 rfl info5 Try.underlying27 Try.underlying27 _ _ d [x] rfl rfl (own_alloc hN.own _) (bytes_one _ x) (by have := hdl.out; simp; omega) ?_; intro v' w2 hown2 hgr hloc hnil; clear hnil)
      go_ret
      exact ⟨_, rfl, by rw [← Hx.out]; exact new_step hN hown2 hgr hloc⟩
    · have Hx : Hid ((d ++ [UInt8.ofNat (m % 128 + 128)]) ++ numL (m / 128) = numL n) := by
        show _ = _
        rw [List.append_assoc, List.singleton_append, ← numL_hi m hm]; exact HD.out
      have hw := hi_byte2 m
      have i1 : (128 : Int) ≤ m := by omega
      obtain ⟨q, hq⟩ : ∃ q : Nat, q = m / 128 := ⟨_, rfl⟩
      have i2 : (m : Int) / 128 = (q : Int) := by omega
      rw [← hq] at Hx
      have Hm : Hid (q ≤ n ∧ q < m) := ⟨by omega, by omega⟩
      clear HD hq
      generalize UInt8.ofNat (m % 128 + 128) = x at *
      go_wp2_with (refine wpList_append_bytes _ rfl _ _ 27 27 rfl info5 Try.underlying27 Try.underlying27 _ _ d [x] rfl rfl (own_alloc hN.own _) (bytes_one _ x) (by have := hdl.out; simp; omega) ?_; intro v' w2 hown2 hgr hloc hnil; clear hnil)
      go_roundw
      case rel => exact ⟨q, d ++ [x], rfl, Hx.out, Hm.out.1, new_step hN hown2 hgr hloc⟩
      case measure => have := Hm.out; simp [intOf]; omega


set_option maxHeartbeats 400000 in
theorem insign_any (n : Int) (w : World) :
    Calls Try.prog 26 #[.int .i64 n] w fun e w' => e = .returned (.bool (inS n)) ∧ w' = w := by
  unfold inS
  by_cases h1 : -4611686018427387904 ≤ n
  · have h2 : decide (n < 4611686018427387904) = decide (n ≤ 4611686018427387903) := by rw [Bool.eq_iff_iff]; simp; omega
    have h3 : decide (-4611686018427387904 ≤ n) = true := by simpa using h1
    rw [h3, Bool.true_and, ← h2]
    clear h2 h3
    go_enter Try.func26, Try.ntmps26
    go_wp2_with fail
    go_ret
    exact ⟨rfl, rfl⟩
  · have h3 : decide (-4611686018427387904 ≤ n) = false := by simpa using h1
    rw [h3, Bool.false_and]
    go_enter Try.func26, Try.ntmps26
    go_wp2_with fail
    go_ret
    exact ⟨rfl, rfl⟩
set_option maxHeartbeats 400000 in
theorem refsigned_any (n : Int) (h : inS n = true) (w : World) :
    Calls Try.prog 28 #[.int .i64 n] w fun e w' => ∃ v, e = .returned v ∧ New w w' v (numL (foldN n)) := by
  have hb : -4611686018427387904 ≤ n ∧ n ≤ 4611686018427387903 := by unfold inS at h; simpa using h
  have hr := refnumber_any (foldN n) (foldN_lt n h) w
  have e1 : n < 0 → wrap64 (wrap64 (-2 * n) - 1) = (foldN n : Int) := fun h0 => by
    unfold wrap64; unfold foldN; rw [if_pos h0]; omega
  have e2 : ¬ n < 0 → wrap64 (2 * n) = (foldN n : Int) := fun h0 => by
    unfold wrap64; unfold foldN; rw [if_neg h0]; omega
  clear hb h
  by_cases h0 : n < 0
  · have e3 := e1 h0
    generalize foldN n = m at *
    clear e1 e2
    go_enter Try.func28, Try.ntmps28
    go_wp2_with fail
    refine hr.mono ?_
    rintro e w1 ⟨v, rfl, hN⟩
    have HN : Hid (New w w1 v (numL m)) := hN
    obtain ⟨a, c, rfl⟩ := hN.own.slice
    clear hN hr
    go_wp2_with fail
    go_ret
    exact ⟨_, rfl, HN.out⟩
  · have e3 := e2 h0
    generalize foldN n = m at *
    clear e1 e2
    go_enter Try.func28, Try.ntmps28
    go_wp2_with fail
    refine hr.mono ?_
    rintro e w1 ⟨v, rfl, hN⟩
    have HN : Hid (New w w1 v (numL m)) := hN
    obtain ⟨a, c, rfl⟩ := hN.own.slice
    clear hN hr
    go_wp2_with fail
    go_ret
    exact ⟨_, rfl, HN.out⟩
end Go.Proofs.Ytgoflpfafkmmgaa
