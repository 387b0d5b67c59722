/- The document's answer: take. -/
import Derived.Test.YtgoflpfafkmmgaaG1
namespace Go.Proofs.Ytgoflpfafkmmgaa
open Go.RowKit

/-- What 'take' answers. -/
def TakeR (l : List UInt8) (at_ : Nat) (e : Ending) : Prop := match scan 0 0 (l.drop at_) with
  | .error ec => e = .returned (.tuple #[.int .i64 0, .int .i64 0, .int .i64 ec])
  | .ok (n, k) => e = .returned (.tuple #[.int .i64 n, .int .i64 ((at_ + k : Nat) : Int), .int .i64 0])
theorem TakeR.err {l : List UInt8} {at_ ec : Nat} {e : Ending} (h : scan 0 0 (l.drop at_) = .error ec) (k : e = .returned (.tuple #[.int .i64 0, .int .i64 0, .int .i64 ec])) : TakeR l at_ e := by unfold TakeR; rw [h]; exact k
theorem TakeR.ok {l : List UInt8} {at_ n k : Nat} {e : Ending} (h : scan 0 0 (l.drop at_) = .ok (n, k)) (hf : e = .returned (.tuple #[.int .i64 n, .int .i64 ((at_ + k : Nat) : Int), .int .i64 0])) : TakeR l at_ e := by unfold TakeR; rw [h]; exact hf
theorem mul_part (b : UInt8) (k U : Nat) (hU : U = 2 ^ (7 * k)) (hk : k ≤ 8) : ∃ M : Nat, M = (b.toNat % 128) * 2 ^ (7 * k) ∧ wrap64 (bv b % 128 * (U : Int)) = (M : Int) ∧ bv b % 128 * (U : Int) = (M : Int) ∧ M ≤ 127 * U ∧ U ≤ 72057594037927936 := by
  have hp : (2 : Nat) ^ (7 * k) ≤ 2 ^ 56 := Nat.pow_le_pow_right (by omega) (by omega)
  have hm : (b.toNat % 128) * U ≤ 127 * U := Nat.mul_le_mul_right _ (by omega)
  have e1 : bv b % 128 * (U : Int) = (((b.toNat % 128) * U : Nat) : Int) := by unfold bv; simp
  refine ⟨(b.toNat % 128) * U, by rw [hU], ?_, e1, hm, by omega⟩
  rw [e1]; unfold wrap64; omega
theorem fin_take {acc M B k p at_ : Nat} (hM : M = B) (hp : p = at_ + k) : Ending.returned (.tuple #[.int .i64 ((acc : Int) + (M : Int)), .int .i64 ((p : Int) + 1), .int .i64 0]) = .returned (.tuple #[.int .i64 ((acc + B : Nat) : Int), .int .i64 ((at_ + (k + 1) : Nat) : Int), .int .i64 0]) := by
  subst hM; subst hp
  have e1 : ((acc + M : Nat) : Int) = (acc : Int) + M := by omega
  have e2 : ((at_ + (k + 1) : Nat) : Int) = ((at_ + k : Nat) : Int) + 1 := by omega
  rw [e1, e2]
set_option maxRecDepth 10000 in
set_option maxHeartbeats 1000000 in
theorem reftake_any (v : Value) (l : List UInt8) (at_ : Nat) (W : World) (hB : Bytes W v l) (hat : at_ ≤ l.length) (hsm : l.length ≤ 10000000000) :
    Calls Try.prog 48 #[v, .int .i64 at_] W fun e w' => TakeR l at_ e ∧ w' = W := by
  obtain ⟨a, cap, db, o, rfl, hcap, ha, hin, hlt⟩ := hB
  go_enter Try.func48, Try.ntmps48
  go_wp2_with fail
  go_loop [7, 8, 9] (fun n u i => ∃ k acc p U : Nat, p = at_ + k ∧ p ≤ l.length ∧ k ≤ 8 ∧ i = .int .i64 p ∧ n = .int .i64 acc ∧ u = .int .i64 U ∧ U = 2 ^ (7 * k) ∧ acc < 2 ^ (7 * k) ∧ scan 0 0 (l.drop at_) = scan k acc (l.drop p)) (fun _ _ i => l.length - (intOf i).toNat)
  case atStart => exact ⟨0, 0, at_, 1, rfl, hat, by omega, rfl, rfl, rfl, rfl, by simp, rfl⟩
  case round =>
    obtain ⟨k, acc, p, U, hp, hpl, hk8, rfl, rfl, rfl, hU, hacc, hsc⟩ := hrel
    by_cases hkl : p < l.length
    · obtain rfl := ha (by intro e; simp [e] at hkl)
      have hc := hin p hkl
      rw [drop_cons l p hkl] at hsc
      generalize l[p]?.getD 0 = b at *
      unfold bc at hc
      have b0 := bv_nonneg b
      have b1 := bv_lt b
      have hbv : Hid (bv b = (b.toNat : Int)) := rfl
      have i1 : (p : Int) < l.length := by omega
      obtain ⟨M, hM, hM1, hM2, hM3, hU1⟩ := mul_part b k U hU hk8
      have Hacc : Hid (acc < 2 ^ (7 * k) ∧ U = 2 ^ (7 * k) ∧ M = (b.toNat % 128) * 2 ^ (7 * k) ∧ p = at_ + k) := ⟨hacc, hU, hM, hp⟩
      have haccU : acc < U := by omega
      clear hacc hU hM
      by_cases h128 : 128 ≤ bv b
      · have hb1 : 128 ≤ b.toNat := by have := hbv.out; omega
        by_cases h8 : k = 8
        · rw [scan_end k acc b _ hb1 h8] at hsc
          have Hsc : Hid (scan 0 0 (l.drop at_) = .error 121) := hsc
          clear hsc
          have h8' : (at_ : Int) + 8 = p := by omega
          clear hp
          go_wp2_with fail
          go_ret3
          exact ⟨TakeR.err Hsc.out rfl, rfl⟩
        · rw [scan_go k acc b _ hb1 h8] at hsc
          have Hsc : Hid (scan 0 0 (l.drop at_) = scan (k + 1) (acc + (b.toNat - 128) * 2 ^ (7 * k)) (l.drop (p + 1))) := hsc
          clear hsc
          have h8' : ¬ (p : Int) = at_ + 8 := by omega
          have hU2 : U * 128 ≤ 72057594037927936 := by
            have := Hacc.out.2.1
            have h7 : (2 : Nat) ^ (7 * k) ≤ 2 ^ 49 := Nat.pow_le_pow_right (by omega) (by omega)
            omega
          clear hp
          go_wp2_with fail
          go_round
          case rel =>
            obtain ⟨h1, h2, h3, h4⟩ := Hacc.out
            have hb := b.toNat_lt
            have e1 : b.toNat % 128 = b.toNat - 128 := by omega
            rw [e1] at h3
            refine ⟨k + 1, acc + M, p + 1, U * 128, by omega, by omega, by omega, by go_num, by go_num, by go_num, by rw [pow7, h2], by rw [pow7]; omega, ?_⟩
            rw [h3]; exact Hsc.out
          case measure => simp [intOf]; omega
      · have hb1 : ¬ 128 ≤ b.toNat := by have := hbv.out; omega
        have hk0 : (0 < k ↔ (at_ : Int) < p) := by omega
        have HK0 : Hid (0 < k ↔ (at_ : Int) < p) := hk0
        clear hp hk0
        by_cases hz : b.toNat = 0 ∧ 0 < k
        · rw [scan_zero k acc b _ hz.1 hz.2] at hsc
          have Hsc : Hid (scan 0 0 (l.drop at_) = .error 121) := hsc
          clear hsc
          have z1 : bv b = 0 := by have := hbv.out; omega
          have z2 : (at_ : Int) < p := HK0.out.1 hz.2
          by_cases h8 : (at_ : Int) + 8 = p
          · go_wp2_with fail
            go_ret3
            exact ⟨TakeR.err Hsc.out rfl, rfl⟩
          · have h8' : ¬ (p : Int) = at_ + 8 := by omega
            go_wp2_with fail
            go_ret3
            exact ⟨TakeR.err Hsc.out rfl, rfl⟩
        · rw [scan_ok k acc b _ hb1 hz] at hsc
          have Hsc : Hid (scan 0 0 (l.drop at_) = .ok (acc + b.toNat * 2 ^ (7 * k), k + 1)) := hsc
          clear hsc
          have HM : Hid (M = b.toNat * 2 ^ (7 * k)) := by have := Hacc.out.2.2.1; rw [Nat.mod_eq_of_lt (by omega)] at this; exact this
          by_cases h8 : (at_ : Int) + 8 = p
          · by_cases z2 : (at_ : Int) < p
            · have z1 : ¬ bv b = 0 := by have := hbv.out; have := HK0.out; omega
              go_wp2_with fail
              go_ret3
              exact ⟨TakeR.ok Hsc.out (fin_take HM.out Hacc.out.2.2.2), rfl⟩
            · exact absurd z2 (by omega)
          · have h8' : ¬ (p : Int) = at_ + 8 := by omega
            by_cases z2 : (at_ : Int) < p
            · have z1 : ¬ bv b = 0 := by have := hbv.out; have := HK0.out; omega
              go_wp2_with fail
              go_ret3
              exact ⟨TakeR.ok Hsc.out (fin_take HM.out Hacc.out.2.2.2), rfl⟩
            · go_wp2_with fail
              go_ret3
              exact ⟨TakeR.ok Hsc.out (fin_take HM.out Hacc.out.2.2.2), rfl⟩
    · have hk2 : p = l.length := by omega
      have hd0 : l.drop p = [] := List.drop_eq_nil_of_le (by omega)
      rw [hd0] at hsc
      clear hd0 hk2 hp
      have Hsc : Hid (scan 0 0 (l.drop at_) = .error 120) := hsc
      clear hsc
      have i1 : ¬ (p : Int) < l.length := by omega
      go_wp2_with fail
      go_ret3
      exact ⟨TakeR.err Hsc.out rfl, rfl⟩
end Go.Proofs.Ytgoflpfafkmmgaa
