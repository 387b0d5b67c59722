/- What is left of a reader's bytes: whole. -/
import Derived.Test.YtgoflpfafkmmgaaT1
namespace Go.Proofs.Ytgoflpfafkmmgaa
open Go.RowKit

/-- A number at the head of bytes: what it is and how many bytes it has, or the error. -/
def scan : Nat → Nat → List UInt8 → Except Nat (Nat × Nat)
  | _, _, [] => .error 120
  | i, acc, b :: l => if 128 ≤ b.toNat then (if i = 8 then .error 121 else scan (i + 1) (acc + (b.toNat - 128) * 2 ^ (7 * i)) l)
    else if b.toNat = 0 ∧ 0 < i then .error 121 else .ok (acc + b.toNat * 2 ^ (7 * i), i + 1)
theorem scan_end (i acc : Nat) (b : UInt8) (l : List UInt8) (h : 128 ≤ b.toNat) (hi : i = 8) : scan i acc (b :: l) = .error 121 := by
  show (if _ then _ else _) = _; rw [if_pos h, if_pos hi]
theorem scan_go (i acc : Nat) (b : UInt8) (l : List UInt8) (h : 128 ≤ b.toNat) (hi : ¬ i = 8) : scan i acc (b :: l) = scan (i + 1) (acc + (b.toNat - 128) * 2 ^ (7 * i)) l := by
  show (if _ then _ else _) = _; rw [if_pos h, if_neg hi]
theorem scan_zero (i acc : Nat) (b : UInt8) (l : List UInt8) (h : b.toNat = 0) (hi : 0 < i) : scan i acc (b :: l) = .error 121 := by
  show (if _ then _ else _) = _; rw [if_neg (by omega), if_pos ⟨h, hi⟩]
theorem scan_ok (i acc : Nat) (b : UInt8) (l : List UInt8) (h : ¬ 128 ≤ b.toNat) (hi : ¬ (b.toNat = 0 ∧ 0 < i)) : scan i acc (b :: l) = .ok (acc + b.toNat * 2 ^ (7 * i), i + 1) := by
  show (if _ then _ else _) = _; rw [if_neg h, if_neg hi]
theorem pow7 (k : Nat) : (2 : Nat) ^ (7 * (k + 1)) = 2 ^ (7 * k) * 128 := by rw [Nat.mul_add, Nat.pow_add]
/-- What is found is a number, and there are as many bytes. -/
theorem scan_bound : ∀ (l : List UInt8) (i acc n k : Nat), scan i acc l = .ok (n, k) → i ≤ 8 → acc < 2 ^ (7 * i) → n < 2 ^ (7 * k) ∧ k ≤ 9 ∧ i < k ∧ k ≤ i + l.length
  | [], _, _, _, _, h, _, _ => by cases h
  | b :: l, i, acc, n, k, h, hi, ha => by
    by_cases h1 : 128 ≤ b.toNat
    · by_cases h2 : i = 8
      · rw [scan_end i acc b l h1 h2] at h; cases h
      · rw [scan_go i acc b l h1 h2] at h
        have hb := b.toNat_lt
        have hm : (b.toNat - 128) * 2 ^ (7 * i) ≤ 127 * 2 ^ (7 * i) := Nat.mul_le_mul_right _ (by omega)
        have := scan_bound l (i + 1) _ n k h (by omega) (by rw [pow7]; omega)
        simp; omega
    · by_cases h2 : b.toNat = 0 ∧ 0 < i
      · rw [scan_zero i acc b l h2.1 h2.2] at h; cases h
      · rw [scan_ok i acc b l h1 h2] at h
        simp only [Except.ok.injEq, Prod.mk.injEq] at h
        obtain ⟨rfl, rfl⟩ := h
        have hm : b.toNat * 2 ^ (7 * i) ≤ 127 * 2 ^ (7 * i) := Nat.mul_le_mul_right _ (by omega)
        rw [pow7]; simp; omega
theorem or_shift (acc c k : Nat) (h : acc < 2 ^ (7 * k)) (hc : c < 128) (hk : k ≤ 8) : bits .or .i64 (acc : Int) (wrap64 ((c : Int) * 2 ^ (7 * k))) = ((acc + c * 2 ^ (7 * k) : Nat) : Int) := by
  have hp : (2 : Nat) ^ (7 * k) ≤ 2 ^ 56 := Nat.pow_le_pow_right (by omega) (by omega)
  have hor : acc ||| c * 2 ^ (7 * k) = acc + c * 2 ^ (7 * k) := by
    have := Nat.shiftLeft_add_eq_or_of_lt h c
    rw [Nat.shiftLeft_eq] at this
    rw [Nat.or_comm, ← this, Nat.add_comm]
  generalize hP : (2 : Nat) ^ (7 * k) = P at *
  have hcP : c * P ≤ 127 * P := Nat.mul_le_mul_right _ (by omega)
  have e1 : ((c : Int) * 2 ^ (7 * k)) = ((c * P : Nat) : Int) := by rw [← hP]; simp
  have e2 : wrap64 ((c : Int) * 2 ^ (7 * k)) = ((c * P : Nat) : Int) := by
    rw [e1]; unfold wrap64; omega
  rw [e2]
  generalize c * P = m at *
  have e3 : BitVec.ofInt 64 (acc : Int) = BitVec.ofNat 64 acc := by simp
  have e4 : BitVec.ofInt 64 (m : Int) = BitVec.ofNat 64 m := by simp
  show IntKind.i64.wrap _ = _
  simp only [IntKind.bits]
  rw [e3, e4]
  show IntKind.i64.wrap ((BitVec.ofNat 64 acc ||| BitVec.ofNat 64 m).toNat : Int) = _
  rw [BitVec.toNat_or, BitVec.toNat_ofNat, BitVec.toNat_ofNat, Nat.mod_eq_of_lt (by omega), Nat.mod_eq_of_lt (by omega), hor, IntKind.wrap_i64]
  omega
theorem drop_cons (l : List UInt8) (k : Nat) (h : k < l.length) : l.drop k = (l[k]?.getD 0) :: l.drop (k + 1) := by
  rw [List.drop_eq_getElem_cons h]; simp [h]
theorem bv_sub (b : UInt8) (h : 128 ≤ bv b) : bv b - 128 = ((b.toNat - 128 : Nat) : Int) := by unfold bv at *; omega
/-- The next round's numbers. -/
theorem or_more (acc k : Nat) (b : UInt8) (ha : acc < 2 ^ (7 * k)) (hk : k ≤ 8) (h : 128 ≤ bv b) : bits .or .i64 (acc : Int) (wrap64 ((bv b - 128) * 2 ^ (7 * k))) = ((acc + (b.toNat - 128) * 2 ^ (7 * k) : Nat) : Int) ∧ acc + (b.toNat - 128) * 2 ^ (7 * k) < 2 ^ (7 * (k + 1)) := by
  have hb := b.toNat_lt
  refine ⟨by rw [bv_sub b h]; exact or_shift acc _ k ha (by omega) hk, ?_⟩
  have hm : (b.toNat - 128) * 2 ^ (7 * k) ≤ 127 * 2 ^ (7 * k) := Nat.mul_le_mul_right _ (by omega)
  rw [pow7]; omega
theorem or_last (acc k : Nat) (b : UInt8) (ha : acc < 2 ^ (7 * k)) (hk : k ≤ 8) (h : ¬ 128 ≤ bv b) : bits .or .i64 (acc : Int) (wrap64 (bv b * 2 ^ (7 * k))) = ((acc + b.toNat * 2 ^ (7 * k) : Nat) : Int) := by
  unfold bv at *; exact or_shift acc _ k ha (by omega) hk
/-- What is left behind the first k bytes. -/
theorem BytesAp.drop {S : Nat → Prop} {w : World} {a : Option Addr} {n cap : Nat} {l : List UInt8} (h : BytesAp S w (.slice a n cap) l) (k : Nat) (hk : k ≤ l.length) :
    BytesAp S w (.slice (if cap = k then a else a.map (·.add (k * 1))) (n - k) (cap - k)) (l.drop k) := by
  obtain ⟨a1, c1, db, o, he, hcap, ha, hin, hlt, hs⟩ := h
  simp only [Value.slice.injEq] at he
  obtain ⟨rfl, rfl, rfl⟩ := he
  by_cases hc : cap = k
  · subst hc
    have hd : l.drop cap = [] := List.drop_eq_nil_of_le hcap
    rw [if_pos rfl, hd]
    exact ⟨a, cap - cap, db, o, by simp; omega, by simp, fun h => absurd rfl h, fun j hj => absurd hj (by simp), hlt, hs⟩
  · rw [if_neg hc]
    refine ⟨_, _, db, o + k, by rw [List.length_drop], by simp; omega, fun hne => ?_, fun j hj => ?_, hlt, hs⟩
    · rw [ha (by intro e; rw [e] at hne; simp at hne)]
      simp [Addr.add_mid]
    · rw [List.length_drop] at hj
      rw [Nat.add_assoc, hin (k + j) (by omega), List.getElem?_drop]
theorem BytesAp.take {S : Nat → Prop} {w : World} {a : Option Addr} {n cap : Nat} {l : List UInt8} (h : BytesAp S w (.slice a n cap) l) (k : Nat) (hk : k ≤ l.length) :
    BytesAp S w (.slice (if cap = 0 then a else a.map (·.add (0 * 1))) (k - 0) (cap - 0)) (l.take k) := by
  obtain ⟨a1, c1, db, o, he, hcap, ha, hin, hlt, hs⟩ := h
  simp only [Value.slice.injEq] at he
  obtain ⟨rfl, rfl, rfl⟩ := he
  refine ⟨(if cap = 0 then a else a.map (·.add (0 * 1))), cap - 0, db, o, by simp [hk], by simp; omega, fun hne => ?_, fun j hj => ?_, hlt, hs⟩
  · have hl : l ≠ [] := by intro e; rw [e] at hne; simp at hne
    rw [ha hl]
    simp [Addr.add_mid]
  · simp at hj
    rw [hin j (by omega), List.getElem?_take_of_lt (by omega)]

/-- What 'whole' answers. -/
def Whole (R : Nat → Prop) (lp : Nat) (W : World) (l : List UInt8) (e : Ending) (w' : World) : Prop := match scan 0 0 l with
  | .error ec => e = .returned (.tuple #[.int .i64 0, .int .i64 ec]) ∧ w' = W
  | .ok (n, k) => Found R lp W (l.drop k) (.int .i64 n) e w'
theorem Whole.err {R : Nat → Prop} {lp : Nat} {W w' : World} {l : List UInt8} {e : Ending} {ec : Nat} (h : scan 0 0 l = .error ec) (k : e = .returned (.tuple #[.int .i64 0, .int .i64 ec]) ∧ w' = W) : Whole R lp W l e w' := by unfold Whole; rw [h]; exact k
theorem Whole.ok {R : Nat → Prop} {lp : Nat} {W w' : World} {l : List UInt8} {e : Ending} {n k : Nat} (h : scan 0 0 l = .ok (n, k)) (hf : Found R lp W (l.drop k) (.int .i64 n) e w') : Whole R lp W l e w' := by unfold Whole; rw [h]; exact hf
theorem slice_left (a : Option Addr) (n cap k : Nat) (hk : k ≤ n) (w : World) :
    (Instr.slice 80 (.slice a n cap) (some (.int .i64 (k : Int))) none none).run Try.prog w = .ok (.slice (if cap = k then a else a.map (·.add (k * 1))) (n - k) (cap - k)) w := by
  have he : Try.prog.elem 80 = 5 := by kernel_rfl
  have hu : Try.prog.underlying 80 = some (.slice (Try.prog.elem 80)) := by rw [he]; exact Try.underlying80
  obtain ⟨i0, hi, _, hz1, _⟩ := info_parts' info5
  rw [run_slice_l w 80 a n cap hu .i64 k (by omega) (by omega), he]
  simp [sizeOf, typeInfo, hi, hz1, sliced]
theorem slice_head (a : Option Addr) (n cap k : Nat) (hk : k ≤ cap) (w : World) :
    (Instr.slice 80 (.slice a n cap) none (some (.int .i64 (k : Int))) none).run Try.prog w = .ok (.slice (if cap = 0 then a else a.map (·.add (0 * 1))) (k - 0) (cap - 0)) w := by
  have he : Try.prog.elem 80 = 5 := by kernel_rfl
  have hu : Try.prog.underlying 80 = some (.slice (Try.prog.elem 80)) := by rw [he]; exact Try.underlying80
  obtain ⟨i0, hi, _, hz1, _⟩ := info_parts' info5
  rw [run_slice_h w 80 a n cap hu .i64 k (by omega) (by omega), he]
  simp [sizeOf, typeInfo, hi, hz1, sliced]

set_option maxRecDepth 10000 in
set_option maxHeartbeats 1000000 in
theorem whole_any (R : Nat → Prop) (lp : Nat) (lv : Value) (l : List UInt8) (W : World) (hH : Has W lp #[lv] 80) (hB : BytesAp (fun k => R k ∨ k = lp) W lv l) (hsm : l.length ≤ 10000000000) :
    Calls Try.prog 65 #[.pointer (some ⟨lp, 0, none⟩)] W fun e w' => Whole R lp W l e w' := by
  have c0 := hH.one
  have f0 := hH.free 0
  obtain ⟨a, cap, db, o, rfl, hcap, ha, hin, hlt, _⟩ := id hB
  have HB : Hid (BytesAp (fun k => R k ∨ k = lp) W (.slice a l.length cap) l) := hB
  clear hB
  go_enter Try.func65, Try.ntmps65
  go_wp2_with fail
  go_loop [4, 11] (fun n i => ∃ k acc : Nat, k ≤ l.length ∧ k ≤ 8 ∧ i = .int .i64 k ∧ n = .int .i64 acc ∧ acc < 2 ^ (7 * k) ∧ scan 0 0 l = scan k acc (l.drop k)) (fun _ i => l.length - (intOf i).toNat)
  case atStart => exact ⟨0, 0, by omega, by omega, rfl, rfl, by simp, rfl⟩
  case round =>
    obtain ⟨k, acc, hk, hk8, rfl, rfl, hacc, hsc⟩ := hrel
    by_cases hkl : k < l.length
    · obtain rfl := ha (by intro e; simp [e] at hkl)
      have hc := hin k hkl
      rw [drop_cons l k hkl] at hsc
      generalize l[k]?.getD 0 = b at *
      unfold bc at hc
      have b0 := bv_nonneg b
      have b1 := bv_lt b
      have hbv : Hid (bv b = (b.toNat : Int)) := rfl
      have i1 : (k : Int) < l.length := by omega
      have Hacc : Hid (acc < 2 ^ (7 * k)) := hacc
      clear hacc
      by_cases h128 : 128 ≤ bv b
      · have hb1 : 128 ≤ b.toNat := by have := hbv.out; omega
        by_cases h8 : k = 8
        · rw [scan_end k acc b _ hb1 h8] at hsc
          have Hsc : Hid (scan 0 0 l = .error 121) := hsc
          clear hsc
          subst h8
          go_wp2_with fail
          go_ret2
          exact Whole.err Hsc.out ⟨rfl, rfl⟩
        · rw [scan_go k acc b _ hb1 h8] at hsc
          have Hsc : Hid (scan 0 0 l = scan (k + 1) (acc + (b.toNat - 128) * 2 ^ (7 * k)) (l.drop (k + 1))) := hsc
          clear hsc
          have h8' : ¬ (k : Int) = 8 := by omega
          obtain ⟨ho, ho2⟩ := or_more acc k b Hacc.out hk8 h128
          have Ho2 : Hid (acc + (b.toNat - 128) * 2 ^ (7 * k) < 2 ^ (7 * (k + 1))) := ho2
          clear ho2
          generalize acc + (b.toNat - 128) * 2 ^ (7 * k) = acc2 at *
          go_wp2_with fail
          go_round
          case rel => exact ⟨k + 1, acc2, by omega, by omega, by go_num, rfl, Ho2.out, Hsc.out⟩
          case measure => simp [intOf]; omega
      · have hb1 : ¬ 128 ≤ b.toNat := by have := hbv.out; omega
        by_cases hz : b.toNat = 0 ∧ 0 < k
        · rw [scan_zero k acc b _ hz.1 hz.2] at hsc
          have Hsc : Hid (scan 0 0 l = .error 121) := hsc
          clear hsc
          have z1 : bv b = 0 := by have := hbv.out; omega
          have z2 : (0 : Int) < k := by omega
          go_wp2_with fail
          go_ret2
          exact Whole.err Hsc.out ⟨rfl, rfl⟩
        · rw [scan_ok k acc b _ hb1 hz] at hsc
          have Hsc : Hid (scan 0 0 l = .ok (acc + b.toNat * 2 ^ (7 * k), k + 1)) := hsc
          clear hsc
          have ho := or_last acc k b Hacc.out hk8 h128
          have Hd := HB.out.drop (k + 1) (by omega)
          generalize acc + b.toNat * 2 ^ (7 * k) = acc2 at *
          have hsl := slice_left (some ⟨db, o, none⟩) l.length cap (k + 1) (by omega)
          have ek : ((k + 1 : Nat) : Int) = (k : Int) + 1 := by omega
          rw [ek] at hsl
          generalize (if cap = k + 1 then some (⟨db, o, none⟩ : Addr) else (some ⟨db, o, none⟩ : Option Addr).map (·.add ((k + 1) * 1))) = va at *
          generalize l.length - (k + 1) = vn at *
          generalize cap - (k + 1) = vc at *
          have Hfin : Hid (Found R lp W (l.drop (k + 1)) (.int .i64 acc2) (.returned (.tuple #[.int .i64 acc2, .int .i64 0])) (W.setCell ⟨lp, 0, none⟩ (.slice va vn vc))) := by
            have hs := hH.set 0 (.slice va vn vc)
            simp at hs
            exact ⟨rfl, Ex.set _ _ _ _, _, hs, Hd.fr (Fr.of_ex (Ex.set lp W 0 _)) (fun i _ e => .inr e)⟩
          clear Hd ek
          by_cases hz0 : bv b = 0
          · have z2 : ¬ (0 : Int) < k := by have := hbv.out; omega
            have ho' : bits .or .i64 (acc : Int) 0 = (acc2 : Int) := by rw [← ho, hz0]; simp [wrap64]
            clear ho
            go_wp2_with fail
            go_ret2
            exact Whole.ok Hsc.out Hfin.out
          · go_wp2_with fail
            go_ret2
            exact Whole.ok Hsc.out Hfin.out
    · have hk2 : k = l.length := by omega
      rw [List.drop_eq_nil_of_le (by omega)] at hsc
      have Hsc : Hid (scan 0 0 l = .error 120) := hsc
      clear hsc
      have i1 : ¬ (k : Int) < l.length := by omega
      go_wp2_with fail
      go_ret2
      exact Whole.err Hsc.out ⟨rfl, rfl⟩
end Go.Proofs.Ytgoflpfafkmmgaa
