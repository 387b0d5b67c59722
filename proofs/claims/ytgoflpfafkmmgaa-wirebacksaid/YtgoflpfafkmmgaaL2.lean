/- What is left of a reader's bytes: number, signed, raw. -/
import Derived.Test.YtgoflpfafkmmgaaL1
namespace Go.Proofs.Ytgoflpfafkmmgaa
open Go.RowKit

theorem scan_err : ∀ (l : List UInt8) (i acc ec : Nat), scan i acc l = .error ec → ec = 120 ∨ ec = 121
  | [], _, _, _, h => by cases h; exact .inl rfl
  | b :: l, i, acc, ec, h => by
    by_cases h1 : 128 ≤ b.toNat
    · by_cases h2 : i = 8
      · rw [scan_end i acc b l h1 h2] at h; cases h; exact .inr rfl
      · rw [scan_go i acc b l h1 h2] at h; exact scan_err l _ _ ec h
    · by_cases h2 : b.toNat = 0 ∧ 0 < i
      · rw [scan_zero i acc b l h2.1 h2.2] at h; cases h; exact .inr rfl
      · rw [scan_ok i acc b l h1 h2] at h; cases h
theorem scan_lt {l : List UInt8} {n k : Nat} (h : scan 0 0 l = .ok (n, k)) : n < 9223372036854775808 ∧ 0 < k ∧ k ≤ l.length ∧ k ≤ 9 := by
  have := scan_bound l 0 0 n k h (by omega) (by simp)
  have hp : (2 : Nat) ^ (7 * k) ≤ 2 ^ 63 := Nat.pow_le_pow_right (by omega) (by omega)
  omega
/-- What a kind of call answers: an error, or what is found and the bytes behind. -/
def Ans (R : Nat → Prop) (lp : Nat) (W : World) (x : Except Nat (Value × List UInt8)) (e : Ending) (w' : World) : Prop := match x with
  | .error ec => Failed lp W ec e w'
  | .ok (v, rest) => Found R lp W rest v e w'
/-- .. of bytes that are laid anew. -/
def AnsB (R : Nat → Prop) (lp : Nat) (W : World) (x : Except Nat (List UInt8 × List UInt8)) (e : Ending) (w' : World) : Prop := match x with
  | .error ec => e = .returned (.tuple #[.slice none 0 0, .int .i64 ec]) ∧ Ex lp W w'
  | .ok (d, rest) => ∃ v, Found R lp W rest v e w' ∧ Own w' v d ∧ ∀ k, v.ownBlock = some k → W.heap.size ≤ k
def lnum (most : Int) (l : List UInt8) : Except Nat (Nat × List UInt8) := match scan 0 0 l with
  | .error ec => .error ec
  | .ok (n, k) => if most < n then .error 3 else .ok (n, l.drop k)
def unf (n : Nat) : Int := if n % 2 = 1 then -1 - (n / 2 : Nat) else (n / 2 : Nat)
def lsig (l : List UInt8) : Except Nat (Int × List UInt8) := match scan 0 0 l with
  | .error ec => .error ec
  | .ok (n, k) => .ok (unf n, l.drop k)
def lraw (n : Nat) (l : List UInt8) : Except Nat (List UInt8 × List UInt8) := if l.length < n then .error 120 else .ok (l.take n, l.drop n)
def lbyt (most : Int) (l : List UInt8) : Except Nat (List UInt8 × List UInt8) := match lnum most l with
  | .error ec => .error ec
  | .ok (n, rest) => lraw n rest
def ltru (l : List UInt8) : Except Nat (Bool × List UInt8) := match l with
  | [] => .error 120
  | b :: l => if 1 < b.toNat then .error 121 else .ok (b.toNat == 1, l)
def vI (x : Except Nat (Int × List UInt8)) : Except Nat (Value × List UInt8) := x.map fun p => (.int .i64 p.1, p.2)
def vN (x : Except Nat (Nat × List UInt8)) : Except Nat (Value × List UInt8) := x.map fun p => (.int .i64 (p.1 : Int), p.2)
def vS (x : Except Nat (List UInt8 × List UInt8)) : Except Nat (Value × List UInt8) := x.map fun p => (.string ⟨p.1.toArray⟩, p.2)
def vT (x : Except Nat (Bool × List UInt8)) : Except Nat (Value × List UInt8) := x.map fun p => (.bool p.1, p.2)

/-- Whatever is in it, a slice of bytes is a slice value. -/
theorem BytesAp.slice {S : Nat → Prop} {w : World} {v : Value} {l : List UInt8} (h : BytesAp S w v l) : ∃ a c, v = .slice a l.length c := by
  obtain ⟨a, c, _, _, h, _⟩ := h; exact ⟨a, c, h⟩

set_option maxHeartbeats 1000000 in
theorem lnumber_any (R : Nat → Prop) (lp : Nat) (lv : Value) (l : List UInt8) (most : Int) (W : World) (hH : Has W lp #[lv] 80) (hB : BytesAp (fun k => R k ∨ k = lp) W lv l) (hsm : l.length ≤ 10000000000) :
    Calls Try.prog 46 #[.pointer (some ⟨lp, 0, none⟩), .int .i64 most] W fun e w' => Ans R lp W (vN (lnum most l)) e w' := by
  have hw := whole_any R lp lv l W hH hB hsm
  unfold Whole at hw
  unfold lnum
  cases hs : scan 0 0 l with
  | error ec =>
    simp only [hs] at hw
    have he := scan_err l 0 0 ec hs
    have he' : ¬ (ec : Int) = 0 := by omega
    have Hf : Hid (Failed lp W ec (.returned (.tuple #[.int .i64 0, .int .i64 ec])) W) := ⟨⟨_, rfl⟩, Ex.refl _ _⟩
    show Calls _ _ _ _ fun e w' => Failed lp W ec e w'
    clear he hs
    go_enter Try.func46, Try.ntmps46
    go_wp2_with fail
    refine hw.mono ?_
    rintro e w' ⟨rfl, hw'⟩
    obtain rfl := hw'.symm
    go_wp2_with fail
    go_ret2
    exact Hf.out
  | ok p =>
    obtain ⟨n, k⟩ := p
    simp only [hs] at hw
    have hb := scan_lt hs
    by_cases hm : most < n
    · simp only [if_pos hm]
      show Calls _ _ _ _ fun e w' => Failed lp W 3 e w'
      clear hs
      go_enter Try.func46, Try.ntmps46
      go_wp2_with fail
      refine hw.mono ?_
      rintro e w' ⟨rfl, hE, _⟩
      have Hf : Hid (Failed lp W 3 (.returned (.tuple #[.int .i64 0, .int .i64 3])) w') := ⟨⟨_, rfl⟩, hE⟩
      go_wp2_with fail
      go_ret2
      exact Hf.out
    · simp only [if_neg hm]
      show Calls _ _ _ _ fun e w' => Found R lp W (l.drop k) (.int .i64 n) e w'
      clear hs
      go_enter Try.func46, Try.ntmps46
      go_wp2_with fail
      refine hw.mono ?_
      rintro e w' hf
      obtain ⟨rfl, _⟩ := id hf
      have Hf : Hid (Found R lp W (l.drop k) (.int .i64 n) (.returned (.tuple #[.int .i64 n, .int .i64 0])) w') := hf
      clear hf
      go_wp2_with fail
      go_ret2
      exact Hf.out
set_option maxHeartbeats 400000 in
theorem unfolded_any (n : Nat) (hn : n < 9223372036854775808) (w : World) :
    Calls Try.prog 66 #[.int .i64 n] w fun e w' => e = .returned (.int .i64 (unf n)) ∧ w' = w := by
  by_cases h : n % 2 = 1
  · have e1 : (n : Int) % 2 = 1 := by omega
    have e2 : -1 - (n : Int) / 2 = unf n := by unfold unf; rw [if_pos h]; omega
    go_enter Try.func66, Try.ntmps66
    go_wp2_with fail
    go_ret
    exact ⟨by rw [← e2]; rfl, rfl⟩
  · have e1 : ¬ (n : Int) % 2 = 1 := by omega
    have e2 : (n : Int) / 2 = unf n := by unfold unf; rw [if_neg h]; omega
    go_enter Try.func66, Try.ntmps66
    go_wp2_with fail
    go_ret
    exact ⟨by rw [← e2]; rfl, rfl⟩
set_option maxHeartbeats 1000000 in
theorem lsigned_any (R : Nat → Prop) (lp : Nat) (lv : Value) (l : List UInt8) (W : World) (hH : Has W lp #[lv] 80) (hB : BytesAp (fun k => R k ∨ k = lp) W lv l) (hsm : l.length ≤ 10000000000) :
    Calls Try.prog 49 #[.pointer (some ⟨lp, 0, none⟩)] W fun e w' => Ans R lp W (vI (lsig l)) e w' := by
  have hw := whole_any R lp lv l W hH hB hsm
  unfold Whole at hw
  unfold lsig
  cases hs : scan 0 0 l with
  | error ec =>
    simp only [hs] at hw
    have Hf : Hid (Failed lp W ec (.returned (.tuple #[.int .i64 (unf 0), .int .i64 ec])) W) := ⟨⟨_, rfl⟩, Ex.refl _ _⟩
    have hu := unfolded_any 0 (by omega) W
    show Calls _ _ _ _ fun e w' => Failed lp W ec e w'
    clear hs
    go_enter Try.func49, Try.ntmps49
    go_wp2_with fail
    refine hw.mono ?_
    rintro e w' ⟨rfl, hw'⟩
    obtain rfl := hw'.symm
    go_wp2_with fail
    refine hu.mono ?_
    rintro e w' ⟨rfl, hw'⟩
    obtain rfl := hw'.symm
    go_wp2_with fail
    go_ret2
    exact Hf.out
  | ok p =>
    obtain ⟨n, k⟩ := p
    simp only [hs] at hw
    have hb := scan_lt hs
    have hu := unfolded_any n hb.1
    show Calls _ _ _ _ fun e w' => Found R lp W (l.drop k) (.int .i64 (unf n)) e w'
    clear hs
    generalize unf n = z at *
    go_enter Try.func49, Try.ntmps49
    go_wp2_with fail
    refine hw.mono ?_
    rintro e w' ⟨rfl, hr⟩
    have Hf : Hid (Found R lp W (l.drop k) (.int .i64 z) (.returned (.tuple #[.int .i64 z, .int .i64 0])) w') := ⟨rfl, hr⟩
    clear hr
    go_wp2_with fail
    refine (hu w').mono ?_
    rintro e w1 ⟨rfl, hw'⟩
    obtain rfl := hw'.symm
    go_wp2_with fail
    go_ret2
    exact Hf.out
end Go.Proofs.Ytgoflpfafkmmgaa
