/- The document's roots. -/
import Derived.Test.YtcmkjgodgocdfaaDoorE1
namespace Go.Proofs.YtcmkjgodgocdfaaDoor
open Go.RowKit

abbrev B64 : Nat := 18446744073709551616
def squareB (n p : Nat) : Bool := decide (n * n / 18446744073709551616 < p) || (decide (n * n / 18446744073709551616 = p) && decide (n * n % 18446744073709551616 = 0))
def cubeB (n p : Nat) : Bool :=
  let hi := n * n / 18446744073709551616
  let lo := n * n % 18446744073709551616
  let a := (lo * n / 18446744073709551616 + hi * n % 18446744073709551616) % 18446744073709551616
  let q := p * 4294967296 % 18446744073709551616
  decide (a < q) || (decide (a = q) && decide (lo * n % 18446744073709551616 = 0))
theorem wpList_lss_run {P : Program} {ops : Array Oper} {rest : List Oper} {o : Oper} {a : Act} {w : World} {Q : Exit → Act → World → Prop} (hw : Region.wanted o (yielded ops a.tmps) = true)
    (ty ty2 : TypeId) (x y : Operand) (ho : o.op = .binOp .lss ty x y ty2) (k : IntKind) (m n : Int) (hx : a.eval x = .int k m) (hy : a.eval y = .int k n) (r : Bool) (hr : decide (m < n) = r) (h : wpList P ops Q rest (a.put o.dst (.bool r)) w) : wpList P ops Q (o :: rest) a w := by
  refine wpList_run hw ?_ h
  unfold execOp
  subst hr
  simp only [ho, hx, hy]
  simp [go_sem]
theorem nv_inj {a b : Nat} : nv a = nv b ↔ a = b := by unfold nv; omega

set_option maxRecDepth 10000 in
set_option maxHeartbeats 400000 in
theorem square_any (n p : Nat) (hn : Hid (n < 18446744073709551616)) (w : World) :
    Calls Tryd.prog 65 #[.int .u64 (nv n), .int .u64 (nv p)] w fun e w' => e = .returned (.bool (squareB n p)) ∧ w' = w := by
  have hs : Hid (squareB n p = (decide (n * n / 18446744073709551616 < p) || (decide (n * n / 18446744073709551616 = p) && decide (n * n % 18446744073709551616 = 0)))) := rfl
  generalize squareB n p = r at *
  have hm := mul64_any n n hn.out hn.out w
  generalize n * n / 18446744073709551616 = hi at *
  generalize n * n % 18446744073709551616 = lo at *
  by_cases h1 : hi < p
  · have i1 : nv hi < nv p := by unfold nv; omega
    obtain rfl : r = true := by rw [hs.out]; simp [h1]
    go_enter Tryd.func65, Tryd.ntmps65
    go_wp2_with (go_at_call 71; refine hm.mono ?_; rintro e w' ⟨rfl, hw⟩; obtain rfl := hw.symm)
    go_ret
    exact ⟨rfl, rfl⟩
  · have i1 : ¬ nv hi < nv p := by unfold nv; omega
    by_cases h2 : hi = p
    · have i2 : nv hi = nv p := by rw [h2]
      by_cases h3 : lo = 0
      · have i3 : nv lo = 0 := by rw [h3]; rfl
        obtain rfl : r = true := by rw [hs.out]; simp [h2, h3]
        clear h2 h3
        go_enter Tryd.func65, Tryd.ntmps65
        go_wp2_with (go_at_call 71; refine hm.mono ?_; rintro e w' ⟨rfl, hw⟩; obtain rfl := hw.symm)
        go_ret
        exact ⟨rfl, rfl⟩
      · have i3 : (nv lo == 0) = false := by rw [beq_eq_false_iff_ne]; unfold nv; omega
        obtain rfl : r = false := by rw [hs.out]; simp [h2, h3]
        clear h2 h3
        go_enter Tryd.func65, Tryd.ntmps65
        go_wp2_with (go_at_call 71; refine hm.mono ?_; rintro e w' ⟨rfl, hw⟩; obtain rfl := hw.symm)
        go_ret
        exact ⟨rfl, rfl⟩
    · have H1 : Hid (decide (nv hi < nv p) = false) := decide_eq_false i1
      have i2 : (nv hi == nv p) = false := by rw [beq_eq_false_iff_ne]; intro h; exact h2 (nv_inj.1 h)
      obtain rfl : r = false := by rw [hs.out]; simp [h1, h2]
      clear h2
      go_enter Tryd.func65, Tryd.ntmps65
      go_wp2_with (go_at_call 71; refine hm.mono ?_; rintro e w' ⟨rfl, hw⟩; obtain rfl := hw.symm)
      go_ret
      exact ⟨by show Ending.returned (.bool (decide (nv hi < nv p))) = _; rw [H1.out], rfl⟩

set_option maxRecDepth 10000 in
set_option maxHeartbeats 400000 in
theorem cube_any (n p : Nat) (hn : Hid (n < 18446744073709551616)) (w : World) :
    Calls Tryd.prog 64 #[.int .u64 (nv n), .int .u64 (nv p)] w fun e w' => e = .returned (.bool (cubeB n p)) ∧ w' = w := by
  have hs : Hid (cubeB n p = (decide ((n * n % 18446744073709551616 * n / 18446744073709551616 + n * n / 18446744073709551616 * n % 18446744073709551616) % 18446744073709551616 < p * 4294967296 % 18446744073709551616) ||
     (decide ((n * n % 18446744073709551616 * n / 18446744073709551616 + n * n / 18446744073709551616 * n % 18446744073709551616) % 18446744073709551616 = p * 4294967296 % 18446744073709551616) && decide (n * n % 18446744073709551616 * n % 18446744073709551616 = 0)))) := rfl
  generalize cubeB n p = r at *
  have hm := mul64_any n n hn.out hn.out w
  have hm2 := mul64_any (n * n % 18446744073709551616) n (Nat.mod_lt _ (by decide)) hn.out w
  have f1 : IntKind.u64.wrap (nv (n * n / 18446744073709551616) * nv n) = nv (n * n / 18446744073709551616 * n % 18446744073709551616) := by
    rw [nv_mul, IntKind.wrap_u64]; unfold nv; omega
  generalize n * n / 18446744073709551616 * n % 18446744073709551616 = hn2 at *
  generalize n * n / 18446744073709551616 = hi at *
  generalize n * n % 18446744073709551616 = lo at *
  have f2 : IntKind.u64.wrap (nv (lo * n / 18446744073709551616) + nv hn2) = nv ((lo * n / 18446744073709551616 + hn2) % 18446744073709551616) := by
    rw [nv_add, IntKind.wrap_u64]; unfold nv; omega
  generalize (lo * n / 18446744073709551616 + hn2) % 18446744073709551616 = A at *
  generalize lo * n / 18446744073709551616 = A0 at *
  generalize lo * n % 18446744073709551616 = B at *
  have f3 : IntKind.u64.wrap (nv p * 4294967296) = nv (p * 4294967296 % 18446744073709551616) := by
    rw [IntKind.wrap_u64]; unfold nv; omega
  generalize p * 4294967296 % 18446744073709551616 = P at *
  by_cases h1 : A < P
  · have i1 : nv A < nv P := by unfold nv; omega
    obtain rfl : r = true := by rw [hs.out]; simp [h1]
    go_enter Tryd.func64, Tryd.ntmps64
    go_wp2_with fail
    refine hm.mono ?_
    rintro e w' ⟨rfl, hw⟩
    obtain rfl := hw.symm
    go_wp2_with fail
    refine hm2.mono ?_
    rintro e w' ⟨rfl, hw⟩
    obtain rfl := hw.symm
    go_wp2_with fail
    go_ret
    exact ⟨rfl, rfl⟩
  · have i1 : ¬ nv A < nv P := by unfold nv; omega
    by_cases h2 : A = P
    · have i2 : nv A = nv P := by rw [h2]
      by_cases h3 : B = 0
      · have i3 : nv B = 0 := by rw [h3]; rfl
        obtain rfl : r = true := by rw [hs.out]; simp [h2, h3]
        clear h2 h3
        go_enter Tryd.func64, Tryd.ntmps64
        go_wp2_with fail
        refine hm.mono ?_
        rintro e w' ⟨rfl, hw⟩
        obtain rfl := hw.symm
        go_wp2_with fail
        refine hm2.mono ?_
        rintro e w' ⟨rfl, hw⟩
        obtain rfl := hw.symm
        go_wp2_with fail
        go_ret
        exact ⟨rfl, rfl⟩
      · have i3 : (nv B == 0) = false := by rw [beq_eq_false_iff_ne]; unfold nv; omega
        obtain rfl : r = false := by rw [hs.out]; simp [h2, h3]
        clear h2 h3
        go_enter Tryd.func64, Tryd.ntmps64
        go_wp2_with fail
        refine hm.mono ?_
        rintro e w' ⟨rfl, hw⟩
        obtain rfl := hw.symm
        go_wp2_with fail
        refine hm2.mono ?_
        rintro e w' ⟨rfl, hw⟩
        obtain rfl := hw.symm
        go_wp2_with fail
        go_ret
        exact ⟨rfl, rfl⟩
    · have H1 : decide (nv A < nv P) = false := decide_eq_false i1
      have i2 : (nv A == nv P) = false := by rw [beq_eq_false_iff_ne]; intro h; exact h2 (nv_inj.1 h)
      obtain rfl : r = false := by rw [hs.out]; simp [h1, h2]
      clear h2
      go_enter Tryd.func64, Tryd.ntmps64
      go_wp2_with fail
      refine hm.mono ?_
      rintro e w' ⟨rfl, hw⟩
      obtain rfl := hw.symm
      go_wp2_with fail
      refine hm2.mono ?_
      rintro e w' ⟨rfl, hw⟩
      obtain rfl := hw.symm
      go_wp2_with fail
      go_ret
      refine ⟨?_, rfl⟩
      first
        | rfl
        | (simp; omega)

/-- The root's bits that stand, from bit 36 down: those above bit i. -/
def rootS (p : Nat) (cube : Bool) (n i : Nat) : Nat :=
  if (cube && decide (n + 2 ^ i < 68719476736) && cubeB (n + 2 ^ i) p) || (!cube && squareB (n + 2 ^ i) p) then n + 2 ^ i else n
def rootN (p : Nat) (cube : Bool) : Nat → Nat
  | 0 => 0
  | k + 1 => rootS p cube (rootN p cube k) (36 - k)
theorem rootN_lt (p : Nat) (cube : Bool) : ∀ k, k ≤ 37 → rootN p cube k < 2 ^ 37 ∧ ∃ m, rootN p cube k = m * 2 ^ (37 - k)
  | 0, _ => ⟨Nat.pos_of_ne_zero (by simp), 0, by simp [rootN]⟩
  | k + 1, h => by
    obtain ⟨h1, m, hm⟩ := rootN_lt p cube k (by omega)
    have e : 2 ^ (37 - k) = 2 * 2 ^ (36 - k) := by rw [show 37 - k = (36 - k) + 1 by omega, Nat.pow_succ, Nat.mul_comm]
    have e2 : 37 - (k + 1) = 36 - k := by omega
    have e3 : (2 : Nat) ^ 37 = 2 ^ k * (2 * 2 ^ (36 - k)) := by rw [← e, ← Nat.pow_add]; congr 1; omega
    show rootS p cube (rootN p cube k) (36 - k) < _ ∧ ∃ m, rootS p cube (rootN p cube k) (36 - k) = m * _
    rw [e2]
    unfold rootS
    split
    · refine ⟨?_, 2 * m + 1, ?_⟩
      · rw [hm, e] at h1 ⊢
        rw [e3] at h1 ⊢
        have hpos : 0 < 2 ^ (36 - k) := Nat.pos_of_ne_zero (by simp)
        have h2 : m * (2 * 2 ^ (36 - k)) < 2 ^ k * (2 * 2 ^ (36 - k)) := h1
        have h3 : m < 2 ^ k := Nat.lt_of_mul_lt_mul_right h2
        have h4 : (m + 1) * (2 * 2 ^ (36 - k)) ≤ 2 ^ k * (2 * 2 ^ (36 - k)) := Nat.mul_le_mul_right _ h3
        rw [Nat.add_mul] at h4
        omega
      · rw [hm, e, Nat.add_mul, Nat.mul_assoc, Nat.mul_left_comm]; omega
    · exact ⟨h1, 2 * m, by rw [hm, e, Nat.mul_assoc, Nat.mul_left_comm]⟩
def rootW (p : Nat) (cube : Bool) : Wd := BitVec.ofNat 32 (rootN p cube 37)

set_option maxRecDepth 100000 in
set_option maxHeartbeats 400000 in
theorem root_any (p : Nat) (cube : Bool) (w : World) :
    Calls Tryd.prog 55 #[.int .u64 (nv p), .bool cube] w fun e w' => e = .returned (.int .u32 (wv (rootW p cube))) ∧ w' = w := by
  go_enter Tryd.func55, Tryd.ntmps55
  go_wp2_with fail
  go_loop [5, 6] (fun t i => ∃ k : Nat, k ≤ 37 ∧ i = .int .i64 (36 - k) ∧ t = .int .u64 (nv (rootN p cube k))) (fun _ i => ((intOf i) + 1).toNat)
  case atStart => exact ⟨0, by omega, rfl, rfl⟩
  case round =>
    obtain ⟨k, hk, rfl, rfl⟩ := hrel
    by_cases hk37 : k < 37
    · have hb := (rootN_lt p cube k (by omega)).1
      obtain ⟨j, hj⟩ : ∃ j, j = 36 - k := ⟨_, rfl⟩
      have ej : 36 - (k : Int) = (j : Int) := by omega
      have Hs : Hid (rootN p cube (k + 1) = rootS p cube (rootN p cube k) j) := by subst hj; rfl
      rw [ej]
      have i0 : (0 : Int) ≤ (j : Int) := by omega
      have i36 : (j : Int) ≤ 36 := by omega
      generalize rootN p cube k = n at *
      have hpow : 2 ^ j ≤ 2 ^ 36 := Nat.pow_le_pow_right (by decide) (by omega)
      have hsh : IntKind.u64.wrap ((2 : Int) ^ j) = nv (2 ^ j) := by
        rw [IntKind.wrap_u64]
        have e : ((2 : Int) ^ j) = ((2 ^ j : Nat) : Int) := by simp
        unfold nv
        rw [e]
        have : (2 : Nat) ^ 36 = 68719476736 := rfl
        have h0 : (0 : Int) ≤ 2 ^ j := Int.pow_nonneg (by decide)
        omega
      have hadd : IntKind.u64.wrap (nv n + nv (2 ^ j)) = nv (n + 2 ^ j) := by
        rw [nv_add, wr64 _ (by have : (2 : Nat) ^ 37 = 137438953472 := rfl; have : (2 : Nat) ^ 36 = 68719476736 := rfl; omega)]
      have hM : Hid (n + 2 ^ j < 18446744073709551616) := by show _ < _; have : (2 : Nat) ^ 37 = 137438953472 := rfl; have : (2 : Nat) ^ 36 = 68719476736 := rfl; omega
      have Hr : Hid (rootS p cube n j = if (cube && decide (n + 2 ^ j < 68719476736) && cubeB (n + 2 ^ j) p) || (!cube && squareB (n + 2 ^ j) p) then n + 2 ^ j else n) := rfl
      generalize n + 2 ^ j = M at *
      generalize 2 ^ j = J at *
      clear hb hpow
      have Hj : Hid (j = 36 - k) := hj
      clear hj ej
      have hc := cube_any M p hM w
      have hq := square_any M p hM w
      cases cube with
      | false =>
        generalize hcb : squareB M p = b at *
        have HB : Hid (squareB M p = b) := hcb
        clear hc hcb
        cases b with
        | false =>
          go_wp2_with (go_at_call 65; refine hq.mono ?_; rintro e w' ⟨rfl, hw⟩; obtain rfl := hw.symm)
          go_round
          case rel => exact ⟨k + 1, by omega, congrArg (Value.int .i64) (by have := Hj.out; omega), by rw [Hs.out, Hr.out]; simp⟩
          case measure => simp [intOf] <;> omega
        | true =>
          go_wp2_with (go_at_call 65; refine hq.mono ?_; rintro e w' ⟨rfl, hw⟩; obtain rfl := hw.symm)
          go_round
          case rel => exact ⟨k + 1, by omega, congrArg (Value.int .i64) (by have := Hj.out; omega), by rw [Hs.out, Hr.out]; simp⟩
          case measure => simp [intOf] <;> omega
      | true =>
        have e36 : ∀ r, decide (M < 68719476736) = r → decide (nv M < 68719476736) = r := fun r h => by rw [← h]; congr 1; unfold nv; apply propext; omega
        generalize hlt : decide (M < 68719476736) = r at *
        have H1 : Hid (decide (nv M < 68719476736) = r) := e36 r rfl
        have HL : Hid (decide (M < 68719476736) = r) := hlt
        clear hlt e36 hq
        cases r with
        | false =>
          clear hc
          have HN : Hid (68719476736 ≤ M) := Nat.le_of_not_lt (of_decide_eq_false HL.out)
          go_wp2_with (refine wpList_lss_run (by rfl) 82 82 _ _ rfl .u64 _ _ rfl rfl false ?a1 ?_)
          case a1 => have := HN.out; unfold nv; omega
          go_round
          case rel => exact ⟨k + 1, by omega, congrArg (Value.int .i64) (by have := Hj.out; omega), by rw [Hs.out, Hr.out]; simp⟩
          case measure => simp [intOf] <;> omega
        | true =>
          generalize hcb : cubeB M p = b at *
          have HB : Hid (cubeB M p = b) := hcb
          clear hcb
          cases b with
          | false =>
            have HN : Hid (M < 68719476736) := (of_decide_eq_true HL.out : M < 68719476736)
            go_wp2_with (first
              | (go_at_call 64; refine hc.mono ?_; rintro e w' ⟨rfl, hw⟩; obtain rfl := hw.symm)
              | refine wpList_lss_run (by rfl) 82 82 _ _ rfl .u64 _ _ rfl rfl true ?a1 ?_)
            case a1 => have := HN.out; unfold nv; omega
            go_round
            case rel => exact ⟨k + 1, by omega, congrArg (Value.int .i64) (by have := Hj.out; omega), by rw [Hs.out, Hr.out]; simp⟩
            case measure => simp [intOf] <;> omega
          | true =>
            have HN : Hid (M < 68719476736) := (of_decide_eq_true HL.out : M < 68719476736)
            go_wp2_with (first
              | (go_at_call 64; refine hc.mono ?_; rintro e w' ⟨rfl, hw⟩; obtain rfl := hw.symm)
              | refine wpList_lss_run (by rfl) 82 82 _ _ rfl .u64 _ _ rfl rfl true ?a1 ?_)
            case a1 => have := HN.out; unfold nv; omega
            go_round
            case rel => exact ⟨k + 1, by omega, congrArg (Value.int .i64) (by have := Hj.out; omega), by rw [Hs.out, Hr.out]; simp⟩
            case measure => simp [intOf] <;> omega
    · have e37 : k = 37 := by omega
      subst e37
      have hb := (rootN_lt p cube 37 (by omega)).1
      have hw : Hid ((nv (rootN p cube 37)).tmod 4294967296 % 4294967296 = wv (rootW p cube)) := by
        show _ = _
        rw [Int.tmod_eq_emod_of_nonneg (nv_nonneg _)]
        unfold rootW wv nv
        rw [BitVec.toNat_ofNat]; omega
      generalize rootN p cube 37 = n at *
      clear hb
      go_wp2_with fail
      go_ret
      exact ⟨by rw [← hw.out]; rfl, rfl⟩

/-- The primes below n, in order. -/
def primesBelow : Nat → List Nat
  | 0 => []
  | n + 1 => if 2 ≤ n ∧ (primesBelow n).all (fun q => n % q != 0) then primesBelow n ++ [n] else primesBelow n
set_option maxRecDepth 100000 in
theorem cube_words : (primesBelow 312).map (fun p => rootW p true) = (List.range 64).map cubeW := by decide +kernel
theorem square_words : (primesBelow 20).map (fun p => rootW p false) = (List.range 8).map squareW := by decide +kernel
end Go.Proofs.YtcmkjgodgocdfaaDoor
