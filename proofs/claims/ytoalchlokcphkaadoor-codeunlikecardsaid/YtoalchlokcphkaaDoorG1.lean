/- The document's low. -/
import Derived.Test.YtoalchlokcphkaaDoorD3
namespace Go.Proofs.YtoalchlokcphkaaDoor
open Go.RowKit

/-- A row of bytes of one's own that lies in no block that was there. -/
structure New (w w' : World) (v : Value) (d : List UInt8) : Prop where
  own : Own w' v d
  new : ∀ k, v.ownBlock = some k → w.heap.size ≤ k
  bel : Below w.heap.size w w'
theorem New.start (w : World) : New w w (.slice none 0 0) [] := ⟨Own.nil w, fun k hk => (by cases hk), Below.refl _ _⟩
theorem New.more {w W X : World} {v : Value} {d : List UInt8} (h : New w W v d) (k : Below W.heap.size W X) : New w X v d :=
  ⟨h.own.fr (S := fun _ => False) (Fr.of_below k) (fun _ _ h => h), h.new, h.bel.trans (k.mono h.bel.size)⟩
theorem New.step {w X W' : World} {v v' : Value} {d d' : List UInt8} (h : New w X v d) (hO : Own W' v' d') (hg : X.grownBy W' v.ownBlock) (hl : Loc X v v') : New w W' v' d' := by
  refine ⟨hO, fun k hk => ?_, ?_⟩
  · rcases hl k hk with e | e
    · exact h.new k e
    · exact Nat.le_trans h.bel.size e
  · refine h.bel.trans ⟨hg.os, hg.tape, hg.output, hg.size, fun k hk => ?_⟩
    exact hg.block k (Nat.lt_of_lt_of_le hk h.bel.size) (fun e => by have := h.new k e.symm; omega)
/-- What is no row of bytes stays beside it. -/
theorem New.has {w X W' : World} {v : Value} {d : List UInt8} (h : New w X v d) (hg : X.grownBy W' v.ownBlock) {b t : Nat} {cs : Array Value} (hh : Has X b cs t) (ht : t ≠ 5) : Has W' b cs t := hh.fr (grown_fr hg) (h.own.has_ne hh ht)
def lowL (n k : Nat) : List UInt8 := (List.range k).map fun j => UInt8.ofNat (n / 256 ^ j)
theorem lowL_succ (n k : Nat) : lowL n (k + 1) = lowL n k ++ [UInt8.ofNat (n / 256 ^ k)] := by unfold lowL; rw [List.range_succ, List.map_append]; rfl
theorem lowL_two (n : Nat) : lowL n 2 = low2L n := by show [UInt8.ofNat (n / 256 ^ 0), UInt8.ofNat (n / 256 ^ 1)] = _; simp [low2L]
theorem lowL_four (n : Nat) : lowL n 4 = low4L n := by show [UInt8.ofNat (n / 256 ^ 0), UInt8.ofNat (n / 256 ^ 1), UInt8.ofNat (n / 256 ^ 2), UInt8.ofNat (n / 256 ^ 3)] = _; simp [low4L]
theorem lowL_len (n k : Nat) : (lowL n k).length = k := by unfold lowL; simp
theorem byte_one (w : World) (x : UInt8) : Bytes (w.alloc (.cells #[.int .u8 (bv x)] 5)) (.slice (some ⟨w.heap.size, 0, none⟩) 1 1) [x] := bytes_block w [x] 1 rfl _ rfl
set_option maxRecDepth 10000 in
set_option maxHeartbeats 2000000 in
theorem rlow_any (n k : Nat) (hk : k ≤ 8) (hn : n < 9223372036854775808) (w : World) :
    Calls Tryd.prog 28 #[.int .i64 n, .int .i64 k] w fun e w' => ∃ v, e = .returned v ∧ New w w' v (lowL n k) := by
  go_enter Tryd.func28, Tryd.ntmps28
  go_wp2
  go_loopw [0, 5, 6] (fun nv v iv wr => ∃ j : Nat, j ≤ k ∧ iv = .int .i64 j ∧ nv = .int .i64 ((n / 256 ^ j : Nat) : Int) ∧ New w wr v (lowL n j)) (fun _ _ i _ => k - (intOf i).toNat)
  case atStart => exact ⟨0, Nat.zero_le _, rfl, by simp, New.start w⟩
  case round =>
    obtain ⟨j, hj, rfl, rfl, hN⟩ := hrel
    by_cases hlt : j < k
    · have HS : Hid (lowL n (j + 1) = lowL n j ++ [UInt8.ofNat (n / 256 ^ j)]) := lowL_succ n j
      have HM : Hid (n / 256 ^ j / 256 = n / 256 ^ (j + 1)) := by show _ = _; rw [Nat.div_div_eq_div_mul, Nat.pow_succ]
      have hmb : n / 256 ^ j < 9223372036854775808 := Nat.lt_of_le_of_lt (Nat.div_le_self _ _) hn
      have HL : Hid ((lowL n j).length ≤ 8) := by show _ ≤ _; rw [lowL_len]; omega
      generalize n / 256 ^ j = m at *
      generalize lowL n j = d at *
      have e1 : (m : Int) % 256 = bv (UInt8.ofNat m) := by rw [bv_of]; omega
      have hb1 := bv_nonneg (UInt8.ofNat m)
      have hb2 := bv_lt (UInt8.ofNat m)
      have hlt' : (j : Int) < k := by omega
      have hX := hN.more ((Below.refl wr.heap.size wr).alloc (Nat.le_refl _) (.cells #[.int .u8 (bv (UInt8.ofNat m))] 5))
      have hby := byte_one wr (UInt8.ofNat m)
      obtain ⟨va, vc, vn, rfl⟩ := hN.own.sl
      go_wp2_with (refine wpList_append_bytes _ rfl _ _ 27 27 rfl info5 Tryd.underlying27 Tryd.underlying27 _ _ d [UInt8.ofNat m] rfl rfl hX.own hby (by have := HL.out; simp; omega) ?_; intro v' w2 hown2 hgr hloc hnil; clear hnil; have hN2 := hX.step hown2 hgr hloc; obtain ⟨a', c', m', hv'⟩ := hown2.sl; subst hv'; clear hown2 hgr hloc hX hby)
      go_roundw
      case rel =>
        refine ⟨j + 1, by omega, by go_num, ?_, ?_⟩
        · rw [← HM.out]; congr 1
        · rw [HS.out]; exact hN2
      case measure => simp [intOf]; omega
    · obtain rfl : j = k := by omega
      go_wp2
      go_ret
      exact ⟨_, rfl, hN⟩
end Go.Proofs.YtoalchlokcphkaaDoor
