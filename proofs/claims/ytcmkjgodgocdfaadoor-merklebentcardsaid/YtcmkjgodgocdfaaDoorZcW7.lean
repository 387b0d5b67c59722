/- MerkleBent: the law's walk. -/
import Derived.Test.YtcmkjgodgocdfaaDoorZcW6
import Derived.Test.YtcmkjgodgocdfaaDoorZq6
import Derived.Test.YtcmkjgodgocdfaaDoorZcW3
import Derived.Test.YtcmkjgodgocdfaaDoorZcW7a
import Derived.Test.YtcmkjgodgocdfaaDoorZcW7b
import Derived.Test.YtcmkjgodgocdfaaDoorZcW7c
namespace Go.Proofs.YtcmkjgodgocdfaaDoor
open Go.RowKit

theorem bent_ok (v : Value) (ds : List Dig) (I J : Nat) (which : Int) (by_ : UInt8) (w : World) (hv : Digs w v ds) (h16 : ds.length ≤ 16) (hi : I < ds.length) (hJ : J < 32) (hg : Glob w) :
    Calls Tryd.prog 10 #[v, .int .i64 (I : Int), .int .i64 which, .int .i64 (J : Int), .int .u8 (bv by_)] w fun e w' => e = .returned (.bool true) ∧ Below w.heap.size w w' := by
  by_cases hw : 0 ≤ which ∧ which < ((pathOf ds I).length : Int)
  · exact bent_in v ds I J which by_ w hv h16 hi hJ hg hw
  · by_cases hw1 : 0 ≤ which
    · exact bent_over v ds I J which by_ w hv h16 hi hJ hg hw hw1
    · exact bent_under v ds I J which by_ w hv h16 hi hJ hg hw1
set_option maxRecDepth 100000 in
set_option maxHeartbeats 1000000 in
theorem bent_walk (v : Value) (ds : List Dig) (i which at_ : Int) (by_ : UInt8) (w : World) (hv : Digs w v ds) (hg : Glob w) :
    Calls Tryd.prog 10 #[v, .int .i64 i, .int .i64 which, .int .i64 at_, .int .u8 (bv by_)] w fun e w' => e = .returned (.bool true) ∧ Below w.heap.size w w' := by
  have hbad : (ds.length < 1 ∨ 16 < ds.length ∨ i < 0 ∨ (ds.length : Int) ≤ i ∨ at_ < 0 ∨ 31 < at_) → Calls Tryd.prog 10 #[v, .int .i64 i, .int .i64 which, .int .i64 at_, .int .u8 (bv by_)] w fun e w' => e = .returned (.bool true) ∧ Below w.heap.size w w' := by
    obtain ⟨a0, c0, rfl⟩ := hv.slice
    have hwk := works_any w hg
    generalize ds.length = n
    clear hv
    intro h
    by_cases h1 : n < 1
    · have q1 : decide ((n : Int) < 1) = true := by simp; omega
      clear h
      go_enter Tryd.func10, Tryd.ntmps10
      go_wp2_with (go_at_call 13; refine hwk.mono ?_; rintro e W9 ⟨rfl, hB9⟩)
      go_ret
      exact ⟨rfl, hB9⟩
    have q1 : decide ((n : Int) < 1) = false := by simp; omega
    by_cases h2 : 16 < n
    · have q2 : decide (16 < (n : Int)) = true := by simp; omega
      clear h h1
      go_enter Tryd.func10, Tryd.ntmps10
      go_wp2_with (go_at_call 13; refine hwk.mono ?_; rintro e W9 ⟨rfl, hB9⟩)
      go_ret
      exact ⟨rfl, hB9⟩
    have q2 : decide (16 < (n : Int)) = false := by simp; omega
    by_cases h3 : i < 0
    · clear h h1 h2
      go_enter Tryd.func10, Tryd.ntmps10
      go_wp2_with (go_at_call 13; refine hwk.mono ?_; rintro e W9 ⟨rfl, hB9⟩)
      go_ret
      exact ⟨rfl, hB9⟩
    by_cases h4 : (n : Int) ≤ i
    · clear h h1 h2
      go_enter Tryd.func10, Tryd.ntmps10
      go_wp2_with (go_at_call 13; refine hwk.mono ?_; rintro e W9 ⟨rfl, hB9⟩)
      go_ret
      exact ⟨rfl, hB9⟩
    by_cases h5 : at_ < 0
    · clear h h1 h2
      go_enter Tryd.func10, Tryd.ntmps10
      go_wp2_with (go_at_call 13; refine hwk.mono ?_; rintro e W9 ⟨rfl, hB9⟩)
      go_ret
      exact ⟨rfl, hB9⟩
    · have h6 : 31 < at_ := by omega
      clear h h1 h2
      go_enter Tryd.func10, Tryd.ntmps10
      go_wp2_with (go_at_call 13; refine hwk.mono ?_; rintro e W9 ⟨rfl, hB9⟩)
      go_ret
      exact ⟨rfl, hB9⟩
  by_cases h : (ds.length < 1 ∨ 16 < ds.length ∨ i < 0 ∨ (ds.length : Int) ≤ i ∨ at_ < 0 ∨ 31 < at_)
  · exact hbad h
  · obtain ⟨I, rfl⟩ := Int.eq_ofNat_of_zero_le (show 0 ≤ i by omega)
    obtain ⟨J, rfl⟩ := Int.eq_ofNat_of_zero_le (show 0 ≤ at_ by omega)
    exact bent_ok v ds I J which by_ w hv (by omega) (by omega) (by omega) hg
end Go.Proofs.YtcmkjgodgocdfaaDoor
