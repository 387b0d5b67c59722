/- merkle.sides: the function that is ranged over, whatever its round does; merkle.Steps. -/
import Derived.Test.YtcmkjgodgocdfaaDoorM1
import Derived.Test.YtcmkjgodgocdfaaDoorR2
import Derived.Shelf.Abstract
import Derived.Sort.QuietIn
namespace Go.Proofs.YtcmkjgodgocdfaaDoor
open Go.RowKit
attribute [local go_sem] Oper.semAt_some

set_option maxRecDepth 100000 in
set_option maxHeartbeats 2000000 in
theorem sides1_any (N l bi bn : Nat) (i n : Nat) (W : World) (J : Nat → World → Prop) (hin : i < n) (hn : n ≤ 16) (hi : Has W bi #[.int .i64 (i : Int)] 3) (hb : Has W bn #[.int .i64 (n : Int)] 3) (h0 : ∀ q, J 0 (W.drewN q))
    (hY : ∀ (k : Nat) (b : Bool) (W' : World), (sidesL i n)[k]? = some b → J k W' → YieldAt Fence.wide (N - 1) Tryd.prog l #[.int .i64 (k : Int), .bool b] W' fun e W'' => e = .returned (.bool true) ∧ J (k + 1) W'') :
    CallsIn Fence.wide N Tryd.prog 46 #[.func (.yield l) #[] #[], .pointer (some ⟨bi, 0, none⟩), .pointer (some ⟨bn, 0, none⟩)] W fun e W' => e = .returned (.tuple #[]) ∧ J (sidesL i n).length W' := by
  have ci := hi.one
  have cn := hb.one
  refine callsIn_of_wp Tryd.func46 rfl trivial ?_ rfl
  simp only [Tryd.ntmps46, List.size_toArray, List.length_cons, List.length_nil, Nat.reduceAdd, Nat.reduceSub, Array.replicate_succ, Array.replicate_zero, List.push_toArray, List.append_toArray, List.nil_append, List.cons_append]
  gi_wp2
  gi_quiet (fail)
  have h0' := h0 nq
  clear hi hb ci cn h0
  gi_wp2
  gi_loopw [4, 5, 6] (fun s p c wr => ∃ k p' c' : Nat, s = .int .i64 k ∧ p = .int .i64 p' ∧ c = .int .i64 c' ∧ p' < c' ∧ c' ≤ 16 ∧ k ≤ 16 ∧ Hid (sidesL i n = (sidesL i n).take k ++ sidesL p' c') ∧ Hid (k ≤ (sidesL i n).length) ∧ J k wr) (fun _ _ c _ => (intOf c).toNat)
  case atStart => exact ⟨0, i, n, rfl, rfl, rfl, hin, hn, by omega, rfl, Nat.zero_le _, h0'⟩
  case round =>
    obtain ⟨k, p, c, rfl, rfl, rfl, a1, a2, a3, hs, hk, hJ⟩ := hrel
    by_cases hc : 1 < c
    · by_cases ho : oth p < c
      · have hy0 := sidesL_yes hc ho
        have hle := sidesL_le n i
        have hs' := hs.out
        rw [hy0] at hs'
        have hget : (sidesL i n)[k]? = some (decide (p % 2 = 1)) := by
          have e1 : ((sidesL i n).take k).length = k := by rw [List.length_take]; have := hk.out; omega
          rw [hs', List.getElem?_append_right (by omega), e1, Nat.sub_self]; rfl
        have hk1 : Hid (k + 1 ≤ (sidesL i n).length) := by
          have := (List.getElem?_eq_some_iff.1 hget).1; exact this
        have hk2 : k + 1 ≤ 16 := by have := hk1.out; omega
        have hs2 : Hid (sidesL i n = (sidesL i n).take (k + 1) ++ sidesL (p / 2) ((c + 1) / 2)) := by
          show _ = _
          rw [List.take_add_one, hget]
          simpa using hs'
        have ht : thereB (oth p : Int) (c : Int) = true := by simp [thereB]; omega
        have hY1 := hY k _ _ hget hJ
        clear hs' hy0 hle hget hs hk hJ
        by_cases hp : p % 2 = 1
        · have ep : (p : Int) % 2 = 1 := by omega
          rw [decide_eq_true hp] at hY1
          obtain ⟨fn, tmps, assign, body, hy, hR⟩ := hY1
          gi_wp2_with (first
            | (refine ⟨trivial, fun h => (by cases h), ?_⟩; refine (callsIn_wide.2 (other_any p (by omega) _)).mono ?_; rintro e w' ⟨rfl, hw⟩; obtain rfl := hw.symm)
            | (refine ⟨trivial, fun h => (by cases h), ?_⟩; refine (callsIn_wide.2 (there_any (oth p : Int) (c : Int) _)).mono ?_; rintro e w' ⟨rfl, hw⟩; obtain rfl := hw.symm))
          refine ⟨fun h => (by cases h), hR.mono ?_⟩
          clear hR hy
          rintro e W3 ⟨rfl, hJ3⟩
          gi_wp2_with fail
          go_roundw
          case rel => exact ⟨k + 1, p / 2, (c + 1) / 2, by go_num, by go_num, by go_num, by omega, by omega, hk2, hs2, hk1, hJ3⟩
          case measure => simp [intOf]; omega
        · have ep : (p : Int) % 2 = 0 := by omega
          rw [decide_eq_false hp] at hY1
          obtain ⟨fn, tmps, assign, body, hy, hR⟩ := hY1
          gi_wp2_with (first
            | (refine ⟨trivial, fun h => (by cases h), ?_⟩; refine (callsIn_wide.2 (other_any p (by omega) _)).mono ?_; rintro e w' ⟨rfl, hw⟩; obtain rfl := hw.symm)
            | (refine ⟨trivial, fun h => (by cases h), ?_⟩; refine (callsIn_wide.2 (there_any (oth p : Int) (c : Int) _)).mono ?_; rintro e w' ⟨rfl, hw⟩; obtain rfl := hw.symm))
          refine ⟨fun h => (by cases h), hR.mono ?_⟩
          clear hR hy
          rintro e W3 ⟨rfl, hJ3⟩
          gi_wp2_with fail
          go_roundw
          case rel => exact ⟨k + 1, p / 2, (c + 1) / 2, by go_num, by go_num, by go_num, by omega, by omega, hk2, hs2, hk1, hJ3⟩
          case measure => simp [intOf]; omega
      · have hs2 : Hid (sidesL i n = (sidesL i n).take k ++ sidesL (p / 2) ((c + 1) / 2)) := by
          have := hs.out; rw [sidesL_no hc ho] at this; exact this
        have ht : thereB (oth p : Int) (c : Int) = false := by simp [thereB]; omega
        clear hs
        gi_wp2_with (first
          | (refine ⟨trivial, fun h => (by cases h), ?_⟩; refine (callsIn_wide.2 (other_any p (by omega) _)).mono ?_; rintro e w' ⟨rfl, hw⟩; obtain rfl := hw.symm)
          | (refine ⟨trivial, fun h => (by cases h), ?_⟩; refine (callsIn_wide.2 (there_any (oth p : Int) (c : Int) _)).mono ?_; rintro e w' ⟨rfl, hw⟩; obtain rfl := hw.symm))
        go_roundw
        case rel => exact ⟨k, p / 2, (c + 1) / 2, by go_num, by go_num, by go_num, by omega, by omega, a3, hs2, hk, hJ⟩
        case measure => simp [intOf]; omega
    · have hs' := hs.out
      rw [sidesL_stop hc, List.append_nil] at hs'
      have hkk : Hid (k = (sidesL i n).length) := by
        have := congrArg List.length hs'
        rw [List.length_take] at this
        have := hk.out
        show _ = _
        omega
      clear hs' hs
      gi_wp2
      go_end0
      exact ⟨rfl, by rw [← hkk.out]; exact hJ⟩
end Go.Proofs.YtcmkjgodgocdfaaDoor
