/- slices.Chunk by twos: the function that is ranged over, whatever its round does. -/
import Derived.Test.YtcmkjgodgocdfaaDoorD2
import Derived.Test.YtcmkjgodgocdfaaDoorR5
import Derived.Shelf.Abstract
import Derived.Sort.QuietIn
namespace Go.Proofs.YtcmkjgodgocdfaaDoor
open Go.RowKit
attribute [local go_sem] Oper.semAt_some

set_option maxHeartbeats 400000 in
theorem chunk_any (a : Option Addr) (n cap : Nat) (w : World) : Calls Tryd.prog 53 #[.slice a n cap, .int .i64 2] w fun e w' =>
    e = .returned (.func (.func 63) #[] #[.pointer (some ⟨w.heap.size, 0, none⟩), .pointer (some ⟨w.heap.size + 1, 0, none⟩)]) ∧ w' = (w.alloc (.cells #[.slice a n cap] 22)).alloc (.cells #[.int .i64 2] 3) := by
  go_enter Tryd.func53, Tryd.ntmps53
  go_wp2
  go_ret
  exact ⟨rfl, rfl⟩

set_option maxRecDepth 100000 in
set_option maxHeartbeats 2000000 in
theorem chunk1_any (N l bs bn : Nat) (g o m cap : Nat) (W : World) (J : Nat → World → Prop) (hm : m ≤ 16) (hcap : m ≤ cap) (hmx : cap ≤ maxLen) (h0 : J 0 W)
    (hJd : ∀ k W' q, J k W' → J k (W'.drewN q))
    (hJb : ∀ k W', J k W' → Has W' bs #[.slice (some ⟨g, o, none⟩) m cap] 22 ∧ Has W' bn #[.int .i64 2] 3)
    (hY : ∀ (k : Nat) (W' : World), 2 * k < m → J k W' → YieldAt Fence.wide (N - 1) Tryd.prog l #[.slice (some ⟨g, o + 2 * k * 32, none⟩) (Nat.min 2 (m - 2 * k)) (Nat.min 2 (m - 2 * k))] W' fun e W'' => e = .returned (.bool true) ∧ J (k + 1) W'') :
    CallsIn Fence.wide N Tryd.prog 63 #[.func (.yield l) #[] #[], .pointer (some ⟨bs, 0, none⟩), .pointer (some ⟨bn, 0, none⟩)] W fun e W' => e = .returned (.tuple #[]) ∧ J ((m + 1) / 2) W' := by
  unfold maxLen at hmx
  refine callsIn_of_wp Tryd.func63 rfl trivial ?_ rfl
  simp only [Tryd.ntmps63, List.size_toArray, List.length_cons, List.length_nil, Nat.reduceAdd, Nat.reduceSub, Array.replicate_succ, Array.replicate_zero, List.push_toArray, List.append_toArray, List.nil_append, List.cons_append]
  gi_wp2
  gi_loopw [4] (fun i wr => ∃ k : Nat, i = .int .i64 (2 * k : Nat) ∧ k ≤ (m + 1) / 2 ∧ J k wr) (fun i _ => m + 2 - (intOf i).toNat)
  case atStart => exact ⟨0, rfl, Nat.zero_le _, h0⟩
  case round =>
    obtain ⟨k, rfl, hk, hJ⟩ := hrel
    obtain ⟨hb1, hb2⟩ := hJb k wr hJ
    have c1 := hb1.one
    have c2 := hb2.one
    by_cases hlt : 2 * k < m
    · have hYk := hY k
      obtain ⟨E, hE⟩ : ∃ E, 2 * k = E := ⟨_, rfl⟩
      rw [hE] at hlt hYk ⊢
      have HE : Hid (2 * k = E) := hE
      clear hE
      have hEc : E ≤ cap := by omega
      gi_wp2
      gi_quiet (fail)
      obtain ⟨M, hM⟩ : ∃ M, Nat.min 2 (m - E) = M := ⟨_, rfl⟩
      have hM' : min 2 (m - E) = M := hM
      have e1 : (if ((m - E : Nat) : Int) < 2 then ((m - E : Nat) : Int) else 2) = (M : Int) := by
        split <;> omega
      simp only [e1]
      have hM1 : E + M ≤ m := by omega
      have hM2 : M ≤ 2 := by omega
      have hM0 : 0 < M := by omega
      have hM3 : ¬ M = 0 := by omega
      have HM : Hid (Nat.min 2 (m - E) = M) := hM
      have hJ2 := hJd k wr nq hJ
      rw [hM] at hYk
      have hYk2 := hYk _ hlt hJ2
      clear hYk hM hM' e1 hJ
      have d1 := (hJb k _ hJ2).1.one
      have d2 := (hJb k _ hJ2).2.one
      obtain ⟨fn, tmps, assign, body, hy, hR⟩ := hYk2
      have e2 : E + M - E = M := by omega
      gi_wp2
      refine ⟨fun h => (by cases h), hR.mono ?_⟩
      clear hR hy d1 d2 c1 c2 e2 hJ2
      rintro e W3 ⟨rfl, hJ3⟩
      have c1 := (hJb _ _ hJ3).1.one
      have c2 := (hJb _ _ hJ3).2.one
      gi_wp2
      go_roundw
      case rel => exact ⟨k + 1, by have := HE.out; congr 1; omega, by have := HE.out; omega, hJ3⟩
      case measure => simp [intOf]; omega
    · obtain rfl : k = (m + 1) / 2 := by omega
      gi_wp2
      go_end0
      exact ⟨rfl, hJ⟩
end Go.Proofs.YtcmkjgodgocdfaaDoor
