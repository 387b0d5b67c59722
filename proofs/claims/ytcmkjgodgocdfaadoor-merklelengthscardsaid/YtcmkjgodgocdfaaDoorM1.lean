/- The small functions of merkle, and the document's Steps. -/
import Derived.Test.YtcmkjgodgocdfaaDoorB2
namespace Go.Proofs.YtcmkjgodgocdfaaDoor
open Go.RowKit

/-- The place beside a place. -/
def oth (i : Nat) : Nat := if i % 2 = 1 then i - 1 else i + 1
/-- The steps of a place's path: does it stand right? -/
def sidesL (i n : Nat) : List Bool := if _h : 1 < n then (if oth i < n then [decide (i % 2 = 1)] else []) ++ sidesL (i / 2) ((n + 1) / 2) else []
termination_by n
decreasing_by omega
def mayB (n : Int) : Bool := decide (1 ≤ n) && decide (n ≤ 16)
def thereB (i n : Int) : Bool := decide (0 ≤ i) && decide (i < n)
def stepsE (i n : Int) : Int := if mayB n = false then 2 else if thereB i n = false then 4 else 0
def stepsV (i n : Int) : Int := if mayB n && thereB i n then (sidesL i.toNat n.toNat).length else 0
theorem sidesL_stop {i n : Nat} (h : ¬ 1 < n) : sidesL i n = [] := by rw [sidesL, dif_neg h]
theorem sidesL_yes {i n : Nat} (h : 1 < n) (ho : oth i < n) : sidesL i n = decide (i % 2 = 1) :: sidesL (i / 2) ((n + 1) / 2) := by rw [sidesL, dif_pos h, if_pos ho]; rfl
theorem sidesL_no {i n : Nat} (h : 1 < n) (ho : ¬ oth i < n) : sidesL i n = sidesL (i / 2) ((n + 1) / 2) := by rw [sidesL, dif_pos h, if_neg ho]; rfl
theorem sidesL_le : ∀ (n i : Nat), (sidesL i n).length ≤ n := by
  intro n
  induction n using Nat.strongRecOn with
  | _ n ih =>
    intro i
    by_cases h : 1 < n
    · have := ih ((n + 1) / 2) (by omega) (i / 2)
      by_cases ho : oth i < n
      · rw [sidesL_yes h ho, List.length_cons]; omega
      · rw [sidesL_no h ho]; omega
    · rw [sidesL_stop h]; simp
theorem xor_one (i : Nat) (h : i < 64) : bits .xor .i64 (i : Int) 1 = (oth i : Int) := by
  have key : ∀ i : Fin 64, bits .xor .i64 (i.val : Int) 1 = (oth i.val : Int) := by decide +kernel
  exact key ⟨i, h⟩

set_option maxHeartbeats 400000 in
theorem may_any (n : Int) (w : World) : Calls Tryd.prog 30 #[.int .i64 n] w fun e w' => e = .returned (.bool (mayB n)) ∧ w' = w := by
  by_cases h1 : 1 ≤ n
  · by_cases h2 : n ≤ 16
    · rw [show mayB n = true by simp [mayB, h1, h2]]
      go_enter Tryd.func30, Tryd.ntmps30
      go_wp2
      go_ret
      exact ⟨rfl, rfl⟩
    · rw [show mayB n = false by simp [mayB, h2]]
      go_enter Tryd.func30, Tryd.ntmps30
      go_wp2
      go_ret
      exact ⟨rfl, rfl⟩
  · rw [show mayB n = false by simp [mayB, h1]]
    go_enter Tryd.func30, Tryd.ntmps30
    go_wp2
    go_ret
    exact ⟨rfl, rfl⟩
set_option maxHeartbeats 400000 in
theorem there_any (i n : Int) (w : World) : Calls Tryd.prog 35 #[.int .i64 i, .int .i64 n] w fun e w' => e = .returned (.bool (thereB i n)) ∧ w' = w := by
  by_cases h1 : 0 ≤ i
  · by_cases h2 : i < n
    · rw [show thereB i n = true by simp [thereB, h1, h2]]
      go_enter Tryd.func35, Tryd.ntmps35
      go_wp2
      go_ret
      exact ⟨rfl, rfl⟩
    · rw [show thereB i n = false by simp [thereB, h2]]
      go_enter Tryd.func35, Tryd.ntmps35
      go_wp2
      go_ret
      exact ⟨rfl, rfl⟩
  · rw [show thereB i n = false by simp [thereB, h1]]
    go_enter Tryd.func35, Tryd.ntmps35
    go_wp2
    go_ret
    exact ⟨rfl, rfl⟩
set_option maxHeartbeats 400000 in
theorem other_any (i : Nat) (h : i < 64) (w : World) : Calls Tryd.prog 36 #[.int .i64 (i : Int)] w fun e w' => e = .returned (.int .i64 (oth i : Int)) ∧ w' = w := by
  have hx := xor_one i h
  go_enter Tryd.func36, Tryd.ntmps36
  go_wp2
  go_ret
  exact ⟨rfl, rfl⟩
set_option maxHeartbeats 400000 in
theorem sides_any (i n : Int) (w : World) : Calls Tryd.prog 41 #[.int .i64 i, .int .i64 n] w fun e w' =>
    e = .returned (.func (.func 46) #[] #[.pointer (some ⟨w.heap.size, 0, none⟩), .pointer (some ⟨w.heap.size + 1, 0, none⟩)]) ∧ w' = (w.alloc (.cells #[.int .i64 i] 3)).alloc (.cells #[.int .i64 n] 3) := by
  go_enter Tryd.func41, Tryd.ntmps41
  go_wp2
  go_ret
  exact ⟨rfl, rfl⟩
set_option maxHeartbeats 400000 in
theorem num_any (n : Int) (w : World) : Calls Tryd.prog 20 #[.int .i64 n] w fun e w' => e = .returned (.int .i64 n) ∧ w' = w := by
  go_enter Tryd.func20, Tryd.ntmps20
  go_wp2
  go_ret
  exact ⟨rfl, rfl⟩

set_option maxHeartbeats 1000000 in
theorem refsteps_any (i n : Int) (w : World) : Calls Tryd.prog 29 #[.int .i64 i, .int .i64 n] w fun e w' => e = .returned (.tuple #[.int .i64 (stepsV i n), .int .i64 (stepsE i n)]) ∧ w' = w := by
  unfold stepsV stepsE
  by_cases h1 : 1 ≤ n
  · by_cases h2 : n ≤ 16
    · have hm : mayB n = true := by simp [mayB, h1, h2]
      by_cases h3 : 0 ≤ i
      · by_cases h4 : i < n
        · have ht : thereB i n = true := by simp [thereB, h3, h4]
          rw [hm, ht]
          simp only [Bool.and_self, if_true, Bool.true_eq_false, if_false]
          obtain ⟨I, rfl⟩ := Int.eq_ofNat_of_zero_le h3
          obtain ⟨N, rfl⟩ := Int.eq_ofNat_of_zero_le (show 0 ≤ n by omega)
          clear hm ht
          simp only [Int.toNat_natCast]
          obtain ⟨T, hT⟩ : ∃ T, Hid (T = (sidesL I N).length) := ⟨_, rfl⟩
          rw [← hT.out]
          have hTl : T ≤ 16 := by have := sidesL_le N I; have := hT.out; omega
          go_enter Tryd.func29, Tryd.ntmps29
          go_wp2
          go_loop [0, 1, 6] (fun i n k => ∃ I N K : Nat, I < N ∧ N ≤ 16 ∧ i = .int .i64 I ∧ n = .int .i64 N ∧ k = .int .i64 K ∧ Hid (K + (sidesL I N).length = T)) (fun _ n _ => (intOf n).toNat)
          case atStart => exact ⟨I, N, 0, by omega, by omega, rfl, rfl, rfl, by have := hT.out; show _ = _; omega⟩
          case round =>
            clear h1 h2 h3 h4 hT
            obtain ⟨I', N', K, a1, a2, rfl, rfl, rfl, hk⟩ := hrel
            have hK : K ≤ 16 := by have := hk.out; omega
            by_cases hn : 1 < N'
            · have e1 : (I' : Int) % 2 = ((I' % 2 : Nat) : Int) := by omega
              by_cases ho : I' % 2 = 1
              · have hh := sidesL_yes hn (show oth I' < N' by unfold oth; rw [if_pos ho]; omega)
                have HH : Hid (K + 1 + (sidesL (I' / 2) ((N' + 1) / 2)).length = T) := by have := hk.out; rw [hh, List.length_cons] at this; show _ = _; omega
                have ei : (I' : Int) % 2 = 1 := by omega
                clear hh e1
                go_wp2
                go_round
                case rel => exact ⟨I' / 2, (N' + 1) / 2, K + 1, by omega, by omega, by go_num, by go_num, by go_num, HH⟩
                case measure => simp [intOf]; omega
              · have ei : (I' : Int) % 2 = 0 := by omega
                by_cases hl : I' + 1 < N'
                · have hh := sidesL_yes hn (show oth I' < N' by unfold oth; rw [if_neg ho]; omega)
                  have HH : Hid (K + 1 + (sidesL (I' / 2) ((N' + 1) / 2)).length = T) := by have := hk.out; rw [hh, List.length_cons] at this; show _ = _; omega
                  clear hh e1
                  go_wp2
                  go_round
                  case rel => exact ⟨I' / 2, (N' + 1) / 2, K + 1, by omega, by omega, by go_num, by go_num, by go_num, HH⟩
                  case measure => simp [intOf]; omega
                · have hh := sidesL_no hn (show ¬ oth I' < N' by unfold oth; rw [if_neg ho]; omega)
                  have HH : Hid (K + (sidesL (I' / 2) ((N' + 1) / 2)).length = T) := by have := hk.out; rw [hh] at this; exact this
                  clear hh e1
                  go_wp2
                  go_round
                  case rel => exact ⟨I' / 2, (N' + 1) / 2, K, by omega, by omega, by go_num, by go_num, by go_num, HH⟩
                  case measure => simp [intOf]; omega
            · have hh := sidesL_stop (i := I') hn
              have hKT : K = T := by have := hk.out; rw [hh] at this; simpa using this
              subst hKT
              clear hh hk
              go_wp2
              go_ret2
              exact ⟨rfl, rfl⟩
        · have ht : thereB i n = false := by simp [thereB, h4]
          rw [hm, ht]
          clear hm ht
          go_enter Tryd.func29, Tryd.ntmps29
          go_wp2
          go_ret2
          exact ⟨rfl, rfl⟩
      · have ht : thereB i n = false := by simp [thereB, h3]
        rw [hm, ht]
        clear hm ht
        go_enter Tryd.func29, Tryd.ntmps29
        go_wp2
        go_ret2
        exact ⟨rfl, rfl⟩
    · have hm : mayB n = false := by simp [mayB, h2]
      rw [hm]
      clear hm
      go_enter Tryd.func29, Tryd.ntmps29
      go_wp2
      go_ret2
      exact ⟨rfl, rfl⟩
  · have hm : mayB n = false := by simp [mayB, h1]
    rw [hm]
    clear hm
    go_enter Tryd.func29, Tryd.ntmps29
    go_wp2
    go_ret2
    exact ⟨rfl, rfl⟩
end Go.Proofs.YtcmkjgodgocdfaaDoor
