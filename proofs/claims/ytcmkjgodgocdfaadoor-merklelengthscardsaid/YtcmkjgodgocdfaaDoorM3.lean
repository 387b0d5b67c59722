/- merkle.Steps. -/
import Derived.Test.YtcmkjgodgocdfaaDoorM2
import Derived.Test.YtcmkjgodgocdfaaDoorR4
namespace Go.Proofs.YtcmkjgodgocdfaaDoor
open Go.RowKit
attribute [local go_sem] Oper.semAt_some

theorem Ex.low {b B : Nat} {w w' : World} (h : Ex b w w') (hb : B ≤ b) (hs : B ≤ w.heap.size) : Below B w w' := ⟨h.os, h.tape, h.output, h.size, fun k hk => h.block k (by omega) (by omega)⟩
set_option maxRecDepth 100000 in
set_option maxHeartbeats 2000000 in
theorem steps_ok (i n : Nat) (hin : i < n) (hn : n ≤ 16) (w : World) : Calls Tryd.prog 28 #[.int .i64 (i : Int), .int .i64 (n : Int)] w fun e w' => e = .returned (.tuple #[.int .i64 ((sidesL i n).length : Int), .int .i64 0]) ∧ Below w.heap.size w w' := by
  have hm : mayB (n : Int) = true := by simp [mayB]; omega
  have ht : thereB (i : Int) (n : Int) = true := by simp [thereB]; omega
  refine (callsIn_wide (n := 10)).1 ?_
  refine callsIn_of_wp_marks Tryd.func28 rfl trivial ?_ rfl
  simp only [Tryd.ntmps28, List.size_toArray, List.length_cons, List.length_nil, Nat.reduceAdd, Nat.reduceSub, Array.replicate_succ, Array.replicate_zero, List.push_toArray, List.append_toArray, List.nil_append, List.cons_append]
  gi_wp2_with (first
    | (refine ⟨trivial, ?_⟩; refine (callsIn_wide.2 (may_any (n : Int) _)).mono ?_; rintro e w' ⟨rfl, hw⟩; obtain rfl := hw.symm)
    | (refine ⟨trivial, ?_⟩; refine (callsIn_wide.2 (there_any (i : Int) (n : Int) _)).mono ?_; rintro e w' ⟨rfl, hw⟩; obtain rfl := hw.symm)
    | (refine ⟨trivial, ?_⟩; refine (callsIn_wide.2 (sides_any (i : Int) (n : Int) _)).mono ?_; rintro e w' ⟨rfl, hw⟩; obtain rfl := hw.symm))
  refine named (p := Code.wpIn _ _ _ _ _ _) ?_
  intro W0 hW0
  have hz : W0.heap.size = w.heap.size + 3 := by rw [hW0]; simp
  have hB : Below w.heap.size w W0 := by
    rw [hW0]
    repeat (first | exact Below.refl _ _ | refine Below.alloc ?_ (by simp <;> omega) _ | refine Below.setCell ?_ (by simp <;> omega) _)
  have x0 : Has W0 w.heap.size #[.int .i64 ((0 : Nat) : Int)] 3 := by
    rw [hW0]; repeat (first | (refine has_new _ _ _ _ ?_; simp; done) | refine has_old ?_)
  have x1 : Has W0 (w.heap.size + 1) #[.int .i64 (i : Int)] 3 := by
    rw [hW0]; repeat (first | (refine has_new _ _ _ _ ?_; simp; done) | refine has_old ?_)
  have x2 : Has W0 (w.heap.size + 2) #[.int .i64 (n : Int)] 3 := by
    rw [hW0]; repeat (first | (refine has_new _ _ _ _ ?_; simp; done) | refine has_old ?_)
  clear hW0 hw hm ht
  simp only [Nat.add_assoc, Nat.reduceAdd]
  refine wp_range_leave (gf := 46) (lb := #[.pointer (some ⟨w.heap.size + 1, 0, none⟩), .pointer (some ⟨w.heap.size + 2, 0, none⟩)]) rfl (Go.Proofs.enters_of Tryd.func46 (by kernel_rfl) rfl)
    (fun W3 => Has W3 w.heap.size #[.int .i64 ((sidesL i n).length : Int)] 3 ∧ Below w.heap.size w W3 ∧ W3.heap[w.heap.size + 3]? = some (.deferred (some [])) ∧ w.heap.size + 5 ≤ W3.heap.size) (fun _ _ => False) ?call ?done ?left
  case call =>
    intro fn W1 hB0 hz1 hD1 hl1
    rw [hz] at hB0 hz1 hD1 hl1 ⊢
    have hB1 : Below w.heap.size w W1 := hB.trans (hB0.mono (by omega))
    refine (sides1_any 9 (w.heap.size + 3 + 1) (w.heap.size + 1) (w.heap.size + 2) i n W1
      (fun k W => W.heap[w.heap.size + 3 + 1]? = W1.heap[w.heap.size + 3 + 1]? ∧ Has W w.heap.size #[.int .i64 (k : Int)] 3 ∧ Below w.heap.size w W ∧ W.heap[w.heap.size + 3]? = some (.deferred (some [])) ∧ w.heap.size + 5 ≤ W.heap.size)
      hin hn (x1.below hB0 (by omega)) (x2.below hB0 (by omega)) ?_ ?_).mono ?_
    · intro q
      exact ⟨rfl, (x0.below hB0 (by omega)).drewN q, hB1.trans ⟨rfl, rfl, rfl, Nat.le_refl _, fun _ _ => rfl⟩, hD1, by show _ ≤ W1.heap.size; omega⟩
    · intro k b W hk hJ
      have hk16 : k < 16 := by have := (List.getElem?_eq_some_iff.1 hk).1; have := sidesL_le n i; omega
      obtain ⟨hrec, hc, hBw, hD, hsz⟩ := hJ
      rw [hl1] at hrec ⊢
      refine (yield_in (R := fun W' => W'.heap[w.heap.size + 3 + 1]? = W.heap[w.heap.size + 3 + 1]? ∧ Has W' w.heap.size #[.int .i64 ((k + 1 : Nat) : Int)] 3 ∧ Below w.heap.size w W' ∧ W'.heap[w.heap.size + 3]? = some (.deferred (some [])) ∧ w.heap.size + 5 ≤ W'.heap.size) (Rx := fun _ _ => False) hrec rfl ?_).mono ?_
      · clear hrec hl1
        intro RR RB hrr
        have HR : Hid (W.heap[w.heap.size + 3 + 1]? = some RR) := hrr
        clear hrr
        gi_wp2
        refine ⟨HR.out, ?_⟩
        intro W5 hE5 hs5 hl5
        have hc5 : Has W5 w.heap.size #[.int .i64 (k : Int)] 3 := hc.ex hE5 (by omega)
        have c5 := hc5.one
        have hlt5 := hc5.lt
        have f5 := hc5.free 0
        have HL : Hid (W5.heap[w.heap.size + 3 + 1]? = some RB) := hl5
        clear hl5
        gi_wp2
        have hX := Ex.set w.heap.size W5 0 (.int .i64 ((k : Int) + 1))
        refine ⟨(hX.block _ (by omega) (by omega)).trans HL.out, ?_⟩
        intro W6 hE6 hs6 hl6
        have hsX := hX.size
        have hs6' := hE6.size
        refine ⟨hl6.trans HR.out.symm, (hc5.set 0 _).ex hE6 (by omega), ((hBw.trans (hE5.low (by omega) (by omega))).trans (hX.low (Nat.le_refl _) (by omega))).trans (hE6.low (by omega) (by omega)), ?_, by omega⟩
        exact (hE6.block _ (by omega) (by omega)).trans ((hX.block _ (by omega) (by omega)).trans ((hE5.block _ (by omega) (by omega)).trans hD))
      · rintro e W' (⟨rfl, h1, h2, h3, h4, h5⟩ | ⟨_, _, _, h⟩)
        · exact ⟨rfl, h1.trans hrec, h2, h3, h4, h5⟩
        · exact h.elim
    · rintro e W3 ⟨rfl, h1, h2, h3, h4, h5⟩
      exact ⟨⟨_, rfl⟩, .inl ⟨h1, h2, h3, h4, h5⟩⟩
  case left => intro c W3 W4 h; exact h.elim
  case done =>
    rintro W3 W4 ⟨h2, h3, h4, h5⟩ hE4 hs4
    rw [hz] at hE4
    have c4 := (h2.ex hE4 (by omega)).one
    have hK : W4.heap[w.heap.size + 3]? = some (.deferred (some [])) := (hE4.block _ (by omega) (by omega)).trans h4
    gi_wp2
    rw [hz]
    refine ⟨by simp, .inl ⟨_, _, rfl, run_takeDeferred hK, ?_⟩⟩
    refine ⟨_, results_tmp2 rfl _ _ _, rfl, ?_⟩
    exact (h3.trans (hE4.low (by omega) (by omega))).trans ((putObj_ex (w.heap.size + 3) W4 _).low (by omega) (by omega))
set_option maxHeartbeats 400000 in
theorem steps_arg (i n : Int) (hm : mayB n = false) (w : World) : Calls Tryd.prog 28 #[.int .i64 i, .int .i64 n] w fun e w' => e = .returned (.tuple #[.int .i64 0, .int .i64 2]) ∧ w' = w := by
  go_enter Tryd.func28, Tryd.ntmps28
  go_wp2_with (go_at_call 30; refine (may_any n _).mono ?_; rintro e w' ⟨rfl, hw⟩; obtain rfl := hw.symm)
  go_ret2
  exact ⟨rfl, rfl⟩
set_option maxHeartbeats 400000 in
theorem steps_range (i n : Int) (hm : mayB n = true) (ht : thereB i n = false) (w : World) : Calls Tryd.prog 28 #[.int .i64 i, .int .i64 n] w fun e w' => e = .returned (.tuple #[.int .i64 0, .int .i64 4]) ∧ w' = w := by
  go_enter Tryd.func28, Tryd.ntmps28
  go_wp2_with (first
    | (go_at_call 30; refine (may_any n _).mono ?_; rintro e w' ⟨rfl, hw⟩; obtain rfl := hw.symm)
    | (go_at_call 35; refine (there_any i n _).mono ?_; rintro e w' ⟨rfl, hw⟩; obtain rfl := hw.symm))
  go_ret2
  exact ⟨rfl, rfl⟩
theorem steps_any (i n : Int) (w : World) : Calls Tryd.prog 28 #[.int .i64 i, .int .i64 n] w fun e w' => e = .returned (.tuple #[.int .i64 (stepsV i n), .int .i64 (stepsE i n)]) ∧ Below w.heap.size w w' := by
  unfold stepsV stepsE
  cases hm : mayB n with
  | false => exact (steps_arg i n hm w).mono (by rintro e w' ⟨rfl, rfl⟩; exact ⟨rfl, Below.refl _ _⟩)
  | true =>
    cases ht : thereB i n with
    | false => exact (steps_range i n hm ht w).mono (by rintro e w' ⟨rfl, rfl⟩; exact ⟨rfl, Below.refl _ _⟩)
    | true =>
      simp only [mayB, thereB, Bool.and_eq_true, decide_eq_true_eq] at hm ht
      obtain ⟨I, rfl⟩ := Int.eq_ofNat_of_zero_le ht.1
      obtain ⟨N, rfl⟩ := Int.eq_ofNat_of_zero_le (show 0 ≤ n by omega)
      exact (steps_ok I N (by omega) (by omega) w).mono (by rintro e w' ⟨rfl, h⟩; exact ⟨by simp, h⟩)
end Go.Proofs.YtcmkjgodgocdfaaDoor
