/- The law ShaTails. -/
import Derived.Test.YtkcngkkjlnadiaaDoorI1
namespace Go.Proofs.YtkcngkkjlnadiaaDoor
open Go.RowKit

theorem zero_bytes (m : Nat) : zeroCells m = byteCells (List.replicate m 0) := by
  refine cells_eq _ _ m (by simp) (zeroCells_size m) (fun j hj => ?_)
  rw [zeroCells_at m j hj]; simp [hj, bv]
theorem own_new (base : Nat) (w : World) (l : List UInt8) (hb : base ≤ w.heap.size) (hl : l.length ≤ 1000000) : Own base (w.alloc (.cells (byteCells l) 5)) (.slice (some ⟨w.heap.size, 0, none⟩) l.length l.length) l :=
  ⟨by simp, .inr ⟨w.heap.size, l.length, byteCells l, rfl, hb, heap_alloc_new w _, Nat.le_refl _, by simp only [maxLen]; omega, by simp [byteCells_size], by rw [Nat.mul_one]; show List.take l.length (byteCells l).toList = _; rw [List.take_of_length_le (by simp [byteCells])]; rfl⟩⟩

set_option maxRecDepth 10000 in
set_option maxHeartbeats 1000000 in
theorem tails_walk (n : Int) (v : Value) (l : List UInt8) (w : World) (hv : Bytes w v l) (hg0 : Glob w) :
    Calls Tryd.prog 9 #[.int .i64 n, v] w fun e w' => e = .returned (.bool true) ∧ Below w.heap.size w w' := by
  have hgs := hg0.size
  obtain ⟨a, cap, db, o, rfl, _⟩ := id hv
  by_cases h0 : n < 0
  · go_enter Tryd.func9, Tryd.ntmps9
    go_wp2_with fail
    refine (works_any _ hg0).mono ?_
    rintro e W ⟨rfl, hB⟩
    go_wp2_with fail
    go_ret
    exact ⟨rfl, hB⟩
  · by_cases h1 : 130 < n
    · go_enter Tryd.func9, Tryd.ntmps9
      go_wp2_with fail
      refine (works_any _ hg0).mono ?_
      rintro e W ⟨rfl, hB⟩
      go_wp2_with fail
      go_ret
      exact ⟨rfl, hB⟩
    · by_cases h2 : l.length ≤ 70
      · have i2 : ¬ (70 : Int) < (l.length : Int) := by omega
        obtain ⟨m, rfl⟩ : ∃ m : Nat, n = m := ⟨n.toNat, by omega⟩
        have hmk := fun w => make_bytes (m : Int) m rfl (by omega) w
        have H : Hid (m ≤ 130 ∧ l.length ≤ 70) := ⟨by omega, h2⟩
        have hrl : (List.replicate m (0 : UInt8)).length = m := by simp
        have hown := fun w => own_new w.heap.size w (List.replicate m 0) (Nat.le_refl _) (by have := H.out; simp; omega)
        simp only [← zero_bytes, hrl] at hown
        have hbn := fun w => bytes_new w (List.replicate m 0)
        simp only [← zero_bytes, hrl] at hbn
        clear h2
        go_enter Tryd.func9, Tryd.ntmps9
        go_wp2_with (refine wpList_append_bytes rfl _ _ 22 rfl info5 Tryd.underlying22 w.heap.size _ _ (List.replicate m 0) l rfl rfl (hown w) (hv.below ((Below.refl _ _).alloc (Nat.le_refl _) _)) (by have := H.out; simp; omega) (by simp) ?_; intro v1 w1 ho1 hg1)
        have hB1 : Below w.heap.size w w1 := ((Below.refl _ _).alloc (Nat.le_refl _) _).trans (grown_keeps (hown w) hg1 (by simp))
        have hL : (List.replicate m (0 : UInt8) ++ l).length < 1000 := by have := H.out; simp; omega
        have hbl : [List.replicate m (0 : UInt8), l].flatten = List.replicate m 0 ++ l := by simp
        refine named (p := fun X => Calls _ _ _ X _) ?_
        intro W2 hW2
        have hB2 : Below w1.heap.size w1 W2 := by rw [hW2]; exact ((Below.refl _ _).alloc (Nat.le_refl _) _).alloc (by simp) _
        have hz2 : W2.heap.size = w1.heap.size + 2 := by rw [hW2]; simp
        have hp : Parts W2 (.slice (some ⟨w1.heap.size + 1, 0, none⟩) 2 2) [List.replicate m 0, l] := by
          have hr : Has W2 (w1.heap.size + 1) #[Value.slice (some ⟨w1.heap.size, 0, none⟩) m m, Value.slice a l.length cap] 22 := by rw [hW2]; exact has_new _ _ _ _ (by simp)
          have hb0 : Bytes W2 (.slice (some ⟨w1.heap.size, 0, none⟩) m m) (List.replicate m 0) := by
            rw [hW2]; exact (hbn w1).below ((Below.refl _ _).alloc (Nat.le_refl _) _)
          have hb1 : Bytes W2 (.slice a l.length cap) l := hv.below (hB1.trans (hB2.mono hB1.size))
          refine ⟨_, 2, w1.heap.size + 1, 0, rfl, fun _ => rfl, fun i hi => ?_, by omega, by rw [hbl]; omega, by simp⟩
          match i, hi with
          | 0, _ => exact ⟨_, (hr.cell 0), hb0⟩
          | 1, _ => exact ⟨_, (hr.cell 1), hb1⟩
        have hBa : Below w.heap.size w W2 := hB1.trans (hB2.mono hB1.size)
        have ho2 : Bytes W2 v1 (List.replicate m 0 ++ l) := (ho1.bytes (by have := hB1.size; omega)).below hB2
        clear hW2 hbn hown hg1 ho1 hB2 hB1 hz2 hmk
        refine (of_any _ _ W2 hp (hg0.below hBa hgs)).mono ?_
        rw [hbl]
        clear hp hbl
        obtain ⟨a1, cap1, db1, o1, rfl, _⟩ := id ho2
        rintro e W3 ⟨rfl, hB3⟩
        have ho3 := ho2.below hB3
        have hBb : Below w.heap.size w W3 := hBa.trans (hB3.mono hBa.size)
        clear hBa hB3 ho2
        generalize List.replicate m 0 ++ l = L at *
        have q := eq_same (shaL L) (shaL_length L)
        go_wp2_with fail
        refine (refsum_any _ L W3 ho3 (by omega)).mono ?_
        rintro e W4 ⟨rfl, hB4⟩
        have ho4 := ho3.below hB4
        have hBc : Below w.heap.size w W4 := hBb.trans (hB4.mono hBb.size)
        clear hBb hB4 ho3
        go_wp2_with fail
        refine (sum1_any _ L W4 ho4 (hg0.below hBc hgs) (by omega)).mono ?_
        rintro e W5 ⟨rfl, hB5⟩
        have ho5 := ho4.below hB5
        have hBd : Below w.heap.size w W5 := hBc.trans (hB5.mono hBc.size)
        clear hBc hB5 ho4
        go_wp2_with fail
        refine (refsum_any _ L W5 ho5 (by omega)).mono ?_
        rintro e W6 ⟨rfl, hB6⟩
        have hBe : Below w.heap.size w W6 := hBd.trans (hB6.mono hBd.size)
        clear hBd hB6 ho5
        go_wp2_with fail
        refine (works_any _ (hg0.below hBe hgs)).mono ?_
        rintro e W7 ⟨rfl, hB7⟩
        go_wp2_with fail
        go_ret
        exact ⟨rfl, hBe.trans (hB7.mono hBe.size)⟩
      · have i2 : (70 : Int) < (l.length : Int) := by omega
        go_enter Tryd.func9, Tryd.ntmps9
        go_wp2_with fail
        refine (works_any _ hg0).mono ?_
        rintro e W ⟨rfl, hB⟩
        go_wp2_with fail
        go_ret
        exact ⟨rfl, hB⟩
end Go.Proofs.YtkcngkkjlnadiaaDoor
