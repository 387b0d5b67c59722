/- whole. -/
import Derived.Test.YtoalchlokcphkaaDoorT2
namespace Go.Proofs.YtoalchlokcphkaaDoor
open Go.RowKit

/-- Bytes that have their mark, and as many instructions as they say. -/
def wholeB : List UInt8 → Bool
  | x0 :: x1 :: _ :: _ :: x4 :: x5 :: r => (x0 == 67 && x1 == 88) && decide (r.length = 8 * numL [x4, x5])
  | _ => false
theorem wholeB_short {d : List UInt8} (h : d.length < 6) : wholeB d = false := by
  match d, h with
  | [], _ => rfl
  | [_], _ => rfl
  | [_, _], _ => rfl
  | [_, _, _], _ => rfl
  | [_, _, _, _], _ => rfl
  | [_, _, _, _, _], _ => rfl
  | _ :: _ :: _ :: _ :: _ :: _ :: _, h => simp at h; omega
theorem six_of {d : List UInt8} (h : 6 ≤ d.length) : ∃ x0 x1 x2 x3 x4 x5 r, d = x0 :: x1 :: x2 :: x3 :: x4 :: x5 :: r := by
  match d, h with
  | x0 :: x1 :: x2 :: x3 :: x4 :: x5 :: r, _ => exact ⟨x0, x1, x2, x3, x4, x5, r, rfl⟩
theorem Bytes.cut {w : World} {a : Option Addr} {c k : Nat} {b : List UInt8} (h : Bytes w (.slice a b.length c) b) (hk : k ≤ b.length) : Bytes w (.slice a k c) (b.take k) := by
  obtain ⟨a', c', db, o, e, hcap, ha, hin, hlt⟩ := h
  simp only [Value.slice.injEq] at e
  obtain ⟨rfl, _, rfl⟩ := e
  refine ⟨a, c, db, o, by rw [List.length_take, Nat.min_eq_left hk], by rw [List.length_take]; omega, fun hne => ha (by intro e; rw [e] at hne; simp at hne), fun j hj => ?_, hlt⟩
  rw [List.length_take] at hj
  have := hin j (by omega)
  rw [List.getElem?_take, if_pos (by omega)]
  exact this
set_option maxRecDepth 10000 in
set_option maxHeartbeats 2000000 in
theorem whole_any (v : Value) (d : List UInt8) (w : World) (hv : Bytes w v d) (hl : d.length ≤ 1000000) :
    Calls Tryd.prog 26 #[v] w fun e w' => e = .returned (.bool (wholeB d)) ∧ Below w.heap.size w w' := by
  have hv0 := hv
  obtain ⟨a, c, b, o, rfl, hc, ha, hin, hb⟩ := hv
  by_cases h6 : d.length < 6
  · have h6' : (d.length : Int) < 6 := by omega
    have HW : Hid (wholeB d = false) := wholeB_short h6
    go_enter Tryd.func26, Tryd.ntmps26
    go_wp2
    go_ret
    rw [HW.out]
    exact ⟨rfl, Below.refl _ _⟩
  obtain ⟨x0, x1, x2, x3, x4, x5, r, hd⟩ := six_of (d := d) (by omega)
  obtain rfl := ha (by rw [hd]; simp)
  have hcv := bytes_string (P := Tryd.prog) Tryd.underlying27 Tryd.underlying5 Tryd.underlying9 w _ _ (hv0.cut (k := 2) (by omega))
  have e2 : d.take 2 = [x0, x1] := by rw [hd]; rfl
  rw [e2] at hcv
  obtain ⟨n, hn⟩ : ∃ n, n = d.length := ⟨_, rfl⟩
  have HL : Hid (n = d.length ∧ n = r.length + 6) := ⟨hn, by rw [hn, hd]; rfl⟩
  have h6' : ¬ n < 6 := by omega
  have hnc : n ≤ c := by omega
  rw [← hn] at hl ⊢
  clear h6
  have hT4 : ∀ (m c' : Nat) (a : Option Addr), m = n - 4 → n - 4 ≤ c' → (a = some ⟨b, o + 4, none⟩) → Bytes w (.slice a m c') (x4 :: x5 :: r) := fun m c' a hm hc' ha => bytes_tail (d := d) (k := 4) hin (by rw [hd]; rfl) hb m c' a (by rw [hm]; have := HL.out; simp; omega) (by have := HL.out; simp; omega) (fun _ => ha)
  have HT : Hid (∀ (m c' : Nat) (a : Option Addr), m = n - 4 → n - 4 ≤ c' → (a = some ⟨b, o + 4, none⟩) → Bytes w (.slice a m c') (x4 :: x5 :: r)) := hT4
  clear hT4
  have HW : Hid (wholeB d = ((x0 == 67 && x1 == 88) && decide (r.length = 8 * numL [x4, x5]))) := by show _ = _; rw [hd]; rfl
  rw [HW.out]
  clear hv0 hin hd hn ha e2
  by_cases hm : x0 = 67 ∧ x1 = 88
  · obtain ⟨rfl, rfl⟩ := hm
    have hn2 := numL_two x4 x5
    have HR : Hid (((n : Int) = 6 + (numL [x4, x5] : Int) * 8) ↔ (r.length = 8 * numL [x4, x5])) := by show _ ↔ _; have := HL.out; omega
    by_cases hr : r.length = 8 * numL [x4, x5]
    · have hr' : (n : Int) = 6 + (numL [x4, x5] : Int) * 8 := HR.out.2 hr
      rw [show (((67 : UInt8) == 67 && (88 : UInt8) == 88) && decide (r.length = 8 * numL [x4, x5])) = true by simp [hr]]
      clear hr HR
      go_enter Tryd.func26, Tryd.ntmps26
      go_wp2_with (refine wpList_convert_run rfl 27 9 _ rfl _ _ rfl hcv ?_)
      refine (takers_any _ _ w (HT.out _ _ _ rfl (by omega) rfl)).mono ?_
      rintro e W1 ⟨bp, b1, b2, b4, mb, rfl, hT, hB⟩
      have l2 := hT.look.2.1
      unfold tkF at l2
      go_wp2_with fail
      refine (tk2 x4 x5 r hT).mono ?_
      rintro e W2 ⟨rfl, hT2, hB2, hE2⟩
      generalize numL [x4, x5] = q at *
      go_wp2_with fail
      go_ret
      exact ⟨rfl, hB.trans hB2⟩
    · have hr' : ¬ (n : Int) = 6 + (numL [x4, x5] : Int) * 8 := fun h => hr (HR.out.1 h)
      rw [show (((67 : UInt8) == 67 && (88 : UInt8) == 88) && decide (r.length = 8 * numL [x4, x5])) = false by simp [hr]]
      clear hr HR
      go_enter Tryd.func26, Tryd.ntmps26
      go_wp2_with (refine wpList_convert_run rfl 27 9 _ rfl _ _ rfl hcv ?_)
      refine (takers_any _ _ w (HT.out _ _ _ rfl (by omega) rfl)).mono ?_
      rintro e W1 ⟨bp, b1, b2, b4, mb, rfl, hT, hB⟩
      have l2 := hT.look.2.1
      unfold tkF at l2
      go_wp2_with fail
      refine (tk2 x4 x5 r hT).mono ?_
      rintro e W2 ⟨rfl, hT2, hB2, hE2⟩
      generalize numL [x4, x5] = q at *
      go_wp2_with fail
      go_ret
      exact ⟨by show Ending.returned (.bool ((n : Int) == 6 + (q : Int) * 8)) = _; rw [beq_eq_false_iff_ne.2 hr'], hB.trans hB2⟩
  · obtain ⟨T, hT⟩ : ∃ T : ByteArray, T = ⟨[x0, x1].toArray⟩ := ⟨_, rfl⟩
    rw [← hT] at hcv
    have t1 : (T.toList == [67, 88]) = false := by
      rw [hT, ByteArray.toList_eq]
      show ([x0, x1] == [67, 88]) = false
      rw [beq_eq_false_iff_ne]
      intro e
      simp only [List.cons.injEq, and_true] at e
      exact hm e
    have HX : Hid ((x0 == 67 && x1 == 88) = false) := by
      show _ = _
      rw [Bool.and_eq_false_iff, beq_eq_false_iff_ne, beq_eq_false_iff_ne]
      by_cases h : x0 = 67
      · exact .inr (fun h2 => hm ⟨h, h2⟩)
      · exact .inl h
    rw [HX.out]
    clear hm hT
    go_enter Tryd.func26, Tryd.ntmps26
    go_wp2_with (refine wpList_convert_run rfl 27 9 _ rfl _ _ rfl hcv ?_)
    go_ret
    exact ⟨rfl, Below.refl _ _⟩
end Go.Proofs.YtoalchlokcphkaaDoor
