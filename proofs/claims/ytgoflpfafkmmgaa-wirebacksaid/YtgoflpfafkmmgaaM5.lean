/- Read, At, End. -/
import Derived.Test.YtgoflpfafkmmgaaM3
import Derived.Test.YtgoflpfafkmmgaaM4
namespace Go.Proofs.Ytgoflpfafkmmgaa
open Go.RowKit

/-- What is not in it is not in it as it grows. -/
theorem Own.apNew {w : World} {v : Value} {d : List UInt8} (h : Own w v d) (o : Obj) (h0 : 0 < w.heap.size) : BytesAp (· = w.heap.size) (w.alloc o) v d := by
  have h1 : Own (w.alloc o) v d := own_alloc h o
  refine Own.bytesAp h1 (fun i hi e => by have := h.lt' hi; omega) (fun _ => ⟨0, by simp, by omega⟩)
set_option maxHeartbeats 1000000 in
theorem read_any (xv : Value) (x : List UInt8) (w : World) (hx : Bytes w xv x) (hsm : x.length ≤ 10000000000) :
    Calls Try.prog 22 #[xv] w fun e w' => ∃ g lv, e = .returned (.pointer (some ⟨g, 0, none⟩)) ∧ w.heap.size ≤ g ∧ Rd w' g lv x 0 0 ∧ Below w.heap.size w w' := by
  have HX : Hid (Bytes w xv x) := hx
  obtain ⟨xa, xc, xb, xo, rfl, _⟩ := hx
  go_enter Try.func22, Try.ntmps22
  go_wp2_with (refine wpList_append_bytes _ rfl _ _ 80 27 rfl info5 Try.underlying80 Try.underlying27 (.slice none 0 0) _ [] x rfl rfl (Own.nil w) HX.out (by simp; omega) ?_; intro v2 w2 hown2 hgr hloc hnil; clear hnil; rw [List.nil_append] at hown2; obtain ⟨a3, c3, hv2⟩ := hown2.slice; subst hv2)
  go_ret
  have hB : Below w.heap.size w w2 := ⟨hgr.os, hgr.tape, hgr.output, hgr.size, fun k hk => hgr.block k hk (by simp [Value.ownBlock])⟩
  have hz := hB.size
  refine ⟨w2.heap.size, _, rfl, hz, ⟨has_new _ _ _ _ rfl, hown2.apNew _ (by omega)⟩, hB.alloc hz _⟩
set_option maxHeartbeats 400000 in
theorem at_any (r : Nat) (lv : Value) (rest : List UInt8) (at_ fl : Nat) (w : World) (hR : Rd w r lv rest at_ fl) :
    Calls Try.prog 32 #[.pointer (some ⟨r, 0, none⟩)] w fun e w' => e = .returned (.int .i64 at_) ∧ w' = w := by
  have c1 := hR.has.cell 1
  have c3 := hR.has.cell 3
  simp at c1 c3
  go_enter Try.func32, Try.ntmps32
  go_wp2_with (first | (go_at_call 56; refine (rnone_any _ _ c3).mono ?_; rintro e w' ⟨rfl, hw⟩; obtain rfl := hw.symm) | fail)
  go_ret
  exact ⟨rfl, rfl⟩
def endE (rest : List UInt8) (fl : Nat) : Nat := if fl ≠ 0 then fl else if rest.length = 0 then 0 else 122
set_option maxHeartbeats 400000 in
theorem end_any (r : Nat) (lv : Value) (rest : List UInt8) (at_ fl : Nat) (w : World) (hR : Rd w r lv rest at_ fl) :
    Calls Try.prog 34 #[.pointer (some ⟨r, 0, none⟩)] w fun e w' => e = .returned (.int .i64 (endE rest fl)) ∧ w' = w := by
  have c0 := hR.has.cell 0
  have c2 := hR.has.cell 2
  have c3 := hR.has.cell 3
  obtain ⟨la, lc, lb, lo, rfl, _⟩ := id hR.by_
  simp at c0 c2 c3
  by_cases hf : fl ≠ 0
  · have h1 : ¬ (fl : Int) = 0 := by omega
    have he : endE rest fl = fl := by unfold endE; rw [if_pos hf]
    rw [he]
    go_enter Try.func34, Try.ntmps34
    go_wp2_with (first | (go_at_call 56; refine (rnone_any _ _ c3).mono ?_; rintro e w' ⟨rfl, hw⟩; obtain rfl := hw.symm) | fail)
    go_ret
    exact ⟨rfl, rfl⟩
  · have hf0 : fl = 0 := by omega
    subst hf0
    by_cases hl : rest.length = 0
    · have he : endE rest 0 = 0 := by unfold endE; rw [if_neg (by omega), if_pos hl]
      rw [he]
      have h1 : ¬ (0 : Int) < rest.length := by omega
      simp at c2
      go_enter Try.func34, Try.ntmps34
      go_wp2_with (first | (go_at_call 56; refine (rnone_any _ _ c3).mono ?_; rintro e w' ⟨rfl, hw⟩; obtain rfl := hw.symm) | fail)
      go_ret
      exact ⟨rfl, rfl⟩
    · have he : endE rest 0 = 122 := by unfold endE; rw [if_neg (by omega), if_neg hl]
      rw [he]
      have h1 : (0 : Int) < rest.length := by omega
      simp at c2
      go_enter Try.func34, Try.ntmps34
      go_wp2_with (first | (go_at_call 56; refine (rnone_any _ _ c3).mono ?_; rintro e w' ⟨rfl, hw⟩; obtain rfl := hw.symm) | fail)
      go_ret
      exact ⟨rfl, rfl⟩
set_option maxHeartbeats 400000 in
theorem num_any (n : Int) (w : World) :
    Calls Try.prog 14 #[.int .i64 n] w fun e w' => e = .returned (.int .i64 n) ∧ w' = w := by
  go_enter Try.func14, Try.ntmps14
  go_wp2_with fail
  go_ret
  exact ⟨rfl, rfl⟩
end Go.Proofs.Ytgoflpfafkmmgaa
