/- WireLong: the law's walk. -/
import Derived.Test.YtgoflpfafkmmgaaN1
namespace Go.Proofs.Ytgoflpfafkmmgaa
open Go.RowKit

theorem made_one (z : Value) (n : Nat) : madeCells #[z] n = Array.replicate n z := by
  apply Array.ext
  · simp [madeCells]
  · intro i h1 h2
    simp [madeCells, Nat.mod_one]
theorem zero_bytes (n : Nat) : Array.replicate n (Value.int .u8 0) = byteCells (List.replicate n 0) := by
  unfold byteCells
  rw [List.map_replicate]
  simp
  exact .inr rfl
theorem make_bytes (c : Int) (n : Nat) (hc : c = (n : Int)) (hn : n ≤ 16777216) (w : World) :
    (Instr.makeSlice 27 (.int .i64 c) (.int .i64 c)).run Try.prog w = .ok (.slice (some ⟨w.heap.size, 0, none⟩) n n) (w.alloc (.cells (byteCells (List.replicate n 0)) 5)) := by
  subst hc
  obtain ⟨i0, hi, hz0, hz1, hz2⟩ := info_parts' info5
  rw [run_makeSlice w 27 5 i0 (.int .u8 0) Try.underlying27 hi hz0 .i64 .i64 n n (by omega) (by omega) (by rw [hz1]; omega) (by rw [hz2]; omega) (by omega), hz1]
  simp only [Int.toNat_natCast, Nat.mul_one, Value.cells, made_one, zero_bytes]
theorem ap_row {S : Nat → Prop} (w : World) (x : List UInt8) (hS : ∀ k, S k → k < w.heap.size) (n : Nat) (hn : n = x.length) : BytesAp S (w.alloc (.cells (byteCells x) 5)) (.slice (some ⟨w.heap.size, 0, none⟩) n n) x := by
  subst hn
  refine ⟨_, _, w.heap.size, 0, rfl, Nat.le_refl _, fun _ => rfl, fun j hj => ?_, by simp, fun e => by have := hS _ e; omega⟩
  rw [Nat.zero_add, (has_new w (byteCells x) 5 w.heap.size rfl).cell j]
  exact byteCells_at x j hj
theorem Laid.long {w w' : World} {p : Nat} {v : Value} {bs x : List UInt8} {e : Ending} (h : Laid w w' p v bs x e) (hf : ¬ bs.length + x.length ≤ 1048576) : e = .returned (.int .i64 3) ∧ Wr w' p v bs ∧ Fr (WS p v) w w' := by
  unfold Laid at h; rw [if_neg hf] at h; exact h
theorem WrN.long {N : Nat} {w0 w w' : World} {p : Nat} {v : Value} {bs x : List UInt8} {e : Ending} (h : WrN N w0 w p v bs) (k : Laid w w' p v bs x e) (hf : ¬ bs.length + x.length ≤ 1048576) : e = .returned (.int .i64 3) ∧ WrN N w0 w' p v bs := by
  obtain ⟨h1, h2, h3⟩ := k.long hf
  exact ⟨h1, h.step h2 h3 (fun k hk => .inl hk)⟩
theorem WrN.grow {N : Nat} {w0 w w' : World} {p : Nat} {v : Value} {bs : List UInt8} (h : WrN N w0 w p v bs) (k : Below w.heap.size w w') : WrN N w0 w' p v bs :=
  ⟨h.wr.below k, h.below.trans (k.mono h.le), h.hi, Nat.le_trans h.le k.size⟩
set_option maxRecDepth 10000 in
set_option maxHeartbeats 2000000 in
theorem long_walk (w : World) : Calls Try.prog 5 #[] w fun e w' => e = .returned (.bool true) ∧ Below w.heap.size w w' := by
  obtain ⟨n, hn⟩ : ∃ n : Nat, n = 1048575 := ⟨_, rfl⟩
  have m1 := make_bytes 1048575 n (by omega) (by omega)
  have m2 := make_bytes 2 2 rfl (by omega)
  have l1 : (List.replicate n (0 : UInt8)).length = 1048575 := by rw [List.length_replicate]; exact hn
  have l2 : (List.replicate 2 (0 : UInt8)).length = 2 := rfl
  have hz2 := l2
  generalize List.replicate n (0 : UInt8) = x1 at *
  generalize List.replicate 2 (0 : UInt8) = x2 at *
  have L1 : Hid (x1.length = 1048575 ∧ x2.length = 2 ∧ n = 1048575) := ⟨l1, l2, hn⟩
  clear l1 l2 hn hz2
  go_enter Try.func5, Try.ntmps5
  go_wp2_with fail
  refine (wnew_any w).mono ?_
  rintro e w1 ⟨rfl, hB, hW⟩
  have h1 := WrN.new w w1 hB hW
  clear hB hW
  generalize hNw : w.heap.size = N at h1
  have HN : Hid (w.heap.size = N) := hNw
  clear hNw
  go_wp2_with fail
  refine named (p := fun X => Calls _ _ _ X _) ?_
  intro W2 hW2
  have hB2 : Below w1.heap.size w1 W2 := by rw [hW2]; exact alloc2_below _ _ _
  have hS := h1.wr.lt
  have hP : Parts (WS N (.slice none 0 0)) W2 (.slice (some ⟨w1.heap.size + 1, 0, none⟩) 1 1) [x1] := by
    rw [hW2]; exact parts1 (w1.alloc _) _ (ap_row w1 x1 hS n (by have := L1.out; omega)) (fun k hk => by have := hS k hk; simp; omega)
  clear hW2
  have h2 := h1.grow hB2
  clear h1 hB2 hS
  refine (raw_any N _ _ [] [x1] W2 h2.wr hP (fun d hd => by simp at hd; subst hd; have := L1.out; omega)).mono ?_
  intro e w3 hl
  have ef : [x1].flatten = x1 := by simp
  rw [ef] at hl
  obtain ⟨rfl, v3, h3⟩ := h2.laid hl (by have := L1.out; simp; omega)
  clear hl h2 hP ef
  rw [List.nil_append] at h3
  go_wp2_with fail
  refine named (p := fun X => Calls _ _ _ X _) ?_
  intro W4 hW4
  have hB4 : Below w3.heap.size w3 W4 := by rw [hW4]; exact alloc2_below _ _ _
  have hS := h3.wr.lt
  have hP : Parts (WS N v3) W4 (.slice (some ⟨w3.heap.size + 1, 0, none⟩) 1 1) [x2] := by
    rw [hW4]; exact parts1 (w3.alloc _) _ (ap_row w3 x2 hS 2 (by have := L1.out; omega)) (fun k hk => by have := hS k hk; simp; omega)
  clear hW4
  have h4 := h3.grow hB4
  clear h3 hB4 hS
  refine (raw_any N _ _ x1 [x2] W4 h4.wr hP (fun d hd => by simp at hd; subst hd; have := L1.out; omega)).mono ?_
  intro e w5 hl
  have ef : [x2].flatten = x2 := by simp
  rw [ef] at hl
  obtain ⟨rfl, h5⟩ := h4.long hl (by have := L1.out; omega)
  clear hl h4 hP ef
  go_wp2_with fail
  refine (wtruth_any N _ _ true w5 h5.wr).mono ?_
  intro e w6 hl
  rw [show (if (true : Bool) = true then (1 : UInt8) else 0) = 1 from rfl] at hl
  obtain ⟨rfl, v6, h6⟩ := h5.laid hl (by have := L1.out; simp; omega)
  clear hl h5
  go_wp2_with fail
  have n0 : numL 0 = [0] := by rw [numL_lo 0 (by omega)]; rfl
  refine (wnumber_ok N _ _ 0 (by omega) w6 h6.wr).mono ?_
  intro e w7 hl
  rw [n0] at hl
  obtain ⟨rfl, h7⟩ := h6.long hl (by have := L1.out; simp; omega)
  clear hl h6 n0
  have hall := all_any N _ _ w7 h7.wr
  have hlen : (x1 ++ [(1 : UInt8)]).length = 1048576 := by have := L1.out; simp; omega
  generalize x1 ++ [(1 : UInt8)] = x3 at *
  have hle := h7.le
  have hbe := h7.below
  clear m1 m2 h7
  go_wp2_with (first
    | (go_at_call 14; refine (num_any _ _).mono ?_; rintro e w' ⟨rfl, hw⟩; obtain rfl := hw.symm; clear hw)
    | fail)
  refine hall.mono ?_
  rintro e w8 ⟨u, rfl, hN8⟩
  obtain ⟨ua, uc, rfl⟩ := hN8.own.slice
  rw [hlen]
  have HN8 : Hid (Below w7.heap.size w7 w8) := hN8.below
  clear hN8 hall
  go_wp2_with (first
    | (go_at_call 11; refine (works_any _).mono ?_; rintro e w9 ⟨rfl, hw9⟩)
    | fail)
  go_ret
  refine ⟨rfl, ?_⟩
  rw [HN.out]
  have h8 := hbe.trans (HN8.out.mono hle)
  exact h8.trans (hw9.mono (Nat.le_trans hle HN8.out.size))
end Go.Proofs.Ytgoflpfafkmmgaa
