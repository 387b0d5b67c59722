/- CodeSizes: the law's walk. -/
import Derived.Test.YtoalchlokcphkaaDoorB2
namespace Go.Proofs.YtoalchlokcphkaaDoor
open Go.RowKit

/-- A row of n instructions of which the first k are exits, the others zero. -/
structure Sz (n k : Nat) (cs : Array Value) : Prop where
  op : ∀ j, j < n → cs[j * 5]? = some (.int .i64 (if j < k then 24 else 0))
  dst : ∀ j, j < n → cs[j * 5 + 1]? = some (.int .i64 0)
  src : ∀ j, j < n → cs[j * 5 + 2]? = some (.int .i64 0)
  off : ∀ j, j < n → cs[j * 5 + 3]? = some (.int .i64 0)
  imm : ∀ j, j < n → cs[j * 5 + 4]? = some (.int .u32 0)
theorem sz_made (n : Nat) : Sz n 0 (madeCells #[.int .i64 0, .int .i64 0, .int .i64 0, .int .i64 0, .int .u32 0] (n * 5)) := by
  have key : ∀ j r v, j < n → r < 5 → (#[.int .i64 0, .int .i64 0, .int .i64 0, .int .i64 0, .int .u32 0] : Array Value)[r]! = v → (madeCells #[.int .i64 0, .int .i64 0, .int .i64 0, .int .i64 0, .int .u32 0] (n * 5))[j * 5 + r]? = some v := fun j r v hj hr hv => by
    unfold madeCells
    rw [Array.getElem?_map, Array.getElem?_eq_getElem (by simp; omega)]
    simp only [Option.map_some, Array.getElem_range]
    rw [show (j * 5 + r) % (#[.int .i64 0, .int .i64 0, .int .i64 0, .int .i64 0, .int .u32 0] : Array Value).size = r by show (j * 5 + r) % 5 = r; omega, hv]
  exact ⟨fun j hj => by have := key j 0 (.int .i64 0) hj (by omega) rfl; simpa using this, fun j hj => key j 1 _ hj (by omega) rfl, fun j hj => key j 2 _ hj (by omega) rfl, fun j hj => key j 3 _ hj (by omega) rfl, fun j hj => key j 4 _ hj (by omega) rfl⟩
theorem Sz.set {n k : Nat} {cs : Array Value} (h : Sz n k cs) (hk : k < n) : Sz n (k + 1) (cs.setIfInBounds (k * 5) (.int .i64 24)) := by
  have hsz : k * 5 < cs.size := by
    have := h.op k hk
    exact (Array.getElem?_eq_some_iff.1 this).1
  refine ⟨fun j hj => ?_, fun j hj => ?_, fun j hj => ?_, fun j hj => ?_, fun j hj => ?_⟩
  · rw [Array.getElem?_setIfInBounds]
    by_cases e : j = k
    · subst e; rw [if_pos rfl, if_pos hsz, if_pos (by omega)]
    · rw [if_neg (by omega), h.op j hj]
      by_cases e2 : j < k
      · rw [if_pos e2, if_pos (by omega)]
      · rw [if_neg e2, if_neg (by omega)]
  · rw [Array.getElem?_setIfInBounds, if_neg (by omega), h.dst j hj]
  · rw [Array.getElem?_setIfInBounds, if_neg (by omega), h.src j hj]
  · rw [Array.getElem?_setIfInBounds, if_neg (by omega), h.off j hj]
  · rw [Array.getElem?_setIfInBounds, if_neg (by omega), h.imm j hj]
theorem Sz.prg {n : Nat} {cs : Array Value} {W : World} {g c : Nat} (h : Sz n n cs) (hH : Has W g cs 43) : Prg W (.slice (some ⟨g, 0, none⟩) n c) (List.replicate n ⟨24, 0, 0, 0, 0⟩) := by
  have hi : ∀ k i, (List.replicate n (⟨24, 0, 0, 0, 0⟩ : Ins))[k]? = some i → k < n ∧ i = ⟨24, 0, 0, 0, 0⟩ := fun k i hk => by
    rw [List.getElem?_replicate] at hk
    split at hk
    · simp at hk; exact ⟨by assumption, hk.symm⟩
    · cases hk
  refine ⟨_, c, g, 0, by simp, fun _ => rfl, ⟨fun k i hk => ?_, fun k i hk => ?_, fun k i hk => ?_, fun k i hk => ?_, fun k i hk => ?_⟩, hH.lt⟩ <;> obtain ⟨h1, rfl⟩ := hi k i hk <;> rw [hH.cell, Nat.zero_add]
  · rw [h.op k h1, if_pos h1]
  · exact h.dst k h1
  · exact h.src k h1
  · exact h.off k h1
  · exact h.imm k h1
set_option maxRecDepth 10000 in
set_option maxHeartbeats 2000000 in
theorem sizes_walk (ctx n : Int) (w : World) (hG : Glob w) :
    Calls Tryd.prog 7 #[.int .i64 ctx, .int .i64 n] w fun e w' => e = .returned (.bool true) ∧ Below w.heap.size w w' := by
  by_cases h0 : n < 0
  · go_enter Tryd.func7, Tryd.ntmps7
    go_wp2_with (go_at_call 11; refine (known_any _ hG).mono ?_; rintro e W1 ⟨rfl, hB1⟩)
    go_ret
    exact ⟨rfl, hB1⟩
  by_cases h1 : 300 < n
  · go_enter Tryd.func7, Tryd.ntmps7
    go_wp2_with (go_at_call 11; refine (known_any _ hG).mono ?_; rintro e W1 ⟨rfl, hB1⟩)
    go_ret
    exact ⟨rfl, hB1⟩
  obtain ⟨m, rfl⟩ : ∃ m : Nat, n = m := ⟨n.toNat, by omega⟩
  have hm : m ≤ 300 := by omega
  obtain ⟨i0, hi, hz0, hz1, hz2⟩ := info_parts' info43
  have hr := run_make (P := Tryd.prog) w 22 43 i0 _ Tryd.underlying22 hi hz0 .i64 .i64 (m : Int) (m : Int) (by omega) (Int.le_refl _) (by rw [hz2]; omega) (by omega)
  rw [hz1, Int.toNat_natCast] at hr
  have hs0 := sz_made m
  have e0 : (Value.agg #[.int .i64 0, .int .i64 0, .int .i64 0, .int .i64 0, .int .u32 0]).cells = #[.int .i64 0, .int .i64 0, .int .i64 0, .int .i64 0, .int .u32 0] := rfl
  rw [e0] at hr
  obtain ⟨cs, hcs⟩ : ∃ cs, cs = madeCells #[.int .i64 0, .int .i64 0, .int .i64 0, .int .i64 0, .int .u32 0] (m * 5) := ⟨_, rfl⟩
  rw [← hcs] at hr hs0
  clear hcs e0 hi hz0 hz1 hz2
  have hB0 : Below w.heap.size w ((w.alloc (.cells cs 43)).alloc (.cells #[.int .i64 ctx, .slice (some ⟨w.heap.size, 0, none⟩) m m] 24)) := ((Below.refl _ _).alloc (Nat.le_refl _) _).alloc (by simp) _
  have hH0 : Has ((w.alloc (.cells cs 43)).alloc (.cells #[.int .i64 ctx, .slice (some ⟨w.heap.size, 0, none⟩) m m] 24)) w.heap.size cs 43 := has_old (has_new _ _ _ _ rfl)
  have hX0 : Has ((w.alloc (.cells cs 43)).alloc (.cells #[.int .i64 ctx, .slice (some ⟨w.heap.size, 0, none⟩) m m] 24)) (w.heap.size + 1) #[.int .i64 ctx, .slice (some ⟨w.heap.size, 0, none⟩) m m] 24 := has_new _ _ _ _ (by simp)
  go_enter Tryd.func7, Tryd.ntmps7
  go_wp2_with fail
  go_loopw [6] (fun iv wr => ∃ (k : Nat) (cs : Array Value), k ≤ m ∧ iv = .int .i64 k ∧ Sz m k cs ∧ Has wr w.heap.size cs 43 ∧ Has wr (w.heap.size + 1) #[.int .i64 ctx, .slice (some ⟨w.heap.size, 0, none⟩) m m] 24 ∧ Below w.heap.size w wr) (fun iv _ => m - (intOf iv).toNat)
  case atStart => exact ⟨0, cs, Nat.zero_le _, rfl, hs0, hH0, hX0, hB0⟩
  case round =>
    clear hs0 hH0 hX0 hB0 hr
    obtain ⟨k, cs, hk, rfl, hs, hH, hX, hB⟩ := hrel
    have y0 := hX.cell 0
    have y1 := hX.cell 1
    by_cases hlt : k < m
    · have hlt' : (k : Int) < m := by omega
      have c0 : wr.cell? ⟨w.heap.size, k * 5, none⟩ = some (.int .i64 0) := by rw [hH.cell, hs.op k hlt, if_neg (by omega)]
      have f0 := hH.free (k * 5)
      go_wp2_with fail
      go_roundw
      case rel =>
        have hE := Ex.set w.heap.size wr (k * 5) (.int .i64 24)
        exact ⟨k + 1, _, by omega, by go_num, hs.set hlt, hH.set (k * 5) (.int .i64 24), hX.ex hE (by omega), Below.ex hB hB.size hE (Nat.le_refl _)⟩
      case measure => simp [intOf]; omega
    · obtain rfl : k = m := by omega
      have hb := bytes_walk ctx _ _ wr (hs.prg (c := k) hH) (hG.below hB hG.size) (fun i hi => by rw [(List.mem_replicate.1 hi).2]; decide)
      clear hlt hk
      go_wp2_with fail
      refine hb.mono ?_
      rintro e W1 ⟨rfl, hB1⟩
      go_wp2_with fail
      go_ret
      exact ⟨rfl, hB.trans (hB1.mono hB.size)⟩
end Go.Proofs.YtoalchlokcphkaaDoor
