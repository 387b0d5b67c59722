/- Encode, and the example that all laws know. -/
import Derived.Test.YtoalchlokcphkaaDoorD3
namespace Go.Proofs.YtoalchlokcphkaaDoor
open Go.RowKit

theorem chkE_zero {ctx : Int} {l : List Ins} (h : chkE ctx l = 0) : (0 ≤ ctx ∧ ctx ≤ 256) ∧ l.length ≤ 256 ∧ ∀ i ∈ l, i.may = true := by
  unfold chkE at h
  split at h
  · cases h
  · split at h
    · split at h
      · cases h
      · rename_i h1 h2 h3
        exact ⟨by omega, by omega, fun i hi => List.all_eq_true.1 h2 i hi⟩
    · cases h
set_option maxHeartbeats 1000000 in
theorem encode_ok (ctx : Int) (sv : Value) (l : List Ins) (w : World) (hP : Prg w sv l) (hG : Glob w) (hu : ∀ i ∈ l, i.imm < 4294967296) (hE : chkE ctx l = 0) :
    Calls Tryd.prog 13 #[.agg #[.int .i64 ctx, sv]] w fun e w' => ∃ v, e = .returned (.tuple #[v, .int .i64 0]) ∧ Own w' v (progL ctx.toNat l) ∧ (∀ k, v.ownBlock = some k → w.heap.size ≤ k) ∧ Below w.heap.size w w' := by
  obtain ⟨⟨h1, h2⟩, h3, h4⟩ := chkE_zero hE
  obtain ⟨c, rfl⟩ : ∃ c : Nat, ctx = c := ⟨ctx.toNat, by omega⟩
  obtain ⟨W0, hW0⟩ : ∃ W0, W0 = w.alloc (.cells #[.int .i64 c, sv] 24) := ⟨_, rfl⟩
  have hB0 : Below w.heap.size w W0 := by rw [hW0]; exact (Below.refl _ _).alloc (Nat.le_refl _) _
  have hP0 := hP.below hB0
  have hG0 := hG.below hB0 hG.size
  have hX0 : Has W0 w.heap.size #[.int .i64 c, sv] 24 := by rw [hW0]; exact has_new _ _ _ _ rfl
  have hck := check_any c sv l W0 hP0 hG0 (by omega)
  rw [hE] at hck
  have x0 := hX0.cell 0
  have x1 := hX0.cell 1
  obtain ⟨sa, sc, rfl⟩ := hP.slice
  rw [hW0] at hck hB0 hP0 hX0 x0 x1
  clear hW0 hG0 hE
  go_enter Tryd.func13, Tryd.ntmps13
  go_wp2_with fail
  refine hck.mono ?_
  rintro e W1 ⟨rfl, hB1⟩
  have hX1 := hX0.below hB1 hX0.lt
  have hP1 := hP0.below hB1
  have hBw1 : Below w.heap.size w W1 := hB0.trans (hB1.mono (by simp))
  have x0 := hX1.cell 0
  have x1 := hX1.cell 1
  clear hB1 hck hX0 hP0 hB0
  go_wp2_with fail
  refine (laid_any c _ l W1 hP1 h3 (by omega) h4 hu).mono ?_
  rintro e W2 ⟨v, rfl, hO, hn, hB2⟩
  go_wp2_with fail
  go_ret2
  exact ⟨v, rfl, hO, fun k hk => Nat.le_trans hBw1.size (hn k hk), hBw1.trans (hB2.mono hBw1.size)⟩
set_option maxHeartbeats 1000000 in
theorem encode_bad (ctx : Int) (sv : Value) (l : List Ins) (w : World) (hP : Prg w sv l) (hG : Glob w) (hl : l.length ≤ 1000000000) (hE : chkE ctx l ≠ 0) :
    Calls Tryd.prog 13 #[.agg #[.int .i64 ctx, sv]] w fun e w' => e = .returned (.tuple #[.slice none 0 0, .int .i64 (chkE ctx l)]) ∧ Below w.heap.size w w' := by
  obtain ⟨W0, hW0⟩ : ∃ W0, W0 = w.alloc (.cells #[.int .i64 ctx, sv] 24) := ⟨_, rfl⟩
  have hB0 : Below w.heap.size w W0 := by rw [hW0]; exact (Below.refl _ _).alloc (Nat.le_refl _) _
  have hP0 := hP.below hB0
  have hG0 := hG.below hB0 hG.size
  have hck := check_any ctx sv l W0 hP0 hG0 hl
  obtain ⟨sa, sc, rfl⟩ := hP.slice
  rw [hW0] at hck hB0
  have hE' : (chkE ctx l != 0) = true := by simpa using hE
  clear hW0 hG0 hE hP0
  go_enter Tryd.func13, Tryd.ntmps13
  go_wp2_with fail
  refine hck.mono ?_
  rintro e W1 ⟨rfl, hB1⟩
  have hBw1 : Below w.heap.size w W1 := hB0.trans (hB1.mono (by simp))
  clear hB1 hck hB0
  go_wp2_with fail
  go_ret2
  exact ⟨rfl, hBw1⟩
end Go.Proofs.YtoalchlokcphkaaDoor
