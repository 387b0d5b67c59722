/- merkle's Check. -/
import Derived.Test.YtcmkjgodgocdfaaDoorT6
namespace Go.Proofs.YtcmkjgodgocdfaaDoor
open Go.RowKit

def checkE (E : Int) (same : Bool) : Int := if E = 0 then (if same then 0 else 140) else E
set_option maxRecDepth 100000 in
set_option maxHeartbeats 1000000 in
theorem check_of (root leaf D : Dig) (i n E : Int) (pv : Value) (a : Option Addr) (m cap : Nat) (hpv : pv = .slice a m cap) (w : World) (hr : root.length = 32) (hl : leaf.length = 32) (hD : D.length = 32)
    (hup : ∀ w1, Below w.heap.size w w1 → Calls Tryd.prog 25 #[.agg (byteCells leaf), .int .i64 i, .int .i64 n, pv] w1 fun e w' => e = .returned (.tuple #[.agg (byteCells D), .int .i64 E]) ∧ Below w1.heap.size w1 w') :
    Calls Tryd.prog 27 #[.agg (byteCells root), .agg (byteCells leaf), .int .i64 i, .int .i64 n, pv] w fun e w' => e = .returned (.int .i64 (checkE E (D == root))) ∧ Below w.heap.size w w' := by
  subst hpv
  have hrs : (byteCells root).size = 32 := by rw [byteCells_size, hr]
  have hls : (byteCells leaf).size = 32 := by rw [byteCells_size, hl]
  have hDs : (byteCells D).size = 32 := by rw [byteCells_size, hD]
  have q : ∀ w, (Op.equalIn 10000 30 (.agg (byteCells D)) (.agg (byteCells root))).run Tryd.prog w = .ok (D == root) w := fun w => eq_dig D root hD hr w
  obtain ⟨sm, hsm⟩ : ∃ sm, (D == root) = sm := ⟨_, rfl⟩
  rw [hsm]
  simp only [hsm] at q
  clear hsm
  go_enter Tryd.func27, Tryd.ntmps27
  go_upto_region 1 with (fail)
  refine named (p := Code.wp _ _ _ _) ?_
  intro W0 hW0
  have hz0 : w.heap.size + 2 ≤ W0.heap.size := by rw [hW0]; simp
  have hB0 : Below w.heap.size w W0 := by
    rw [hW0]
    repeat (first | exact Below.refl _ _ | refine Below.alloc ?_ (by simp <;> omega) _)
  have x0 : Has W0 w.heap.size (byteCells root) 30 := by
    rw [hW0]; repeat (first | (refine has_new _ _ _ _ ?_; simp; done) | refine has_old ?_)
  have x1 : Has W0 (w.heap.size + 1) (byteCells leaf) 30 := by
    rw [hW0]; repeat (first | (refine has_new _ _ _ _ ?_; simp; done) | refine has_old ?_)
  clear hW0
  have hu := hup W0 hB0
  clear hup
  go_wp2_with (refine wpList_load_row rfl 30 _ rfl (w.heap.size + 1) rfl 30 (byteCells leaf) (0, 0) _ x1 Tryd.underlying30 rfl (by rw [hls]; kernel_rfl) ?_)
  refine hu.mono ?_
  clear hu
  rintro e W1 ⟨rfl, hB1⟩
  have hz1 := hB1.size
  have hn1 := has_new W1 (zeroCells 32) 30 W1.heap.size rfl
  go_upto_region 2 with (refine wpList_store_row rfl 30 _ _ rfl W1.heap.size (byteCells D) rfl rfl 30 _ hn1 (by rw [hDs]; kernel_rfl) (by rw [hDs, zeroCells_size]) (byteCells_one _) ?_)
  refine named (p := Code.wp _ _ _ _) ?_
  intro W2 hW2
  have hB2 : Below W1.heap.size W1 W2 := by
    rw [hW2]; exact ((Below.refl _ _).alloc (Nat.le_refl _) _).trans ⟨rfl, rfl, rfl, by simp, fun j hj => setRow_other _ _ _ _ (by omega)⟩
  have y0 : Has W2 W1.heap.size (byteCells D) 30 := by rw [hW2]; exact setRow_heap _ _ _ _ _ _ hn1
  clear hW2 hn1
  have y1 := (x0.below hB1 x0.lt).below hB2 (Nat.lt_of_lt_of_le x0.lt hz1)
  have hBw : Below w.heap.size w W2 := (hB0.trans (hB1.mono (by omega))).trans (hB2.mono (by omega))
  by_cases hE : E = 0
  · subst hE
    cases sm with
    | true =>
      go_wp2_with (first
        | refine wpList_load_row rfl 30 _ rfl W1.heap.size rfl 30 (byteCells D) (0, 0) _ y0 Tryd.underlying30 rfl (by rw [hDs]; kernel_rfl) ?_
        | refine wpList_load_row rfl 30 _ rfl w.heap.size rfl 30 (byteCells root) (0, 0) _ y1 Tryd.underlying30 rfl (by rw [hrs]; kernel_rfl) ?_)
      go_ret
      exact ⟨rfl, hBw⟩
    | false =>
      go_wp2_with (first
        | refine wpList_load_row rfl 30 _ rfl W1.heap.size rfl 30 (byteCells D) (0, 0) _ y0 Tryd.underlying30 rfl (by rw [hDs]; kernel_rfl) ?_
        | refine wpList_load_row rfl 30 _ rfl w.heap.size rfl 30 (byteCells root) (0, 0) _ y1 Tryd.underlying30 rfl (by rw [hrs]; kernel_rfl) ?_)
      go_ret
      exact ⟨rfl, hBw⟩
  · go_wp2
    go_ret
    exact ⟨by unfold checkE; rw [if_neg hE]; rfl, hBw⟩
end Go.Proofs.YtcmkjgodgocdfaaDoor
