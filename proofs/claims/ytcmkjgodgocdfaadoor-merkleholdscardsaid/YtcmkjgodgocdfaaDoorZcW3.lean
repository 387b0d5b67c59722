/- MerkleUps: the law's walk. -/
import Derived.Test.YtcmkjgodgocdfaaDoorZq5
namespace Go.Proofs.YtcmkjgodgocdfaaDoor
open Go.RowKit

theorem check_any (root leaf : Dig) (i n : Int) (pv : Value) (ds : List Dig) (w : World) (hr : root.length = 32) (hl : leaf.length = 32) (hp : Digs w pv ds) (hg : Glob w) :
    Calls Tryd.prog 27 #[.agg (byteCells root), .agg (byteCells leaf), .int .i64 i, .int .i64 n, pv] w fun e w' => e = .returned (.int .i64 (checkE (upE i n ds.length) (upV leaf i n ds == root))) ∧ Below w.heap.size w w' := by
  obtain ⟨a, cap, hpv⟩ := hp.slice
  exact check_of root leaf (upV leaf i n ds) i n (upE i n ds.length) pv a ds.length cap hpv w hr hl (upV_len leaf i n ds) (fun w1 hw1 => up_any leaf i n pv ds w1 hl (hp.below hw1) (hg.below hw1 hg.size))
set_option maxRecDepth 100000 in
set_option maxHeartbeats 1000000 in
theorem ups_walk (leaf root : Dig) (i n : Int) (pv : Value) (ds : List Dig) (w : World) (hl : leaf.length = 32) (hr : root.length = 32) (hp : Digs w pv ds) (hg : Glob w) :
    Calls Tryd.prog 6 #[.agg (byteCells leaf), .int .i64 i, .int .i64 n, pv, .agg (byteCells root)] w fun e w' => e = .returned (.bool true) ∧ Below w.heap.size w w' := by
  have hls : (byteCells leaf).size = 32 := by rw [byteCells_size, hl]
  have hrs : (byteCells root).size = 32 := by rw [byteCells_size, hr]
  have hD32 := upV_len leaf i n ds
  have hup := fun w hp hg => up_any leaf i n pv ds w hl hp hg
  have hrf := fun w hp hg => refup_any leaf i n pv ds w hl hp hg
  have hck := fun r w hr hp hg => check_any r leaf i n pv ds w hr hl hp hg
  have hbad : ¬ upE i n ds.length = 0 → upV leaf i n ds = zero32 := fun h => by unfold upV; rw [if_neg h]
  obtain ⟨a, cap, rfl⟩ := hp.slice
  obtain ⟨D, hD⟩ : ∃ D, upV leaf i n ds = D := ⟨_, rfl⟩
  obtain ⟨E, hE⟩ : ∃ E, upE i n ds.length = E := ⟨_, rfl⟩
  obtain ⟨m, hm⟩ : ∃ m, ds.length = m := ⟨_, rfl⟩
  simp only [hD, hm] at hup hrf hck hbad hD32 hp ⊢
  rw [hm] at hE
  simp only [hE] at hup hrf hck hbad
  clear hD hE
  have hDs : (byteCells D).size = 32 := by rw [byteCells_size, hD32]
  have hgs := hg.size
  go_enter Tryd.func6, Tryd.ntmps6
  go_upto_region 1 with (fail)
  refine named (p := Code.wp _ _ _ _) ?_
  intro W0 hW0
  have hz0 : w.heap.size + 2 ≤ W0.heap.size := by rw [hW0]; simp
  have hB0 : Below w.heap.size w W0 := by
    rw [hW0]
    repeat (first | exact Below.refl _ _ | refine Below.alloc ?_ (by simp <;> omega) _)
  have x0 : Has W0 w.heap.size (byteCells leaf) 30 := by
    rw [hW0]; repeat (first | (refine has_new _ _ _ _ ?_; simp; done) | refine has_old ?_)
  have x1 : Has W0 (w.heap.size + 1) (byteCells root) 30 := by
    rw [hW0]; repeat (first | (refine has_new _ _ _ _ ?_; simp; done) | refine has_old ?_)
  clear hW0
  have hg0 := hg.below hB0 hg.size
  by_cases hlong : 40 < m
  · have hwk := works_any W0 hg0
    go_wp2_with (go_at_call 13; refine hwk.mono ?_; rintro e W2 ⟨rfl, hB2⟩)
    go_ret
    exact ⟨rfl, hB0.trans (hB2.mono hB0.size)⟩
  · have hu := hup W0 (hp.below hB0) hg0
    go_wp2_with (refine wpList_load_row rfl 30 _ rfl w.heap.size rfl 30 (byteCells leaf) (0, 0) _ x0 Tryd.underlying30 rfl (by rw [hls]; kernel_rfl) ?_)
    refine hu.mono ?_
    clear hu
    rintro e W1 ⟨rfl, hB1⟩
    have hn1 := has_new W1 (zeroCells 32) 30 W1.heap.size rfl
    go_upto_region 4 with (refine wpList_store_row rfl 30 _ _ rfl W1.heap.size (byteCells D) rfl rfl 30 _ hn1 (by rw [hDs]; kernel_rfl) (by rw [hDs, zeroCells_size]) (byteCells_one _) ?_)
    refine named (p := Code.wp _ _ _ _) ?_
    intro W2 hW2
    have hB2 : Below W1.heap.size W1 W2 := by
      rw [hW2]; exact ((Below.refl _ _).alloc (Nat.le_refl _) _).trans ⟨rfl, rfl, rfl, by simp, fun j hj => setRow_other _ _ _ _ (by omega)⟩
    have y0 : Has W2 W1.heap.size (byteCells D) 30 := by rw [hW2]; exact setRow_heap _ _ _ _ _ _ hn1
    clear hW2 hn1
    have hz1 := hB1.size
    have hB02 : Below W0.heap.size W0 W2 := hB1.trans (hB2.mono hz1)
    have hg2 := hg0.below hB02 hg0.size
    have u0 := x0.below hB02 x0.lt
    have hrf2 := hrf W2 ((hp.below hB0).below (hB02.mono (Nat.le_refl _))) hg2
    go_wp2_with (refine wpList_load_row rfl 30 _ rfl w.heap.size rfl 30 (byteCells leaf) (0, 0) _ u0 Tryd.underlying30 rfl (by rw [hls]; kernel_rfl) ?_)
    refine hrf2.mono ?_
    clear hrf2
    rintro e W3 ⟨rfl, hB3⟩
    have hn3 := has_new W3 (zeroCells 32) 30 W3.heap.size rfl
    go_upto_region 5 with (refine wpList_store_row rfl 30 _ _ rfl W3.heap.size (byteCells D) rfl rfl 30 _ hn3 (by rw [hDs]; kernel_rfl) (by rw [hDs, zeroCells_size]) (byteCells_one _) ?_)
    refine named (p := Code.wp _ _ _ _) ?_
    intro W4 hW4
    have hB4 : Below W3.heap.size W3 W4 := by
      rw [hW4]; exact ((Below.refl _ _).alloc (Nat.le_refl _) _).trans ⟨rfl, rfl, rfl, by simp, fun j hj => setRow_other _ _ _ _ (by omega)⟩
    have y1 : Has W4 W3.heap.size (byteCells D) 30 := by rw [hW4]; exact setRow_heap _ _ _ _ _ _ hn3
    clear hW4 hn3
    have hz3 := hB3.size
    have hz2 := y0.lt
    have hB24 : Below W2.heap.size W2 W4 := hB3.trans (hB4.mono hz3)
    have hB04 : Below W0.heap.size W0 W4 := hB02.trans (hB24.mono (by omega))
    have v0 := x0.below hB04 x0.lt
    have v1 := x1.below hB04 x1.lt
    have v2 := y0.below hB24 y0.lt
    have hg4 := hg0.below hB04 hg0.size
    have hp4 := (hp.below hB0).below hB04
    have hc4 := hck root W4 hr hp4 hg4
    go_wp2_with (first
      | refine wpList_load_row rfl 30 _ rfl w.heap.size rfl 30 (byteCells leaf) (0, 0) _ v0 Tryd.underlying30 rfl (by rw [hls]; kernel_rfl) ?_
      | refine wpList_load_row rfl 30 _ rfl (w.heap.size + 1) rfl 30 (byteCells root) (0, 0) _ v1 Tryd.underlying30 rfl (by rw [hrs]; kernel_rfl) ?_)
    refine hc4.mono ?_
    clear hc4
    rintro e W5 ⟨rfl, hB5⟩
    have hB05 : Below W0.heap.size W0 W5 := hB04.trans (hB5.mono (by have := hB04.size; omega))
    have r0 := v0.below hB5 v0.lt
    have r1 := v1.below hB5 v1.lt
    have r2 := v2.below hB5 v2.lt
    have r3 := y1.below hB5 y1.lt
    have hg5 := hg0.below hB05 hg0.size
    have hp5 := (hp.below hB0).below hB05
    have hBw5 : Below w.heap.size w W5 := hB0.trans (hB05.mono (by omega))
    clear hup hrf x0 x1 u0 v0 v1 v2 y0 y1 hB02 hB24 hB04 hB05 hB1 hB2 hB3 hB4 hB5 hB0
    by_cases hE : E = 0
    · subst hE
      have hq : ∀ w, (Op.equalIn 10000 30 (.agg (byteCells D)) (.agg (byteCells D))).run Tryd.prog w = .ok true w := fun w => by have := eq_dig D D hD32 hD32 w; rwa [show (D == D) = true by simp] at this
      have hcD := hck D W5 hD32 hp5 hg5
      rw [show checkE 0 (D == D) = 0 by simp [checkE]] at hcD
      have hq2 : ∀ w, (Op.equalIn 10000 30 (.agg (byteCells root)) (.agg (byteCells D))).run Tryd.prog w = .ok (D == root) w := fun w => by have := eq_dig root D hr hD32 w; rwa [show (root == D) = (D == root) from BEq.comm] at this
      obtain ⟨sm, hsm⟩ : ∃ sm, (D == root) = sm := ⟨_, rfl⟩
      rw [hsm]
      simp only [hsm] at hq2
      clear hsm hck hbad
      cases sm with
      | true =>
        rw [show checkE 0 true = 0 from rfl]
        go_wp2_with (first
          | refine wpList_load_row_if (by rfl) 30 _ rfl W1.heap.size rfl 30 (byteCells D) (0, 0) _ r2 Tryd.underlying30 rfl (by rw [hDs]; kernel_rfl) ?_
          | refine wpList_load_row_if (by rfl) 30 _ rfl W3.heap.size rfl 30 (byteCells D) (0, 0) _ r3 Tryd.underlying30 rfl (by rw [hDs]; kernel_rfl) ?_
          | refine wpList_load_row_if (by rfl) 30 _ rfl (w.heap.size + 1) rfl 30 (byteCells root) (0, 0) _ r1 Tryd.underlying30 rfl (by rw [hrs]; kernel_rfl) ?_
          | refine wpList_load_row_if (by rfl) 30 _ rfl w.heap.size rfl 30 (byteCells leaf) (0, 0) _ r0 Tryd.underlying30 rfl (by rw [hls]; kernel_rfl) ?_
          | (go_at_call 20; refine (num_any _ _).mono ?_; rintro e w' ⟨rfl, hw⟩; obtain rfl := hw.symm)
          | (go_at_call 27; refine hcD.mono ?_; rintro e W6 ⟨rfl, hB6⟩; have hwk := works_any W6 (hg5.below hB6 hg5.size))
          | (go_at_call 13; refine hwk.mono ?_; rintro e W7 ⟨rfl, hB7⟩))
        go_ret
        exact ⟨rfl, (hBw5.trans (hB6.mono hBw5.size)).trans (hB7.mono (by have := hB6.size; have := hBw5.size; omega))⟩
      | false =>
        rw [show checkE 0 false = 140 from rfl]
        go_wp2_with (first
          | refine wpList_load_row_if (by rfl) 30 _ rfl W1.heap.size rfl 30 (byteCells D) (0, 0) _ r2 Tryd.underlying30 rfl (by rw [hDs]; kernel_rfl) ?_
          | refine wpList_load_row_if (by rfl) 30 _ rfl W3.heap.size rfl 30 (byteCells D) (0, 0) _ r3 Tryd.underlying30 rfl (by rw [hDs]; kernel_rfl) ?_
          | refine wpList_load_row_if (by rfl) 30 _ rfl (w.heap.size + 1) rfl 30 (byteCells root) (0, 0) _ r1 Tryd.underlying30 rfl (by rw [hrs]; kernel_rfl) ?_
          | refine wpList_load_row_if (by rfl) 30 _ rfl w.heap.size rfl 30 (byteCells leaf) (0, 0) _ r0 Tryd.underlying30 rfl (by rw [hls]; kernel_rfl) ?_
          | (go_at_call 20; refine (num_any _ _).mono ?_; rintro e w' ⟨rfl, hw⟩; obtain rfl := hw.symm)
          | (go_at_call 27; refine hcD.mono ?_; rintro e W6 ⟨rfl, hB6⟩; have hwk := works_any W6 (hg5.below hB6 hg5.size))
          | (go_at_call 13; refine hwk.mono ?_; rintro e W7 ⟨rfl, hB7⟩))
        go_ret
        exact ⟨rfl, (hBw5.trans (hB6.mono hBw5.size)).trans (hB7.mono (by have := hB6.size; have := hBw5.size; omega))⟩
    · have hD0 := hbad hE
      have hq : ∀ w, (Op.equalIn 10000 30 (.agg (byteCells D)) (.agg #[.int .u8 0, .int .u8 0, .int .u8 0, .int .u8 0, .int .u8 0, .int .u8 0, .int .u8 0, .int .u8 0, .int .u8 0, .int .u8 0, .int .u8 0, .int .u8 0, .int .u8 0, .int .u8 0, .int .u8 0, .int .u8 0, .int .u8 0, .int .u8 0, .int .u8 0, .int .u8 0, .int .u8 0, .int .u8 0, .int .u8 0, .int .u8 0, .int .u8 0, .int .u8 0, .int .u8 0, .int .u8 0, .int .u8 0, .int .u8 0, .int .u8 0, .int .u8 0])).run Tryd.prog w = .ok true w := fun w => by
        rw [hD0]
        have := eq_dig zero32 zero32 rfl rfl w
        rwa [show (zero32 == zero32) = true by simp] at this
      have hwk := works_any W5 hg5
      rw [show ∀ b, checkE E b = E from fun b => by unfold checkE; rw [if_neg hE]]
      clear hD0 hbad hck
      go_wp2_with (first
        | refine wpList_load_row_if (by rfl) 30 _ rfl W1.heap.size rfl 30 (byteCells D) (0, 0) _ r2 Tryd.underlying30 rfl (by rw [hDs]; kernel_rfl) ?_
        | refine wpList_load_row_if (by rfl) 30 _ rfl W3.heap.size rfl 30 (byteCells D) (0, 0) _ r3 Tryd.underlying30 rfl (by rw [hDs]; kernel_rfl) ?_
        | refine wpList_load_row_if (by rfl) 30 _ rfl (w.heap.size + 1) rfl 30 (byteCells root) (0, 0) _ r1 Tryd.underlying30 rfl (by rw [hrs]; kernel_rfl) ?_
        | refine wpList_load_row_if (by rfl) 30 _ rfl w.heap.size rfl 30 (byteCells leaf) (0, 0) _ r0 Tryd.underlying30 rfl (by rw [hls]; kernel_rfl) ?_
        | (go_at_call 20; refine (num_any _ _).mono ?_; rintro e w' ⟨rfl, hw⟩; obtain rfl := hw.symm)
        | (go_at_call 13; refine hwk.mono ?_; rintro e W7 ⟨rfl, hB7⟩))
      go_ret
      exact ⟨rfl, hBw5.trans (hB7.mono hBw5.size)⟩
end Go.Proofs.YtcmkjgodgocdfaaDoor
