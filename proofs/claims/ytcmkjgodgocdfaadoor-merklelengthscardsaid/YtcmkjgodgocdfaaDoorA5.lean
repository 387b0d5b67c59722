/- A state's digest; what is laid behind the bytes. -/
import Derived.Test.YtcmkjgodgocdfaaDoorA4
namespace Go.Proofs.YtcmkjgodgocdfaaDoor
open Go.RowKit
attribute [local go_sem] wr_add wm_add wv_nonneg bm_zx bm_lo

theorem cells_eq (cs : Array Value) (l : List UInt8) (n : Nat) (hn : l.length = n) (hs : cs.size = n) (h : ∀ j, j < n → cs[j]? = some (.int .u8 (bv (l[j]?.getD 0)))) : cs = byteCells l := by
  apply Array.ext_getElem?
  intro j
  by_cases hj : j < n
  · rw [h j hj, byteCells_at l j (by omega)]
  · rw [Array.getElem?_eq_none (by omega), Array.getElem?_eq_none (by rw [byteCells_size]; omega)]

theorem byteCells_one (l : List UInt8) : (byteCells l).all (·.oneCell') = true := by
  rw [Array.all_eq_true]
  intro i hi
  simp [byteCells, Value.oneCell']

/-- Forty bytes' worth of rounds of 'lay', one behind the other. -/
theorem Upd.join {cs c1 c2 : Array Value} {n m : Nat} {f g : Nat → Value} (h : Upd cs c1 0 n f) (k : Upd c1 c2 n m g) (hg : ∀ j, j < m → g j = f (n + j)) : Upd cs c2 0 (n + m) f := by
  refine ⟨k.size.trans h.size, fun j => ?_⟩
  rw [k.at_ j]
  by_cases e : n ≤ j ∧ j < n + m
  · rw [if_pos e, if_pos (by omega), hg _ (by omega)]; congr 2; omega
  · rw [if_neg e, h.at_ j]
    by_cases e2 : 0 ≤ j ∧ j < 0 + n
    · rw [if_pos e2, if_pos (by omega)]
    · rw [if_neg e2, if_neg (by omega)]

set_option maxRecDepth 100000 in
set_option maxHeartbeats 1000000 in
theorem digest_any (s : St) (b t : Nat) (cs : Array Value) (w : World) (hh : Has w b cs t) (hs : StAt cs s) :
    Calls Tryd.prog 62 #[.pointer (some ⟨b, 0, none⟩)] w fun e w' => e = .returned (.agg (byteCells (digL s))) ∧ Below w.heap.size w w' := by
  have hlt := hh.lt
  go_enter Tryd.func62, Tryd.ntmps62
  go_wp2_with fail
  refine named (p := Code.wp _ _ _ _) ?_
  intro W0 hW0
  have hB : Below w.heap.size w W0 := by
    rw [hW0]
    repeat (first | exact Below.refl _ _ | refine Below.alloc ?_ (by simp) _)
  have h2 : Has W0 w.heap.size (Array.replicate 32 (.int .u8 0)) 30 := by
    rw [hW0]; exact has_old (has_new _ _ _ _ (by simp))
  have h3 : Has W0 (w.heap.size + 1) (Array.replicate 32 (.int .u8 0)) 30 := by
    rw [hW0]; exact has_new _ _ _ _ (by simp)
  clear hW0
  have hb0 := hh.below hB hlt
  go_loopw [7] (fun i wr => ∃ k : Nat, k ≤ 8 ∧ i = .int .i64 k ∧ Ex (w.heap.size + 1) W0 wr ∧ ∃ c, Has wr (w.heap.size + 1) c 30 ∧ Upd (Array.replicate 32 (.int .u8 0)) c 0 (4 * k) (fun j => .int .u8 (bv (digB s j)))) (fun i _ => 8 - (intOf i).toNat)
  case atStart => exact ⟨0, by omega, rfl, Ex.refl _ _, _, h3, Upd.zero _ _ _⟩
  case round =>
    obtain ⟨k, hk, rfl, hE, c, hc, hU⟩ := hrel
    by_cases hk8 : k < 8
    · have i1 : (k : Int) < 8 := by omega
      have d1 : wr.cell? ⟨b, k, none⟩ = some (.int .u32 (wv (s.get k))) := by
        rw [(hb0.ex hE (by omega)).cell]; exact hs k hk8
      have al : Tryd.prog.arrayLen 30 = 32 := by kernel_rfl
      have l0 : (0 : Int) ≤ 4 * (k : Int) := by omega
      have l1 : 4 * (k : Int) ≤ 4 * (k : Int) + 4 := by omega
      have l2 : 4 * (k : Int) + 4 ≤ 32 := by omega
      go_wp2_with fail
      go_quiet (fail)
      go_wp2_with fail
      have hcs : c.size = 32 := by rw [hU.size]; simp
      refine (lay32_any (s.get k) 4 _ _ _ 30 c _ (by omega) (by omega) (hc.drewN nq)).mono ?_
      rintro e w' ⟨rfl, hE1, _, c1, hc1, hU1⟩
      go_wp2
      go_roundw
      case rel => exact ⟨k + 1, by omega, by go_num, (hE.trans (Ex.drewN _ _ nq)).trans hE1, c1, hc1, by
        have := hU.join hU1 (fun j hj => by unfold be32 digB; rw [show (4 * k + j) / 4 = k by omega, show (4 * k + j) % 4 = j by omega]); rwa [show 4 * k + 4 = 4 * (k + 1) by omega] at this⟩
      case measure => simp [intOf]; omega
    · have e8 : k = 8 := by omega
      subst e8
      have hcs : c.size = 32 := by rw [hU.size]; simp
      have hce : c = byteCells (digL s) := cells_eq c (digL s) 32 (digL_length s) hcs (fun j hj => by rw [hU.at_ j, if_pos (by omega), digL_get s j hj]; rfl)
      subst hce
      have h2r := h2.ex hE (by omega)
      have hBr : Below w.heap.size w wr := Ex.to_below hB hB.size hE (by omega)
      clear h2 h3 hb0
      go_wp2_with (first
        | refine wpList_load_row rfl 30 _ rfl (w.heap.size + 1) rfl 30 _ (0, 0) _ hc Tryd.underlying30 rfl (by rw [hcs]; kernel_rfl) ?_
        | refine wpList_store_row rfl 30 _ _ rfl w.heap.size _ rfl rfl 30 _ h2r (by rw [hcs]; kernel_rfl) (by rw [hcs]; simp) (byteCells_one _) ?_)
      refine bodyPost_ret (results_cell_row rfl _ _ w.heap.size 30 _ (0, 0) _ rfl (setRow_heap _ _ _ _ _ _ h2r) Tryd.underlying30 rfl (by rw [hcs]; kernel_rfl)) rfl ?_
      exact ⟨rfl, hBr.trans ⟨rfl, rfl, rfl, by simp, fun j hj => setRow_other _ _ _ _ (by omega)⟩⟩

def zeroCells (n : Nat) : Array Value := Array.replicate n (.int .u8 0)
theorem zeroCells_size (n : Nat) : (zeroCells n).size = n := by simp [zeroCells]
theorem zeroCells_at (n j : Nat) (h : j < n) : (zeroCells n)[j]? = some (.int .u8 0) := by simp [zeroCells, h]
theorem info5 : (Tryd.prog.info? 5).map (fun i => (i.zero, i.size, i.bytes)) = some (some (.int .u8 0), 1, 1) := by kernel_rfl
theorem made_one (z : Value) (n : Nat) : madeCells #[z] n = Array.replicate n z := by
  apply Array.ext
  · simp [madeCells]
  · intro i h1 h2
    simp [madeCells, Nat.mod_one]
theorem make_bytes (c : Int) (n : Nat) (hc : c = (n : Int)) (hn : n ≤ 16777216) (w : World) :
    (Instr.makeSlice 77 (.int .i64 c) (.int .i64 c)).run Tryd.prog w = .ok (.slice (some ⟨w.heap.size, 0, none⟩) n n) (w.alloc (.cells (zeroCells n) 5)) := by
  subst hc
  obtain ⟨i0, hi, hz0, hz1, hz2⟩ := info_parts info5
  rw [run_makeSlice w 77 5 i0 (.int .u8 0) Tryd.underlying77 hi hz0 .i64 .i64 n n (by omega) (by omega) (by rw [hz1]; omega) (by rw [hz2]; omega) (by omega), hz1]
  simp only [Int.toNat_natCast, Nat.mul_one, Value.cells, made_one, zeroCells]

set_option maxRecDepth 100000 in
set_option maxHeartbeats 1000000 in
theorem tail_any (n : Nat) (hn : n < 1000000000000) (w : World) :
    Calls Tryd.prog 61 #[.int .i64 (n : Int)] w fun e w' => Below w.heap.size w w' ∧ w.heap.size < w'.heap.size ∧ 
      e = .returned (.slice (some ⟨w.heap.size, 0, none⟩) (tailL n).length (tailL n).length) ∧ Has w' w.heap.size (byteCells (tailL n)) 5 := by
  obtain ⟨z, hz⟩ : ∃ z : Nat, Hid (z = (119 - n % 64) % 64) := ⟨_, rfl⟩
  have e1 : (119 - (n : Int) % 64) % 64 = (z : Int) := by have := hz.out; omega
  have z1 : z < 64 := by have := hz.out; omega
  have hmk := fun w => make_bytes (1 + (z : Int) + 8) (z + 9) (by omega) (by omega) w
  have l0 : (0 : Int) ≤ 1 + (z : Int) := by omega
  go_enter Tryd.func61, Tryd.ntmps61
  go_wp2_with fail
  rw [show z + 9 - (1 + z) = 8 by omega, show ((n : Int) * 8) = nv (n * 8) by unfold nv; omega]
  refine (lay64_any (n * 8) 8 _ _ _ 5 _ _ (by omega) (by simp [zeroCells_size]; omega) (has_new _ _ _ _ rfl)).mono ?_
  rintro e w' ⟨rfl, hE, hsz, c1, hc1, hU⟩
  go_wp2
  go_ret
  have hl : (tailL n).length = z + 9 := by rw [tailL_length]; have := hz.out; omega
  have hB : Below w.heap.size w w' := Ex.to_below ((Below.refl _ _).alloc (Nat.le_refl _) _) (by simp) hE (Nat.le_refl _)
  refine ⟨hB, by have := hE.size; simp at this; omega, by rw [hl]; rfl, ?_⟩
  have hce : c1 = byteCells (tailL n) := by
    refine cells_eq c1 _ (z + 9) hl (by rw [hU.size]; simp [zeroCells_size]) (fun j hj => ?_)
    rw [hU.at_ j]
    unfold tailL
    rw [← hz.out]
    by_cases h8 : 1 + z ≤ j ∧ j < 1 + z + 8
    · rw [if_pos h8]
      obtain ⟨i, rfl⟩ : ∃ i, j = i + z + 1 := ⟨j - z - 1, by omega⟩
      rw [List.getElem?_cons_succ, List.getElem?_append_right (by simp), show i + z + 1 - (1 + z) = i by omega]
      simp [show i < 8 by omega, be64]
    · rw [if_neg h8, Array.getElem?_setIfInBounds, zeroCells_size]
      by_cases h0 : j = 0
      · subst h0
        rw [if_pos rfl, if_pos (by omega)]
        rfl
      · rw [if_neg (by omega), zeroCells_at _ _ (by omega)]
        obtain ⟨i, rfl⟩ : ∃ i, j = i + 1 := ⟨j - 1, by omega⟩
        rw [List.getElem?_cons_succ, List.getElem?_append_left (by simp; omega)]
        simp [show i < z by omega, bv]
  rw [← hce]; exact hc1
end Go.Proofs.YtcmkjgodgocdfaaDoor
