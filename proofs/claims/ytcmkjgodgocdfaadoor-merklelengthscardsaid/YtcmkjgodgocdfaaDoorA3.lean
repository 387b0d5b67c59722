/- sha.spread: the 64 words of a block. -/
import Derived.Test.YtcmkjgodgocdfaaDoorA2
import Derived.Deep.RegionHeld3
namespace Go.Proofs.YtcmkjgodgocdfaaDoor
open Go.RowKit
attribute [local go_sem] wr_add wm_add wm_shl wm_shr wm_and wm_xor wm_or wv_nonneg bm_zx bm_lo wm_shl8 wm_shr8

/-- A block's bytes as cells. -/
def byteCells (bs : List UInt8) : Array Value := (bs.map fun b => Value.int .u8 (bv b)).toArray
theorem byteCells_size (bs : List UInt8) : (byteCells bs).size = bs.length := by simp [byteCells]
theorem byteCells_at (bs : List UInt8) (j : Nat) (h : j < bs.length) : (byteCells bs)[j]? = some (.int .u8 (bv (bs[j]?.getD 0))) := by
  simp [byteCells, h]
/-- The words of a block as cells. -/
def wordAt (bs : List UInt8) (j : Nat) : Value := .int .u32 (wv (Wat bs j))

theorem read4_any (l : List UInt8) (b o cap : Nat) (w : World) (hl : l.length = 4)
    (hc : ∀ i, i < 4 → w.cell? ⟨b, o + i, none⟩ = some (.int .u8 (bv (l[i]?.getD 0)))) :
    Calls Tryd.prog 75 #[.slice (some ⟨b, o, none⟩) 4 cap, .int .i64 8] w fun e w' => e = .returned (.int .u32 (wv (rd l))) ∧ w' = w := by
  have := read32_any l b o cap w (by omega) (by rw [hl]; exact hc)
  rw [hl] at this
  exact this
theorem four_len (bs : List UInt8) (hb : bs.length = 64) (k : Nat) (h : k < 16) : (four bs k).length = 4 := by
  simp [four, hb]; omega
theorem four_at (bs : List UInt8) (k i : Nat) (h : i < 4) : (four bs k)[i]?.getD 0 = bs[4 * k + i]?.getD 0 := by
  unfold four
  rw [List.getElem?_take_of_lt h, List.getElem?_drop]
theorem alloc_get (w : World) (o : Obj) (k : Nat) : (w.alloc o).heap[k]? = if k = w.heap.size then some o else w.heap[k]? := by
  show (w.heap.push o)[k]? = _
  rw [Array.getElem?_push]
theorem has_new (w : World) (cs : Array Value) (t b : Nat) (h : b = w.heap.size) : Has (w.alloc (.cells cs t)) b cs t := by
  unfold Has; rw [alloc_get, if_pos h]
theorem has_old {w : World} {o : Obj} {cs : Array Value} {t b : Nat} (h : Has w b cs t) : Has (w.alloc o) b cs t := by
  have := h.lt
  unfold Has; rw [alloc_get, if_neg (by omega)]; exact h
theorem Has.one {w : World} {b t : Nat} {v : Value} (h : Has w b #[v] t) : w.cell? ⟨b, 0, none⟩ = some v := h.cell 0
theorem cell_set_off {w : World} {b p q : Nat} {v : Value} {x : Option Value} (hpq : ¬ p = q) (h : w.cell? ⟨b, p, none⟩ = x) : (w.setCell ⟨b, q, none⟩ v).cell? ⟨b, p, none⟩ = x := by
  have hne : (⟨b, q, none⟩ : Addr) ≠ ⟨b, p, none⟩ := by intro e; exact hpq (by injection e with _ e2; exact e2.symm)
  exact (World.cell?_setCell_other _ _ _ _ hne).trans h
theorem cell_set_blk {w : World} {b c p q : Nat} {v : Value} {x : Option Value} (hbc : ¬ c = b) (h : w.cell? ⟨c, p, none⟩ = x) : (w.setCell ⟨b, q, none⟩ v).cell? ⟨c, p, none⟩ = x := by
  have hne : (⟨b, q, none⟩ : Addr) ≠ ⟨c, p, none⟩ := by intro e; exact hbc (by injection e with e2; exact e2.symm)
  exact (World.cell?_setCell_other _ _ _ _ hne).trans h
theorem named {p : World → Prop} {W : World} (h : ∀ W0, W0 = W → p W0) : p W := h W rfl
theorem zeros_at (z : Value) (n j : Nat) (h : j < n) : (Array.replicate n z)[j]? = some z := by simp [h]

/-- What a run of 'spread' works over, from its loop on: the block's bytes, the six boxes of the closures, the array. -/
structure SpreadW (bs : List UInt8) (B : Nat) (w W : World) : Prop where
  below : Below B w W
  size : B + 9 ≤ W.heap.size
  bytes : Has W B (byteCells bs) 99
  res : ∃ z, Has W (B + 1) z 112 ∧ z.size = 64
  c7 : W.cell? ⟨B + 2, 0, none⟩ = some (.int .i64 7)
  c18 : W.cell? ⟨B + 3, 0, none⟩ = some (.int .i64 18)
  c3 : W.cell? ⟨B + 4, 0, none⟩ = some (.int .i64 3)
  c17 : W.cell? ⟨B + 5, 0, none⟩ = some (.int .i64 17)
  c19 : W.cell? ⟨B + 6, 0, none⟩ = some (.int .i64 19)
  c10 : W.cell? ⟨B + 7, 0, none⟩ = some (.int .i64 10)

theorem SpreadW.drewN {bs : List UInt8} {B : Nat} {w W : World} (h : SpreadW bs B w W) (n : Nat) : SpreadW bs B w (W.drewN n) :=
  ⟨⟨h.below.os, h.below.tape, h.below.output, h.below.size, h.below.block⟩, h.size, h.bytes, h.res, h.c7, h.c18, h.c3, h.c17, h.c19, h.c10⟩
theorem Has.drewN {w : World} {b t : Nat} {cs : Array Value} (h : Has w b cs t) (n : Nat) : Has (w.drewN n) b cs t := h
theorem SpreadW.set8 {bs : List UInt8} {B : Nat} {w W : World} (h : SpreadW bs B w W) (p : Nat) (v : Value) : SpreadW bs B w (W.setCell ⟨B + 8, p, none⟩ v) := by
  have oth : ∀ b, b ≠ B + 8 → (W.setCell ⟨B + 8, p, none⟩ v).heap[b]? = W.heap[b]? := fun b hb => heap_setCell_other W ⟨B + 8, p, none⟩ b v hb
  have cel : ∀ b, b ≠ B + 8 → (W.setCell ⟨B + 8, p, none⟩ v).cell? ⟨b, 0, none⟩ = W.cell? ⟨b, 0, none⟩ := fun b hb => World.cell?_of_block (w := W) (oth b hb)
  obtain ⟨z, hz, hzs⟩ := h.res
  exact ⟨h.below.setCell (by simp) _, by simpa [World.setCell] using h.size, (oth _ (by omega)).trans h.bytes, ⟨z, (oth _ (by omega)).trans hz, hzs⟩,
    (cel _ (by omega)).trans h.c7, (cel _ (by omega)).trans h.c18, (cel _ (by omega)).trans h.c3, (cel _ (by omega)).trans h.c17, (cel _ (by omega)).trans h.c19, (cel _ (by omega)).trans h.c10⟩

set_option maxRecDepth 100000 in
set_option maxHeartbeats 1000000 in
theorem spread_any (bs : List UInt8) (hb : bs.length = 64) (w : World) :
    Calls Tryd.prog 68 #[.agg (byteCells bs)] w fun e w' => ∃ cs, e = .returned (.agg cs) ∧ cs.size = 64 ∧ (∀ j, j < 64 → cs[j]? = some (wordAt bs j)) ∧ Below w.heap.size w w' := by
  go_enter Tryd.func68, Tryd.ntmps68
  go_wp2_with (go_at_call 74; refine (shifted_any _ _ _ _).mono ?_; rintro e w' ⟨rfl, rfl⟩)
  refine named (p := Code.wp _ _ _ _) ?_
  intro W0 hW0
  have hS : SpreadW bs w.heap.size w W0 := by
    rw [hW0]
    refine ⟨?_, by simp, ?_, ⟨Array.replicate 64 (.int .u32 0), ?_, by simp⟩, Has.one (t := 3) ?_, Has.one (t := 3) ?_, Has.one (t := 3) ?_, Has.one (t := 3) ?_, Has.one (t := 3) ?_, Has.one (t := 3) ?_⟩
    · repeat (first | exact Below.refl _ _ | refine Below.alloc ?_ (by simp <;> omega) _)
    all_goals repeat (first | (refine has_new _ _ _ _ ?_; simp; done) | refine has_old ?_)
  have hA : Has W0 (w.heap.size + 8) (Array.replicate 64 (.int .u32 0)) 112 := by
    rw [hW0]; exact has_new _ _ _ _ (by simp)
  clear hW0
  simp only [Nat.add_assoc, Nat.reduceAdd]
  go_loopw [9] (fun i wr => ∃ k : Nat, k ≤ 64 ∧ i = .int .i64 k ∧ SpreadW bs w.heap.size w wr ∧ ∃ cs, Has wr (w.heap.size + 8) cs 112 ∧ Upd (Array.replicate 64 (.int .u32 0)) cs 0 k (wordAt bs)) (fun i _ => 64 - (intOf i).toNat)
  case atStart => exact ⟨0, by omega, rfl, hS, _, hA, Upd.zero _ _ _⟩
  case round =>
    obtain ⟨k, hk, rfl, hSr, cs, hH, hU⟩ := hrel
    by_cases hlt : k < 64
    · by_cases h16 : k < 16
      · have al : Tryd.prog.arrayLen 99 = 64 := by kernel_rfl
        have l0 : (0 : Int) ≤ 4 * (k : Int) := by omega
        have l1 : 4 * (k : Int) ≤ 4 * (k : Int) + 4 := by omega
        have l2 : 4 * (k : Int) + 4 ≤ 64 := by omega
        obtain ⟨v0, hv0⟩ := Upd.ex hU k (by simpa using hlt)
        have hcell := (hH.cell k).trans hv0
        have hfree := hH.free k
        clear hv0
        have hby := hSr.bytes
        have i1 : (k : Int) < 64 := by omega
        go_wp2_with fail
        refine (read4_any (four bs k) _ _ _ _ (four_len bs hb k h16) (fun i hi => ?_)).mono ?_
        · rw [hby.cell, byteCells_at bs _ (by omega), four_at bs k i hi]
        rintro e w' ⟨rfl, rfl⟩
        go_wp2
        go_roundw
        case rel => exact ⟨k + 1, by omega, by go_num, hSr.set8 _ _, _, hH.set _ _, by have := hU.next (by simp; omega) (.int .u32 (wv (rd (four bs k)))) (by rw [wordAt, Wat_lo bs k h16]); rwa [Nat.zero_add] at this⟩
        case measure => simp [intOf]; omega
      · obtain ⟨m16, h16'⟩ : ∃ m, Hid (m + 16 = k) := ⟨k - 16, by show _ = _; omega⟩
        obtain ⟨m15, h15'⟩ : ∃ m, Hid (m + 15 = k) := ⟨k - 15, by show _ = _; omega⟩
        obtain ⟨m7, h7'⟩ : ∃ m, Hid (m + 7 = k) := ⟨k - 7, by show _ = _; omega⟩
        obtain ⟨m2, h2'⟩ : ∃ m, Hid (m + 2 = k) := ⟨k - 2, by show _ = _; omega⟩
        have word : ∀ j, j < k → wr.cell? ⟨w.heap.size + 8, j, none⟩ = some (.int .u32 (wv (Wat bs j))) := fun j hj => by
          rw [hH.cell, hU.at_ j, if_pos (by omega)]; rfl
        have w16 := word m16 (by have := h16'.out; omega)
        have w15 := word m15 (by have := h15'.out; omega)
        have w7 := word m7 (by have := h7'.out; omega)
        have w2 := word m2 (by have := h2'.out; omega)
        obtain ⟨v0, hv0⟩ := Upd.ex hU k (by simpa using hlt)
        have hcell := (hH.cell k).trans hv0
        have hfree := hH.free k
        have c7 := hSr.c7
        have c18 := hSr.c18
        have c3 := hSr.c3
        have c17 := hSr.c17
        have c19 := hSr.c19
        have c10 := hSr.c10
        clear hv0 word
        have i1 : (k : Int) < 64 := by omega
        go_wp2_with fail
        have e16 : IntKind.i64.wrap ((k : Int) - 16) = (m16 : Int) := by rw [IntKind.wrap_i64]; have := h16'.out; omega
        have e15 : IntKind.i64.wrap ((k : Int) - 15) = (m15 : Int) := by rw [IntKind.wrap_i64]; have := h15'.out; omega
        have e7 : IntKind.i64.wrap ((k : Int) - 7) = (m7 : Int) := by rw [IntKind.wrap_i64]; have := h7'.out; omega
        have e2 : IntKind.i64.wrap ((k : Int) - 2) = (m2 : Int) := by rw [IntKind.wrap_i64]; have := h2'.out; omega
        have n16 : ¬ m16 = k := by have := h16'.out; omega
        have n15 : ¬ m15 = k := by have := h15'.out; omega
        have n7 : ¬ m7 = k := by have := h7'.out; omega
        have n2 : ¬ m2 = k := by have := h2'.out; omega
        have n16' := fun e => n16 (Eq.symm e)
        have n15' := fun e => n15 (Eq.symm e)
        have n7' := fun e => n7 (Eq.symm e)
        have n2' := fun e => n2 (Eq.symm e)
        have b16 : (m16 : Int) < 64 := by have := h16'.out; omega
        have b15 : (m15 : Int) < 64 := by have := h15'.out; omega
        have b7 : (m7 : Int) < 64 := by have := h7'.out; omega
        have b2 : (m2 : Int) < 64 := by have := h2'.out; omega
        have Hv : Hid (Wat bs k = Wat bs m16 + (BitVec.rotateRight (Wat bs m15) 7 ^^^ BitVec.rotateRight (Wat bs m15) 18 ^^^ Wat bs m15 >>> 3) + Wat bs m7 + (BitVec.rotateRight (Wat bs m2) 17 ^^^ BitVec.rotateRight (Wat bs m2) 19 ^^^ Wat bs m2 >>> 10)) := by
          show _ = _
          rw [Wat_hi bs k (by omega) hlt, show k - 16 = m16 by have := h16'.out; omega, show k - 15 = m15 by have := h15'.out; omega, show k - 7 = m7 by have := h7'.out; omega, show k - 2 = m2 by have := h2'.out; omega]; rfl
        go_region_held3 (fun w' => w'.cell? ⟨w.heap.size + 8, m16, none⟩ = some (.int .u32 (wv (Wat bs m16))) ∧ w'.cell? ⟨w.heap.size + 8, m15, none⟩ = some (.int .u32 (wv (Wat bs m15)))
           ∧ w'.cell? ⟨w.heap.size + 8, m7, none⟩ = some (.int .u32 (wv (Wat bs m7))) ∧ w'.cell? ⟨w.heap.size + 8, m2, none⟩ = some (.int .u32 (wv (Wat bs m2)))
           ∧ w'.cell? ⟨w.heap.size + 2, 0, none⟩ = some (.int .i64 7) ∧ w'.cell? ⟨w.heap.size + 3, 0, none⟩ = some (.int .i64 18) ∧ w'.cell? ⟨w.heap.size + 4, 0, none⟩ = some (.int .i64 3)
           ∧ w'.cell? ⟨w.heap.size + 5, 0, none⟩ = some (.int .i64 17) ∧ w'.cell? ⟨w.heap.size + 6, 0, none⟩ = some (.int .i64 19) ∧ w'.cell? ⟨w.heap.size + 7, 0, none⟩ = some (.int .i64 10))
          (first | (go_keep; done) | (exact ⟨cell_set_off n16 w16, cell_set_off n15 w15, cell_set_off n7 w7, cell_set_off n2 w2, cell_set_blk (by omega) c7, cell_set_blk (by omega) c18, cell_set_blk (by omega) c3, cell_set_blk (by omega) c17, cell_set_blk (by omega) c19, cell_set_blk (by omega) c10⟩))
          (first
            | (go_at_call_of 77 (Value.int .u32 (wv (Wat bs m15))); refine (shifted1_any (Wat bs m15) ⟨w.heap.size + 2, 0, none⟩ ⟨w.heap.size + 3, 0, none⟩ ⟨w.heap.size + 4, 0, none⟩ 7 18 3 _ (by decide) (by decide) (by decide) (by decide) (by decide) (by decide) ?_ ?_ ?_).mono ?_; (simp [*]); (simp [*]); (simp [*]); rintro e w' ⟨rfl, nd, rfl⟩)
            | (go_at_call_of 77 (Value.int .u32 (wv (Wat bs m2))); refine (shifted1_any (Wat bs m2) ⟨w.heap.size + 5, 0, none⟩ ⟨w.heap.size + 6, 0, none⟩ ⟨w.heap.size + 7, 0, none⟩ 17 19 10 _ (by decide) (by decide) (by decide) (by decide) (by decide) (by decide) ?_ ?_ ?_).mono ?_; (simp [*]); (simp [*]); (simp [*]); rintro e w' ⟨rfl, nd, rfl⟩))
        all_goals
          clear e16 e15 e7 e2 n16' n15' n7' n2'
          go_wp2
          go_roundw
          case rel => exact ⟨k + 1, by omega, by go_num, (hSr.drewN _).set8 _ _, _, (hH.drewN _).set _ _, by have := hU.next (by simp; omega) _ (show _ = wordAt bs k by rw [wordAt, Hv.out]); rwa [Nat.zero_add] at this⟩
          case measure => simp [intOf]; omega
    · have hk64 : k = 64 := by omega
      subst hk64
      obtain ⟨z, hz, hzs⟩ := hSr.res
      have hcs : cs.size = 64 := by rw [hU.size]; simp
      have hone : cs.all (·.oneCell') = true := by
        rw [Array.all_eq_true]
        intro i hi
        have := hU.at_ i
        rw [if_pos (by omega), Array.getElem?_eq_getElem hi] at this
        rw [Option.some.inj this]; rfl
      have hSb := hSr.below
      go_wp2_with (first
        | refine wpList_load_row rfl 112 _ rfl (w.heap.size + 8) rfl 112 cs (0, 0) _ hH Tryd.underlying112 rfl (by rw [hcs]; kernel_rfl) ?_
        | refine wpList_store_row rfl 112 _ _ rfl (w.heap.size + 1) cs rfl rfl 112 z hz (by rw [hcs]; kernel_rfl) (by omega) hone ?_)
      refine bodyPost_ret (results_cell_row rfl _ _ (w.heap.size + 1) 112 cs (0, 0) _ rfl (setRow_heap _ _ z _ _ _ hz) Tryd.underlying112 rfl (by rw [hcs]; kernel_rfl)) rfl ?_
      refine ⟨cs, rfl, hcs, fun j hj => by rw [hU.at_ j, if_pos (by omega)]; rfl, ?_⟩
      exact hSb.trans ⟨rfl, rfl, rfl, by simp, fun j hj => setRow_other _ _ _ _ (by omega)⟩
end Go.Proofs.YtcmkjgodgocdfaaDoor
