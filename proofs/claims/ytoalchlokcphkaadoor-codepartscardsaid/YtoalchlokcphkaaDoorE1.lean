/- The walk of CodeParts. -/
import Derived.Test.YtoalchlokcphkaaDoorD5
namespace Go.Proofs.YtoalchlokcphkaaDoor
open Go.RowKit

theorem chkE_one (i : Ins) : chkE 0 [i] = if i.may then 0 else 2 := by
  unfold chkE
  rw [if_neg (by decide)]
  cases h : i.may <;> simp [h]
def partsL (op n : Int) (m : Nat) : List Ins := [⟨op, 0, 0, 0, 0⟩, ⟨op, n, 0, 0, 0⟩, ⟨op, 0, n, 0, 0⟩, ⟨op, 0, 0, n, 0⟩, ⟨op, 0, 0, 0, m⟩, ⟨op, 9, n, 5, 0⟩, ⟨op, n, 0, 255, m⟩]
set_option maxRecDepth 10000 in
set_option maxHeartbeats 2000000 in
theorem parts_walk (op n : Int) (m : Nat) (w : World) (hG : Glob w) :
    Calls Tryd.prog 6 #[.int .i64 op, .int .i64 n, .int .u32 m] w fun e w' => e = .returned (.bool true) ∧ Below w.heap.size w w' := by
  by_cases h1 : op < -2
  · go_enter Tryd.func6, Tryd.ntmps6
    go_wp2_with (go_at_call 11; refine (known_any _ hG).mono ?_; rintro e W1 ⟨rfl, hB1⟩)
    go_ret
    exact ⟨rfl, hB1⟩
  by_cases h2 : 30 < op
  · go_enter Tryd.func6, Tryd.ntmps6
    go_wp2_with (go_at_call 11; refine (known_any _ hG).mono ?_; rintro e W1 ⟨rfl, hB1⟩)
    go_ret
    exact ⟨rfl, hB1⟩
  go_enter Tryd.func6, Tryd.ntmps6
  go_wp2_with fail
  refine named (p := Code.wp _ _ _ _) ?_
  intro W0 hW0
  have hB0 : Below w.heap.size w W0 := by rw [hW0]; exact (Below.refl _ _).alloc (Nat.le_refl _) _
  have hz0 : Hid (W0.heap.size = w.heap.size + 1) := by show _ = _; rw [hW0]; simp
  have hI0 : InsAt W0 w.heap.size 0 (partsL op n m) := by
    rw [hW0]; exact insAt_block w _ _ rfl
  clear hW0
  have hlen : Hid ((partsL op n m).length = 7) := rfl
  generalize partsL op n m = l at *
  have hz : 0 < w.heap.size := hG.size
  have HB0 := hB0
  go_loopw [8] (fun i wr => ∃ k : Nat, k ≤ 7 ∧ i = .int .i64 k ∧ Below W0.heap.size W0 wr) (fun i _ => 7 - (intOf i).toNat)
  case atStart => exact ⟨0, by omega, rfl, Below.refl _ _⟩
  case round =>
    obtain ⟨k, hk, rfl, hB⟩ := hrel
    have hBw : Below w.heap.size w wr := hB0.trans (hB.mono hB0.size)
    have hGr := hG.below hBw hz
    by_cases hlt : k < 7
    · have hlt' : (k : Int) < 7 := by omega
      have hkl : k < l.length := by have := hlen.out; omega
      have hi : Hid (l[k]? = some l[k]) := List.getElem?_eq_getElem hkl
      have hIr := hI0.below hB (by have := hz0.out; omega)
      have c0 := hIr.op k _ hi.out
      have c1 := hIr.dst k _ hi.out
      have c2 := hIr.src k _ hi.out
      have c3 := hIr.off k _ hi.out
      have c4 := hIr.imm k _ hi.out
      rw [Nat.zero_add] at c0 c1 c2 c3 c4
      obtain ⟨i, hi'⟩ : ∃ i, i = l[k] := ⟨_, rfl⟩
      rw [← hi'] at c0 c1 c2 c3 c4
      clear hi' hIr hi
      cases hm : i.may
      · have hm' : mayB i.op i.dst i.src i.off i.imm = false := hm
        have hc0 : Hid (chkE 0 [i] = 2) := by show _ = _; rw [chkE_one, hm]; rfl
        clear hm
        go_wp2_with fail
        refine (rmay_any _ _ _ _ _ _ (Int.natCast_nonneg _)).mono ?_
        rintro e W1 ⟨rfl, hB1⟩
        have hGa := hGr.below hB1 (by have := hBw.size; omega)
        have hzr : w.heap.size < wr.heap.size := by have := hB.size; have := hz0.out; omega
        have bc := fun p (hp : p.block < wr.heap.size) => hB1.cell (p := p) hp
        have d0 := (bc ⟨w.heap.size, k * 5, none⟩ hzr).trans c0
        have d1 := (bc ⟨w.heap.size, k * 5 + 1, none⟩ hzr).trans c1
        have d2 := (bc ⟨w.heap.size, k * 5 + 2, none⟩ hzr).trans c2
        have d3 := (bc ⟨w.heap.size, k * 5 + 3, none⟩ hzr).trans c3
        have d4 := (bc ⟨w.heap.size, k * 5 + 4, none⟩ hzr).trans c4
        have hB2 : Below W1.heap.size W1 (W1.alloc (.cells #[.int .i64 i.op, .int .i64 i.dst, .int .i64 i.src, .int .i64 i.off, .int .u32 i.imm] 43)) := (Below.refl _ _).alloc (Nat.le_refl _) _
        have hP2 := prg_block W1 [i] #[.int .i64 i.op, .int .i64 i.dst, .int .i64 i.src, .int .i64 i.off, .int .u32 i.imm] rfl 1 rfl
        have hck := check_any 0 _ [i] _ hP2 (hGa.below hB2 hGa.size) (by simp)
        rw [hc0.out] at hck
        clear bc hP2
        go_wp2_with fail
        refine hck.mono ?_
        rintro e W3 ⟨rfl, hB3⟩
        clear hck
        go_wp2_with fail
        go_roundw
        case rel => exact ⟨k + 1, by omega, by go_num, ((hB.trans (hB1.mono hB.size)).trans (hB2.mono (Nat.le_trans hB.size hB1.size))).trans (hB3.mono (by have := hB.size; have := hB1.size; simp; omega))⟩
        case measure => simp [intOf]; omega
      · have hm' : mayB i.op i.dst i.src i.off i.imm = true := hm
        have hc0 : Hid (chkE 0 [i] = 0) := by show _ = _; rw [chkE_one, hm]; rfl
        clear hm
        go_wp2_with fail
        refine (rmay_any _ _ _ _ _ _ (Int.natCast_nonneg _)).mono ?_
        rintro e W1 ⟨rfl, hB1⟩
        have hGa := hGr.below hB1 (by have := hBw.size; omega)
        have hzr : w.heap.size < wr.heap.size := by have := hB.size; have := hz0.out; omega
        have bc := fun p (hp : p.block < wr.heap.size) => hB1.cell (p := p) hp
        have d0 := (bc ⟨w.heap.size, k * 5, none⟩ hzr).trans c0
        have d1 := (bc ⟨w.heap.size, k * 5 + 1, none⟩ hzr).trans c1
        have d2 := (bc ⟨w.heap.size, k * 5 + 2, none⟩ hzr).trans c2
        have d3 := (bc ⟨w.heap.size, k * 5 + 3, none⟩ hzr).trans c3
        have d4 := (bc ⟨w.heap.size, k * 5 + 4, none⟩ hzr).trans c4
        have hB2 : Below W1.heap.size W1 (W1.alloc (.cells #[.int .i64 i.op, .int .i64 i.dst, .int .i64 i.src, .int .i64 i.off, .int .u32 i.imm] 43)) := (Below.refl _ _).alloc (Nat.le_refl _) _
        have hP2 := prg_block W1 [i] #[.int .i64 i.op, .int .i64 i.dst, .int .i64 i.src, .int .i64 i.off, .int .u32 i.imm] rfl 1 rfl
        have hck := check_any 0 _ [i] _ hP2 (hGa.below hB2 hGa.size) (by simp)
        rw [hc0.out] at hck
        clear bc hP2
        go_wp2_with fail
        refine hck.mono ?_
        rintro e W3 ⟨rfl, hB3⟩
        clear hck
        go_wp2_with fail
        go_roundw
        case rel => exact ⟨k + 1, by omega, by go_num, ((hB.trans (hB1.mono hB.size)).trans (hB2.mono (Nat.le_trans hB.size hB1.size))).trans (hB3.mono (by have := hB.size; have := hB1.size; simp; omega))⟩
        case measure => simp [intOf]; omega
    · go_wp2_with fail
      refine (known_any _ hGr).mono ?_
      rintro e W1 ⟨rfl, hB1⟩
      go_wp2_with fail
      go_ret
      exact ⟨rfl, hBw.trans (hB1.mono hBw.size)⟩
end Go.Proofs.YtoalchlokcphkaaDoor
