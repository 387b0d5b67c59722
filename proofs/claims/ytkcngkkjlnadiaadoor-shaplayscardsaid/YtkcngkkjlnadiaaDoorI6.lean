/- The law ShaBlocks. -/
import Derived.Test.YtkcngkkjlnadiaaDoorI5
namespace Go.Proofs.YtkcngkkjlnadiaaDoor
open Go.RowKit

theorem Own.ex {base : Nat} {w w' : World} {v : Value} {d : List UInt8} {b : Nat} (h : Own base w v d) (k : Ex b w w') (hb : b < base) : Own base w' v d :=
  World.ownsRow.kept (row := some b) h ⟨k.os, k.tape, k.output, k.size, fun i hi hn => k.block i hi (fun e => hn (by rw [e]))⟩ (.inr fun e => by have := (h.lt b e).1; omega)
theorem Own.below {base : Nat} {w w' : World} {v : Value} {d : List UInt8} (h : Own base w v d) (k : Below w.heap.size w w') : Own base w' v d := ownsRow_below h k
theorem Own.nil (base : Nat) (w : World) : Own base w (.slice none 0 0) [] := World.ownsRow_nil _ _ _ _
def rep (b : List UInt8) : Nat → List UInt8
  | 0 => []
  | n + 1 => rep b n ++ b
theorem rep_length (b : List UInt8) : ∀ n, (rep b n).length = n * b.length
  | 0 => by simp [rep]
  | n + 1 => by simp [rep, rep_length b n, Nat.succ_mul]

set_option maxHeartbeats 1000000 in
theorem blocks_out (blk b : List UInt8) (n : Int) (v : Value) (w : World) (hv : Bytes w v b) (hg0 : Glob w) (hout : ¬ (0 ≤ n ∧ n ≤ 20 ∧ b.length ≤ 130)) :
    Calls Tryd.prog 11 #[.agg (byteCells blk), .int .i64 n, v] w fun e w' => e = .returned (.bool true) ∧ Below w.heap.size w w' := by
  have hgs := hg0.size
  obtain ⟨a0, c0, d0, o0, rfl, _⟩ := id hv
  have hB0 : ∀ o, Below w.heap.size w (w.alloc o) := fun o => (Below.refl _ _).alloc (Nat.le_refl _) _
  by_cases k0 : n < 0
  · clear hout hv
    go_enter Tryd.func11, Tryd.ntmps11
    go_wp2_with fail
    refine (works_any _ (hg0.below (hB0 _) hgs)).mono ?_
    rintro e W ⟨rfl, hB⟩
    go_wp2_with fail
    go_ret
    exact ⟨rfl, (hB0 _).trans (hB.mono (by simp))⟩
  · by_cases k1 : 20 < n
    · clear hout hv
      go_enter Tryd.func11, Tryd.ntmps11
      go_wp2_with fail
      refine (works_any _ (hg0.below (hB0 _) hgs)).mono ?_
      rintro e W ⟨rfl, hB⟩
      go_wp2_with fail
      go_ret
      exact ⟨rfl, (hB0 _).trans (hB.mono (by simp))⟩
    · have i2 : (130 : Int) < (b.length : Int) := by omega
      clear hout hv
      go_enter Tryd.func11, Tryd.ntmps11
      go_wp2_with fail
      refine (works_any _ (hg0.below (hB0 _) hgs)).mono ?_
      rintro e W ⟨rfl, hB⟩
      go_wp2_with fail
      go_ret
      exact ⟨rfl, (hB0 _).trans (hB.mono (by simp))⟩

set_option maxRecDepth 10000 in
set_option maxHeartbeats 1000000 in
theorem blocks_walk (blk b : List UInt8) (hbk : blk.length = 64) (n : Int) (v : Value) (w : World) (hv : Bytes w v b) (hg0 : Glob w) :
    Calls Tryd.prog 11 #[.agg (byteCells blk), .int .i64 n, v] w fun e w' => e = .returned (.bool true) ∧ Below w.heap.size w w' := by
  by_cases hin : 0 ≤ n ∧ n ≤ 20 ∧ b.length ≤ 130
  case neg => exact blocks_out blk b n v w hv hg0 hin
  have hgs := hg0.size
  obtain ⟨a0, c0, d0, o0, rfl, _⟩ := id hv
  obtain ⟨m, rfl⟩ : ∃ m : Nat, n = m := ⟨n.toNat, by omega⟩
  have H : Hid (m ≤ 20 ∧ b.length ≤ 130) := ⟨by omega, hin.2.2⟩
  have i0 : ¬ (m : Int) < 0 := by omega
  have i1 : ¬ 20 < (m : Int) := by omega
  have i2 : ¬ (130 : Int) < (b.length : Int) := by omega
  have al : Tryd.prog.arrayLen 54 = 64 := by kernel_rfl
  clear hin
  go_enter Tryd.func11, Tryd.ntmps11
  go_wp2_with fail
  refine named (p := fun X => Calls _ _ _ X _) ?_
  intro W0 hW0
  have hB0 : Below w.heap.size w W0 := by rw [hW0]; exact (Below.refl _ _).alloc (Nat.le_refl _) _
  have hz0 : Hid (W0.heap.size = w.heap.size + 1) := by show _ = _; rw [hW0]; simp
  have hr0 : Has W0 w.heap.size (byteCells blk) 54 := by rw [hW0]; exact has_new _ _ _ _ rfl
  have hv0 : Bytes W0 (.slice a0 b.length c0) b := hv.below hB0
  have hk0 : Bytes W0 (.slice (some ⟨w.heap.size, 0, none⟩) 64 64) blk := ⟨_, 64, w.heap.size, 0, by rw [hbk], by rw [hbk]; exact Nat.le_refl _, fun _ => rfl, fun j hj => by rw [hr0.cell, Nat.zero_add]; exact byteCells_at _ j hj, hr0.lt⟩
  clear hW0 hr0 hv
  refine (new_any W0 (hg0.below hB0 hgs)).mono ?_
  rintro e W1 ⟨rfl, hB1, hH1⟩
  have hg1 := hg0.below (hB0.trans (hB1.mono hB0.size)) hgs
  have hlt : Hid (W0.heap.size < W1.heap.size) := hH1.lt
  have h2 : Hid (2 ≤ W0.heap.size) := by show 2 ≤ _; have := hB0.size; omega
  go_wp2_with fail
  go_loopw [8, 9] (fun v i wr => ∃ k : Nat, k ≤ m ∧ i = .int .i64 k ∧ Own W1.heap.size wr v (rep blk k) ∧ HashAt wr W0.heap.size (rep blk k) ∧ Ex W0.heap.size W1 wr) (fun _ i _ => m - (intOf i).toNat)
  case atStart => exact ⟨0, by omega, rfl, Own.nil _ _, hH1, Ex.refl _ _⟩
  case round =>
    obtain ⟨k, hk, rfl, ho, hH, hE⟩ := hrel
    have hBr : Below W0.heap.size W0 wr := Below.ex hB1 hB1.size hE (Nat.le_refl _)
    by_cases hkm : k < m
    · have i3 : (k : Int) < m := by omega
      have HK : Hid (k < m) := hkm
      have hle : Hid ((rep blk k).length ≤ 1280) := by show _ ≤ _; rw [rep_length, hbk]; have := H.out; omega
      clear hkm hk
      go_wp2_with (refine wpList_append_bytes rfl _ _ 22 rfl info5 Tryd.underlying22 W1.heap.size _ _ (rep blk k) blk rfl rfl ho (hk0.below hBr) (by have := hle.out; omega) hE.size ?_; intro v2 w2 ho2 hg2)
      have hBk : Below W1.heap.size wr w2 := grown_keeps ho hg2 hE.size
      have hH2 := hH.below hBk hlt.out
      have hE2 : Ex W0.heap.size W1 w2 := ⟨hBk.os.trans hE.os, hBk.tape.trans hE.tape, hBk.output.trans hE.output, Nat.le_trans hE.size hBk.size, fun i hi hb => (hBk.block i hi).trans (hE.block i hi hb)⟩
      have hB2 : Below W0.heap.size W0 w2 := Below.ex hB1 hB1.size hE2 (Nat.le_refl _)
      clear hg2 hBk hE hBr ho hH
      refine (write_any W0.heap.size (rep blk k) blk _ w2 hH2 ((hk0.of _ (Nat.le_refl _)).below hB2) (hg1.ex hE2 h2.out) h2.out (by have := hle.out; omega)).mono ?_
      rintro e W3 ⟨rfl, hE3, hH3⟩
      have ho3 := ho2.ex hE3 hlt.out
      have hE4 := hE2.trans hE3
      clear hE2 hE3 hH2 ho2 hB2
      go_wp2_with (go_at_call 23; refine (num_any _ _).mono ?_; rintro e w' ⟨rfl, hw⟩; obtain rfl := hw.symm; clear hw)
      go_roundw
      case rel => exact ⟨k + 1, HK.out, by go_num, ho3, hH3, hE4⟩
      case measure => have := HK.out; simp [intOf]; omega
    · obtain rfl : k = m := by omega
      have hle : Hid ((rep blk k ++ b).length ≤ 1500) := by show _ ≤ _; rw [List.length_append, rep_length, hbk]; have := H.out; omega
      clear hkm hk
      go_wp2_with (refine wpList_append_bytes rfl _ _ 22 rfl info5 Tryd.underlying22 W1.heap.size _ _ (rep blk k) b rfl rfl ho (hv0.below hBr) (by have := hle.out; rw [List.length_append] at this; omega) hE.size ?_; intro v2 w2 ho2 hg2)
      have hBk : Below W1.heap.size wr w2 := grown_keeps ho hg2 hE.size
      have hH2 := hH.below hBk hlt.out
      have hE2 : Ex W0.heap.size W1 w2 := ⟨hBk.os.trans hE.os, hBk.tape.trans hE.tape, hBk.output.trans hE.output, Nat.le_trans hE.size hBk.size, fun i hi hb => (hBk.block i hi).trans (hE.block i hi hb)⟩
      have hB2 : Below W0.heap.size W0 w2 := Below.ex hB1 hB1.size hE2 (Nat.le_refl _)
      clear hg2 hBk hE hBr ho hH
      refine (write_any W0.heap.size (rep blk k) b _ w2 hH2 ((hv0.of _ (Nat.le_refl _)).below hB2) (hg1.ex hE2 h2.out) h2.out (by have := hle.out; rw [List.length_append] at this; omega)).mono ?_
      rintro e W3 ⟨rfl, hE3, hH3⟩
      have ho3 := ho2.ex hE3 hlt.out
      have hE4 := hE2.trans hE3
      have hB3 : Below W0.heap.size W0 W3 := Below.ex hB1 hB1.size hE4 (Nat.le_refl _)
      have hBw : Below w.heap.size w W3 := hB0.trans (hB3.mono hB0.size)
      clear hE2 hE3 hH2 ho2 hB2 hE4 hB3 hB1 hH1 hg1 hv0 hk0
      obtain ⟨al', cl', rfl⟩ := ho3.slice
      generalize rep blk k ++ b = all at *
      have q := eq_same (shaL all) (shaL_length all)
      go_wp2_with fail
      refine (sum_any W0.heap.size all W3 hH3 (hg0.below hBw hgs) (by have := hle.out; omega)).mono ?_
      rintro e W4 ⟨rfl, hB4⟩
      have hH4 := hH3.below hB4 hH3.lt
      have hy4 : Bytes W4 (.slice al' all.length cl') all := (ho3.bytes (by have := hH3.lt; omega)).below hB4
      have hBx : Below w.heap.size w W4 := hBw.trans (hB4.mono hBw.size)
      clear hBw hB4 hH3 ho3
      go_wp2_with fail
      refine (refsum_any _ all W4 hy4 (by have := hle.out; omega)).mono ?_
      rintro e W5 ⟨rfl, hB5⟩
      have hH5 := hH4.below hB5 hH4.lt
      have hy5 := hy4.below hB5
      have hBy : Below w.heap.size w W5 := hBx.trans (hB5.mono hBx.size)
      clear hBx hB5 hH4 hy4
      go_wp2_with fail
      refine (sum1_any _ all W5 hy5 (hg0.below hBy hgs) (by have := hle.out; omega)).mono ?_
      rintro e W6 ⟨rfl, hB6⟩
      have hH6 := hH5.below hB6 hH5.lt
      have hy6 := hy5.below hB6
      have hBz : Below w.heap.size w W6 := hBy.trans (hB6.mono hBy.size)
      clear hBy hB6 hH5 hy5
      go_wp2_with fail
      refine (refsum_any _ all W6 hy6 (by have := hle.out; omega)).mono ?_
      rintro e W7 ⟨rfl, hB7⟩
      have hH7 := hH6.below hB7 hH6.lt
      have hBv : Below w.heap.size w W7 := hBz.trans (hB7.mono hBz.size)
      clear hBz hB7 hH6 hy6
      go_wp2_with fail
      refine (len_any _ all W7 hH7).mono ?_
      rintro e w' ⟨rfl, hw⟩; obtain rfl := hw.symm; clear hw
      go_wp2_with fail
      refine (works_any _ (hg0.below hBv hgs)).mono ?_
      rintro e W8 ⟨rfl, hB8⟩
      go_wp2_with fail
      go_ret
      exact ⟨rfl, hBv.trans (hB8.mono hBv.size)⟩
end Go.Proofs.YtkcngkkjlnadiaaDoor
