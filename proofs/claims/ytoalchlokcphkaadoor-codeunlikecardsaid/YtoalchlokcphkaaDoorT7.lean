/- Decode. -/
import Derived.Test.YtoalchlokcphkaaDoorT6
import Derived.Test.YtoalchlokcphkaaDoorM1
namespace Go.Proofs.YtoalchlokcphkaaDoor
open Go.RowKit

theorem results_prog {fn : Func} {p q : Tmp} (hr : fn.results = #[.cell p 24, .tmp q]) (tmps : Array Value) (W : World) (g : Nat) (cs : Array Value) (n : Int) (hp : tmps.getD p undef = .pointer (some ⟨g, 0, none⟩)) (h3 : tmps.getD q undef = .int .i64 n) (hg : Has W g cs 24) (hs : cs.size = 2) :
    (results fn tmps).run Tryd.prog W = .ok (.tuple #[.agg cs, .int .i64 n]) W := by
  have hp' : tmps[p]?.getD undef = .pointer (some ⟨g, 0, none⟩) := by simpa using hp
  have h3' : tmps[q]?.getD undef = .int .i64 n := by simpa using h3
  simp [results, hr, hp', h3', asAddr, run_loadVar_row W g 24 24 cs (0, 0) _ hg Tryd.underlying24 rfl (by rw [hs]; kernel_rfl), Result.andThen]
theorem wholeB_yes {x2 x3 x4 x5 : UInt8} {r : List UInt8} (h : r.length = 8 * numL [x4, x5]) : wholeB (67 :: 88 :: x2 :: x3 :: x4 :: x5 :: r) = true := by
  unfold wholeB; simp [h]
theorem wholeB_of {d : List UInt8} (h : wholeB d = true) : ∃ x2 x3 x4 x5 r, d = 67 :: 88 :: x2 :: x3 :: x4 :: x5 :: r ∧ r.length = 8 * numL [x4, x5] := by
  by_cases h6 : d.length < 6
  · rw [wholeB_short h6] at h; cases h
  · obtain ⟨x0, x1, x2, x3, x4, x5, r, rfl⟩ := six_of (d := d) (by omega)
    simp only [wholeB, Bool.and_eq_true, beq_iff_eq, decide_eq_true_eq] at h
    obtain ⟨⟨rfl, rfl⟩, h⟩ := h
    exact ⟨x2, x3, x4, x5, r, rfl, h⟩
/-- Instructions stay as a block is written that holds too few cells for one. -/
theorem Prg.ex {W W' : World} {v : Value} {l : List Ins} {g t : Nat} {cs : Array Value} (h : Prg W v l) (hg : Has W g cs t) (hs : cs.size < 5) (k : Ex g W W') : Prg W' v l := by
  obtain ⟨a, cap, b, o, h1, h2, h3, h4⟩ := h
  by_cases hl : l = []
  · subst hl
    exact ⟨a, cap, b, o, h1, h2, ⟨fun k i h => by simp at h, fun k i h => by simp at h, fun k i h => by simp at h, fun k i h => by simp at h, fun k i h => by simp at h⟩, Nat.lt_of_lt_of_le h4 k.size⟩
  · have hne : b ≠ g := fun e => by
      subst e
      obtain ⟨i, l', rfl⟩ : ∃ i l', l = i :: l' := by cases l with | nil => exact absurd rfl hl | cons i l' => exact ⟨i, l', rfl⟩
      have := h3.imm 0 i rfl
      rw [hg.cell, Array.getElem?_eq_none (by omega)] at this
      cases this
    have key : ∀ p, W'.cell? ⟨b, p, none⟩ = W.cell? ⟨b, p, none⟩ := fun p => World.cell?_of_block (k.block b h4 hne)
    exact ⟨a, cap, b, o, h1, h2, ⟨fun j i hj => (key _).trans (h3.op j i hj), fun j i hj => (key _).trans (h3.dst j i hj), fun j i hj => (key _).trans (h3.src j i hj), fun j i hj => (key _).trans (h3.off j i hj), fun j i hj => (key _).trans (h3.imm j i hj)⟩, Nat.lt_of_lt_of_le h4 k.size⟩
/-- Two cells are stored. -/
theorem Has.both {W : World} {b : Nat} {x y : Value} (h : Has W b #[x, y] 24) (x' y' : Value) : Has ((W.setCell ⟨b, 0, none⟩ x').setCell ⟨b, 1, none⟩ y') b #[x', y'] 24 := (h.set 0 x').set 1 y'
theorem ex_both (W : World) (b : Nat) (x' y' : Value) : Ex b W ((W.setCell ⟨b, 0, none⟩ x').setCell ⟨b, 1, none⟩ y') := (Ex.set b W 0 x').trans (Ex.set b _ 1 y')
set_option maxRecDepth 10000 in
set_option maxHeartbeats 2000000 in
theorem decode_no (v : Value) (d : List UInt8) (w : World) (hv : Bytes w v d) (hl : d.length ≤ 1000000) (hw : wholeB d = false) :
    Calls Tryd.prog 15 #[v] w fun e w' => e = .returned (.tuple #[.agg #[.int .i64 0, .slice none 0 0], .int .i64 150]) ∧ Below w.heap.size w w' := by
  obtain ⟨W0, hW0⟩ : ∃ W0, W0 = w.alloc (.cells #[.int .i64 0, .slice none 0 0] 24) := ⟨_, rfl⟩
  have hB0 : Below w.heap.size w W0 := by rw [hW0]; exact (Below.refl _ _).alloc (Nat.le_refl _) _
  have hR0 : Has W0 w.heap.size #[.int .i64 0, .slice none 0 0] 24 := by rw [hW0]; exact has_new _ _ _ _ rfl
  have hwh := whole_any v d W0 (hv.below hB0) hl
  rw [hw] at hwh
  obtain ⟨a, c, n, rfl⟩ : ∃ a c n, v = .slice a n c := by obtain ⟨a, c, b, o, h, _⟩ := hv; exact ⟨a, c, _, h⟩
  clear hv hl hw
  go_enter Tryd.func15, Tryd.ntmps15
  go_wp2_with fail
  rw [← hW0]
  clear hW0
  refine hwh.mono ?_
  clear hwh
  rintro e W1 ⟨rfl, hB1⟩
  have hR1 := hR0.below hB1 hR0.lt
  have hBw := hB0.trans (hB1.mono hB0.size)
  clear hR0 hB0 hB1
  have r0 := hR1.cell 0
  have r1 := hR1.cell 1
  have f0 := hR1.free 0
  have f1 := hR1.free 1
  go_wp2_with fail
  refine bodyPost_ret (results_prog rfl _ _ w.heap.size _ _ rfl rfl (hR1.both _ _) rfl) rfl ?_
  exact ⟨rfl, Below.ex hBw hBw.size (ex_both _ _ _ _) (Nat.le_refl _)⟩
set_option maxRecDepth 10000 in
set_option maxHeartbeats 2000000 in
theorem decode_yes (v : Value) (x2 x3 x4 x5 : UInt8) (r : List UInt8) (w : World) (hv : Bytes w v (67 :: 88 :: x2 :: x3 :: x4 :: x5 :: r)) (hr : r.length = 8 * numL [x4, x5]) (hl : r.length ≤ 900000) (hG : Glob w) :
    (chkE (numL [x2, x3] : Nat) (insesL r) = 0 → Calls Tryd.prog 15 #[v] w fun e w' => ∃ sv, e = .returned (.tuple #[.agg #[.int .i64 (numL [x2, x3] : Nat), sv], .int .i64 0]) ∧ Prg w' sv (insesL r) ∧ Below w.heap.size w w') ∧
    (chkE (numL [x2, x3] : Nat) (insesL r) ≠ 0 → Calls Tryd.prog 15 #[v] w fun e w' => e = .returned (.tuple #[.agg #[.int .i64 0, .slice none 0 0], .int .i64 (chkE (numL [x2, x3] : Nat) (insesL r))]) ∧ Below w.heap.size w w') := by
  obtain ⟨W0, hW0⟩ : ∃ W0, W0 = w.alloc (.cells #[.int .i64 0, .slice none 0 0] 24) := ⟨_, rfl⟩
  have hB0 : Below w.heap.size w W0 := by rw [hW0]; exact (Below.refl _ _).alloc (Nat.le_refl _) _
  have hR0 : Has W0 w.heap.size #[.int .i64 0, .slice none 0 0] 24 := by rw [hW0]; exact has_new _ _ _ _ rfl
  have hv0 := hv.below hB0
  have hwh := whole_any v _ W0 hv0 (by simp; omega)
  rw [wholeB_yes hr] at hwh
  have htk : ∀ W, Below W0.heap.size W0 W → _ := fun W hB => taken_any v x2 x3 x4 x5 r W (hv0.below hB) hr
  have hll : (insesL r).length ≤ 900000 := by rw [(body_inses _ r hr).2.1]; omega
  obtain ⟨a, c, n, rfl⟩ : ∃ a c n, v = .slice a n c := by obtain ⟨a, c, b, o, h, _⟩ := hv; exact ⟨a, c, _, h⟩
  clear hv hl hv0 hr
  generalize insesL r = l at *
  generalize numL [x2, x3] = ctx at *
  refine ⟨fun hE => ?_, fun hE => ?_⟩
  · go_enter Tryd.func15, Tryd.ntmps15
    go_wp2_with fail
    rw [← hW0]
    clear hW0
    refine hwh.mono ?_
    clear hwh
    rintro e W1 ⟨rfl, hB1⟩
    have hR1 := hR0.below hB1 hR0.lt
    have hBw1 := hB0.trans (hB1.mono hB0.size)
    have htk1 := htk W1 hB1
    clear hR0 hB0 hB1 htk
    go_wp2_with fail
    refine htk1.mono ?_
    clear htk1
    rintro e W2 ⟨sv, rfl, hP2, hB2⟩
    obtain ⟨W3, hW3⟩ : ∃ W3, W3 = W2.alloc (.cells #[.int .i64 ctx, sv] 24) := ⟨_, rfl⟩
    have hB3 : Below W2.heap.size W2 W3 := by rw [hW3]; exact (Below.refl _ _).alloc (Nat.le_refl _) _
    have hX3 : Has W3 W2.heap.size #[.int .i64 ctx, sv] 24 := by rw [hW3]; exact has_new _ _ _ _ rfl
    have hP3 := hP2.below hB3
    have hR3 := (hR1.below hB2 hR1.lt).below hB3 (Nat.lt_of_lt_of_le hR1.lt hB2.size)
    have hlt := hR1.lt
    have hBw3 := (hBw1.trans (hB2.mono hBw1.size)).trans (hB3.mono (Nat.le_trans hBw1.size hB2.size))
    have hck := check_any ctx sv l W3 hP3 (hG.below hBw3 hG.size) (by omega)
    rw [hE] at hck
    have hs12 := hB2.size
    obtain ⟨sa, sc, hsv⟩ := hP2.slice
    obtain ⟨sn, hsn⟩ : ∃ sn, sn = l.length := ⟨_, rfl⟩
    rw [← hsn] at hsv
    subst hsv
    clear hR1 hBw1 hB2 hB3 hP2 hE hsn
    go_wp2_with fail
    rw [← hW3]
    clear hW3
    refine hck.mono ?_
    clear hck
    rintro e W4 ⟨rfl, hB4⟩
    have hX4 := hX3.below hB4 hX3.lt
    have hR4 := hR3.below hB4 hR3.lt
    have hP4 := hP3.below hB4
    have hBw4 := hBw3.trans (hB4.mono hBw3.size)
    clear hX3 hR3 hP3 hBw3 hB4
    have x0 := hX4.cell 0
    have x1 := hX4.cell 1
    have r0 := hR4.cell 0
    have r1 := hR4.cell 1
    have f0 := hR4.free 0
    have f1 := hR4.free 1
    go_wp2_with fail
    refine bodyPost_ret (results_prog rfl _ _ w.heap.size _ _ rfl rfl (hR4.both _ _) rfl) rfl ?_
    exact ⟨_, rfl, hP4.ex hR4 (by simp) (ex_both _ _ _ _), Below.ex hBw4 hBw4.size (ex_both _ _ _ _) (Nat.le_refl _)⟩
  · go_enter Tryd.func15, Tryd.ntmps15
    go_wp2_with fail
    rw [← hW0]
    clear hW0
    refine hwh.mono ?_
    clear hwh
    rintro e W1 ⟨rfl, hB1⟩
    have hR1 := hR0.below hB1 hR0.lt
    have hBw1 := hB0.trans (hB1.mono hB0.size)
    have htk1 := htk W1 hB1
    clear hR0 hB0 hB1 htk
    go_wp2_with fail
    refine htk1.mono ?_
    clear htk1
    rintro e W2 ⟨sv, rfl, hP2, hB2⟩
    obtain ⟨W3, hW3⟩ : ∃ W3, W3 = W2.alloc (.cells #[.int .i64 ctx, sv] 24) := ⟨_, rfl⟩
    have hB3 : Below W2.heap.size W2 W3 := by rw [hW3]; exact (Below.refl _ _).alloc (Nat.le_refl _) _
    have hX3 : Has W3 W2.heap.size #[.int .i64 ctx, sv] 24 := by rw [hW3]; exact has_new _ _ _ _ rfl
    have hP3 := hP2.below hB3
    have hR3 := (hR1.below hB2 hR1.lt).below hB3 (Nat.lt_of_lt_of_le hR1.lt hB2.size)
    have hlt := hR1.lt
    have hBw3 := (hBw1.trans (hB2.mono hBw1.size)).trans (hB3.mono (Nat.le_trans hBw1.size hB2.size))
    have hck := check_any ctx sv l W3 hP3 (hG.below hBw3 hG.size) (by omega)
    have hs12 := hB2.size
    obtain ⟨sa, sc, hsv⟩ := hP2.slice
    obtain ⟨sn, hsn⟩ : ∃ sn, sn = l.length := ⟨_, rfl⟩
    rw [← hsn] at hsv
    subst hsv
    have hE' : (chkE ctx l != 0) = true := by simpa using hE
    clear hR1 hBw1 hB2 hB3 hP2 hE hsn
    go_wp2_with fail
    rw [← hW3]
    clear hW3
    refine hck.mono ?_
    clear hck
    rintro e W4 ⟨rfl, hB4⟩
    have hX4 := hX3.below hB4 hX3.lt
    have hR4 := hR3.below hB4 hR3.lt
    have hP4 := hP3.below hB4
    have hBw4 := hBw3.trans (hB4.mono hBw3.size)
    clear hX3 hR3 hP3 hBw3 hB4
    have x0 := hX4.cell 0
    have x1 := hX4.cell 1
    have r0 := hR4.cell 0
    have r1 := hR4.cell 1
    have f0 := hR4.free 0
    have f1 := hR4.free 1
    go_wp2_with fail
    refine bodyPost_ret (results_prog rfl _ _ w.heap.size _ _ rfl rfl (hR4.both _ _) rfl) rfl ?_
    exact ⟨rfl, Below.ex hBw4 hBw4.size (ex_both _ _ _ _) (Nat.le_refl _)⟩
end Go.Proofs.YtoalchlokcphkaaDoor
