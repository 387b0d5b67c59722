/- CodeTexts: the law's walk. -/
import Derived.Test.YtoalchlokcphkaaDoorX7
namespace Go.Proofs.YtoalchlokcphkaaDoor
open Go.RowKit

theorem str_empty (l : List UInt8) : (str l).toList.isEmpty = l.isEmpty := by rw [ByteArray.toList_eq]
set_option maxRecDepth 10000 in
set_option maxHeartbeats 2000000 in
theorem texts_walk (i : Ins) (w : World) (hG : Glob w) (hT : Tab w) (hu : i.imm < 4294967296) :
    Calls Tryd.prog 5 #[.agg i.cells.toArray] w fun e w' => e = .returned (.bool true) ∧ Below w.heap.size w w' := by
  obtain ⟨s, b, hb, hn1, hn2⟩ := names_any i.op w hG
  have hem : (str s).toList.isEmpty = !b := by rw [str_empty, hb]; simp
  have hsz1 := hT.size
  obtain ⟨W0, hW0⟩ : ∃ W0, W0 = w.alloc (.cells #[.int .i64 i.op, .int .i64 i.dst, .int .i64 i.src, .int .i64 i.off, .int .u32 i.imm] 43) := ⟨_, rfl⟩
  have hB0 : Below w.heap.size w W0 := by rw [hW0]; exact (Below.refl _ _).alloc (Nat.le_refl _) _
  have hX0 : Has W0 w.heap.size #[.int .i64 i.op, .int .i64 i.dst, .int .i64 i.src, .int .i64 i.off, .int .u32 i.imm] 43 := by rw [hW0]; exact has_new _ _ _ _ rfl
  have hmy := fun W => rmay_any i.op i.dst i.src i.off i.imm W (Int.natCast_nonneg _)
  show Calls Tryd.prog 5 #[.agg #[.int .i64 i.op, .int .i64 i.dst, .int .i64 i.src, .int .i64 i.off, .int .u32 i.imm]] w _
  cases hm : i.may
  · rw [show mayB i.op i.dst i.src i.off i.imm = false from hm] at hmy
    have hTx := fun W (hB : Below w.heap.size w W) => text_no i W (hG.below hB hG.size) hm
    have hem2 : (str []).toList.isEmpty = true := by rw [str_empty]; rfl
    generalize hS : str s = S at *
    generalize hS2 : str [] = S2 at *
    clear hS hS2 hb hm
    cases b
    · go_enter Tryd.func5, Tryd.ntmps5
      go_wp2_with fail
      rw [← hW0]
      clear hW0
      refine (hTx W0 hB0).mono ?_
      clear hTx
      rintro e W1 ⟨rfl, hB1⟩
      have hBw1 := hB0.trans (hB1.mono hB0.size)
      have hX1 := hX0.below hB1 hX0.lt
      have y0 := hX1.cell 0
      clear hB0 hX0 hB1
      go_wp2_with fail
      refine (hn1 W1 hBw1).mono ?_
      rintro e W2 ⟨rfl, hB2⟩
      have hBw2 := hBw1.trans (hB2.mono hBw1.size)
      have hX2 := hX1.below hB2 hX1.lt
      clear y0 hX1 hBw1 hB2 hn1
      have y0 := hX2.cell 0
      go_wp2_with fail
      refine (hn2 W2).mono ?_
      rintro e W3 ⟨rfl, hB3⟩
      have hBw3 := hBw2.trans (hB3.mono hBw2.size)
      have hX3 := hX2.below hB3 hX2.lt
      clear y0 hX2 hBw2 hB3 hn2
      have y0 := hX3.cell 0
      have y1 := hX3.cell 1
      have y2 := hX3.cell 2
      have y3 := hX3.cell 3
      have y4 := hX3.cell 4
      go_wp2_with fail
      refine (hmy W3).mono ?_
      rintro e W4 ⟨rfl, hB4⟩
      have hBw4 := hBw3.trans (hB4.mono hBw3.size)
      have hX4 := hX3.below hB4 hX3.lt
      clear y0 y1 y2 y3 y4 hX3 hBw3 hB4 hmy
      have hk := known_any W4 (hG.below hBw4 hG.size)
      go_wp2_with fail
      refine hk.mono ?_
      rintro e W6 ⟨rfl, hB6⟩
      go_wp2_with fail
      go_ret
      exact ⟨rfl, hBw4.trans (hB6.mono hBw4.size)⟩
    · go_enter Tryd.func5, Tryd.ntmps5
      go_wp2_with fail
      rw [← hW0]
      clear hW0
      refine (hTx W0 hB0).mono ?_
      clear hTx
      rintro e W1 ⟨rfl, hB1⟩
      have hBw1 := hB0.trans (hB1.mono hB0.size)
      have hX1 := hX0.below hB1 hX0.lt
      have y0 := hX1.cell 0
      clear hB0 hX0 hB1
      go_wp2_with fail
      refine (hn1 W1 hBw1).mono ?_
      rintro e W2 ⟨rfl, hB2⟩
      have hBw2 := hBw1.trans (hB2.mono hBw1.size)
      have hX2 := hX1.below hB2 hX1.lt
      clear y0 hX1 hBw1 hB2 hn1
      have y0 := hX2.cell 0
      go_wp2_with fail
      refine (hn2 W2).mono ?_
      rintro e W3 ⟨rfl, hB3⟩
      have hBw3 := hBw2.trans (hB3.mono hBw2.size)
      have hX3 := hX2.below hB3 hX2.lt
      clear y0 hX2 hBw2 hB3 hn2
      have y0 := hX3.cell 0
      have y1 := hX3.cell 1
      have y2 := hX3.cell 2
      have y3 := hX3.cell 3
      have y4 := hX3.cell 4
      go_wp2_with fail
      refine (hmy W3).mono ?_
      rintro e W4 ⟨rfl, hB4⟩
      have hBw4 := hBw3.trans (hB4.mono hBw3.size)
      have hX4 := hX3.below hB4 hX3.lt
      clear y0 y1 y2 y3 y4 hX3 hBw3 hB4 hmy
      have hk := known_any W4 (hG.below hBw4 hG.size)
      go_wp2_with fail
      refine hk.mono ?_
      rintro e W6 ⟨rfl, hB6⟩
      go_wp2_with fail
      go_ret
      exact ⟨rfl, hBw4.trans (hB6.mono hBw4.size)⟩
  · rw [show mayB i.op i.dst i.src i.off i.imm = true from hm] at hmy
    have hTx := fun W (hB : Below w.heap.size w W) => text_any i W (hG.below hB hG.size) (hT.below hB hsz1) hm hu
    have hrt := fun W => rtext_any i W hm hu
    generalize hS : str s = S at *
    generalize hS2 : str (txtL i) = S2 at *
    clear hS hS2 hb hm
    cases b
    · go_enter Tryd.func5, Tryd.ntmps5
      go_wp2_with fail
      rw [← hW0]
      clear hW0
      refine (hTx W0 hB0).mono ?_
      clear hTx
      rintro e W1 ⟨rfl, hB1⟩
      have hBw1 := hB0.trans (hB1.mono hB0.size)
      have hX1 := hX0.below hB1 hX0.lt
      have y0 := hX1.cell 0
      clear hB0 hX0 hB1
      go_wp2_with fail
      refine (hn1 W1 hBw1).mono ?_
      rintro e W2 ⟨rfl, hB2⟩
      have hBw2 := hBw1.trans (hB2.mono hBw1.size)
      have hX2 := hX1.below hB2 hX1.lt
      clear y0 hX1 hBw1 hB2 hn1
      have y0 := hX2.cell 0
      go_wp2_with fail
      refine (hn2 W2).mono ?_
      rintro e W3 ⟨rfl, hB3⟩
      have hBw3 := hBw2.trans (hB3.mono hBw2.size)
      have hX3 := hX2.below hB3 hX2.lt
      clear y0 hX2 hBw2 hB3 hn2
      have y0 := hX3.cell 0
      have y1 := hX3.cell 1
      have y2 := hX3.cell 2
      have y3 := hX3.cell 3
      have y4 := hX3.cell 4
      go_wp2_with fail
      refine (hmy W3).mono ?_
      rintro e W4 ⟨rfl, hB4⟩
      have hBw4 := hBw3.trans (hB4.mono hBw3.size)
      have hX4 := hX3.below hB4 hX3.lt
      clear y0 y1 y2 y3 y4 hX3 hBw3 hB4 hmy
      have y0 := hX4.cell 0
      have y1 := hX4.cell 1
      have y2 := hX4.cell 2
      have y3 := hX4.cell 3
      have y4 := hX4.cell 4
      go_wp2_with fail
      refine (hrt W4).mono ?_
      rintro e W5 ⟨rfl, hB5⟩
      have hBw5 := hBw4.trans (hB5.mono hBw4.size)
      have hk := known_any W5 (hG.below hBw5 hG.size)
      go_wp2_with fail
      refine hk.mono ?_
      rintro e W6 ⟨rfl, hB6⟩
      go_wp2_with fail
      go_ret
      exact ⟨rfl, hBw5.trans (hB6.mono hBw5.size)⟩
    · go_enter Tryd.func5, Tryd.ntmps5
      go_wp2_with fail
      rw [← hW0]
      clear hW0
      refine (hTx W0 hB0).mono ?_
      clear hTx
      rintro e W1 ⟨rfl, hB1⟩
      have hBw1 := hB0.trans (hB1.mono hB0.size)
      have hX1 := hX0.below hB1 hX0.lt
      have y0 := hX1.cell 0
      clear hB0 hX0 hB1
      go_wp2_with fail
      refine (hn1 W1 hBw1).mono ?_
      rintro e W2 ⟨rfl, hB2⟩
      have hBw2 := hBw1.trans (hB2.mono hBw1.size)
      have hX2 := hX1.below hB2 hX1.lt
      clear y0 hX1 hBw1 hB2 hn1
      have y0 := hX2.cell 0
      go_wp2_with fail
      refine (hn2 W2).mono ?_
      rintro e W3 ⟨rfl, hB3⟩
      have hBw3 := hBw2.trans (hB3.mono hBw2.size)
      have hX3 := hX2.below hB3 hX2.lt
      clear y0 hX2 hBw2 hB3 hn2
      have y0 := hX3.cell 0
      have y1 := hX3.cell 1
      have y2 := hX3.cell 2
      have y3 := hX3.cell 3
      have y4 := hX3.cell 4
      go_wp2_with fail
      refine (hmy W3).mono ?_
      rintro e W4 ⟨rfl, hB4⟩
      have hBw4 := hBw3.trans (hB4.mono hBw3.size)
      have hX4 := hX3.below hB4 hX3.lt
      clear y0 y1 y2 y3 y4 hX3 hBw3 hB4 hmy
      have y0 := hX4.cell 0
      have y1 := hX4.cell 1
      have y2 := hX4.cell 2
      have y3 := hX4.cell 3
      have y4 := hX4.cell 4
      go_wp2_with fail
      refine (hrt W4).mono ?_
      rintro e W5 ⟨rfl, hB5⟩
      have hBw5 := hBw4.trans (hB5.mono hBw4.size)
      have hk := known_any W5 (hG.below hBw5 hG.size)
      go_wp2_with fail
      refine hk.mono ?_
      rintro e W6 ⟨rfl, hB6⟩
      go_wp2_with fail
      go_ret
      exact ⟨rfl, hBw5.trans (hB6.mono hBw5.size)⟩
end Go.Proofs.YtoalchlokcphkaaDoor
