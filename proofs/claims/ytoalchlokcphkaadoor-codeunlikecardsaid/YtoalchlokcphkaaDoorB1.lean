/- CodeBytes: the law's walk. -/
import Derived.Test.YtoalchlokcphkaaDoorG2
import Derived.Test.YtoalchlokcphkaaDoorG3
import Derived.Test.YtoalchlokcphkaaDoorG4
import Derived.Test.YtoalchlokcphkaaDoorT7
namespace Go.Proofs.YtoalchlokcphkaaDoor
open Go.RowKit

theorem op_run {P : Program} {o : Oper} {a : Act} {w w' : World} {v : Value} {K : Act → World → Prop} {Q : Exit → Act → World → Prop} (hrun : (execOp a.eval o).run P w = .ok (.value v) w') (h : K (a.put o.dst v) w') : o.wp P a w K Q := by
  unfold Oper.wp
  rw [hrun]
  exact h
theorem conv_run {o : Oper} {a : Act} {w : World} (x : Operand) (ho : o.op = .convert 27 9 x) {v : Value} {l : List UInt8} (hx : a.eval x = v) (h : Bytes w v l) : (execOp a.eval o).run Tryd.prog w = .ok (.value (.string ⟨l.toArray⟩)) w := by
  unfold execOp
  simp only [ho, hx, Sem.run_bind, bytes_string (P := Tryd.prog) Tryd.underlying27 Tryd.underlying5 Tryd.underlying9 w v l h, Sem.run_pure, Result.andThen_ok]
set_option maxRecDepth 10000 in
set_option maxHeartbeats 2000000 in
theorem bytes_long (ctx : Int) (sv : Value) (l : List Ins) (w : World) (hP : Prg w sv l) (hG : Glob w) (hl : 300 < l.length) :
    Calls Tryd.prog 3 #[.agg #[.int .i64 ctx, sv]] w fun e w' => e = .returned (.bool true) ∧ Below w.heap.size w w' := by
  obtain ⟨sa, sc, rfl⟩ := hP.slice
  have hB0 : Below w.heap.size w (w.alloc (.cells #[.int .i64 ctx, .slice sa l.length sc] 24)) := (Below.refl _ _).alloc (Nat.le_refl _) _
  have hk := known_any _ (hG.below hB0 hG.size)
  have hl' : (300 : Int) < l.length := by omega
  generalize l.length = n at *
  clear hP
  go_enter Tryd.func3, Tryd.ntmps3
  go_wp2_with fail
  refine hk.mono ?_
  rintro e W1 ⟨rfl, hB1⟩
  go_wp2_with fail
  go_ret
  exact ⟨rfl, hB0.trans (hB1.mono hB0.size)⟩
set_option maxRecDepth 10000 in
set_option maxHeartbeats 2000000 in
theorem bytes_bad (ctx : Int) (sv : Value) (l : List Ins) (w : World) (hP : Prg w sv l) (hG : Glob w) (hl : l.length ≤ 300) (hE : chkE ctx l ≠ 0) :
    Calls Tryd.prog 3 #[.agg #[.int .i64 ctx, sv]] w fun e w' => e = .returned (.bool true) ∧ Below w.heap.size w w' := by
  obtain ⟨W0, hW0⟩ : ∃ W0, W0 = w.alloc (.cells #[.int .i64 ctx, sv] 24) := ⟨_, rfl⟩
  have hB0 : Below w.heap.size w W0 := by rw [hW0]; exact (Below.refl _ _).alloc (Nat.le_refl _) _
  have hX0 : Has W0 w.heap.size #[.int .i64 ctx, sv] 24 := by rw [hW0]; exact has_new _ _ _ _ rfl
  have h1 : ∀ W, Below w.heap.size w W → _ := fun W hB => rcheck_any ctx sv l W (hP.below hB) (by omega)
  have h2 : ∀ W, Below w.heap.size w W → _ := fun W hB => encode_bad ctx sv l W (hP.below hB) (hG.below hB hG.size) (by omega) hE
  have h3 : ∀ W, Below w.heap.size w W → _ := fun W hB => check_any ctx sv l W (hP.below hB) (hG.below hB hG.size) (by omega)
  obtain ⟨sa, sc, hsv⟩ := hP.slice
  have hl' : ¬ (300 : Int) < l.length := by omega
  obtain ⟨n, hn⟩ : ∃ n, n = l.length := ⟨_, rfl⟩
  rw [← hn] at hsv hl'
  subst hsv
  generalize chkE ctx l = E at *
  have hE' : (E != 0) = true := by simpa using hE
  have hE2 : (E != E) = false := by simp
  clear hP hn
  go_enter Tryd.func3, Tryd.ntmps3
  go_wp2_with fail
  rw [← hW0]
  clear hW0
  refine (h1 W0 hB0).mono ?_
  rintro e W1 ⟨rfl, hB1⟩
  have hBw1 := hB0.trans (hB1.mono hB0.size)
  have hX1 := hX0.below hB1 hX0.lt
  have y0 := hX1.cell 0
  have y1 := hX1.cell 1
  go_wp2_with fail
  refine (h2 W1 hBw1).mono ?_
  rintro e W2 ⟨rfl, hB2⟩
  have hBw2 := hBw1.trans (hB2.mono hBw1.size)
  have hX2 := hX1.below hB2 hX1.lt
  clear y0 y1
  have y0 := hX2.cell 0
  have y1 := hX2.cell 1
  go_wp2_with fail
  refine (h3 W2 hBw2).mono ?_
  rintro e W3 ⟨rfl, hB3⟩
  have hBw3 := hBw2.trans (hB3.mono hBw2.size)
  have hk := known_any W3 (hG.below hBw3 hG.size)
  clear h1 h2 h3 y0 y1
  go_wp2_with fail
  refine hk.mono ?_
  rintro e W4 ⟨rfl, hB4⟩
  go_wp2_with fail
  go_ret
  exact ⟨rfl, hBw3.trans (hB4.mono hBw3.size)⟩
end Go.Proofs.YtoalchlokcphkaaDoor
