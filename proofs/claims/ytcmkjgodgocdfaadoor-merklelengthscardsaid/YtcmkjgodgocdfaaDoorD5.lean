/- Slices of digests that are written out, in a walk. -/
import Derived.Test.YtcmkjgodgocdfaaDoorD4
namespace Go.Proofs.YtcmkjgodgocdfaaDoor
open Go.RowKit
theorem wpList_build_one {w : World} {ops : Array Oper} {rest : List Oper} {o : Oper} {a : Act} {Q : Exit → Act → World → Prop} (hgd : o.guard = none) (x : Operand) (ho : o.op = .buildSlice 22 1 #[(0, x)]) (d : Dig) (hx : a.eval x = .agg (byteCells d)) (hd : d.length = 32)
    (h : wpList Tryd.prog ops Q rest (a.put o.dst (.slice (some ⟨w.heap.size, 0, none⟩) 1 1)) (w.alloc (.cells (byteCells d) 30))) : wpList Tryd.prog ops Q (o :: rest) a w :=
  wpList_plain hgd fun _ hK => op_run (run_build_one o a.eval x d w hd ho hx) (hK _ _ h)
theorem wpList_build_two {w : World} {ops : Array Oper} {rest : List Oper} {o : Oper} {a : Act} {Q : Exit → Act → World → Prop} (hgd : o.guard = none) (x y : Operand) (ho : o.op = .buildSlice 22 2 #[(0, x), (1, y)]) (d e : Dig) (hx : a.eval x = .agg (byteCells d)) (hy : a.eval y = .agg (byteCells e)) (hd : d.length = 32) (he : e.length = 32)
    (h : wpList Tryd.prog ops Q rest (a.put o.dst (.slice (some ⟨w.heap.size, 0, none⟩) 2 2)) (w.alloc (.cells ([d, e].flatten.map bc).toArray 30))) : wpList Tryd.prog ops Q (o :: rest) a w :=
  wpList_plain hgd fun _ hK => op_run (run_build_two o a.eval x y d e w hd he ho hx hy) (hK _ _ h)
theorem wpListIn_run {F : Fence} {n : Nat} {P : Program} {ops : Array Oper} {rest : List Oper} {o : Oper} {a : Act} {w w' : World} {v : Value} {Q : Exit → Act → World → Prop} (hw : Region.wanted o (yielded ops a.tmps) = true) (hc : ∀ c, o.op ≠ .call c) (hd : ∀ c, o.op ≠ .defer c)
    (hrun : (execOp a.eval o).run P w = .ok (.value v) w') (h : wpListIn F n P ops Q rest (a.put o.dst v) w') : wpListIn F n P ops Q (o :: rest) a w := by
  refine wpListIn_step fun K hK => ?_
  rw [if_pos hw]
  unfold Oper.wpIn
  refine ⟨?_, ?_⟩
  · unfold Oper.about
    cases ho : o.op <;> first | (intro f hf; cases hf; done) | exact absurd ho (hc _) | exact absurd ho (hd _) | skip
  · rw [Oper.semAt_plain F _ _ hd, hrun]
    exact hK _ _ h
end Go.Proofs.YtcmkjgodgocdfaaDoor
