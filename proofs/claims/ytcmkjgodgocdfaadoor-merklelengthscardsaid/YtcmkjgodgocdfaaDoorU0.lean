/- General laws: a guarded load of a row, an operation by its run, two digests held against one another. -/
import Derived.Test.YtcmkjgodgocdfaaDoorB2
import Derived.Test.YtcmkjgodgocdfaaDoorR3
import Derived.Lib.ConvBytes
import Derived.Lib.SlBytesConst
namespace Go.Proofs.YtcmkjgodgocdfaaDoor
open Go.RowKit
theorem part_byte (x : List UInt8) (i : Nat) (h : i < x.length) (w : World) : (part 5 (byteCells x) (i * 1)).run Tryd.prog w = .ok (.int .u8 (bv (x[i]?.getD 0))) w := by
  have hb := byteCells_at x i h
  rw [Nat.mul_one]
  simp [part, go_sem, hb]
theorem eq_arr (x y : List UInt8) (hx : x.length = 32) (hy : y.length = 32) (d : Nat) (w : World) :
    (Op.equalIn (d + 1 + 1) 30 (.agg (byteCells x)) (.agg (byteCells y))).run Tryd.prog w = .ok (x == y) w := by
  have hs : (sizeOf 5).run Tryd.prog w = .ok 1 w := by kernel_rfl
  rw [Op.equalIn]
  simp only [Sem.run_bind, run_underlying Tryd.underlying30, Result.andThen, hs]
  have key : ∀ (n k : Nat), k + n = 32 → (forIn (List.range' k n) ((none : Option Bool), ()) (fun i __s => do
            let __do_lift ← part 5 (byteCells x) (i * 1)
            let __do_lift_1 ← part 5 (byteCells y) (i * 1)
            let __do_lift ← Op.equalIn (d + 1) 5 __do_lift __do_lift_1
            if (!__do_lift) = true then pure (ForInStep.done (some false, ())) else pure (ForInStep.yield (none, ())))).run Tryd.prog w
        = .ok (if x.drop k = y.drop k then none else some false, ()) w := by
    intro n
    induction n with
    | zero =>
      intro k hk
      rw [if_pos (by rw [List.drop_of_length_le (by omega), List.drop_of_length_le (by omega)])]
      simp [Sem.run_pure]
    | succ n ih =>
      intro k hk
      rw [List.range'_succ, List.forIn_cons]
      have ex := part_byte x k (by omega) w
      have ey := part_byte y k (by omega) w
      simp only [Sem.run_bind, ex, ey, Result.andThen, run_equalIn_int w d 5 .u8 .u8 _ _ Tryd.underlying5]
      have hdx : x.drop k = x[k] :: x.drop (k + 1) := List.drop_eq_getElem_cons (by omega)
      have hdy : y.drop k = y[k] :: y.drop (k + 1) := List.drop_eq_getElem_cons (by omega)
      have gx : x[k]?.getD 0 = x[k] := by simp [show k < x.length by omega]
      have gy : y[k]?.getD 0 = y[k] := by simp [show k < y.length by omega]
      rw [gx, gy]
      have hdd : (x.drop k = y.drop k) = (x[k] = y[k] ∧ x.drop (k + 1) = y.drop (k + 1)) := by rw [hdx, hdy, List.cons.injEq]
      by_cases e : x[k] = y[k]
      · have eb : (bv x[k] == bv y[k]) = true := by rw [e]; simp
        simp only [eb, Bool.not_true, Bool.false_eq_true, if_false, Sem.run_pure]
        rw [ih (k + 1) (by omega)]
        simp only [hdd, e, true_and]
      · have eb : (bv x[k] == bv y[k]) = false := by
          rw [beq_eq_false_iff_ne]; intro h; apply e; unfold bv at h; exact UInt8.toNat_inj.1 (by omega)
        simp only [eb, Bool.not_false, if_true, Sem.run_pure]
        simp only [hdd, e, false_and, if_false]
  have := key 32 0 rfl
  rw [List.drop_zero, List.drop_zero] at this
  simp only [Std.Legacy.Range.forIn_eq_forIn_range', Std.Legacy.Range.size, Nat.sub_zero, Nat.add_sub_cancel, Nat.div_one]
  rw [this]
  by_cases e : x = y
  · simp [e, Sem.run_pure]
  · simp [e, Sem.run_pure]
theorem eq_dig (x y : List UInt8) (hx : x.length = 32) (hy : y.length = 32) (w : World) :
    (Op.equalIn 10000 30 (.agg (byteCells x)) (.agg (byteCells y))).run Tryd.prog w = .ok (x == y) w := eq_arr x y hx hy 9998 w
theorem wpList_load_row_if {P : Program} {ops : Array Oper} {rest : List Oper} {o : Oper} {a : Act} {w : World} {Q : Exit → Act → World → Prop} (hw : Region.wanted o (yielded ops a.tmps) = true) (ty : TypeId) (x : Operand) (ho : o.op = .load ty x)
    (g : Nat) (hx : a.eval x = .pointer (some ⟨g, 0, none⟩)) (t : TypeId) (cs : Array Value) (fr : Nat × Nat) (d : TypeDesc) (hg : w.heap[g]? = some (.cells cs t fr))
    (hu : P.underlying ty = some d) (hd : (match d with | .struct _ | .array _ _ => true | _ => false) = true) (hi : (P.info? ty).map (·.size) = some cs.size)
    (h : wpList P ops Q rest (a.put o.dst (.agg cs)) w) : wpList P ops Q (o :: rest) a w := by
  unfold wpList
  rw [if_pos hw]
  exact .inl (wp_load_row ty x ho g hx t cs fr d hg hu hd hi h)
theorem wpList_run {P : Program} {ops : Array Oper} {rest : List Oper} {o : Oper} {a : Act} {w w' : World} {v : Value} {Q : Exit → Act → World → Prop} (hw : Region.wanted o (yielded ops a.tmps) = true)
    (hrun : (execOp a.eval o).run P w = .ok (.value v) w') (h : wpList P ops Q rest (a.put o.dst v) w') : wpList P ops Q (o :: rest) a w := by
  unfold wpList
  rw [if_pos hw]
  refine .inl ?_
  unfold Oper.wp
  rw [hrun]
  exact h
theorem wpList_convert_run {P : Program} {ops : Array Oper} {rest : List Oper} {o : Oper} {a : Act} {w w' : World} {Q : Exit → Act → World → Prop} (hw : Region.wanted o (yielded ops a.tmps) = true)
    (src dst : TypeId) (x : Operand) (ho : o.op = .convert src dst x) (v0 v : Value) (hx : a.eval x = v0) (hrun : (convert src dst v0).run P w = .ok v w') (h : wpList P ops Q rest (a.put o.dst v) w') : wpList P ops Q (o :: rest) a w := by
  refine wpList_run hw ?_ h
  unfold execOp
  simp only [ho, hx, Sem.run_bind, hrun, Sem.run_pure, Result.andThen_ok]
def Row (W : World) (g : Nat) (l : List UInt8) : Prop := g < W.heap.size ∧ ∀ j, j < l.length → W.cell? ⟨g, j, none⟩ = some (.int .u8 (bv (l[j]?.getD 0)))
theorem Row.below {W W' : World} {g B : Nat} {l : List UInt8} (h : Row W g l) (k : Below B W W') (hb : g < B) : Row W' g l :=
  ⟨Nat.lt_of_lt_of_le h.1 k.size, fun j hj => by rw [World.cell?_of_block (w := W) (k.block g hb)]; exact h.2 j hj⟩
theorem Row.set {W : World} {g : Nat} {l : List UInt8} (h : Row W g l) (p : Nat) (x : UInt8) (hp : p < l.length) : Row (W.setCell ⟨g, p, none⟩ (.int .u8 (bv x))) g (l.set p x) := by
  refine ⟨by simpa using h.1, fun j hj => ?_⟩
  rw [List.length_set] at hj
  by_cases e : j = p
  · subst e
    rw [World.cell?_setCell_same _ _ _ (h.2 j hj)]
    simp [hj]
  · rw [cell_set_off e (h.2 j hj), List.getElem?_set_ne (by omega)]
end Go.Proofs.YtcmkjgodgocdfaaDoor
