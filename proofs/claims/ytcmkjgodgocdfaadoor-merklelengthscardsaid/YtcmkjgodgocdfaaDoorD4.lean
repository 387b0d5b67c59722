/- A slice of digests that is written out. -/
import Derived.Test.YtcmkjgodgocdfaaDoorD3
namespace Go.Proofs.YtcmkjgodgocdfaaDoor
open Go.RowKit

theorem fold_set (c : List Value) : ∀ (st off : Nat) (cs : Array Value) (j : Nat), ((c.zipIdx st).foldl (fun cs (p : Value × Nat) => cs.setIfInBounds (off + p.2) p.1) cs)[j]? = if off + st ≤ j ∧ j < off + st + c.length ∧ j < cs.size then c[j - off - st]? else cs[j]? := by
  induction c with
  | nil => intro st off cs j; simp; omega
  | cons x c ih =>
    intro st off cs j
    rw [List.zipIdx_cons, List.foldl_cons, ih]
    simp only [Array.size_setIfInBounds, List.length_cons, Array.getElem?_setIfInBounds]
    by_cases h1 : off + (st + 1) ≤ j ∧ j < off + (st + 1) + c.length ∧ j < cs.size
    · rw [if_pos h1, if_pos (by omega), show j - off - st = (j - off - (st + 1)) + 1 by omega, List.getElem?_cons_succ]
    · rw [if_neg h1]
      by_cases h2 : off + st = j
      · subst h2
        by_cases h3 : off + st < cs.size
        · rw [if_pos rfl, if_pos h3, if_pos (by omega), show off + st - off - st = 0 by omega]; rfl
        · rw [if_pos rfl, if_neg h3, if_neg (by omega), Array.getElem?_eq_none (by omega)]
      · rw [if_neg h2, if_neg (by omega)]
theorem fold_size (c : List Value) : ∀ (st off : Nat) (cs : Array Value), ((c.zipIdx st).foldl (fun cs (p : Value × Nat) => cs.setIfInBounds (off + p.2) p.1) cs).size = cs.size := by
  induction c with
  | nil => intro st off cs; rfl
  | cons x c ih => intro st off cs; rw [List.zipIdx_cons, List.foldl_cons, ih, Array.size_setIfInBounds]
theorem fill_digs : ∀ (ds : List Dig) (k : Nat) (cs : Array Value), All32 ds → cs.size = (k + ds.length) * 32 →
    Instr.fill (fun i => some (i * 32, 32)) cs ((ds.zipIdx k).map (fun p => (p.2, Value.agg (byteCells p.1)))) = some (cs.toList.take (k * 32) ++ ds.flatten.map bc).toArray := by
  intro ds
  induction ds with
  | nil =>
    intro k cs _ hs
    simp only [List.zipIdx_nil, List.map_nil, Instr.fill, List.flatten_nil, List.append_nil]
    rw [List.take_of_length_le (by simp at hs ⊢; omega)]
  | cons d ds ih =>
    intro k cs h32 hs
    have hd : d.length = 32 := h32 0 d rfl
    have hsz : (byteCells d).size = 32 := by rw [byteCells_size, hd]
    simp only [List.length_cons] at hs
    rw [List.zipIdx_cons, List.map_cons, Instr.fill]
    simp only [Value.cells, hsz]
    rw [if_neg (by simp; omega)]
    have e : (byteCells d).zipIdx.foldl (fun cs (p : Value × Nat) => cs.setIfInBounds (k * 32 + p.2) p.1) cs = ((byteCells d).toList.zipIdx 0).foldl (fun cs (p : Value × Nat) => cs.setIfInBounds (k * 32 + p.2) p.1) cs := by
      rw [← Array.foldl_toList]; simp
    have e' : (byteCells d).zipIdx.foldl (fun cs (x : Value × Nat) => match x with | (c, j) => cs.setIfInBounds (k * 32 + j) c) cs = ((byteCells d).toList.zipIdx 0).foldl (fun cs (p : Value × Nat) => cs.setIfInBounds (k * 32 + p.2) p.1) cs := e
    rw [e', ih (k + 1) _ (fun i x hx => h32 (i + 1) x hx) (by rw [fold_size]; omega)]
    congr 1
    apply congrArg List.toArray
    rw [List.flatten_cons, List.map_append, ← List.append_assoc]
    congr 1
    apply List.ext_getElem?
    intro j
    have hbl : (byteCells d).toList.length = 32 := by rw [byteCells_len, hd]
    rw [List.getElem?_take, Array.getElem?_toList, fold_set]
    by_cases h1 : j < k * 32
    · rw [if_pos (by omega), if_neg (by omega), List.getElem?_append_left (by rw [List.length_take, Array.length_toList]; omega), List.getElem?_take, if_pos h1, Array.getElem?_toList]
    · rw [List.getElem?_append_right (by rw [List.length_take, Array.length_toList]; omega), List.length_take, Nat.min_eq_left (show k * 32 ≤ cs.toList.length by rw [Array.length_toList]; omega)]
      by_cases h2 : j < (k + 1) * 32
      · rw [if_pos h2, if_pos (by omega), Array.getElem?_toList, byteCells_at d (j - k * 32 - 0) (by omega), List.getElem?_map, show j - k * 32 - 0 = j - k * 32 by omega, List.getElem?_eq_getElem (show j - k * 32 < d.length by omega)]; rfl
      · rw [if_neg h2, List.getElem?_eq_none (by rw [List.length_map, hd]; omega)]
theorem run_buildSlice_digs (w : World) (ds : List Dig) (parts : Array (Nat × Value)) (h32 : All32 ds) (hn : 0 < ds.length) (hl : ds.length ≤ 16) (hp : parts.toList = ds.zipIdx.map (fun p => (p.2, Value.agg (byteCells p.1)))) :
    (Instr.buildSlice 22 ds.length parts).run Tryd.prog w = .ok (.slice (some ⟨w.heap.size, 0, none⟩) ds.length ds.length) (w.alloc (.cells (ds.flatten.map bc).toArray 30)) := by
  have hfill : ∀ zero : Array Value, Instr.fill (fun i => some (i * 32, 32)) ((Array.range (ds.length * 32)).map (zero[· % zero.size]!)) parts.toList = some (ds.flatten.map bc).toArray := fun zero => by
    rw [hp]
    have := fill_digs ds 0 ((Array.range (ds.length * 32)).map (zero[· % zero.size]!)) h32 (by simp)
    simpa using this
  unfold Instr.buildSlice
  have hz : Tryd.t30.zero = some (.agg (zeroCells 32)) := by kernel_rfl
  simp only [Sem.run_bind, run_underlying Tryd.underlying22, Result.andThen]
  simp [go_sem, hfill, zeroValue, Result.andThen, hz]
  omega
theorem All32.one {d : Dig} (h : d.length = 32) : All32 [d] := fun i x hx => by
  cases i with
  | zero => simp at hx; rw [← hx]; exact h
  | succ i => simp at hx
theorem All32.two {a b : Dig} (h : a.length = 32) (k : b.length = 32) : All32 [a, b] := (All32.one h).snoc k
theorem ownD_new (base : Nat) (w : World) (ds : List Dig) (h32 : All32 ds) (hl : ds.length ≤ 16) (hb : base ≤ w.heap.size) : OwnD base (w.alloc (.cells (ds.flatten.map bc).toArray 30)) (.slice (some ⟨w.heap.size, 0, none⟩) ds.length ds.length) ds :=
  ⟨h32, by rw [List.length_map, flat_len h32], .inr ⟨_, _, _, rfl, hb, heap_alloc_new w _, Nat.le_refl _, by unfold maxLen; omega, by rw [List.size_toArray, List.length_map, flat_len h32], by rw [List.take_of_length_le (by rw [List.length_map, flat_len h32]; exact Nat.le_refl _)]⟩⟩
theorem digs_new (w : World) (ds : List Dig) (h32 : All32 ds) (hl : ds.length ≤ 16) : Digs (w.alloc (.cells (ds.flatten.map bc).toArray 30)) (.slice (some ⟨w.heap.size, 0, none⟩) ds.length ds.length) ds :=
  (ownD_new 0 w ds h32 hl (Nat.zero_le _)).digs (by simp)
/-- One digest as a slice. -/
theorem run_build_one (o : Oper) (ρ : Operand → Value) (x : Operand) (d : Dig) (w : World) (hd : d.length = 32) (ho : o.op = .buildSlice 22 1 #[(0, x)]) (hx : ρ x = .agg (byteCells d)) :
    (execOp ρ o).run Tryd.prog w = .ok (.value (.slice (some ⟨w.heap.size, 0, none⟩) 1 1)) (w.alloc (.cells (byteCells d) 30)) := by
  have := run_buildSlice_digs w [d] #[(0, .agg (byteCells d))] (All32.one hd) (by simp) (by simp) (by simp)
  have e : ([d].flatten.map bc).toArray = byteCells d := by simp [byteCells, bc]
  rw [e] at this
  unfold execOp
  simp only [ho, List.map_toArray, List.map_cons, List.map_nil, hx, Sem.run_bind]
  rw [show (Instr.buildSlice 22 1 #[(0, .agg (byteCells d))]).run Tryd.prog w = _ from this]
  rfl
theorem run_build_two (o : Oper) (ρ : Operand → Value) (x y : Operand) (d e : Dig) (w : World) (hd : d.length = 32) (he : e.length = 32) (ho : o.op = .buildSlice 22 2 #[(0, x), (1, y)]) (hx : ρ x = .agg (byteCells d)) (hy : ρ y = .agg (byteCells e)) :
    (execOp ρ o).run Tryd.prog w = .ok (.value (.slice (some ⟨w.heap.size, 0, none⟩) 2 2)) (w.alloc (.cells ([d, e].flatten.map bc).toArray 30)) := by
  have := run_buildSlice_digs w [d, e] #[(0, .agg (byteCells d)), (1, .agg (byteCells e))] (All32.two hd he) (by simp) (by simp) (by simp)
  unfold execOp
  simp only [ho, List.map_toArray, List.map_cons, List.map_nil, hx, hy, Sem.run_bind]
  rw [show (Instr.buildSlice 22 2 #[(0, .agg (byteCells d)), (1, .agg (byteCells e))]).run Tryd.prog w = _ from this]
  rfl
theorem digs_one (w : World) (d : Dig) (hd : d.length = 32) : Digs (w.alloc (.cells (byteCells d) 30)) (.slice (some ⟨w.heap.size, 0, none⟩) 1 1) [d] := by
  have := digs_new w [d] (All32.one hd) (by simp)
  have e : ([d].flatten.map bc).toArray = byteCells d := by simp [byteCells, bc]
  rwa [e] at this
theorem digs_sub {w : World} {g o : Nat} {ds : List Dig} {j m c : Nat} (h32 : All32 ds) (hin : DigsIn w g o ds) (hg : g < w.heap.size) (hjm : j + m ≤ ds.length) (hm : m ≤ c) (hc : c ≤ maxLen) :
    Digs w (.slice (some ⟨g, o + j * 32, none⟩) m c) ((ds.drop j).take m) := by
  have hl : ((ds.drop j).take m).length = m := by rw [List.length_take, List.length_drop]; omega
  have hat : ∀ i, i < m → ((ds.drop j).take m)[i]? = ds[j + i]? := fun i hi => by rw [List.getElem?_take, if_pos hi, List.getElem?_drop]
  refine ⟨fun i d hd => ?_, _, c, g, o + j * 32, by rw [hl], by omega, hc, fun _ => rfl, fun i hi => ?_, hg⟩
  · have hi : i < m := by have := (List.getElem?_eq_some_iff.1 hd).1; omega
    rw [hat i hi] at hd
    exact h32 _ d hd
  · rw [hl] at hi
    rw [hat i hi]
    have := hin (j + i) (by omega)
    rwa [show o + (j + i) * 32 = o + j * 32 + i * 32 by omega] at this
theorem Digs.at_ {w : World} {v : Value} {ds : List Dig} (h : Digs w v ds) {i : Nat} (hi : i < ds.length) : ∃ g o cap, v = .slice (some ⟨g, o, none⟩) ds.length cap ∧ w.rangeAt g (o + i * 32) (byteCells (ds[i]?.getD [])).toList ∧ g < w.heap.size := by
  obtain ⟨_, a, cap, g, o, rfl, _, _, ha, hin, hg⟩ := h
  obtain rfl := ha (by intro e; simp [e] at hi)
  exact ⟨g, o, cap, rfl, hin i hi, hg⟩
/-- An operation by its run, at its step. -/
theorem op_run {P : Program} {o : Oper} {a : Act} {w w' : World} {v : Value} {K : Act → World → Prop} {Q : Exit → Act → World → Prop} (hrun : (execOp a.eval o).run P w = .ok (.value v) w') (h : K (a.put o.dst v) w') : o.wp P a w K Q := by
  unfold Oper.wp; rw [hrun]; exact h
end Go.Proofs.YtcmkjgodgocdfaaDoor
