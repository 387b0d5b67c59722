/- Digests that are appended to a row of one's own. -/
import Derived.Test.YtcmkjgodgocdfaaDoorD2
import Derived.Test.YtcmkjgodgocdfaaDoorA9
namespace Go.Proofs.YtcmkjgodgocdfaaDoor
open Go.RowKit

theorem info30 : (Tryd.prog.info? 30).map (fun i => (i.zero, i.size, i.bytes)) = some (some (.agg (zeroCells 32)), 32, 32) := by kernel_rfl
theorem digs_cells {w : World} {g o : Nat} {es : List Dig} (h32 : All32 es) (h : DigsIn w g o es) : ∀ j u, (es.flatten.map bc)[j]? = some u → w.cell? ((⟨g, o, none⟩ : Addr).add j) = some u := fun j u hu => by
  have hj : j < es.length * 32 := by
    have := (List.getElem?_eq_some_iff.1 hu).1
    rwa [List.length_map, flat_len h32] at this
  have hi : j / 32 < es.length := by omega
  have hd := h32.at_ hi
  have e1 := flat_at h32 (j / 32) (j % 32) hi (by omega)
  rw [show j / 32 * 32 + j % 32 = j by omega] at e1
  rw [List.getElem?_map, e1] at hu
  have hlt : j % 32 < (es[j / 32]?.getD []).length := by omega
  have h2 : (byteCells (es[j / 32]?.getD [])).toList[j % 32]? = some u := by
    rw [Array.getElem?_toList, byteCells_at _ _ hlt, ← hu, List.getElem?_eq_getElem hlt]; rfl
  have := h (j / 32) hi (j % 32) u h2
  rw [Addr.add_mid, ← this]
  congr 2
  omega
theorem run_append_digs (ty : TypeId) (base : Nat) (w : World) (v xv : Value) (ds es : List Dig) (hown : OwnD base w v ds) (hx : Digs w xv es) (hsm : ds.length + es.length ≤ 1000) (hbase : base ≤ w.heap.size) :
    ∃ v' w', (Builtin.append_ #[22, 22] ty #[v, xv]).run Tryd.prog w = .ok v' w' ∧ OwnD base w' v' (ds ++ es) ∧ w.grownBy w' v.ownBlock := by
  obtain ⟨i0, hi, hz0, hz1, hz2⟩ := info_parts info30
  obtain ⟨h32, a, cap, g, o, rfl, hcap, hmx, ha, hin, hlt⟩ := hx
  have hmx : ds.length + es.length ≤ maxLen := by unfold maxLen; omega
  cases a with
  | some a0 =>
    have hcells : ∀ j u, (es.flatten.map bc)[j]? = some u → w.cell? (a0.add j) = some u := fun j u hu => by
      have hne : es ≠ [] := by intro e; simp [e] at hu
      obtain rfl := Option.some.inj (ha hne)
      exact digs_cells h32 hin j u hu
    obtain ⟨v', w', h1, h2, h3, h4⟩ := run_append_own (P := Tryd.prog) w base 22 ty 30 i0 (.agg (zeroCells 32)) 32 32 Tryd.underlying22 hi hz0 hz1 hz2 (by simp [Value.cells, zeroCells_size]) (by omega) v ds.length (ds.flatten.map bc) hown.2 a0 es.length cap (es.flatten.map bc) (by rw [List.length_map, flat_len h32]) hcells
      (fun u hu => by simp only [List.mem_map] at hu; obtain ⟨y, _, rfl⟩ := hu; rfl) hmx (by omega) hbase
    exact ⟨v', w', h1, ⟨hown.1.app h32, by rw [List.length_append, List.flatten_append, List.map_append]; exact h2⟩, h3⟩
  | none =>
    have hx0 : es = [] := by
      cases es with
      | nil => rfl
      | cons b l => cases ha (by simp)
    subst hx0
    refine ⟨v, w, ?_, by simpa using hown, ⟨rfl, rfl, rfl, Nat.le_refl _, fun _ _ _ => rfl⟩⟩
    rcases hown.2.2 with ⟨rfl, h0⟩ | ⟨g, c, cur, rfl, _, hg, hnc, _⟩
    · simp [Builtin.append_, run_underlying Tryd.underlying22, sizeOf, typeInfo, hi, Builtin.lenOf, Builtin.firstCells]
    · simp [Builtin.append_, run_underlying Tryd.underlying22, sizeOf, typeInfo, hi, Builtin.lenOf, Builtin.firstCells, hnc, storeCells]
theorem wp_append_digs {o : Oper} {a : Act} {w : World} {K : Act → World → Prop} {Q : Exit → Act → World → Prop} (s y : Operand)
    (ho : o.op = .call { callee := .builtin .append, args := #[s, y], argTypes := #[22, 22] }) (base : Nat) (v xv : Value) (ds es : List Dig) (hs : a.eval s = v) (hy : a.eval y = xv) (hown : OwnD base w v ds) (hx : Digs w xv es) (hsm : ds.length + es.length ≤ 1000) (hbase : base ≤ w.heap.size)
    (h : ∀ v' w', OwnD base w' v' (ds ++ es) → w.grownBy w' v.ownBlock → K (a.put o.dst v') w') : o.wp Tryd.prog a w K Q := by
  obtain ⟨v', w', h1, h2, h3⟩ := run_append_digs o.type base w v xv ds es hown hx hsm hbase
  unfold Oper.wp execOp
  simp only [ho, resolve, invoke, builtin, Sem.run_bind, Sem.run_pure, Result.andThen_ok, List.map_toArray, List.map_cons, List.map_nil, hs, hy, h1]
  exact h v' w' h2 h3
theorem wpList_append_digs {w : World} {ops : Array Oper} {rest : List Oper} {o : Oper} {a : Act} {Q : Exit → Act → World → Prop} (hgd : o.guard = none) (s y : Operand)
    (ho : o.op = .call { callee := .builtin .append, args := #[s, y], argTypes := #[22, 22] }) (base : Nat) (v xv : Value) (ds es : List Dig) (hs : a.eval s = v) (hy : a.eval y = xv) (hown : OwnD base w v ds) (hx : Digs w xv es) (hsm : ds.length + es.length ≤ 1000) (hbase : base ≤ w.heap.size)
    (h : ∀ v' w', OwnD base w' v' (ds ++ es) → w.grownBy w' v.ownBlock → wpList Tryd.prog ops Q rest (a.put o.dst v') w') : wpList Tryd.prog ops Q (o :: rest) a w :=
  wpList_plain hgd fun _ hK => wp_append_digs s y ho base v xv ds es hs hy hown hx hsm hbase fun v' w' h2 h3 => hK _ _ (h v' w' h2 h3)
theorem wpListIn_append_digs {F : Fence} {n : Nat} {w : World} {ops : Array Oper} {rest : List Oper} {o : Oper} {a : Act} {Q : Exit → Act → World → Prop} (hw : Region.wanted o (yielded ops a.tmps) = true) (s y : Operand)
    (ho : o.op = .call { callee := .builtin .append, args := #[s, y], argTypes := #[22, 22] }) (base : Nat) (v xv : Value) (ds es : List Dig) (hs : a.eval s = v) (hy : a.eval y = xv) (hown : OwnD base w v ds) (hx : Digs w xv es) (hsm : ds.length + es.length ≤ 1000) (hbase : base ≤ w.heap.size)
    (h : ∀ v' w', OwnD base w' v' (ds ++ es) → w.grownBy w' v.ownBlock → wpListIn F n Tryd.prog ops Q rest (a.put o.dst v') w') : wpListIn F n Tryd.prog ops Q (o :: rest) a w := by
  obtain ⟨v', w', h1, h2, h3⟩ := run_append_digs o.type base w v xv ds es hown hx hsm hbase
  refine wpListIn_step fun K hK => ?_
  rw [if_pos hw]
  unfold Oper.wpIn
  refine ⟨?_, ?_⟩
  · simp [Oper.about, ho, resolve, Target.leads]
  · rw [Oper.semAt_plain _ _ _ (fun c => by rw [ho]; simp)]
    unfold execOp
    simp only [ho, resolve, invoke, builtin, Sem.run_bind, Sem.run_pure, Result.andThen_ok, List.map_toArray, List.map_cons, List.map_nil, hs, hy, h1]
    exact hK _ _ (h v' w' h2 h3)
end Go.Proofs.YtcmkjgodgocdfaaDoor
