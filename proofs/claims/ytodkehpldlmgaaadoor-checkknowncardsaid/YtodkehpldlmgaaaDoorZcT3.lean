/- The document's Behind, of anything that may be; what the laws' walks need. -/
import Derived.Test.YtodkehpldlmgaaaDoorZcT2
import Derived.Test.YtodkehpldlmgaaaDoorZcG7
namespace Go.Proofs.YtodkehpldlmgaaaDoor
open Go.RowKit

set_option maxRecDepth 10000 in
set_option maxHeartbeats 4000000 in
theorem rbeh_nc (i : Ins) (c : Int) (k : Kn) (w : World) (Hc : k.come = false) :
    Calls Tryd.prog 20 #[.agg i.a, .int .i64 c, .agg k.a] w fun e w' => e = .returned (.agg (wayA noK noK 0)) ∧ Below w.heap.size w w' := by
  obtain ⟨W0, hW0⟩ : ∃ W0, W0 = ((w.alloc (.cells i.a 38)).alloc (.cells k.a 43)).alloc (.cells (wayA noK noK 0) 49) := ⟨_, rfl⟩
  have hR0 : RB w i k W0 := by
    rw [hW0]
    exact ⟨has_old (has_old (has_new _ _ _ _ rfl)), has_old (has_new _ _ _ _ (by simp)), has_new _ _ _ _ (by simp), (((Below.refl _ _).alloc (Nat.le_refl _) _).alloc (by simp) _).alloc (by simp; omega) _⟩
  go_enter Tryd.func20, Tryd.ntmps20
  go_upto_region 1 with fail
  refine named2 (p := fun X => Code.wp _ _ _ _ X) ?_
  intro W9 hW9
  have hW : W0 = W9 := hW0.trans (Eq.trans (by kernel_rfl) hW9.symm)
  subst hW
  clear hW9 hW0
  have p0 : W0.cell? ⟨w.heap.size + 1, 0, none⟩ = some (.bool false) := by have := hR0.kn.cell 0; rw [this]; show some (Value.bool k.come) = _; rw [Hc]
  go_upto_region 2 with fail
  first | refine wp_region_lit ?_ | skip
  refine wpList_valG (w' := W0) (v := .agg (wayA noK noK 0)) (by kernel_rfl) (by kernel_rfl) ?_
  refine wpList_store_row (by kernel_rfl) 49 _ _ rfl (w.heap.size + 2) (wayA noK noK 0) (by kernel_rfl) (by kernel_rfl) 49 (wayA noK noK 0) hR0.r (by kernel_rfl) (by kernel_rfl) (wayA_one _ _ _) ?_
  have hrow := setRow_has hR0.r (wayA noK noK 0)
  have hBx : Below w.heap.size w (W0.setRow (w.heap.size + 2) (wayA noK noK 0)) := setRow_below hR0.below (by omega) _
  clear hR0 p0
  generalize W0.setRow (w.heap.size + 2) (wayA noK noK 0) = W99 at *
  go_simp
  go_wp2_with fail
  exact bodyPost_ret (results_cell_row rfl _ _ (w.heap.size + 2) 49 _ (0, 0) _ rfl hrow Tryd.underlying49 rfl (by kernel_rfl)) rfl ⟨rfl, hBx⟩
/-- What the document's Behind answers. -/
def wayB (i : Ins) (c : Int) (k : Kn) : Array Value := wayA (behV i c k).1 (behV i c k).2.1 (behV i c k).2.2
theorem rbehind_any (i : Ins) (c : Int) (k : Kn) (w : World) (h1 : chkE c [i] = 0) (h2 : knB k = true) (hu : i.imm < 4294967296) (hk : KOk k) :
    Calls Tryd.prog 20 #[.agg i.a, .int .i64 c, .agg k.a] w fun e w' => e = .returned (.agg (wayB i c k)) ∧ Below w.heap.size w w' := by
  have hm := chk_may h1 (List.mem_singleton.2 rfl) hu
  have hK := knB_right h2 hk
  cases h3 : k.come with
  | false =>
    have e : behV i c k = (noK, noK, 0) := by unfold behV; rw [if_neg (by rw [h1, h2]; decide), if_pos h3]
    unfold wayB
    rw [e]
    exact rbeh_nc i c k w h3
  | true =>
    have hw := rbeh_come i c k w hm hK h3
    have e : wayB i c k = wayO (outI i c k) := by
      unfold wayB
      cases h4 : outI i c k with
      | ok p =>
        obtain ⟨a, b⟩ := p
        rw [behV_ok h1 h2 h3 h4]; rfl
      | error x => rw [behV_no h1 h2 h3 h4]; rfl
    rw [e]
    exact hw
/-- What Behind answers may be. -/
theorem behV_right {i : Ins} {c : Int} {k : Kn} (hu : i.imm < 4294967296) (hk : KOk k) : KOk (behV i c k).1 ∧ KOk (behV i c k).2.1 := by
  have hn : KOk noK := noK_right.ok
  unfold behV
  split
  · exact ⟨hn, hn⟩
  · rename_i h
    split
    · exact ⟨hn, hn⟩
    · have h1 : chkE c [i] = 0 := Decidable.byContradiction fun e => h (.inl e)
      have h2 : knB k = true := by cases e : knB k with
        | true => rfl
        | false => exact absurd (.inr e) h
      have hm := chk_may h1 (List.mem_singleton.2 rfl) hu
      cases h4 : outI i c k with
      | ok p =>
        obtain ⟨a, b⟩ := p
        have := outI_right hm (knB_right h2 hk) h4
        exact ⟨this.1.ok, this.2.ok⟩
      | error x => exact ⟨hn, hn⟩
theorem wpList_valW {ops : Array Oper} {rest : List Oper} {o : Oper} {a : Act} {w w' : World} {v : Value} {Q : Exit → Act → World → Prop} (hw : Region.wanted o (yielded ops a.tmps) = true) (hr : (execOp a.eval o).run Tryd.prog w = .ok (.value v) w') (h : wpList Tryd.prog ops Q rest (a.put o.dst v) w') : wpList Tryd.prog ops Q (o :: rest) a w := by
  unfold wpList
  rw [if_pos hw]
  refine .inl ?_
  unfold Oper.wp
  rw [hr]
  exact h
theorem wpList_notW {ops : Array Oper} {rest : List Oper} {o : Oper} {a : Act} {w : World} {Q : Exit → Act → World → Prop} (hw : Region.wanted o (yielded ops a.tmps) = false) (h : wpList Tryd.prog ops Q rest (a.put o.dst undef) w) : wpList Tryd.prog ops Q (o :: rest) a w := by
  unfold wpList
  rw [if_neg (by rw [hw]; decide)]
  exact h
theorem run_eql43 {o : Oper} {ρ : Operand → Value} {X : World} (x y : Operand) (ho : o.op = .binOp .eql 43 x y 43) (k : Kn) (hk : KOk k) (hx : ρ x = .agg k.a) (hy : ρ y = .agg k.a) : (execOp ρ o).run Tryd.prog X = .ok (.value (.bool true)) X := by
  obtain ⟨r, h1, h2⟩ := kn_eq k k hk hk X
  obtain rfl : r = true := h2.2 rfl
  unfold execOp
  simp only [ho, hx, hy]
  generalize k.a = ka at *
  have hg : (eqGuard .eql 43 x y (.agg ka) (.agg ka)).run Tryd.prog X = .ok () X := by simp [eqGuard, go_sem]
  have h : (binOp .eql 43 (.agg ka) (.agg ka)).run Tryd.prog X = .ok (.bool true) X := by
    rw [run_eql_struct, h1]; rfl
  simp only [Sem.run_bind, hg, h, Result.andThen_ok, Sem.run_pure]
/-- Two rows are made, and stored into. -/
theorem two_rows (V : World) (n j : Kn) :
    Has ((V.alloc (.cells noK.a 43)).alloc (.cells noK.a 43)) V.heap.size noK.a 43 ∧ Has (((V.alloc (.cells noK.a 43)).alloc (.cells noK.a 43)).setRow V.heap.size n.a) (V.alloc (.cells noK.a 43)).heap.size noK.a 43
    ∧ Has ((((V.alloc (.cells noK.a 43)).alloc (.cells noK.a 43)).setRow V.heap.size n.a).setRow (V.alloc (.cells noK.a 43)).heap.size j.a) V.heap.size n.a 43
    ∧ Has ((((V.alloc (.cells noK.a 43)).alloc (.cells noK.a 43)).setRow V.heap.size n.a).setRow (V.alloc (.cells noK.a 43)).heap.size j.a) (V.alloc (.cells noK.a 43)).heap.size j.a 43
    ∧ Below V.heap.size V ((((V.alloc (.cells noK.a 43)).alloc (.cells noK.a 43)).setRow V.heap.size n.a).setRow (V.alloc (.cells noK.a 43)).heap.size j.a) ∧ V.heap.size < (V.alloc (.cells noK.a 43)).heap.size := by
  have hs : V.heap.size < (V.alloc (.cells noK.a 43)).heap.size := by simp
  have h1 : Has ((V.alloc (.cells noK.a 43)).alloc (.cells noK.a 43)) V.heap.size noK.a 43 := has_old (has_new _ _ _ _ rfl)
  have h2 : Has ((V.alloc (.cells noK.a 43)).alloc (.cells noK.a 43)) (V.alloc (.cells noK.a 43)).heap.size noK.a 43 := has_new _ _ _ _ rfl
  have h3 := h2.ex (setRow_ex _ V.heap.size n.a) (by omega)
  have hb : Below V.heap.size V ((V.alloc (.cells noK.a 43)).alloc (.cells noK.a 43)) := ((Below.refl _ _).alloc (Nat.le_refl _) _).alloc (by simp) _
  exact ⟨h1, h3, (setRow_has h1 _).ex (setRow_ex _ _ _) (by omega), setRow_has h3 _, setRow_below (setRow_below hb (Nat.le_refl _) _) (by omega) _, hs⟩
end Go.Proofs.YtodkehpldlmgaaaDoor
