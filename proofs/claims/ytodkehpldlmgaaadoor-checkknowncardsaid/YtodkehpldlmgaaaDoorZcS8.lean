/- The document's jump. -/
import Derived.Test.YtodkehpldlmgaaaDoorZcS7
import Derived.Test.YtodkehpldlmgaaaDoorZq5
namespace Go.Proofs.YtodkehpldlmgaaaDoor
open Go.RowKit

def lx : Op → Operand
  | .load _ x => x
  | _ => .const (.bool false)
def sx : Op → Operand
  | .store _ x _ => x
  | _ => .const (.bool false)
def sy : Op → Operand
  | .store _ _ y => y
  | _ => .const (.bool false)
section
variable {ops : Array Oper} {rest : List Oper} {o : Oper} {a : Act} {w : World} {Q : Exit → Act → World → Prop}
theorem valA (v : Value) (h : wpList Tryd.prog ops Q rest (a.put o.dst v) w) (hg : o.guard = none := by kernel_rfl) (hr : (execOp a.eval o).run Tryd.prog w = .ok (.value v) w := by kernel_rfl) : wpList Tryd.prog ops Q (o :: rest) a w :=
  wpList_valG hg hr h
theorem valR {v : Value} (hr : (execOp a.eval o).run Tryd.prog w = .ok (.value v) w) (h : wpList Tryd.prog ops Q rest (a.put o.dst v) w) (hg : o.guard = none := by kernel_rfl) : wpList Tryd.prog ops Q (o :: rest) a w :=
  wpList_valG hg hr h
theorem ldA {ty : Nat} {ad : Addr} {v : Value} (hl : (loadVar ty ad).run Tryd.prog w = .ok v w) (h : wpList Tryd.prog ops Q rest (a.put o.dst v) w) (hw : Region.wanted o (yielded ops a.tmps) = true := by kernel_rfl) (ho : o.op = .load ty (lx o.op) := by kernel_rfl) (hx : a.eval (lx o.op) = .pointer (some ad) := by kernel_rfl) :
    wpList Tryd.prog ops Q (o :: rest) a w := wpList_ldG hw ty _ ho ad hx v hl h
theorem callA {f : FuncId} {args : Array Value} {R : Ending → World → Prop} (hc : Calls Tryd.prog f args w R) (h : ∀ e w', R e w' → ∃ v, e = .returned v ∧ wpList Tryd.prog ops Q rest (a.put o.dst v) w')
    (hw : Region.wanted o (yielded ops a.tmps) = true := by kernel_rfl) (hrun : (execOp a.eval o).run Tryd.prog w = .ok (.enter f args) w := by kernel_rfl) : wpList Tryd.prog ops Q (o :: rest) a w := wpList_callG hw hrun hc h
theorem stW {g t : Nat} {z : Array Value} (ty : Nat) (cs : Array Value) (hz : Has w g z t) (h1 : cs.all (·.oneCell') = true) (h : wpList Tryd.prog ops Q rest (a.put o.dst undef) (w.setRow g cs)) (hg : o.guard = none := by kernel_rfl)
    (ho : o.op = .store ty (sx o.op) (sy o.op) := by kernel_rfl) (hx : a.eval (sx o.op) = .pointer (some ⟨g, 0, none⟩) := by kernel_rfl) (hy : a.eval (sy o.op) = .agg cs := by kernel_rfl) (hi : (Tryd.prog.info? ty).map (·.size) = some cs.size := by kernel_rfl) (hs : z.size = cs.size := by kernel_rfl) :
    wpList Tryd.prog ops Q (o :: rest) a w := wpList_store_row hg ty _ _ ho g cs hx hy t z hz hi hs h1 h
theorem stM {g p : Nat} (cs : Array Value) (ht : w.there g p cs.size) (h1 : cs.all (·.oneCell') = true) (h : wpList Tryd.prog ops Q rest (a.put o.dst undef) (w.setCells g p cs.toList)) (ty : Nat := 43) (hg : o.guard = none := by kernel_rfl)
    (ho : o.op = .store ty (sx o.op) (sy o.op) := by kernel_rfl) (hx : a.eval (sx o.op) = .pointer (some ⟨g, p, none⟩) := by kernel_rfl) (hy : a.eval (sy o.op) = .agg cs := by kernel_rfl) (hi : (Tryd.prog.info? ty).map (·.size) = some cs.size := by kernel_rfl) :
    wpList Tryd.prog ops Q (o :: rest) a w := wpList_store_mid hg ty _ _ ho g p cs hx hy ht hi h1 h
theorem alA (ty : Nat) (z : Array Value) (h : wpList Tryd.prog ops Q rest (a.put o.dst (.pointer (some ⟨w.heap.size, 0, none⟩))) (w.alloc (.cells z ty))) (hg : o.guard = none := by kernel_rfl) (hr : (execOp a.eval o).run Tryd.prog w = .ok (.value (.pointer (some ⟨w.heap.size, 0, none⟩))) (w.alloc (.cells z ty)) := by kernel_rfl) : wpList Tryd.prog ops Q (o :: rest) a w :=
  wpList_valG hg hr h
end
def zW : Array Value := wayA noK noK 0
def spA (l g : Nat) : Array Value := #[.int .i64 (l : Int), .int .i64 (g : Int)]
/-- The world of a jump. -/
structure JB (w : World) (i : Ins) (k : Kn) (dl dg sl sg : Nat) (n j : Kn) (X : World) : Prop where
  ins : Has X w.heap.size i.a 38
  kn : Has X (w.heap.size + 1) k.a 43
  d : Has X (w.heap.size + 2) (spA dl dg) 86
  s : Has X (w.heap.size + 3) (spA sl sg) 86
  r : Has X (w.heap.size + 4) (wayA noK noK 0) 49
  v : Has X (w.heap.size + 5) (wayA n j 0) 49
  below : Below w.heap.size w X
section
variable {w X X' : World} {i : Ins} {k n j : Kn} {dl dg sl sg : Nat}
theorem JB.grow (h : JB w i k dl dg sl sg n j X) (g : Below X.heap.size X X') : JB w i k dl dg sl sg n j X' :=
  ⟨h.ins.below g h.ins.lt, h.kn.below g h.kn.lt, h.d.below g h.d.lt, h.s.below g h.s.lt, h.r.below g h.r.lt, h.v.below g h.v.lt, h.below.trans (g.mono h.below.size)⟩
theorem JB.setN (h : JB w i k dl dg sl sg n j X) (n' : Kn) : JB w i k dl dg sl sg n' j (X.setCells (w.heap.size + 5) 0 n'.a.toList) :=
  have g := way_next h.v n'
  ⟨h.ins.ex g.2 (by omega), h.kn.ex g.2 (by omega), h.d.ex g.2 (by omega), h.s.ex g.2 (by omega), h.r.ex g.2 (by omega), g.1, Below.ex h.below h.below.size g.2 (by omega)⟩
theorem JB.setJ (h : JB w i k dl dg sl sg n j X) (j' : Kn) : JB w i k dl dg sl sg n j' (X.setCells (w.heap.size + 5) 31 j'.a.toList) :=
  have g := way_jumped h.v j'
  ⟨h.ins.ex g.2 (by omega), h.kn.ex g.2 (by omega), h.d.ex g.2 (by omega), h.s.ex g.2 (by omega), h.r.ex g.2 (by omega), g.1, Below.ex h.below h.below.size g.2 (by omega)⟩
theorem JB.q (h : JB w i k dl dg sl sg n j X) {q : Nat} {v : Value} (e : i.a[q]? = some v) : X.cell? ⟨w.heap.size, q, none⟩ = some v := (h.ins.cell q).trans e
theorem JB.d0 (h : JB w i k dl dg sl sg n j X) : X.cell? ⟨w.heap.size + 2, 0, none⟩ = some (.int .i64 (dl : Int)) := h.d.cell 0
theorem JB.d1 (h : JB w i k dl dg sl sg n j X) : X.cell? ⟨w.heap.size + 2, 1, none⟩ = some (.int .i64 (dg : Int)) := h.d.cell 1
theorem JB.s0 (h : JB w i k dl dg sl sg n j X) : X.cell? ⟨w.heap.size + 3, 0, none⟩ = some (.int .i64 (sl : Int)) := h.s.cell 0
theorem JB.s1 (h : JB w i k dl dg sl sg n j X) : X.cell? ⟨w.heap.size + 3, 1, none⟩ = some (.int .i64 (sg : Int)) := h.s.cell 1
def jW0 (w : World) (i : Ins) (k : Kn) (dl dg sl sg : Nat) : World := ((((w.alloc (.cells i.a 38)).alloc (.cells k.a 43)).alloc (.cells (spA dl dg) 86)).alloc (.cells (spA sl sg) 86)).alloc (.cells zW 49)
theorem JB.start {W0 : World} (hW0 : W0 = jW0 w i k dl dg sl sg) :
    W0.heap.size = w.heap.size + 5 ∧ Has (W0.alloc (.cells zW 49)) W0.heap.size zW 49 ∧ JB w i k dl dg sl sg noK noK ((W0.alloc (.cells zW 49)).setRow (w.heap.size + 5) zW) := by
  have a0 : Has W0 w.heap.size i.a 38 := by rw [hW0]; unfold jW0; exact has_old (has_old (has_old (has_old (has_new _ _ _ _ rfl))))
  have a1 : Has W0 (w.heap.size + 1) k.a 43 := by rw [hW0]; unfold jW0; exact has_old (has_old (has_old (has_new _ _ _ _ (by simp))))
  have a2 : Has W0 (w.heap.size + 2) (spA dl dg) 86 := by rw [hW0]; unfold jW0; exact has_old (has_old (has_new _ _ _ _ (by simp)))
  have a3 : Has W0 (w.heap.size + 3) (spA sl sg) 86 := by rw [hW0]; unfold jW0; exact has_old (has_new _ _ _ _ (by simp))
  have a4 : Has W0 (w.heap.size + 4) (wayA noK noK 0) 49 := by rw [hW0]; unfold jW0; exact has_new _ _ _ _ (by simp)
  have hB0 : Below w.heap.size w W0 := by rw [hW0]; unfold jW0; exact (((((Below.refl _ _).alloc (Nat.le_refl _) _).alloc (by simp) _).alloc (by simp; omega) _).alloc (by simp; omega) _).alloc (by simp; omega) _
  have hs0 : W0.heap.size = w.heap.size + 5 := by rw [hW0]; unfold jW0; simp
  have a5 : Has (W0.alloc (.cells zW 49)) W0.heap.size zW 49 := has_new _ _ _ _ rfl
  have e := setRow_ex (W0.alloc (.cells zW 49)) W0.heap.size zW
  have h5 := setRow_has a5 zW
  rw [hs0] at e h5
  have n0 : w.heap.size ≠ w.heap.size + 5 := by omega
  have n1 : w.heap.size + 1 ≠ w.heap.size + 5 := by omega
  have n2 : w.heap.size + 2 ≠ w.heap.size + 5 := by omega
  have n3 : w.heap.size + 3 ≠ w.heap.size + 5 := by omega
  have n4 : w.heap.size + 4 ≠ w.heap.size + 5 := by omega
  exact ⟨hs0, a5, (has_old a0).ex e n0, (has_old a1).ex e n1, (has_old a2).ex e n2, (has_old a3).ex e n3, (has_old a4).ex e n4, h5, Below.ex (hB0.alloc hB0.size _) (by simp; omega) e (by omega)⟩
end
theorem JB.ex {w X X' : World} {i : Ins} {k n j : Kn} {dl dg sl sg b : Nat} (h : JB w i k dl dg sl sg n j X) (g : Ex b X X') (hb : w.heap.size + 6 ≤ b) : JB w i k dl dg sl sg n j X' :=
  ⟨h.ins.ex g (by omega), h.kn.ex g (by omega), h.d.ex g (by omega), h.s.ex g (by omega), h.r.ex g (by omega), h.v.ex g (by omega), Below.ex h.below h.below.size g (by omega)⟩
theorem run_min {o : Oper} {ρ : Operand → Value} {X : World} (x y : Operand) (ho : o.op = .call { callee := .builtin .min, args := #[x, y], argTypes := #[2, 2] }) (a b c : Int) (hx : ρ x = .int .i64 a) (hy : ρ y = .int .i64 b) (hc : c = if b < a then b else a) : (execOp ρ o).run Tryd.prog X = .ok (.value (.int .i64 c)) X := by
  subst hc
  unfold execOp
  simp only [ho]
  go_simp
theorem run_max {o : Oper} {ρ : Operand → Value} {X : World} (x y : Operand) (ho : o.op = .call { callee := .builtin .max, args := #[x, y], argTypes := #[2, 2] }) (a b c : Int) (hx : ρ x = .int .i64 a) (hy : ρ y = .int .i64 b) (hc : c = if a < b then b else a) : (execOp ρ o).run Tryd.prog X = .ok (.value (.int .i64 c)) X := by
  subst hc
  unfold execOp
  simp only [ho]
  go_simp
theorem ld2 {X : World} {a : Addr} {v : Value} (h : X.cell? a = some v) : (loadVar 2 a).run Tryd.prog X = .ok v X := by simp [go_sem, h]
theorem ld3 {X : World} {a : Addr} {v : Value} (h : X.cell? a = some v) : (loadVar 3 a).run Tryd.prog X = .ok v X := by simp [go_sem, h]
theorem ld4 {X : World} {a : Addr} {v : Value} (h : X.cell? a = some v) : (loadVar 4 a).run Tryd.prog X = .ok v X := by simp [go_sem, h]
theorem ld35 {X : World} {a : Addr} {v : Value} (h : X.cell? a = some v) : (loadVar 35 a).run Tryd.prog X = .ok v X := by simp [go_sem, h]
theorem ld36 {X : World} {a : Addr} {v : Value} (h : X.cell? a = some v) : (loadVar 36 a).run Tryd.prog X = .ok v X := by simp [go_sem, h]
theorem ld86 {X : World} {b t : Nat} {l g : Int} (h : Has X b #[.int .i64 l, .int .i64 g] t) : (loadVar 86 ⟨b, 0, none⟩).run Tryd.prog X = .ok (spV l g) X := ld_row (l := [.int .i64 l, .int .i64 g]) (has_whole h) (by kernel_rfl)
theorem ld49 {X : World} {b t : Nat} {n j : Kn} {e : Int} (h : Has X b (wayA n j e) t) : (loadVar 49 ⟨b, 0, none⟩).run Tryd.prog X = .ok (.agg (wayA n j e)) X := ld_row (l := wayC n j e) (has_whole h) (by kernel_rfl)
theorem ld38 {X : World} {b t : Nat} {i : Ins} (h : Has X b i.a t) : (loadVar 38 ⟨b, 0, none⟩).run Tryd.prog X = .ok (.agg i.a) X := ld_row (l := i.cells) (has_whole h) (by kernel_rfl)
theorem ld43 {X : World} {b t : Nat} {k : Kn} (h : Has X b k.a t) : (loadVar 43 ⟨b, 0, none⟩).run Tryd.prog X = .ok (.agg k.a) X := ld_row (l := k.cells) (has_whole h) (by kernel_rfl)
theorem ld43N {X : World} {b t : Nat} {n j : Kn} {e : Int} (h : Has X b (wayA n j e) t) : (loadVar 43 ⟨b, 0, none⟩).run Tryd.prog X = .ok (.agg n.a) X := ld_row (l := n.cells) (way_nextR h) (by kernel_rfl)
theorem ld43J {X : World} {b t : Nat} {n j : Kn} {e : Int} (h : Has X b (wayA n j e) t) : (loadVar 43 ⟨b, 31, none⟩).run Tryd.prog X = .ok (.agg j.a) X := ld_row (l := j.cells) (way_jumpedR h) (by kernel_rfl)
theorem build_wayN (k : Kn) (W : World) : (Instr.build 49 #[(0, .agg k.a)]).run Tryd.prog W = .ok (.agg (wayA k noK 0)) W := by kernel_rfl
theorem build_wayJ (k : Kn) (W : World) : (Instr.build 49 #[(1, .agg k.a)]).run Tryd.prog W = .ok (.agg (wayA noK k 0)) W := by kernel_rfl
theorem build_wayE (e : Int) (W : World) : (Instr.build 49 #[(2, .int .i64 e)]).run Tryd.prog W = .ok (.agg (wayA noK noK e)) W := by kernel_rfl
end Go.Proofs.YtodkehpldlmgaaaDoor
