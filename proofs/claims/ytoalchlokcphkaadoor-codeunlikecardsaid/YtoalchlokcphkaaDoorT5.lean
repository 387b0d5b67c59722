/- taken. -/
import Derived.Test.YtoalchlokcphkaaDoorT4
import Derived.Test.YtoalchlokcphkaaDoorR6
namespace Go.Proofs.YtoalchlokcphkaaDoor
open Go.RowKit

theorem has_ne {w : World} {b b' t t' : Nat} {cs cs' : Array Value} (h : Has w b cs t) (h' : Has w b' cs' t') (ht : t ≠ t') : b ≠ b' := fun e => by
  subst e
  have := h.symm.trans h'
  simp only [Option.some.injEq, Obj.cells.injEq] at this
  exact ht this.2.1
/-- The instructions of bytes. -/
def insesL : List UInt8 → List Ins
  | x0 :: x1 :: x2 :: x3 :: x4 :: x5 :: x6 :: x7 :: r => insOf x0 x1 x2 x3 x4 x5 x6 x7 :: insesL r
  | _ => []
theorem eight_of {d : List UInt8} (h : 8 ≤ d.length) : ∃ x0 x1 x2 x3 x4 x5 x6 x7 r, d = x0 :: x1 :: x2 :: x3 :: x4 :: x5 :: x6 :: x7 :: r := by
  match d, h with
  | x0 :: x1 :: x2 :: x3 :: x4 :: x5 :: x6 :: x7 :: r, _ => exact ⟨x0, x1, x2, x3, x4, x5, x6, x7, r, rfl⟩
theorem insesL_cons (x0 x1 x2 x3 x4 x5 x6 x7 : UInt8) (r : List UInt8) : insesL (x0 :: x1 :: x2 :: x3 :: x4 :: x5 :: x6 :: x7 :: r) = insOf x0 x1 x2 x3 x4 x5 x6 x7 :: insesL r := rfl
theorem wp_append_ins {o : Oper} {a : Act} {w : World} {K : Act → World → Prop} {Q : Exit → Act → World → Prop} (s y : Operand)
    (ho : o.op = .call { callee := .builtin .append, args := #[s, y], argTypes := #[22, 22] }) (B : Nat) (v : Value) (l : List Ins) (i : Ins) (b : Nat) (hs : a.eval s = v) (hy : a.eval y = .slice (some ⟨b, 0, none⟩) 1 1) (hown : OwnI B w v l) (hx : Has w b i.cells.toArray 43) (hsm : l.length ≤ 100000) (hbase : B ≤ w.heap.size)
    (h : ∀ v' w', OwnI B w' v' (l ++ [i]) → w.grownBy w' v.ownBlock → K (a.put o.dst v') w') : o.wp Tryd.prog a w K Q := by
  obtain ⟨v', w', h1, h2, h3⟩ := run_append_ins o.type B w v l i b hown hx hsm hbase
  unfold Oper.wp execOp
  simp only [ho, resolve, invoke, builtin, Sem.run_bind, Sem.run_pure, Result.andThen_ok, List.map_toArray, List.map_cons, List.map_nil, hs, hy, h1]
  exact h v' w' h2 h3
/-- How taken stands. -/
structure TI (w W : World) (pb bp b1 b2 b4 mb : Nat) (ctx : Nat) (sv : Value) (l : List Ins) (r : List UInt8) : Prop where
  tk : Tk (w.heap.size + 1) bp b1 b2 b4 mb W r
  res : Has W w.heap.size #[.int .i64 0, .slice none 0 0] 24
  box : Has W pb #[.int .i64 ctx, sv] 24
  own : OwnI (w.heap.size + 1) W sv l
  bel : Below w.heap.size w W
  gt : w.heap.size < pb
theorem TI.below {w W W' : World} {pb bp b1 b2 b4 mb ctx : Nat} {sv : Value} {l : List Ins} {r : List UInt8} (h : TI w W pb bp b1 b2 b4 mb ctx sv l r) (k : Below W.heap.size W W') : TI w W' pb bp b1 b2 b4 mb ctx sv l r :=
  ⟨h.tk.below k, h.res.below k h.res.lt, h.box.below k h.box.lt, h.own.below k, h.bel.trans (k.mono h.bel.size), h.gt⟩
/-- What an instruction's taking leaves. -/
theorem TI.took {w W W' : World} {pb bp b1 b2 b4 mb ctx : Nat} {sv : Value} {l : List Ins} {r r' : List UInt8} (h : TI w W pb bp b1 b2 b4 mb ctx sv l r) (k : Ex bp W W') (kb : Below (w.heap.size + 1) W W') (hT : Tk (w.heap.size + 1) bp b1 b2 b4 mb W' r') : TI w W' pb bp b1 b2 b4 mb ctx sv l r' := by
  obtain ⟨a, n, c, hb, _⟩ := h.tk.box
  refine ⟨hT, h.res.ex k (has_ne h.res hb (by decide)), h.box.ex k (has_ne h.box hb (by decide)), h.own.fr (Fr.of_ex k) (fun g hg e => ?_), h.bel.trans (kb.mono (by omega)), h.gt⟩
  obtain ⟨_, cur, hc⟩ := h.own.blk hg
  exact has_ne hc hb (by decide) e
/-- Behind an append, and a store of what it answered. -/
theorem TI.app {w W W' : World} {pb bp b1 b2 b4 mb ctx : Nat} {sv sv' : Value} {l l' : List Ins} {r : List UInt8} (h : TI w W pb bp b1 b2 b4 mb ctx sv l r) (k : W.grownBy W' sv.ownBlock) (ho : OwnI (w.heap.size + 1) W' sv' l') :
    Has W' pb #[.int .i64 ctx, sv] 24 ∧ TI w (W'.setCell ⟨pb, 1, none⟩ sv') pb bp b1 b2 b4 mb ctx sv' l' r := by
  have hf := grown_fr k
  have h1 : Tk (w.heap.size + 1) bp b1 b2 b4 mb W' r := h.tk.fr hf (fun g hg => by obtain ⟨hb, cs, h1⟩ := h.own.blk hg; exact ⟨hb, cs, 43, h1, by decide, by decide⟩)
  have h2 : Has W' w.heap.size #[.int .i64 0, .slice none 0 0] 24 := h.res.fr hf (fun e => by obtain ⟨_, cs, h1⟩ := h.own.blk e; exact has_ne h1 h.res (by decide) rfl)
  have h3 : Has W' pb #[.int .i64 ctx, sv] 24 := h.box.fr hf (fun e => by obtain ⟨_, cs, h1⟩ := h.own.blk e; exact has_ne h1 h.box (by decide) rfl)
  have h4 : Below w.heap.size w W' := Fr.below h.bel hf h.bel.size (fun g hg e => by have := (h.own.blk e).1; omega)
  have hE := Ex.set pb W' 1 sv'
  have hgt := h.gt
  refine ⟨h3, ⟨h1.ex h3 (by decide) (by decide) (by omega) hE, h2.ex hE (by omega), h3.set 1 sv', ho.fr (Fr.of_ex hE) (fun g hg e => ?_), Below.ex h4 h4.size hE (by omega), hgt⟩⟩
  obtain ⟨_, cs, hc⟩ := ho.blk hg
  exact has_ne hc h3 (by decide) e
end Go.Proofs.YtoalchlokcphkaaDoor
