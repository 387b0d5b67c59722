/- Text: an instruction as a text. -/
import Derived.Test.YtoalchlokcphkaaDoorX3
import Derived.Test.YtoalchlokcphkaaDoorT5
import Derived.Test.YtoalchlokcphkaaDoorN2
import Derived.WalkSmall
namespace Go.Proofs.YtoalchlokcphkaaDoor
open Go.RowKit

theorem gTab : Tryd.prog.globalNamed "internal/strconv.uint64pow10" = some 1 := by kernel_rfl
theorem Tab.below {w w' : World} {B : Nat} (h : Tab w) (k : Below B w w') (hB : 1 < B) : Tab w' := var?_below k gTab hB h
theorem Tab.size {w : World} (h : Tab w) : 1 < w.heap.size := by
  have := World.var?_cell gTab h 0
  exact block_of_cell (show w.cell? ⟨1, 0, none⟩ = some (.int .u64 1) from this)
def sv (l : List UInt8) : Value := .string (str l)
/-- A row of texts under way, beside the instruction's box. -/
structure TS (w W : World) (bx : Array Value) (v : Value) (xs : List (List UInt8)) : Prop where
  box : Has W w.heap.size bx 43
  own : W.ownsRow w.heap.size 9 1 v xs.length (xs.map sv)
  bel : Below w.heap.size w W
theorem TS.below {w W W' : World} {bx : Array Value} {v : Value} {xs : List (List UInt8)} (h : TS w W bx v xs) (k : Below W.heap.size W W') : TS w W' bx v xs :=
  ⟨h.box.below k h.box.lt, row_below h.own k, h.bel.trans (k.mono h.bel.size)⟩
theorem TS.blk {w W : World} {bx : Array Value} {v : Value} {xs : List (List UInt8)} (h : TS w W bx v xs) {g : Nat} (hg : v.ownBlock = some g) : w.heap.size ≤ g ∧ ∃ cur : Array Value, Has W g cur 9 := by
  rcases h.own.2 with ⟨rfl, h2⟩ | ⟨g', cap, cur, rfl, b, c, d⟩
  · cases hg
  · obtain rfl : g' = g := by simpa [Value.ownBlock] using hg
    exact ⟨b, cur, c⟩
theorem TS.step {w W W' : World} {bx : Array Value} {v v' : Value} {xs : List (List UInt8)} {x : List UInt8} (h : TS w W bx v xs) (ho : W'.ownsRow w.heap.size 9 1 v' (xs.length + 1) (xs.map sv ++ [sv x])) (k : W.grownBy W' v.ownBlock) : TS w W' bx v' (xs ++ [x]) := by
  have hf := grown_fr k
  refine ⟨h.box.fr hf (fun e => ?_), by rw [List.length_append, List.map_append]; exact ho, Fr.below h.bel hf h.bel.size (fun g hg e => by have := (h.blk e).1; omega)⟩
  obtain ⟨_, cur, h1⟩ := h.blk e
  exact has_ne h1 h.box (by decide) rfl
theorem TS.slice {w W : World} {bx : Array Value} {v : Value} {xs : List (List UInt8)} (h : TS w W bx v xs) : ∃ a c, v = .slice a xs.length c := by
  obtain ⟨a, c, e, _⟩ := row_open h.own; exact ⟨a, c, e⟩
/-- A text is put to a row. -/
theorem wpList_append_text {w : World} {ops : Array Oper} {rest : List Oper} {o : Oper} {a : Act} {Q : Exit → Act → World → Prop} {W : World} {bx : Array Value} {v : Value} {xs : List (List UInt8)} (hw : o.guard = none) (s y : Operand)
    (ho : o.op = .call { callee := .builtin .append, args := #[s, y], argTypes := #[53, 53] }) (b : Nat) (x : List UInt8) (hs : a.eval s = v) (hy : a.eval y = .slice (some ⟨b, 0, none⟩) 1 1) (hT : TS w W bx v xs) (hx : Has W b #[sv x] 9) (hl : xs.length ≤ 100)
    (h : ∀ v' W', TS w W' bx v' (xs ++ [x]) → wpList Tryd.prog ops Q rest (a.put o.dst v') W') : wpList Tryd.prog ops Q (o :: rest) a W := by
  obtain ⟨i9, hi9, hz9, hs9, hb9⟩ := info_parts' info9
  refine wpList_append_own _ hw s y 53 ho w.heap.size 9 i9 (.string ⟨#[]⟩) 1 16 Tryd.underlying53 hi9 hz9 hs9 hb9 rfl (by omega) v xs.length (xs.map sv) hs hT.own ⟨b, 0, none⟩ 1 1 [sv x] hy rfl (fun j u hu => ?_) (fun u hu => by simp at hu; rw [hu]; rfl) (by unfold maxLen; omega) (by omega) (by have := hT.box.lt; omega) ?_
  · cases j with
    | zero => obtain rfl : sv x = u := by simpa using hu
              rw [Addr.add_mid, Nat.zero_add]; exact hx.cell 0
    | succ j => simp at hu
  · intro v' W' ho' hg _
    exact h v' W' (hT.step ho' hg)
end Go.Proofs.YtoalchlokcphkaaDoor
