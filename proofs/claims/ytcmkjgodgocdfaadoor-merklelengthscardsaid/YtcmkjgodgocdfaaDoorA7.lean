/- What laying bytes behind the rest makes of a hash's cells; laws of whole arrays inside a fence. -/
import Derived.Test.YtcmkjgodgocdfaaDoorA6
import Derived.RangeFuncNested
import Derived.RangeFuncBound
import Derived.RangeFuncCalls
import Derived.RangeFuncLeaves
import Derived.OwnWalkIn
import Derived.TacticsInMore
import Derived.LoopNIn
import Derived.LoopIn
namespace Go.Proofs.YtcmkjgodgocdfaaDoor
open Go.RowKit

/-- The cells of a hash whose last bytes have just been laid behind the rest, the block not yet taken. -/
structure Mid (cs : Array Value) (m : List UInt8) : Prop where
  size : cs.size = 74
  st : StAt cs (stN m ((m.length - 1) / 64))
  rest : ∀ j, j < m.length - 64 * ((m.length - 1) / 64) → cs[8 + j]? = some (.int .u8 (bv (m[64 * ((m.length - 1) / 64) + j]?.getD 0)))
  byte : ∀ j, j < 64 → ∃ x : UInt8, cs[8 + j]? = some (.int .u8 (bv x))
  len : cs[72]? = some (.int .i64 (m.length : Int))
  made : cs[73]? = some (.bool true)
  small : m.length < 1000000000000
  pos : 0 < m.length

theorem mid_of {cs c1 : Array Value} {m d : List UInt8} {k : Nat} (h : HCells cs m) (hk : 0 < k) (hk1 : k ≤ 64 - m.length % 64) (hk2 : k ≤ d.length) (hsm : m.length + k < 1000000000000)
    (hU : Upd cs c1 (8 + m.length % 64) k (fun j => .int .u8 (bv (d[j]?.getD 0)))) : Mid (c1.setIfInBounds 72 (.int .i64 ((m.length : Int) + (k : Int)))) (m ++ d.take k) := by
  have hl : (m ++ d.take k).length = m.length + k := by simp; omega
  have hq : (m.length + k - 1) / 64 = m.length / 64 := by omega
  have s1 : c1.size = 74 := hU.size.trans h.size
  have at_ : ∀ j, j ≠ 72 → (c1.setIfInBounds 72 (.int .i64 ((m.length : Int) + (k : Int))))[j]? = c1[j]? := fun j hj => by
    rw [Array.getElem?_setIfInBounds, if_neg (by omega)]
  refine ⟨by simp [s1], fun j hj => ?_, fun j hj => ?_, fun j hj => ?_, ?_, ?_, by rw [hl]; omega, by rw [hl]; omega⟩
  · rw [at_ j (by omega), hU.at_ j, if_neg (by omega), hl, hq, stN_append m _ _ (by omega)]
    exact h.st j hj
  · rw [hl, hq] at hj ⊢
    rw [at_ _ (by omega), hU.at_ _]
    by_cases e : 8 + m.length % 64 ≤ 8 + j ∧ 8 + j < 8 + m.length % 64 + k
    · rw [if_pos e, List.getElem?_append_right (by omega), List.getElem?_take_of_lt (by omega), show 64 * (m.length / 64) + j - m.length = 8 + j - (8 + m.length % 64) by omega]
    · rw [if_neg e, h.rest j (by omega), List.getElem?_append_left (by omega)]
  · rw [at_ _ (by omega), hU.at_ _]
    by_cases e : 8 + m.length % 64 ≤ 8 + j ∧ 8 + j < 8 + m.length % 64 + k
    · rw [if_pos e]; exact ⟨_, rfl⟩
    · rw [if_neg e]; exact h.byte j hj
  · rw [Array.getElem?_setIfInBounds, if_pos rfl, if_pos (by omega), hl]; simp
  · rw [at_ _ (by omega), hU.at_ _, if_neg (by omega)]; exact h.made

theorem Mid.part {cs : Array Value} {m : List UInt8} (h : Mid cs m) (hm : ¬ m.length % 64 = 0) : HCells cs m := by
  have hq : (m.length - 1) / 64 = m.length / 64 := by omega
  exact ⟨h.size, hq ▸ h.st, fun j hj => by have := h.rest j (by omega); rwa [hq] at this, h.byte, h.len, h.made, h.small⟩

/-- The last block of bytes that end with one. -/
def lastB (m : List UInt8) : List UInt8 := (m.drop (64 * ((m.length - 1) / 64))).take 64
theorem lastB_len (m : List UInt8) (h0 : 0 < m.length) (hm : m.length % 64 = 0) : (lastB m).length = 64 := by simp [lastB]; omega
theorem Mid.last {cs : Array Value} {m : List UInt8} (h : Mid cs m) (hm : m.length % 64 = 0) (j : Nat) (hj : j < 64) : cs[8 + j]? = some (.int .u8 (bv ((lastB m)[j]?.getD 0))) := by
  have := h.pos
  rw [h.rest j (by omega), lastB, List.getElem?_take_of_lt hj, List.getElem?_drop]
theorem Mid.whole {cs c2 : Array Value} {m : List UInt8} (h : Mid cs m) (hm : m.length % 64 = 0)
    (hU : Upd cs c2 0 8 (fun j => .int .u32 (wv ((comp (stN m ((m.length - 1) / 64)) (lastB m)).get j)))) : HCells c2 m := by
  have h0 := h.pos
  have hq : m.length / 64 = (m.length - 1) / 64 + 1 := by omega
  have at_ : ∀ j, 8 ≤ j → c2[j]? = cs[j]? := fun j hj => by rw [hU.at_ j, if_neg (by omega)]
  refine ⟨hU.size.trans h.size, fun j hj => ?_, fun j hj => absurd hj (by omega), fun j hj => by rw [at_ _ (by omega)]; exact h.byte j hj, by rw [at_ _ (by omega)]; exact h.len, by rw [at_ _ (by omega)]; exact h.made, h.small⟩
  rw [hU.at_ j, if_pos (by omega), hq]
  rfl

/-- Laying a list into a row, cell by cell told. -/
theorem upd_splice (cur : Array Value) (o : Nat) (cs : List Value) (f : Nat → Value) (h : o + cs.length ≤ cur.size) (hf : ∀ j, j < cs.length → cs[j]? = some (f j)) :
    Upd cur (cur.toList.take o ++ cs ++ cur.toList.drop (o + cs.length)).toArray o cs.length f := by
  refine ⟨by simp; omega, fun j => ?_⟩
  rw [List.getElem?_toArray]
  by_cases e : o ≤ j ∧ j < o + cs.length
  · rw [if_pos e, List.getElem?_append_left (by simp; omega), List.getElem?_append_right (by simp; omega)]
    rw [show j - (cur.toList.take o).length = j - o by simp; omega]
    exact hf _ (by omega)
  · rw [if_neg e]
    by_cases e1 : j < o
    · rw [List.getElem?_append_left (by simp; omega), List.getElem?_append_left (by simp; omega), List.getElem?_take_of_lt e1]; simp
    · rw [List.getElem?_append_right (by simp; omega), List.getElem?_drop]
      simp
      congr 1; omega

section
variable {F : Fence} {n : Nat} {P : Program}
theorem wpListIn_load_mid {ops : Array Oper} {rest : List Oper} {op : Oper} {a : Act} {w : World} {Q : Exit → Act → World → Prop} (hw : Region.wanted op (yielded ops a.tmps) = true) (ty : TypeId) (x : Operand) (ho : op.op = .load ty x)
    (b o : Nat) (hx : a.eval x = .pointer (some ⟨b, o, none⟩)) (cs : List Value) (d : TypeDesc) (hc : w.rangeAt b o cs)
    (hu : P.underlying ty = some d) (hd : d.isRow = true) (hi : (P.info? ty).map (·.size) = some cs.length)
    (h : wpListIn F n P ops Q rest (a.put op.dst (.agg cs.toArray)) w) : wpListIn F n P ops Q (op :: rest) a w := by
  refine wpListIn_step fun K hK => ?_
  rw [if_pos hw]
  unfold Oper.wpIn
  refine ⟨?_, ?_⟩
  · simp [Oper.about, ho]
  · rw [Oper.semAt_plain F _ _ (by rw [ho]; intro c hc'; cases hc')]
    unfold execOp
    simp only [ho, hx, Instr.loadAt, Instr.sureAddr, Sem.run_bind, Sem.run_pure, Result.andThen_ok, run_loadVar_mid w b o ty cs d hc hu hd hi]
    exact hK _ _ h
theorem wpListIn_store_row {ops : Array Oper} {rest : List Oper} {o : Oper} {a : Act} {w : World} {Q : Exit → Act → World → Prop} (hgd : o.guard = none) (ty : TypeId) (x y : Operand) (ho : o.op = .store ty x y)
    (g : Nat) (cells : Array Value) (hx : a.eval x = .pointer (some ⟨g, 0, none⟩)) (hy : a.eval y = .agg cells)
    (t : TypeId) (old : Array Value) (hg : w.heap[g]? = some (.cells old t (0, 0))) (hi : (P.info? ty).map (·.size) = some cells.size)
    (hold : old.size = cells.size) (h1 : cells.all (·.oneCell') = true)
    (h : wpListIn F n P ops Q rest (a.put o.dst undef) (w.setRow g cells)) : wpListIn F n P ops Q (o :: rest) a w := by
  refine wpListIn_plain hgd fun K hK => ?_
  unfold Oper.wpIn
  refine ⟨?_, ?_⟩
  · simp [Oper.about, ho]
  · rw [Oper.semAt_plain F _ _ (by rw [ho]; intro c hc'; cases hc')]
    unfold execOp
    simp only [ho, hx, hy, Instr.storeAt, Instr.sureAddr, Sem.run_bind, Sem.run_pure, Result.andThen_ok, run_storeVar_row w g t ty old cells hg hi hold h1]
    exact hK _ _ h
end
end Go.Proofs.YtcmkjgodgocdfaaDoor
