/- sha.Text: a digest's text. -/
import Derived.Test.YtkcngkkjlnadiaaDoorB2
namespace Go.Proofs.YtkcngkkjlnadiaaDoor
open Go.RowKit

def digitList : List UInt8 := [48, 49, 50, 51, 52, 53, 54, 55, 56, 57, 97, 98, 99, 100, 101, 102]
def digitsS : ByteArray := ⟨digitList.toArray⟩
def hexd (n : Nat) : UInt8 := digitList[n]?.getD 0
/-- A digest's text. -/
def textL (d : List UInt8) : List UInt8 := d.flatMap fun b => [hexd (b.toNat / 16), hexd (b.toNat % 16)]
theorem textL_length (d : List UInt8) : (textL d).length = 2 * d.length := by
  induction d with
  | nil => rfl
  | cons b d ih => simp [textL] at ih ⊢; omega
theorem textL_at (d : List UInt8) (k : Nat) (h : k < d.length) : (textL d)[2 * k]?.getD 0 = hexd ((d[k]?.getD 0).toNat / 16) ∧ (textL d)[2 * k + 1]?.getD 0 = hexd ((d[k]?.getD 0).toNat % 16) := by
  induction d generalizing k with
  | nil => simp at h
  | cons b d ih =>
    cases k with
    | zero => exact ⟨rfl, rfl⟩
    | succ k =>
      have := ih k (by simpa using h)
      rw [show 2 * (k + 1) = 2 * k + 1 + 1 by omega]
      exact this

theorem digit_run (w : World) (n : Nat) (hn : n < 16) : (Instr.index 9 (.string digitsS) (.int .u8 (n : Int))).run Tryd.prog w = .ok (.int .u8 (bv (hexd n))) w := by
  obtain rfl | rfl | rfl | rfl | rfl | rfl | rfl | rfl | rfl | rfl | rfl | rfl | rfl | rfl | rfl | rfl : n = 0 ∨ n = 1 ∨ n = 2 ∨ n = 3 ∨ n = 4 ∨ n = 5 ∨ n = 6 ∨ n = 7 ∨ n = 8 ∨ n = 9 ∨ n = 10 ∨ n = 11 ∨ n = 12 ∨ n = 13 ∨ n = 14 ∨ n = 15 := by omega
  all_goals kernel_rfl
theorem nib_hi (x : UInt8) : ∀ w, (Instr.index 9 (.string digitsS) (.int .u8 (bv x / 16))).run Tryd.prog w = .ok (.int .u8 (bv (hexd (x.toNat / 16)))) w := by
  intro w
  have hx := x.toNat_lt
  have := digit_run w (x.toNat / 16) (by omega)
  have e : bv x / 16 = ((x.toNat / 16 : Nat) : Int) := by unfold bv; omega
  rw [e]; exact this
theorem and15 (x : UInt8) : bits .and .u8 (bv x) 15 = ((x.toNat % 16 : Nat) : Int) := by
  have key : ∀ n : Fin 256, bits .and .u8 (n.val : Int) 15 = ((n.val % 16 : Nat) : Int) := by decide +kernel
  exact key ⟨x.toNat, x.toNat_lt⟩
theorem nib_lo (x : UInt8) : ∀ w, (Instr.index 9 (.string digitsS) (.int .u8 (bits .and .u8 (bv x) 15))).run Tryd.prog w = .ok (.int .u8 (bv (hexd (x.toNat % 16)))) w := by
  intro w
  have := digit_run w (x.toNat % 16) (by omega)
  rw [and15]; exact this
theorem run_index32 (cs : Array Value) (k : Nat) (v : Value) (hk : k < 32) (hv : cs[k]? = some v) (w : World) :
    (Instr.index 25 (.agg cs) (.int .i64 (k : Int))).run Tryd.prog w = .ok v w := by
  simp [Instr.index, go_sem, hv]
  omega

/-- A builtin append at a step of a region that draws its order, by its run. -/
theorem step_append_run {P : Program} {ops : Array Oper} {o : Oper} {a : Act} {w w' : World} {K : Act → World → Prop} {Q : Exit → Act → World → Prop} {E : Prop} (hgd : o.guard = none) (d s : Operand) (dT sT : TypeId)
    (ho : o.op = .call { callee := .builtin .append, args := #[d, s], argTypes := #[dT, sT] }) (x y v : Value) (hd : a.eval d = x) (hs : a.eval s = y)
    (hrun : (Builtin.append_ #[dT, sT] o.type #[x, y]).run P w = .ok v w') (h : K (a.put o.dst v) w') :
    if Region.wanted o (yielded ops a.tmps) = true then Oper.wp P o a w K Q else E := by
  have hw : Region.wanted o (yielded ops a.tmps) = true := by simp [Region.wanted, hgd]
  rw [if_pos hw]
  unfold Oper.wp
  simp [execOp, ho, resolve, invoke, builtin, hd, hs, hrun, Result.andThen]
  exact h

theorem Ex.drew (b : Nat) (w : World) : Ex b w w.drew := ⟨rfl, rfl, rfl, Nat.le_refl _, fun _ _ _ => rfl⟩
theorem Ex.alloc (b : Nat) (w : World) (o : Obj) : Ex b w (w.alloc o) := Ex.below ((Below.refl _ _).alloc (Nat.le_refl _) _)
theorem append2 (W : World) (T g k : Nat) (c : Array Value) (x y : UInt8) (hc : Has W T c 5) (hg : Has W g #[.int .u8 (bv x), .int .u8 (bv y)] 5) (hs : c.size = 64) (hk : 2 * k + 2 ≤ 64) :
    (Builtin.append_ #[22, 22] 22 #[.slice (some ⟨T, 0, none⟩) (2 * k) 64, .slice (some ⟨g, 0, none⟩) 2 2]).run Tryd.prog W = .ok (.slice (some ⟨T, 0, none⟩) (2 * k + 2) 64) (W.setRow T ((c.setIfInBounds (2 * k) (.int .u8 (bv x))).setIfInBounds (2 * k + 1) (.int .u8 (bv y)))) := by
  obtain ⟨i0, hi, hz0, hz1, hz2⟩ := info_parts info5
  have := run_append_room (P := Tryd.prog) W 22 22 5 i0 Tryd.underlying22 hi T (2 * k) 64 c hc ⟨g, 0, none⟩ 2 2 [.int .u8 (bv x), .int .u8 (bv y)] (by rw [hz1]; rfl)
    (fun j u hu => by
      rw [Addr.add_mid, Nat.zero_add, hg.cell]
      rw [← hu]; simp) (by intro u hu; simp at hu; rcases hu with rfl | rfl <;> rfl) hk (by rw [hz1]; simp; omega)
  rw [this, hz1]
  congr 2
  apply Array.ext_getElem?
  intro j
  rw [Nat.mul_one]
  have hu := (upd_splice c (2 * k) [.int .u8 (bv x), .int .u8 (bv y)] (fun j => if j = 0 then .int .u8 (bv x) else .int .u8 (bv y)) (by simp; omega) (fun j hj => by
    simp at hj
    obtain rfl | rfl : j = 0 ∨ j = 1 := by omega
    · rfl
    · rfl)).at_ j
  rw [hu, Array.getElem?_setIfInBounds, Array.getElem?_setIfInBounds]
  simp only [Array.size_setIfInBounds, hs]
  by_cases e0 : j = 2 * k
  · subst e0; simp; omega
  · by_cases e1 : j = 2 * k + 1
    · subst e1; simp; omega
    · rw [if_neg (by simp; omega), if_neg (by omega), if_neg (by omega)]

theorem foldl_push (ns : List UInt8) : ∀ s : ByteArray, (ns.map (fun b => bv b)).foldl (fun r n => r.push (UInt8.ofNat n.toNat)) s = ⟨s.data ++ ns.toArray⟩ := by
  induction ns with
  | nil => intro s; simp
  | cons b ns ih =>
    intro s
    rw [List.map_cons, List.foldl_cons, ih]
    simp [bv, ByteArray.push]
theorem to_string (W : World) (T : Nat) (c : Array Value) (l : List UInt8) (hc : Has W T c 5) (hl : l.length = 64) (h : ∀ j, j < 64 → c[j]? = some (.int .u8 (bv (l[j]?.getD 0)))) :
    (convert 22 9 (.slice (some ⟨T, 0, none⟩) 64 64)).run Tryd.prog W = .ok (.string ⟨l.toArray⟩) W := by
  rw [run_convert_bytes_string W 22 9 5 _ 64 64 Tryd.underlying22 Tryd.underlying5 Tryd.underlying9]
  have hld := run_loadCells_list (P := Tryd.prog) (w := W) ⟨T, 0, none⟩ ((l.map fun b => bv b).map (Value.int .u8)) (fun j v hv => by
    have hj : j < 64 := by
      have := (List.getElem?_eq_some_iff.1 hv).1
      simpa [hl] using this
    rw [Addr.add_mid, Nat.zero_add, hc.cell, h j hj, ← hv]
    simp [show j < l.length by omega])
  have e : ((l.map fun b => bv b).map (Value.int .u8)).length = 64 := by simp [hl]
  rw [e] at hld
  rw [run_bytesToString W ⟨T, 0, none⟩ 64 64 (l.map fun b => bv b) hld, foldl_push]
  simp

set_option maxRecDepth 100000 in
set_option maxHeartbeats 1000000 in
theorem text_any (d : List UInt8) (hd : d.length = 32) (w : World) :
    Calls Tryd.prog 19 #[.agg (byteCells d)] w fun e w' => e = .returned (.string ⟨(textL d).toArray⟩) ∧ Below w.heap.size w w' := by
  have hbs : (byteCells d).size = 32 := by rw [byteCells_size, hd]
  have hmk : ∀ w, (Instr.makeSlice 22 (.int .i64 0) (.int .i64 64)).run Tryd.prog w = .ok (.slice (some ⟨w.heap.size, 0, none⟩) 0 64) (w.alloc (.cells (zeroCells 64) 5)) := fun w => by
    obtain ⟨i0, hi, hz0, hz1, hz2⟩ := info_parts info5
    rw [run_makeSlice w 22 5 i0 (.int .u8 0) Tryd.underlying22 hi hz0 .i64 .i64 0 64 (by omega) (by omega) (by rw [hz1]; decide) (by rw [hz2]; decide) (by decide), hz1]
    simp only [Value.cells, made_one, zeroCells]
    rfl
  go_enter Tryd.func19, Tryd.ntmps19
  go_wp2_with (refine wpList_load_row rfl 25 _ rfl w.heap.size rfl 25 (byteCells d) (0, 0) _ (has_old (has_new _ _ _ _ rfl)) Tryd.underlying25 rfl (by rw [hbs]; kernel_rfl) ?_)
  refine named (p := Code.wp _ _ _ _) ?_
  intro W0 hW0
  have hB : Below w.heap.size w W0 := by
    rw [hW0]; repeat (first | exact Below.refl _ _ | refine Below.alloc ?_ (by simp) _)
  have hT : Has W0 (w.heap.size + 1) (zeroCells 64) 5 := by rw [hW0]; exact has_new _ _ _ _ (by simp)
  clear hW0 hmk
  go_loopw [3, 8] (fun t i wr => ∃ k : Nat, k ≤ 32 ∧ i = .int .i64 k ∧ t = .slice (some ⟨w.heap.size + 1, 0, none⟩) (2 * k) 64 ∧ Ex (w.heap.size + 1) W0 wr ∧ ∃ c, Has wr (w.heap.size + 1) c 5 ∧ Upd (zeroCells 64) c 0 (2 * k) (fun j => .int .u8 (bv ((textL d)[j]?.getD 0)))) (fun _ i _ => 32 - (intOf i).toNat)
  case atStart => exact ⟨0, by omega, rfl, rfl, Ex.refl _ _, _, hT, Upd.zero _ _ _⟩
  case round =>
    obtain ⟨k, hk, rfl, rfl, hE, c, hc, hU⟩ := hrel
    by_cases hk32 : k < 32
    · have hidx := run_index32 (byteCells d) k _ hk32 (byteCells_at d k (by omega))
      generalize hx : d[k]?.getD 0 = x at hidx
      have Hx : Hid (d[k]?.getD 0 = x) := hx
      clear hx
      have hhi := nib_hi x
      have hlo := nib_lo x
      unfold digitsS digitList at hhi hlo
      have i1 : (k : Int) < 32 := by omega
      go_wp2_with fail
      have hcs : c.size = 64 := by rw [hU.size, zeroCells_size]
      go_region_held3 (fun _ => True) (trivial) (refine step_append_run rfl _ _ 22 22 rfl _ _ _ (by rfl) (by rfl) (append2 _ _ _ k c _ _ (by exact has_old hc) (by exact has_new _ _ _ _ rfl) hcs (by omega)) ?_)
      all_goals
        go_wp2
        go_roundw
        case rel =>
          refine ⟨k + 1, by omega, by go_num, by rw [Nat.mul_add], ((hE.trans (Ex.alloc _ _ _)).trans (Ex.drew _ _)).trans (Ex.setRow _ _ _), _, setRow_heap _ _ _ _ _ _ (show Has (World.drew _) _ c 5 from has_old hc), ?_⟩
          have tx := textL_at d k (by omega)
          rw [Hx.out] at tx
          have h1 := hU.next (by rw [zeroCells_size]; omega) (.int .u8 (bv (hexd (x.toNat / 16)))) (by rw [tx.1])
          have h2 := h1.next (by rw [zeroCells_size]; omega) (.int .u8 (bv (hexd (x.toNat % 16)))) (by rw [tx.2])
          rw [Nat.zero_add, Nat.zero_add] at h2
          exact h2
        case measure => simp [intOf]; omega
    · have e32 : k = 32 := by omega
      subst e32
      have hcs : c.size = 64 := by rw [hU.size, zeroCells_size]
      have hcv := to_string wr (w.heap.size + 1) c (textL d) hc (by rw [textL_length, hd]) (fun j hj => by rw [hU.at_ j, if_pos (by omega)]; rfl)
      have hBr : Below w.heap.size w wr := Below.ex hB hB.size hE (by omega)
      go_wp2
      go_ret
      exact ⟨rfl, hBr⟩
end Go.Proofs.YtkcngkkjlnadiaaDoor
