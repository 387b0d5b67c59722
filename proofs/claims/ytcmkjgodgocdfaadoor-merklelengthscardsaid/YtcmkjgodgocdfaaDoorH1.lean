/- Bytes that a call owns, and what is appended to them. -/
import Derived.Test.YtcmkjgodgocdfaaDoorG1
import Derived.Test.YtcmkjgodgocdfaaDoorB2
namespace Go.Proofs.YtcmkjgodgocdfaaDoor
open Go.RowKit

def bc (x : UInt8) : Value := .int .u8 (bv x)
/-- A row of bytes that lies in no block below 'base' (or in none). -/
def Own (base : Nat) (w : World) (v : Value) (d : List UInt8) : Prop := w.ownsRow base 5 1 v d.length (d.map bc)
theorem Own.alloc {base : Nat} {w : World} {v : Value} {d : List UInt8} (h : Own base w v d) (o : Obj) : Own base (w.alloc o) v d := World.ownsRow.alloc h o
theorem Own.mono {base base' : Nat} {w : World} {v : Value} {d : List UInt8} (h : Own base w v d) (hb : base' ≤ base) : Own base' w v d := ownsRow_mono h hb
theorem Own.made (base : Nat) (w : World) (hb : base ≤ w.heap.size) : Own base (w.alloc (.cells #[] 5)) (.slice (some ⟨w.heap.size, 0, none⟩) 0 0) [] :=
  World.ownsRow_made w #[] 0 hb (by simp only [maxLen]; omega) rfl
theorem Own.slice {base : Nat} {w : World} {v : Value} {d : List UInt8} (h : Own base w v d) : ∃ a c, v = .slice a d.length c := by
  rcases h.2 with ⟨rfl, h0⟩ | ⟨g, cap, cur, rfl, _⟩
  · exact ⟨none, 0, by rw [h0]⟩
  · exact ⟨_, cap, rfl⟩
theorem Own.at_ {base : Nat} {w : World} {v : Value} {d : List UInt8} (h : Own base w v d) (hd : d ≠ []) : ∃ g c, v = .slice (some ⟨g, 0, none⟩) d.length c ∧ base ≤ g ∧ g < w.heap.size ∧ d.length ≤ c ∧ BytesIn w g 0 d := by
  rcases h.2 with ⟨_, h0⟩ | ⟨g, cap, cur, rfl, hb, hg, hle, _⟩
  · exact absurd (List.eq_nil_of_length_eq_zero h0) hd
  · refine ⟨g, cap, rfl, hb, (h.lt g rfl).2, hle, fun j hj => ?_⟩
    have := h.cells (g := g) rfl j (bc (d[j]?.getD 0)) (by simp [hj])
    rw [Addr.add_mid] at this
    exact this
theorem Own.bytes {base : Nat} {w : World} {v : Value} {d : List UInt8} (h : Own base w v d) (h0 : 0 < w.heap.size) : Bytes w v d := by
  by_cases hd : d = []
  · subst hd
    obtain ⟨a, c, rfl⟩ := h.slice
    exact ⟨a, c, 0, 0, rfl, Nat.zero_le _, fun h => absurd rfl h, fun j hj => absurd hj (by simp), h0⟩
  · obtain ⟨g, c, rfl, _, h2, h3, h4⟩ := h.at_ hd
    exact ⟨_, c, g, 0, rfl, h3, fun _ => rfl, h4, h2⟩
theorem bytes_new (w : World) (l : List UInt8) : Bytes (w.alloc (.cells (byteCells l) 5)) (.slice (some ⟨w.heap.size, 0, none⟩) l.length l.length) l := by
  have h := has_new w (byteCells l) 5 w.heap.size rfl
  exact ⟨_, l.length, w.heap.size, 0, rfl, Nat.le_refl _, fun _ => rfl, fun j hj => by rw [h.cell, Nat.zero_add]; exact byteCells_at l j hj, by simp⟩
theorem bytes_one (w : World) (b : UInt8) : Bytes (w.alloc (.cells #[.int .u8 (bv b)] 5)) (.slice (some ⟨w.heap.size, 0, none⟩) 1 1) [b] := bytes_new w [b]
theorem run_append_bytes {P : Program} {t : TypeId} (ty : TypeId) (h5 : (P.info? 5).map (fun i => (i.zero, i.size, i.bytes)) = some (some (.int .u8 0), 1, 1))
    (ht : P.underlying t = some (.slice 5)) (base : Nat) (w : World) (v xv : Value) (d x : List UInt8) (hown : Own base w v d) (hx : Bytes w xv x) (hsm : d.length + x.length ≤ 100000000000000) (hbase : base ≤ w.heap.size) :
    ∃ v' w', (Builtin.append_ #[t, t] ty #[v, xv]).run P w = .ok v' w' ∧ Own base w' v' (d ++ x) ∧ w.grownBy w' v.ownBlock ∧ (v' = .slice none 0 0 ↔ v = .slice none 0 0 ∧ x = []) := by
  obtain ⟨i0, hi, hz0, hz1, hz2⟩ := info_parts h5
  obtain ⟨a, cap, db, o, rfl, hcap, ha, hin, hlt⟩ := hx
  have hmx : d.length + x.length ≤ maxLen := by unfold maxLen; omega
  cases a with
  | some a0 =>
    have hcells : ∀ j u, (x.map bc)[j]? = some u → w.cell? (a0.add j) = some u := fun j u hu => by
      have hj : j < x.length := by have := (List.getElem?_eq_some_iff.1 hu).1; simpa using this
      obtain rfl := Option.some.inj (ha (by intro e; simp [e] at hj))
      rw [Addr.add_mid, hin j hj, ← hu]; simp [hj, bc]
    obtain ⟨v', w', h1, h2, h3, h4⟩ := run_append_own (P := P) w base t ty 5 i0 (.int .u8 0) 1 1 ht hi hz0 hz1 hz2 rfl (by omega) v d.length (d.map bc) hown a0 x.length cap (x.map bc) (by simp) hcells
      (fun u hu => by simp at hu; obtain ⟨y, _, rfl⟩ := hu; rfl) hmx (by omega) hbase
    refine ⟨v', w', h1, by unfold Own; rw [List.length_append, List.map_append]; exact h2, h3, ?_⟩
    rw [h4]; simp
  | none =>
    have hx0 : x = [] := by
      cases x with
      | nil => rfl
      | cons b l => cases ha (by simp)
    subst hx0
    refine ⟨v, w, ?_, by simpa using hown, ⟨rfl, rfl, rfl, Nat.le_refl _, fun _ _ _ => rfl⟩, by simp⟩
    rcases hown.2 with ⟨rfl, h0⟩ | ⟨g, c, cur, rfl, _, hg, hnc, _⟩
    · simp [Builtin.append_, run_underlying ht, sizeOf, typeInfo, hi, Builtin.lenOf, Builtin.firstCells]
    · simp [Builtin.append_, run_underlying ht, sizeOf, typeInfo, hi, Builtin.lenOf, Builtin.firstCells, hnc, storeCells]
theorem wpList_append_bytes {P : Program} {w : World} {ops : Array Oper} {rest : List Oper} {o : Oper} {a : Act} {Q : Exit → Act → World → Prop} (hgd : o.guard = none) (s y : Operand) (t : TypeId)
    (ho : o.op = .call { callee := .builtin .append, args := #[s, y], argTypes := #[t, t] }) (h5 : (P.info? 5).map (fun i => (i.zero, i.size, i.bytes)) = some (some (.int .u8 0), 1, 1))
    (ht : P.underlying t = some (.slice 5)) (base : Nat) (v xv : Value) (d x : List UInt8) (hs : a.eval s = v) (hy : a.eval y = xv) (hown : Own base w v d) (hx : Bytes w xv x) (hsm : d.length + x.length ≤ 100000000000000) (hbase : base ≤ w.heap.size)
    (h : ∀ v' w', Own base w' v' (d ++ x) → w.grownBy w' v.ownBlock → wpList P ops Q rest (a.put o.dst v') w') : wpList P ops Q (o :: rest) a w := by
  obtain ⟨v', w', h1, h2, h3, h4⟩ := run_append_bytes o.type h5 ht base w v xv d x hown hx hsm hbase
  refine wpList_plain hgd fun _ hK => ?_
  unfold Oper.wp execOp
  simp only [ho, resolve, invoke, builtin, Sem.run_bind, Sem.run_pure, Result.andThen_ok, List.map_toArray, List.map_cons, List.map_nil, hs, hy, h1]
  exact hK _ _ (h v' w' h2 h3)
/-- What an append leaves of what lay below its row. -/
theorem grown_keeps {base : Nat} {w w' : World} {v : Value} {d : List UInt8} (ho : Own base w v d) (hg : w.grownBy w' v.ownBlock) (hb : base ≤ w.heap.size) : Below base w w' :=
  ⟨hg.os, hg.tape, hg.output, hg.size, fun k hk => hg.block k (by omega) (fun e => by have := (ho.lt k e.symm).1; omega)⟩
def sliceLen : Value → Nat
  | .slice _ n _ => n
  | _ => 0
theorem Own.len {base : Nat} {w : World} {v : Value} {d : List UInt8} (h : Own base w v d) : sliceLen v = d.length := by
  obtain ⟨a, c, rfl⟩ := h.slice; rfl
end Go.Proofs.YtcmkjgodgocdfaaDoor
