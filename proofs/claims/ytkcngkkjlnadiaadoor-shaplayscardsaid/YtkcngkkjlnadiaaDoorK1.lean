/- Bytes in the midst of bytes. -/
import Derived.Test.YtkcngkkjlnadiaaDoorJ1
namespace Go.Proofs.YtkcngkkjlnadiaaDoor
open Go.RowKit

theorem slice_mid22 (a : Option Addr) (n cap i j : Nat) (hi : i ≤ j) (hk : j ≤ cap) (w : World) :
    (Instr.slice 22 (.slice a n cap) (some (.int .i64 (i : Int))) (some (.int .i64 (j : Int))) none).run Tryd.prog w = .ok (.slice (if cap = i then a else a.map (·.add (i * 1))) (j - i) (cap - i)) w := by
  have he : Tryd.prog.elem 22 = 5 := by kernel_rfl
  have hu : Tryd.prog.underlying 22 = some (.slice (Tryd.prog.elem 22)) := by rw [he]; exact Tryd.underlying22
  obtain ⟨i0, hi', _, hz1, _⟩ := info_parts info5
  rw [run_slice_lh w 22 a n cap hu .i64 .i64 i j (by omega) (by omega) (by omega), he]
  simp [sizeOf, typeInfo, hi', hz1, sliced]
theorem slice_left22 (a : Option Addr) (n cap k : Nat) (hk : k ≤ n) (w : World) :
    (Instr.slice 22 (.slice a n cap) (some (.int .i64 (k : Int))) none none).run Tryd.prog w = .ok (.slice (if cap = k then a else a.map (·.add (k * 1))) (n - k) (cap - k)) w := by
  have he : Tryd.prog.elem 22 = 5 := by kernel_rfl
  have hu : Tryd.prog.underlying 22 = some (.slice (Tryd.prog.elem 22)) := by rw [he]; exact Tryd.underlying22
  obtain ⟨i0, hi, _, hz1, _⟩ := info_parts info5
  rw [run_slice_l w 22 a n cap hu .i64 k (by omega) (by omega), he]
  simp [sizeOf, typeInfo, hi, hz1, sliced]
theorem run_sliceAt22 (x : Value) (lo hi mx : Option Value) (w : World) : (Instr.sliceAt 22 x lo hi mx).run Tryd.prog w = (Instr.slice 22 x lo hi mx).run Tryd.prog w := by
  have he : Tryd.prog.elem 22 = 5 := by kernel_rfl
  have hu : Tryd.prog.underlying 22 = some (.slice (Tryd.prog.elem 22)) := by rw [he]; exact Tryd.underlying22
  exact run_sliceAt_slice w 22 x lo hi mx hu
theorem Bytes.mid {w : World} {a : Option Addr} {n cap : Nat} {l : List UInt8} (h : Bytes w (.slice a n cap) l) (i j : Nat) (hi : i ≤ j) (hj : j ≤ l.length) :
    Bytes w (.slice (if cap = i then a else a.map (·.add (i * 1))) (j - i) (cap - i)) ((l.drop i).take (j - i)) := by
  obtain ⟨a1, c1, db, o, he, hcap, ha, hin, hlt⟩ := h
  simp only [Value.slice.injEq] at he
  obtain ⟨rfl, rfl, rfl⟩ := he
  have hlen : ((l.drop i).take (j - i)).length = j - i := by simp; omega
  refine ⟨_, cap - i, db, o + i, by rw [hlen], by rw [hlen]; omega, fun hne => ?_, fun q hq => ?_, hlt⟩
  · have h0 : 0 < j - i := by rw [← hlen]; exact List.length_pos_iff.2 hne
    rw [if_neg (by omega), ha (by intro e; rw [e] at hj; simp at hj; omega)]
    simp [Addr.add_mid]
  · rw [hlen] at hq
    have := hin (i + q) (by omega)
    rw [← Nat.add_assoc] at this
    rw [this, List.getElem?_take_of_lt hq, List.getElem?_drop]
/-- The value of b[i:j]. -/
def mid (a : Option Addr) (cap i j : Nat) : Value := .slice (if cap = i then a else a.map (·.add (i * 1))) (j - i) (cap - i)
/-- The parts of bytes, cut in order: row of slices into them. -/
structure Cut (B : Nat) (w0 w : World) (pv : Value) (k : Nat) (ps : List (List UInt8)) (xs : List Value) : Prop where
  own : w.ownsRow B 22 1 pv k xs
  len : ps.length = k
  each : ∀ j, j < k → ∃ sv, xs[j]? = some sv ∧ Bytes w0 sv (ps[j]?.getD [])
theorem Cut.parts {B : Nat} {w0 w : World} {pv : Value} {k : Nat} {ps : List (List UInt8)} {xs : List Value} (h : Cut B w0 w pv k ps xs) (hb : ∀ sv d, Bytes w0 sv d → Bytes w sv d) (h0 : 0 < w.heap.size) (hf : ps.flatten.length < 10000000000) (hl : ps.length < 10000000000) : Parts w pv ps := by
  have hlen := h.len
  subst hlen
  rcases h.own.2 with ⟨rfl, e⟩ | ⟨g, c, cur, rfl, _, hg, _⟩
  · obtain rfl : ps = [] := List.eq_nil_of_length_eq_zero e
    exact ⟨none, 0, 0, 0, rfl, fun h => absurd rfl h, fun i hi => absurd hi (by simp), h0, hf, hl⟩
  · refine ⟨_, c, g, 0, rfl, fun _ => rfl, fun i hi => ?_, (h.own.lt g rfl).2, hf, hl⟩
    obtain ⟨sv, h1, h2⟩ := h.each i hi
    have := h.own.cells (g := g) rfl i sv h1
    rw [Addr.add_mid] at this
    exact ⟨sv, this, hb _ _ h2⟩
theorem Cut.snoc {B : Nat} {w0 w w' : World} {pv pv' sv : Value} {k : Nat} {ps : List (List UInt8)} {xs : List Value} {d : List UInt8} (h : Cut B w0 w pv k ps xs) (ho : w'.ownsRow B 22 1 pv' (k + 1) (xs ++ [sv])) (hs : Bytes w0 sv d) : Cut B w0 w' pv' (k + 1) (ps ++ [d]) (xs ++ [sv]) := by
  have hxl : xs.length = k := by have := h.own.1; omega
  refine ⟨ho, by simp [h.len], fun j hj => ?_⟩
  by_cases hjk : j < k
  · obtain ⟨u, e1, e2⟩ := h.each j hjk
    exact ⟨u, by rw [List.getElem?_append_left (by omega)]; exact e1, by rw [List.getElem?_append_left (by have := h.len; omega)]; exact e2⟩
  · obtain rfl : j = k := by omega
    refine ⟨sv, by rw [List.getElem?_append_right (by omega), hxl, Nat.sub_self]; rfl, ?_⟩
    rw [List.getElem?_append_right (by have := h.len; omega), h.len, Nat.sub_self]; exact hs
/-- Numbers that came in. -/
def Nums (w : World) (v : Value) (ns : List Int) : Prop :=
  ∃ a cap db o, v = .slice a ns.length cap ∧ (ns ≠ [] → a = some ⟨db, o, none⟩) ∧ (∀ j, j < ns.length → w.cell? ⟨db, o + j, none⟩ = some (.int .i64 (ns[j]?.getD 0))) ∧ db < w.heap.size
end Go.Proofs.YtkcngkkjlnadiaaDoor
