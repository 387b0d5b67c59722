/- WireCuts: the row of the calls that take; how the law stands behind k calls that lay. -/
import Derived.Test.YtgoflpfafkmmgaaZq5
import Derived.Test.YtgoflpfafkmmgaaZq4
namespace Go.Proofs.Ytgoflpfafkmmgaa
open Go.RowKit
theorem info63 : (Try.prog.info? 63).map (fun i => (i.zero, i.size, i.bytes)) = some (some (.agg #[.int .i64 0, .int .i64 0]), 2, 16) := by kernel_rfl
def rowT (ts : List (Nat × Int)) : List Value := ts.flatMap fun t => [.int .i64 (t.1 : Int), .int .i64 t.2]
theorem rowT_at : ∀ (ts : List (Nat × Int)) (j : Nat) (t : Nat × Int), ts[j]? = some t → (rowT ts)[j * 2]? = some (.int .i64 (t.1 : Int)) ∧ (rowT ts)[j * 2 + 1]? = some (.int .i64 t.2)
  | [], j, t, h => by simp at h
  | x :: xs, 0, t, h => by simp at h; subst h; simp [rowT]
  | x :: xs, j + 1, t, h => by
    have ih := rowT_at xs j t (by simpa using h)
    have e : rowT (x :: xs) = .int .i64 (x.1 : Int) :: .int .i64 x.2 :: rowT xs := by simp [rowT]
    have e0 : (j + 1) * 2 = j * 2 + 1 + 1 := by omega
    have e1 : (j + 1) * 2 + 1 = j * 2 + 1 + 1 + 1 := by omega
    rw [e, e1, e0]
    simp only [List.getElem?_cons_succ]
    exact ih
theorem rowT_snoc (ts : List (Nat × Int)) (t : Nat × Int) : rowT ts ++ [.int .i64 (t.1 : Int), .int .i64 t.2] = rowT (ts ++ [t]) := by simp [rowT]
def RowT (w : World) (N : Nat) (v : Value) (ts : List (Nat × Int)) : Prop := w.ownsRow N 63 2 v ts.length (rowT ts)
theorem RowT.kind {w : World} {N : Nat} {v : Value} {ys : List (Nat × Int)} (h : RowT w N v ys) {k : Nat} (hk : v.ownBlock = some k) : N ≤ k ∧ k < w.heap.size ∧ ∃ c fz, w.heap[k]? = some (.cells c 63 fz) := by
  refine ⟨(h.lt k hk).1, (h.lt k hk).2, ?_⟩
  rcases h.2 with ⟨rfl, _⟩ | ⟨g', cap, cur, rfl, _, hgg, _⟩
  · simp [Value.ownBlock] at hk
  · simp [Value.ownBlock] at hk
    subst hk
    exact ⟨cur, (0, 0), hgg⟩
theorem RowT.fr {S : Nat → Prop} {w w' : World} {N : Nat} {v : Value} {ys : List (Nat × Int)} (h : RowT w N v ys) (k : Fr S w w') (hs : ∀ i, v.ownBlock = some i → ¬ S i) : RowT w' N v ys := by
  refine ⟨h.1, ?_⟩
  rcases h.2 with h2 | ⟨g, cap, cur, a, b, c, e⟩
  · exact .inl h2
  · refine .inr ⟨g, cap, cur, a, b, ?_, e⟩
    rw [k.block g (by have := (h.lt g (by rw [a]; rfl)).2; exact this) (hs g (by rw [a]; rfl))]
    exact c
theorem RowT.notWS {w : World} {N p : Nat} {v u : Value} {bs : List UInt8} {ys : List (Nat × Int)} (h : RowT w N v ys) (hW : Wr w p u bs) : ∀ i, v.ownBlock = some i → ¬ WS p u i := by
  intro i hi e
  obtain ⟨_, _, c, fz, hc⟩ := h.kind hi
  rcases e with e | e
  · subst e
    have := hW.has
    unfold Has at this
    rw [hc] at this
    simp at this
  · rcases hW.own.2 with ⟨rfl, _⟩ | ⟨g, cap, cur, rfl, _, h2, _⟩
    · cases e
    · simp [Value.ownBlock] at e
      subst e
      rw [hc] at h2
      simp at h2
theorem RowT.ne {w : World} {N b t : Nat} {v : Value} {cs : Array Value} {ys : List (Nat × Int)} (h : RowT w N v ys) (hh : Has w b cs t) (ht : t ≠ 63) : v.ownBlock ≠ some b := by
  intro hi
  obtain ⟨_, _, c, fz, hc⟩ := h.kind hi
  unfold Has at hh
  rw [hc] at hh
  simp at hh
  exact ht hh.2.1.symm
theorem RowT.form {w : World} {N : Nat} {v : Value} {ys : List (Nat × Int)} (h : RowT w N v ys) : ∃ a c, v = .slice a ys.length c := by
  rcases h.2 with ⟨rfl, h0⟩ | ⟨g, c, cur, rfl, _⟩
  · rw [h0]; exact ⟨_, _, rfl⟩
  · exact ⟨_, _, rfl⟩
theorem RowT.at_ {w : World} {N : Nat} {a : Option Addr} {c n : Nat} {ys : List (Nat × Int)} (h : RowT w N (.slice a n c) ys) {j : Nat} {y : Nat × Int} (hj : ys[j]? = some y) : ∃ g, a = some ⟨g, 0, none⟩ ∧ w.cell? ⟨g, j * 2, none⟩ = some (.int .i64 (y.1 : Int)) ∧ w.cell? ⟨g, j * 2 + 1, none⟩ = some (.int .i64 y.2) := by
  obtain ⟨h0, h1⟩ := rowT_at ys j y hj
  rcases id h.2 with ⟨_, e⟩ | ⟨g, cap, cur, e, _⟩
  · have : ys = [] := List.eq_nil_of_length_eq_zero e
    subst this
    simp at hj
  · simp only [Value.slice.injEq] at e
    obtain ⟨rfl, _, _⟩ := e
    have hc := World.ownsRow.cells (g := g) h rfl
    refine ⟨g, rfl, ?_, ?_⟩
    · have := hc _ _ h0; rwa [Addr.add_mid, Nat.zero_add] at this
    · have := hc _ _ h1; rwa [Addr.add_mid, Nat.zero_add] at this
/-- How the law stands behind k calls. -/
structure Cn (xs : List AddD) (w : World) (p : Nat) (wr : World) (k : Nat) (v : Value) (bs : List UInt8) (dv : Value) (ys : List (Nat × Int)) : Prop where
  kle : k ≤ xs.length
  wn : WrN p w wr p v bs
  row : RowT wr p dv ys
  ks : ∀ y ∈ ys, y.1 ≤ 5
  len : bs.length ≤ 2 * tot xs k
  few : ys.length ≤ k
theorem Cn.grow {xs : List AddD} {w wr w' : World} {p k : Nat} {v dv : Value} {bs : List UInt8} {ys : List (Nat × Int)} (h : Cn xs w p wr k v bs dv ys) (hB : Below wr.heap.size wr w') : Cn xs w p w' k v bs dv ys :=
  ⟨h.kle, h.wn.grow hB, h.row.fr (S := fun _ => False) (Fr.of_below hB) (fun _ _ h => h), h.ks, h.len, h.few⟩
theorem Cn.none {xs : List AddD} {w wr w3 : World} {p k : Nat} {v v3 dv : Value} {bs : List UInt8} {ys : List (Nat × Int)} (h : Cn xs w p wr k v bs dv ys) (hk : k < xs.length) (hW : Wr w3 p v3 (bs ++ [])) (hF : Fr (WS p v) wr w3) (hL : Loc wr v v3) : Cn xs w p w3 (k + 1) v3 bs dv ys := by
  have h1 := h.wn.step hW hF hL
  rw [List.append_nil] at h1
  exact ⟨hk, h1, h.row.fr hF (h.row.notWS h.wn.wr), h.ks, Nat.le_trans h.len (by have := tot_mono xs k _ (List.getElem?_eq_getElem hk); omega), by have := h.few; omega⟩
theorem Cn.more {xs : List AddD} {w wr w3 w4 : World} {p k : Nat} {v v3 dv dv4 : Value} {bs d : List UInt8} {ys : List (Nat × Int)} {t : Nat × Int} (h : Cn xs w p wr k v bs dv ys) (hk : k < xs.length) (h3 : WrN p w w3 p v3 (bs ++ d)) (hr : RowT w3 p dv ys)
    (hr4 : RowT w4 p dv4 (ys ++ [t])) (hg : w3.grownBy w4 dv.ownBlock) (ht : t.1 ≤ 5) (hl : (bs ++ d).length ≤ 2 * tot xs (k + 1)) : Cn xs w p w4 (k + 1) v3 (bs ++ d) dv4 (ys ++ [t]) := by
  have hF : Fr (fun i => dv.ownBlock = some i) w3 w4 := grown_fr hg
  refine ⟨by omega, ⟨h3.wr.fr hF (fun i hi => hr.notWS h3.wr i hi), Fr.below h3.below hF h3.le (fun i hi e => by have := (hr.kind e).1; omega), h3.hi, Nat.le_trans h3.le hF.size⟩, hr4, fun y hy => ?_, hl, by have := h.few; simp; omega⟩
  rcases List.mem_append.1 hy with hy | hy
  · exact h.ks y hy
  · rw [List.mem_singleton] at hy; subst hy; exact ht
end Go.Proofs.Ytgoflpfafkmmgaa
