import Derived.Test.YtgoflpfafkmmgaaQ3
import Derived.Laws.AppendOwn
namespace Go.Proofs.Ytgoflpfafkmmgaa
open Go.RowKit
theorem info29 : (Try.prog.info? 29).map (fun i => (i.zero, i.size, i.bytes)) = some (some (.agg #[.int .i64 0, .int .i64 0, .slice none 0 0]), 3, 40) := by kernel_rfl
/-- What one call lays. -/
def oL (y : AddD × Value) : List UInt8 := (layL y.1.what y.1.n y.1.d).getD []
def rowL (ys : List (AddD × Value)) : List Value := ys.flatMap fun y => [.int .i64 y.1.what, .int .i64 y.1.n, y.2]
structure Good (w : World) (y : AddD × Value) : Prop where
  lo : 0 ≤ y.1.what
  hi : y.1.what ≤ 4
  n : y.1.n ≤ 9223372036854775807
  d : y.1.d.length ≤ 4000
  by_ : In w y.2 y.1.d
  lay : layL y.1.what y.1.n y.1.d = some (oL y)
theorem rowL_len (ys : List (AddD × Value)) : (rowL ys).length = ys.length * 3 := by
  induction ys with
  | nil => rfl
  | cons y ys ih => unfold rowL at ih ⊢; rw [List.flatMap_cons, List.length_append, ih]; simp; omega
theorem rowL_at : ∀ (ys : List (AddD × Value)) (j : Nat) (y : AddD × Value), ys[j]? = some y → (rowL ys)[j * 3]? = some (.int .i64 y.1.what) ∧ (rowL ys)[j * 3 + 1]? = some (.int .i64 y.1.n) ∧ (rowL ys)[j * 3 + 2]? = some y.2
  | [], j, y, h => by simp at h
  | x :: xs, 0, y, h => by simp at h; subst h; simp [rowL]
  | x :: xs, j + 1, y, h => by
    have ih := rowL_at xs j y (by simpa using h)
    have e : rowL (x :: xs) = .int .i64 x.1.what :: .int .i64 x.1.n :: x.2 :: rowL xs := by simp [rowL]
    have e0 : (j + 1) * 3 = j * 3 + 1 + 1 + 1 := by omega
    have e1 : (j + 1) * 3 + 1 = j * 3 + 1 + 1 + 1 + 1 := by omega
    have e2 : (j + 1) * 3 + 2 = j * 3 + 2 + 1 + 1 + 1 := by omega
    rw [e, e1, e2, e0]
    simp only [List.getElem?_cons_succ]
    exact ih
theorem rowL_snoc (ys : List (AddD × Value)) (y : AddD × Value) : rowL ys ++ [.int .i64 y.1.what, .int .i64 y.1.n, y.2] = rowL (ys ++ [y]) := by simp [rowL]
/-- The row of what was laid. -/
def Row (w : World) (N : Nat) (v : Value) (ys : List (AddD × Value)) : Prop := w.ownsRow N 29 3 v ys.length (rowL ys)
theorem Row.kind {w : World} {N : Nat} {v : Value} {ys : List (AddD × Value)} (h : Row w N v ys) {k : Nat} (hk : v.ownBlock = some k) : N ≤ k ∧ k < w.heap.size ∧ ∃ c fz, w.heap[k]? = some (.cells c 29 fz) := by
  refine ⟨(h.lt k hk).1, (h.lt k hk).2, ?_⟩
  rcases h.2 with ⟨rfl, _⟩ | ⟨g', cap, cur, rfl, _, hgg, _⟩
  · simp [Value.ownBlock] at hk
  · simp [Value.ownBlock] at hk
    subst hk
    exact ⟨cur, (0, 0), hgg⟩
theorem Row.fr {S : Nat → Prop} {w w' : World} {N : Nat} {v : Value} {ys : List (AddD × Value)} (h : Row w N v ys) (k : Fr S w w') (hs : ∀ i, v.ownBlock = some i → ¬ S i) : Row w' N v ys := by
  refine ⟨h.1, ?_⟩
  rcases h.2 with h2 | ⟨g, cap, cur, a, b, c, e⟩
  · exact .inl h2
  · refine .inr ⟨g, cap, cur, a, b, ?_, e⟩
    rw [k.block g (by have := (h.lt g (by rw [a]; rfl)).2; exact this) (hs g (by rw [a]; rfl))]
    exact c
theorem Row.notWS {w : World} {N p : Nat} {v u : Value} {bs : List UInt8} {ys : List (AddD × Value)} (h : Row w N v ys) (hW : Wr w p u bs) : ∀ i, v.ownBlock = some i → ¬ WS p u i := by
  intro i hi e
  obtain ⟨_, _, c, fz, hc⟩ := h.kind hi
  rcases e with e | e
  · subst e
    have := hW.has
    unfold Has at this
    rw [hc] at this
    simp at this
  · rcases hW.own.2 with ⟨rfl, _⟩ | ⟨g, cap, cur, rfl, _, h2, _⟩
    · cases e
    · simp [Value.ownBlock] at e
      subst e
      rw [hc] at h2
      simp at h2
theorem Row.form {w : World} {N : Nat} {v : Value} {ys : List (AddD × Value)} (h : Row w N v ys) : ∃ a c, v = .slice a ys.length c := by
  rcases h.2 with ⟨rfl, h0⟩ | ⟨g, c, cur, rfl, _⟩
  · rw [h0]; exact ⟨_, _, rfl⟩
  · exact ⟨_, _, rfl⟩
theorem Row.at_ {w : World} {N : Nat} {a : Option Addr} {c n : Nat} {ys : List (AddD × Value)} (h : Row w N (.slice a n c) ys) {j : Nat} {y : AddD × Value} (hj : ys[j]? = some y) : ∃ g, a = some ⟨g, 0, none⟩ ∧ w.cell? ⟨g, j * 3, none⟩ = some (.int .i64 y.1.what) ∧ w.cell? ⟨g, j * 3 + 1, none⟩ = some (.int .i64 y.1.n) ∧ w.cell? ⟨g, j * 3 + 2, none⟩ = some y.2 := by
  obtain ⟨h0, h1, h2⟩ := rowL_at ys j y hj
  rcases id h.2 with ⟨_, e⟩ | ⟨g, cap, cur, e, _⟩
  · have : ys = [] := List.eq_nil_of_length_eq_zero e
    subst this
    simp at hj
  · simp only [Value.slice.injEq] at e
    obtain ⟨rfl, _, _⟩ := e
    have hc := World.ownsRow.cells (g := g) h rfl
    refine ⟨g, rfl, ?_, ?_, ?_⟩
    · have := hc _ _ h0; rwa [Addr.add_mid, Nat.zero_add] at this
    · have := hc _ _ h1; rwa [Addr.add_mid, Nat.zero_add] at this
    · have := hc _ _ h2; rwa [Addr.add_mid, Nat.zero_add] at this
theorem In.keep {w w' : World} {v : Value} {d : List UInt8} (h : In w v d) (k : Below w.heap.size w w') : In w' v d := by
  rcases h with h | h
  · exact .inl h
  · exact .inr (h.below k)
theorem Takes.keep {w w' : World} {v : Value} {xs : List (Int × Int)} {a : Option Addr} {cap b o : Nat} (h : Takes w v xs a cap b o) (k : Below w.heap.size w w') : Takes w' v xs a cap b o :=
  ⟨h.val, h.at_, fun i x hi => (k.cell (p := ⟨b, o + i * 2, none⟩) (block_of_cell (h.c0 i x hi))).trans (h.c0 i x hi), fun i x hi => (k.cell (p := ⟨b, o + i * 2 + 1, none⟩) (block_of_cell (h.c1 i x hi))).trans (h.c1 i x hi), h.len⟩
end Go.Proofs.Ytgoflpfafkmmgaa
