/- What ShaPlays holds from round to round. -/
import Derived.Test.YtkcngkkjlnadiaaDoorK2
namespace Go.Proofs.YtkcngkkjlnadiaaDoor
open Go.RowKit

theorem own_has_ne {base : Nat} {w : World} {v : Value} {d : List UInt8} (h : Own base w v d) {b t : Nat} {cs : Array Value} (hh : Has w b cs t) (ht : t ≠ 5) : v.ownBlock ≠ some b := by
  intro e
  rcases h.2 with ⟨rfl, _⟩ | ⟨g, c, cur, rfl, _, hg, _⟩
  · simp [Value.ownBlock] at e
  · simp only [Value.ownBlock, Option.some.injEq] at e
    subst e
    rw [show w.heap[g]? = _ from hh] at hg
    simp only [Option.some.injEq, Obj.cells.injEq] at hg
    exact ht hg.2.1
theorem Own.exT {base : Nat} {w w' : World} {v : Value} {d : List UInt8} {b t : Nat} {cs : Array Value} (h : Own base w v d) (k : Ex b w w') (hh : Has w b cs t) (ht : t ≠ 5) : Own base w' v d :=
  World.ownsRow.kept (row := some b) h ⟨k.os, k.tape, k.output, k.size, fun i hi hn => k.block i hi (fun e => hn (by rw [e]))⟩ (.inr (own_has_ne h hh ht))
/-- An act: what, of which hash, its bytes. -/
structure Ac where
  what : Int
  two : Bool
  bytes : List UInt8
/-- The script that came in. -/
def Acts (w : World) (v : Value) (acs : List Ac) : Prop :=
  ∃ a cap pb po, v = .slice a acs.length cap ∧ (acs ≠ [] → a = some ⟨pb, po, none⟩) ∧ (∀ i c, acs[i]? = some c → w.cell? ⟨pb, po + i * 3, none⟩ = some (.int .i64 c.what) ∧ w.cell? ⟨pb, po + i * 3 + 1, none⟩ = some (.bool c.two) ∧ ∃ sv, w.cell? ⟨pb, po + i * 3 + 2, none⟩ = some sv ∧ Bytes w sv c.bytes) ∧ pb < w.heap.size
def cost1 (c : Ac) : Nat := 20 + Nat.min c.bytes.length 601
def cost (acs : List Ac) : Nat := (acs.map cost1).sum
theorem cost_next (acs : List Ac) (k : Nat) (c : Ac) (h : acs[k]? = some c) : cost (acs.take (k + 1)) = cost (acs.take k) + cost1 c := by
  have hk : k < acs.length := (List.getElem?_eq_some_iff.1 h).1
  have e : acs[k] = c := by rw [List.getElem?_eq_getElem hk] at h; exact Option.some.inj h
  rw [List.take_succ_eq_append_getElem hk, e]
  simp [cost]
/-- What is held from round to round: the hashes' row, the array of all bytes, the two hashes. -/
structure PI (w : World) (G A b0 b1 : Nat) (m0 m1 : List UInt8) (v0 v1 : Value) (W : World) : Prop where
  bw : Below w.heap.size w W
  g : Has W G #[.pointer (some ⟨b0, 0, none⟩), .pointer (some ⟨b1, 0, none⟩)] 44
  a : Has W A #[v0, v1] 47
  h0 : HashAt W b0 m0
  h1 : HashAt W b1 m1
  o0 : Own w.heap.size W v0 m0
  o1 : Own w.heap.size W v1 m1
  ne : b0 ≠ b1
  lo : w.heap.size ≤ b0 ∧ w.heap.size ≤ b1 ∧ w.heap.size ≤ G ∧ w.heap.size ≤ A
theorem PI.below {w : World} {G A b0 b1 : Nat} {m0 m1 : List UInt8} {v0 v1 : Value} {W W' : World} (h : PI w G A b0 b1 m0 m1 v0 v1 W) (k : Below W.heap.size W W') : PI w G A b0 b1 m0 m1 v0 v1 W' :=
  ⟨h.bw.trans (k.mono h.bw.size), h.g.below k h.g.lt, h.a.below k h.a.lt, h.h0.below k h.h0.lt, h.h1.below k h.h1.lt, h.o0.below k, h.o1.below k, h.ne, h.lo⟩
theorem hash_has {W : World} {b : Nat} {m : List UInt8} (h : HashAt W b m) : ∃ cs, Has W b cs 74 := by obtain ⟨cs, h, _⟩ := h; exact ⟨cs, h⟩
theorem has_ne {W : World} {b c t u : Nat} {x y : Array Value} (h : Has W b x t) (k : Has W c y u) (ht : t ≠ u) : b ≠ c := by
  rintro rfl
  have := Option.some.inj ((show W.heap[b]? = some _ from h).symm.trans (show W.heap[b]? = some _ from k))
  simp only [Obj.cells.injEq] at this
  exact ht this.2.1
/-- One of the hashes is written. -/
theorem PI.w0 {w : World} {G A b0 b1 : Nat} {m0 m1 : List UInt8} {v0 v1 : Value} {W W' : World} (h : PI w G A b0 b1 m0 m1 v0 v1 W) (k : Ex b0 W W') :
    Below w.heap.size w W' ∧ Has W' G #[.pointer (some ⟨b0, 0, none⟩), .pointer (some ⟨b1, 0, none⟩)] 44 ∧ Has W' A #[v0, v1] 47 ∧ HashAt W' b1 m1 ∧ Own w.heap.size W' v0 m0 ∧ Own w.heap.size W' v1 m1 := by
  obtain ⟨cs, hc⟩ := hash_has h.h0
  exact ⟨Below.ex h.bw h.bw.size k h.lo.1, h.g.ex k (has_ne h.g hc (by decide)), h.a.ex k (has_ne h.a hc (by decide)), h.h1.ex k (Ne.symm h.ne), h.o0.exT k hc (by decide), h.o1.exT k hc (by decide)⟩
theorem PI.w1 {w : World} {G A b0 b1 : Nat} {m0 m1 : List UInt8} {v0 v1 : Value} {W W' : World} (h : PI w G A b0 b1 m0 m1 v0 v1 W) (k : Ex b1 W W') :
    Below w.heap.size w W' ∧ Has W' G #[.pointer (some ⟨b0, 0, none⟩), .pointer (some ⟨b1, 0, none⟩)] 44 ∧ Has W' A #[v0, v1] 47 ∧ HashAt W' b0 m0 ∧ Own w.heap.size W' v0 m0 ∧ Own w.heap.size W' v1 m1 := by
  obtain ⟨cs, hc⟩ := hash_has h.h1
  exact ⟨Below.ex h.bw h.bw.size k h.lo.2.1, h.g.ex k (has_ne h.g hc (by decide)), h.a.ex k (has_ne h.a hc (by decide)), h.h0.ex k h.ne, h.o0.exT k hc (by decide), h.o1.exT k hc (by decide)⟩
end Go.Proofs.YtkcngkkjlnadiaaDoor
