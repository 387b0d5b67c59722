/- Paths, as lists; rows that stay. -/
import Derived.Test.YtcmkjgodgocdfaaDoorT3
namespace Go.Proofs.YtcmkjgodgocdfaaDoor
open Go.RowKit

theorem rowsL_at : ∀ (n : Nat) (ds : List Dig), ds.length ≤ n → 0 < ds.length → All32 ds → ∀ (k : Nat) (r : List Dig), (rowsL ds)[k]? = some r →
    0 < r.length ∧ r.length ≤ ds.length ∧ All32 r ∧ (1 < r.length → (rowsL ds)[k + 1]? = some (aboveL r)) ∧ (¬ 1 < r.length → k + 1 = (rowsL ds).length) := by
  intro n
  induction n using Nat.strongRecOn with
  | _ n ih =>
    intro ds hn h0 h32 k r hr
    by_cases h : 1 < ds.length
    · have hl := aboveL_len _ ds (Nat.le_refl _)
      rw [rowsL_more h] at hr ⊢
      cases k with
      | zero =>
        simp at hr
        subst hr
        refine ⟨h0, Nat.le_refl _, h32, fun _ => ?_, fun e => absurd h e⟩
        rw [List.getElem?_cons_succ]
        by_cases h' : 1 < (aboveL ds).length
        · rw [rowsL_more h']; rfl
        · rw [rowsL_last h']; rfl
      | succ k =>
        rw [List.getElem?_cons_succ] at hr ⊢
        obtain ⟨a1, a2, a3, a4, a5⟩ := ih (n - 1) (by omega) (aboveL ds) (by omega) (by omega) (aboveL_all _ ds (Nat.le_refl _) h32) k r hr
        refine ⟨a1, by omega, a3, a4, fun e => ?_⟩
        rw [List.length_cons, a5 e]
    · rw [rowsL_last h] at hr ⊢
      cases k with
      | zero =>
        simp at hr
        subst hr
        exact ⟨h0, Nat.le_refl _, h32, fun e => absurd e h, fun _ => rfl⟩
      | succ k => simp at hr
/-- The path of a place through rows. -/
def pathUp : List (List Dig) → Nat → List Dig
  | [], _ => []
  | [_], _ => []
  | r :: s :: t, i => (if oth i < r.length then [r[oth i]?.getD []] else []) ++ pathUp (s :: t) (i / 2)
theorem pathUp_len : ∀ (rows : List (List Dig)) (i : Nat), (pathUp rows i).length ≤ rows.length
  | [], _ => by simp [pathUp]
  | [_], _ => by simp [pathUp]
  | r :: s :: t, i => by
    have := pathUp_len (s :: t) (i / 2)
    simp only [pathUp, List.length_append]
    split <;> simp at this ⊢ <;> omega
theorem pathUp_drop {rows : List (List Dig)} {k : Nat} {r : List Dig} (hr : rows[k]? = some r) (h2 : k + 1 < rows.length) (i : Nat) :
    pathUp (rows.drop k) i = (if oth i < r.length then [r[oth i]?.getD []] else []) ++ pathUp (rows.drop (k + 1)) (i / 2) := by
  have hk : k < rows.length := by omega
  have e : rows[k] = r := by rw [List.getElem?_eq_getElem hk] at hr; exact Option.some.inj hr
  rw [List.drop_eq_getElem_cons hk, e, List.drop_eq_getElem_cons h2]
  rfl
theorem pathUp_last {rows : List (List Dig)} {k : Nat} (h2 : k + 1 = rows.length) (i : Nat) : pathUp (rows.drop k) i = [] := by
  rw [List.drop_eq_getElem_cons (by omega), List.drop_of_length_le (by omega)]
  rfl
def pathOf (ds : List Dig) (i : Nat) : List Dig := pathUp (rowsL (ds.map markL)) i
/-- From C on, what was there is as it was. -/
structure Frm (C : Nat) (w w' : World) : Prop where
  size : w.heap.size ≤ w'.heap.size
  block : ∀ q, C ≤ q → q < w.heap.size → w'.heap[q]? = w.heap[q]?
theorem Frm.refl (C : Nat) (w : World) : Frm C w w := ⟨Nat.le_refl _, fun _ _ _ => rfl⟩
theorem Frm.trans {C : Nat} {x y z : World} (h : Frm C x y) (k : Frm C y z) : Frm C x z := ⟨Nat.le_trans h.size k.size, fun q h1 h2 => (k.block q h1 (Nat.lt_of_lt_of_le h2 h.size)).trans (h.block q h1 h2)⟩
theorem Frm.ex {C b : Nat} {x y z : World} (h : Frm C x y) (k : Ex b y z) (hb : b < C) : Frm C x z := ⟨Nat.le_trans h.size k.size, fun q h1 h2 => (k.block q (Nat.lt_of_lt_of_le h2 h.size) (by omega)).trans (h.block q h1 h2)⟩
theorem Frm.below {C D : Nat} {x y z : World} (h : Frm C x y) (k : Below D y z) (hD : x.heap.size ≤ D) : Frm C x z := ⟨Nat.le_trans h.size k.size, fun q h1 h2 => (k.block q (by omega)).trans (h.block q h1 h2)⟩
theorem own_mid {C e s n : Nat} {w w' : World} {v : Value} {xs : List Value} (h : w.ownsRow C e s v n xs) (k : Frm C w w') : w'.ownsRow C e s v n xs := by
  refine ⟨h.1, ?_⟩
  rcases h.2 with hn | ⟨g, cap, cur, rfl, hb, hgg, rest⟩
  · exact .inl hn
  · exact .inr ⟨g, cap, cur, rfl, hb, (k.block g hb (Array.getElem?_eq_some_iff.1 hgg).1).trans hgg, rest⟩
theorem RowsAt.mid {C : Nat} {w w' : World} {rv : Value} {rows : List (List Dig)} {xs : List Value} (h : RowsAt C C w rv rows xs) (k : Frm C w w') : RowsAt C C w' rv rows xs :=
  ⟨own_mid h.own k, fun j hj => by obtain ⟨sv, h1, h2⟩ := h.each j hj; exact ⟨sv, h1, h2.1, own_mid h2.2 k⟩, h.apart⟩
end Go.Proofs.YtcmkjgodgocdfaaDoor
