/- The document's ways: what is known behind an instruction by both ways, and an error; and stores of them. -/
import Derived.Test.YtodkehpldlmgaaaDoorZcS6
import Derived.Test.YtodkehpldlmgaaaDoorZq3
import Derived.Test.YtodkehpldlmgaaaDoorZq5
namespace Go.Proofs.YtodkehpldlmgaaaDoor
open Go.RowKit

/-- Cells in the midst of a block are written over. -/
theorem has_setSeg {b t : Nat} : ∀ (l pre mid post : List Value) (X : World), mid.length = l.length → Has X b (pre ++ (mid ++ post)).toArray t → Has (X.setCells b pre.length l) b (pre ++ (l ++ post)).toArray t
  | [], pre, mid, post, X, hl, h => by
    obtain rfl := List.eq_nil_of_length_eq_zero hl
    exact h
  | v :: l, pre, [], post, X, hl, h => by cases hl
  | v :: l, pre, m :: mid, post, X, hl, h => by
    have h1 := h.set pre.length v
    have e : (pre ++ (m :: mid ++ post)).toArray.setIfInBounds pre.length v = ((pre ++ [v]) ++ (mid ++ post)).toArray := by
      rw [List.setIfInBounds_toArray]
      congr 1
      rw [List.set_append_right _ _ (Nat.le_refl _)]
      simp
    rw [e] at h1
    have h2 := has_setSeg l (pre ++ [v]) mid post _ (by simpa using hl) h1
    rw [show (pre ++ [v]).length = pre.length + 1 by simp] at h2
    rw [show pre ++ (v :: l ++ post) = pre ++ [v] ++ (l ++ post) by simp]
    exact h2
theorem setCells_ex (b : Nat) : ∀ (l : List Value) (o : Nat) (X : World), Ex b X (X.setCells b o l)
  | [], _, _ => Ex.refl _ _
  | v :: l, o, X => (Ex.set b X o v).trans (setCells_ex b l (o + 1) _)
def wayC (n j : Kn) (e : Int) : List Value := n.cells ++ (j.cells ++ [.int .i64 e])
def wayA (n j : Kn) (e : Int) : Array Value := (wayC n j e).toArray
theorem wayA_size (n j : Kn) (e : Int) : (wayA n j e).size = 63 := rfl
theorem wayA_one (n j : Kn) (e : Int) : (wayA n j e).all (·.oneCell') = true := by
  refine all_oneCell_toArray fun v hv => ?_
  unfold wayC at hv
  rcases List.mem_append.1 hv with h | h
  · exact (Array.all_eq_true_iff_forall_mem.1 (Kn.a_one n)) v (by unfold Kn.a; simpa using h)
  · rcases List.mem_append.1 h with h | h
    · exact (Array.all_eq_true_iff_forall_mem.1 (Kn.a_one j)) v (by unfold Kn.a; simpa using h)
    · obtain rfl := List.mem_singleton.1 h
      rfl
theorem way_next {X : World} {b t : Nat} {n j : Kn} {e : Int} (h : Has X b (wayA n j e) t) (n' : Kn) : Has (X.setCells b 0 n'.cells) b (wayA n' j e) t ∧ Ex b X (X.setCells b 0 n'.cells) :=
  ⟨has_setSeg n'.cells [] n.cells (j.cells ++ [.int .i64 e]) X (by rw [n.cells_len, n'.cells_len]) h, setCells_ex _ _ _ _⟩
theorem way_jumped {X : World} {b t : Nat} {n j : Kn} {e : Int} (h : Has X b (wayA n j e) t) (j' : Kn) : Has (X.setCells b 31 j'.cells) b (wayA n j' e) t ∧ Ex b X (X.setCells b 31 j'.cells) := by
  have h1 := has_setSeg j'.cells n.cells j.cells [.int .i64 e] X (by rw [j.cells_len, j'.cells_len]) h
  rw [n.cells_len] at h1
  exact ⟨h1, setCells_ex _ _ _ _⟩
theorem way_err {X : World} {b t : Nat} {n j : Kn} {e : Int} (h : Has X b (wayA n j e) t) : X.cell? ⟨b, 62, none⟩ = some (.int .i64 e) := by
  rw [h.cell]
  unfold wayA wayC
  rw [List.getElem?_toArray, List.getElem?_append_right (by rw [n.cells_len]; omega), n.cells_len, List.getElem?_append_right (by rw [j.cells_len]; omega), j.cells_len]
  rfl
theorem way_nextR {X : World} {b t : Nat} {n j : Kn} {e : Int} (h : Has X b (wayA n j e) t) : X.rangeAt b 0 n.cells := has_range h 0 _ fun q hq => by
  unfold wayA wayC
  rw [List.getElem?_toArray, Nat.zero_add, List.getElem?_append_left hq]
theorem way_jumpedR {X : World} {b t : Nat} {n j : Kn} {e : Int} (h : Has X b (wayA n j e) t) : X.rangeAt b 31 j.cells := has_range h 31 _ fun q hq => by
  unfold wayA wayC
  rw [List.getElem?_toArray, List.getElem?_append_right (by rw [n.cells_len]; omega), n.cells_len, show 31 + q - 31 = q by omega, List.getElem?_append_left hq]
/-- What the document's Behind answers. -/
def wayV (i : Ins) (c : Int) (k : Kn) : Kn × Kn × Int := if k.come = false then (noK, noK, 0) else match outI i c k with
  | .ok p => (p.1, p.2, 0)
  | .error x => (noK, noK, x.errno)
end Go.Proofs.YtodkehpldlmgaaaDoor
