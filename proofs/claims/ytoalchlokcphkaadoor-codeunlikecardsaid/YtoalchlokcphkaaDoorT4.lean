/- A row of instructions of one's own. -/
import Derived.Test.YtoalchlokcphkaaDoorT2
import Derived.Test.YtoalchlokcphkaaDoorD5
import Derived.Laws.AppendOwn
namespace Go.Proofs.YtoalchlokcphkaaDoor
open Go.RowKit

theorem info43 : (Tryd.prog.info? 43).map (fun i => (i.zero, i.size, i.bytes)) = some (some (.agg #[.int .i64 0, .int .i64 0, .int .i64 0, .int .i64 0, .int .u32 0]), 5, 40) := by kernel_rfl
def flatI (l : List Ins) : List Value := (l.map Ins.cells).flatten
theorem flatI_len (l : List Ins) : (flatI l).length = l.length * 5 := by
  unfold flatI
  induction l with
  | nil => rfl
  | cons i l ih => rw [List.map_cons, List.flatten_cons, List.length_append, ih, List.length_cons]; simp [Ins.cells]; omega
theorem flatI_at (l : List Ins) : ∀ (k j : Nat) (i : Ins), l[k]? = some i → j < 5 → (flatI l)[k * 5 + j]? = i.cells[j]? := by
  induction l with
  | nil => intro k j i h; simp at h
  | cons x l ih =>
    intro k j i h hj
    show (x.cells ++ flatI l)[k * 5 + j]? = _
    cases k with
    | zero =>
      simp at h
      subst h
      rw [List.getElem?_append_left (by simp [Ins.cells]; omega)]
      congr 1; omega
    | succ k =>
      rw [List.getElem?_append_right (by simp [Ins.cells]; omega)]
      have : (k + 1) * 5 + j - x.cells.length = k * 5 + j := by simp [Ins.cells]; omega
      rw [this]
      exact ih k j i (by simpa using h) hj
theorem flatI_snoc (l : List Ins) (i : Ins) : flatI (l ++ [i]) = flatI l ++ i.cells := by unfold flatI; simp
/-- A row of one's own. -/
def OwnI (B : Nat) (w : World) (v : Value) (l : List Ins) : Prop := w.ownsRow B 43 5 v l.length (flatI l)
theorem OwnI.nil (B : Nat) (w : World) : OwnI B w (.slice none 0 0) [] := World.ownsRow_nil _ _ _ _
theorem OwnI.fr {S : Nat → Prop} {B : Nat} {w w' : World} {v : Value} {l : List Ins} (h : OwnI B w v l) (k : Fr S w w') (hs : ∀ i, v.ownBlock = some i → ¬ S i) : OwnI B w' v l := by
  refine ⟨h.1, ?_⟩
  rcases h.2 with h2 | ⟨g, cap, cur, rfl, b, c, d⟩
  · exact .inl h2
  · refine .inr ⟨g, cap, cur, rfl, b, ?_, d⟩
    rw [k.block g (Array.getElem?_eq_some_iff.1 c).1 (hs g rfl)]; exact c
theorem OwnI.below {B : Nat} {w w' : World} {v : Value} {l : List Ins} (h : OwnI B w v l) (k : Below w.heap.size w w') : OwnI B w' v l := h.fr (S := fun _ => False) (Fr.of_below k) (fun _ _ h => h)
theorem OwnI.slice {B : Nat} {w : World} {v : Value} {l : List Ins} (h : OwnI B w v l) : ∃ a c, v = .slice a l.length c := by
  rcases h.2 with ⟨rfl, h2⟩ | ⟨g, cap, cur, rfl, _⟩
  · exact ⟨none, 0, by rw [h2]⟩
  · exact ⟨_, cap, rfl⟩
/-- It is a block of instructions. -/
theorem OwnI.blk {B : Nat} {w : World} {v : Value} {l : List Ins} (h : OwnI B w v l) {g : Nat} (hg : v.ownBlock = some g) : B ≤ g ∧ ∃ cur : Array Value, Has w g cur 43 := by
  rcases h.2 with ⟨rfl, h2⟩ | ⟨g', cap, cur, rfl, b, c, d⟩
  · cases hg
  · obtain rfl : g' = g := by simpa [Value.ownBlock] using hg
    exact ⟨b, cur, c⟩
theorem OwnI.prg {B : Nat} {w : World} {v : Value} {l : List Ins} (h : OwnI B w v l) (h0 : 0 < w.heap.size) : Prg w v l := by
  have h' := h
  rcases h.2 with ⟨rfl, h2⟩ | ⟨g, cap, cur, rfl, b, c, d⟩
  · have hl : l = [] := List.length_eq_zero_iff.1 h2
    subst hl
    exact ⟨none, 0, 0, 0, rfl, fun h => absurd rfl h, ⟨fun k i h => by simp at h, fun k i h => by simp at h, fun k i h => by simp at h, fun k i h => by simp at h, fun k i h => by simp at h⟩, h0⟩
  · have key : ∀ k i j u, l[k]? = some i → j < 5 → i.cells[j]? = some u → w.cell? ⟨g, 0 + k * 5 + j, none⟩ = some u := fun k i j u hk hj hu => by
      have := World.ownsRow.cells h' (g := g) rfl (k * 5 + j) u (by rw [flatI_at l k j i hk hj]; exact hu)
      rw [Addr.add_mid] at this
      rw [← this]; congr 2; omega
    exact ⟨_, cap, g, 0, rfl, fun _ => rfl, ⟨fun k i hk => key k i 0 _ hk (by omega) rfl, fun k i hk => key k i 1 _ hk (by omega) rfl, fun k i hk => key k i 2 _ hk (by omega) rfl, fun k i hk => key k i 3 _ hk (by omega) rfl, fun k i hk => key k i 4 _ hk (by omega) rfl⟩, (Array.getElem?_eq_some_iff.1 c).1⟩
theorem run_append_ins (ty : TypeId) (B : Nat) (w : World) (v : Value) (l : List Ins) (i : Ins) (b : Nat) (hown : OwnI B w v l) (hx : Has w b i.cells.toArray 43) (hsm : l.length ≤ 100000) (hbase : B ≤ w.heap.size) :
    ∃ v' w', (Builtin.append_ #[22, 22] ty #[v, .slice (some ⟨b, 0, none⟩) 1 1]).run Tryd.prog w = .ok v' w' ∧ OwnI B w' v' (l ++ [i]) ∧ w.grownBy w' v.ownBlock := by
  obtain ⟨i0, hi, hz0, hz1, hz2⟩ := info_parts' info43
  obtain ⟨v', w', h1, h2, h3, h4⟩ := run_append_own (P := Tryd.prog) w B 22 ty 43 i0 _ 5 40 Tryd.underlying22 hi hz0 hz1 hz2 (by rfl) (by omega) v l.length (flatI l) hown ⟨b, 0, none⟩ 1 1 i.cells (by rfl)
    (fun j u hu => by rw [Addr.add_mid, hx.cell, Nat.zero_add]; simpa using hu) (fun u hu => by simp [Ins.cells] at hu; rcases hu with rfl | rfl | rfl | rfl | rfl <;> rfl) (by unfold maxLen; omega) (by omega) hbase
  refine ⟨v', w', h1, ?_, h3⟩
  unfold OwnI
  rw [flatI_snoc, List.length_append]
  exact h2
end Go.Proofs.YtoalchlokcphkaaDoor
