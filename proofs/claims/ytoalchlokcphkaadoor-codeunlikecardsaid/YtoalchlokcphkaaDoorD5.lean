/- Extensions that are written out; the example that all laws know. -/
import Derived.Test.YtoalchlokcphkaaDoorD4
namespace Go.Proofs.YtoalchlokcphkaaDoor
open Go.RowKit

def insCells (l : List Ins) : List Value := (l.map Ins.cells).flatten
theorem insCells_at : ∀ (l : List Ins) (k j : Nat) (i : Ins), l[k]? = some i → j < 5 → (insCells l)[k * 5 + j]? = i.cells[j]? := by
  intro l
  induction l with
  | nil => intro k j i h; simp at h
  | cons x l ih =>
    intro k j i h hj
    have e : insCells (x :: l) = x.cells ++ insCells l := by simp [insCells]
    have hl : x.cells.length = 5 := rfl
    rw [e]
    cases k with
    | zero =>
      obtain rfl : x = i := by simpa using h
      rw [List.getElem?_append_left (by omega)]; congr 1; omega
    | succ k =>
      rw [List.getElem?_append_right (by omega), ← ih k j i (by simpa using h) hj]
      congr 1; omega
theorem insAt_block (w : World) (l : List Ins) (cs : Array Value) (hc : cs = (insCells l).toArray) : InsAt (w.alloc (.cells cs 43)) w.heap.size 0 l := by
  subst hc
  have hh := has_new w (insCells l).toArray 43 w.heap.size rfl
  have key : ∀ k j i v, l[k]? = some i → j < 5 → i.cells[j]? = some v → (w.alloc (.cells (insCells l).toArray 43)).cell? ⟨w.heap.size, 0 + k * 5 + j, none⟩ = some v := fun k j i v h hj hv => by
    rw [hh.cell, Nat.zero_add, List.getElem?_toArray, insCells_at l k j i h hj, hv]
  exact ⟨fun k i h => key k 0 i _ h (by decide) rfl, fun k i h => key k 1 i _ h (by decide) rfl, fun k i h => key k 2 i _ h (by decide) rfl, fun k i h => key k 3 i _ h (by decide) rfl, fun k i h => key k 4 i _ h (by decide) rfl⟩
theorem prg_block (w : World) (l : List Ins) (cs : Array Value) (hc : cs = (insCells l).toArray) (n : Nat) (hn : n = l.length) : Prg (w.alloc (.cells cs 43)) (.slice (some ⟨w.heap.size, 0, none⟩) n n) l := by
  subst hn
  exact ⟨_, _, w.heap.size, 0, rfl, fun _ => rfl, insAt_block w l cs hc, by simp⟩
def exL : List Ins := [⟨1, 0, 0, 0, 7⟩, ⟨24, 0, 0, 0, 0⟩]
theorem ex_check : chkE 0 exL = 0 := by decide +kernel
theorem ex_bytes : progL 0 exL = [67, 88, 0, 0, 2, 0, 1, 0, 0, 0, 7, 0, 0, 0, 24, 0, 0, 0, 0, 0, 0, 0] := by decide +kernel

set_option maxHeartbeats 1000000 in
theorem known_any (w : World) (hG : Glob w) :
    Calls Tryd.prog 11 #[] w fun e w' => e = .returned (.bool true) ∧ Below w.heap.size w w' := by
  have hB0 : Below w.heap.size w (w.alloc (.cells #[.int .i64 1, .int .i64 0, .int .i64 0, .int .i64 0, .int .u32 7, .int .i64 24, .int .i64 0, .int .i64 0, .int .i64 0, .int .u32 0] 43)) := (Below.refl _ _).alloc (Nat.le_refl _) _
  have hP := prg_block w exL #[.int .i64 1, .int .i64 0, .int .i64 0, .int .i64 0, .int .u32 7, .int .i64 24, .int .i64 0, .int .i64 0, .int .i64 0, .int .u32 0] rfl 2 rfl
  have hen := encode_ok 0 _ exL _ hP (hG.below hB0 hG.size) (by decide) ex_check
  go_enter Tryd.func11, Tryd.ntmps11
  go_wp2_with fail
  refine hen.mono ?_
  rintro e W1 ⟨v, rfl, hO, hn, hB1⟩
  have hBw1 : Below w.heap.size w W1 := hB0.trans (hB1.mono (by simp))
  have h0 : progL (Int.toNat 0) exL = [67, 88, 0, 0, 2, 0, 1, 0, 0, 0, 7, 0, 0, 0, 24, 0, 0, 0, 0, 0, 0, 0] := ex_bytes
  rw [h0] at hO
  obtain ⟨a, cap, db, o, rfl, hcap, ha, hin, hlt⟩ := hO.bytes (by have := hG.size; have := hBw1.size; omega)
  obtain rfl := ha (by simp)
  have c0 : W1.cell? ⟨db, o, none⟩ = some (.int .u8 67) := hin 0 (by simp)
  have c6 : W1.cell? ⟨db, o + 6, none⟩ = some (.int .u8 1) := hin 6 (by simp)
  have c10 : W1.cell? ⟨db, o + 10, none⟩ = some (.int .u8 7) := hin 10 (by simp)
  clear hen hO hn hB1 hP hB0 hin h0 ha
  go_wp2_with fail
  go_ret
  exact ⟨rfl, hBw1⟩
end Go.Proofs.YtoalchlokcphkaaDoor
