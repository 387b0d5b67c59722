/- A hash under way: what it holds; New, none, Len, Copy. -/
import Derived.Test.YtcmkjgodgocdfaaDoorA5
namespace Go.Proofs.YtcmkjgodgocdfaaDoor
open Go.RowKit

/-- The cells of a hash that has these bytes. -/
structure HCells (cs : Array Value) (m : List UInt8) : Prop where
  size : cs.size = 74
  st : StAt cs (stN m (m.length / 64))
  rest : ∀ j, j < m.length % 64 → cs[8 + j]? = some (.int .u8 (bv (m[64 * (m.length / 64) + j]?.getD 0)))
  byte : ∀ j, j < 64 → ∃ x : UInt8, cs[8 + j]? = some (.int .u8 (bv x))
  len : cs[72]? = some (.int .i64 (m.length : Int))
  made : cs[73]? = some (.bool true)
  small : m.length < 1000000000000
/-- A hash that has these bytes lies in block b. -/
def HashAt (w : World) (b : Nat) (m : List UInt8) : Prop := ∃ cs, Has w b cs 101 ∧ HCells cs m
theorem HashAt.lt {w : World} {b : Nat} {m : List UInt8} (h : HashAt w b m) : b < w.heap.size := by obtain ⟨cs, h, _⟩ := h; exact h.lt
theorem HashAt.ex {w w' : World} {b c : Nat} {m : List UInt8} (h : HashAt w b m) (k : Ex c w w') (hb : b ≠ c) : HashAt w' b m := by
  obtain ⟨cs, h, r⟩ := h; exact ⟨cs, h.ex k hb, r⟩
theorem HashAt.below {w w' : World} {b B : Nat} {m : List UInt8} (h : HashAt w b m) (k : Below B w w') (hb : b < B) : HashAt w' b m := by
  obtain ⟨cs, h, r⟩ := h; exact ⟨cs, h.below k hb, r⟩

theorem HCells.one {cs : Array Value} {m : List UInt8} (h : HCells cs m) : cs.all (·.oneCell') = true := by
  rw [Array.all_eq_true]
  intro i hi
  have e : cs[i]? = some cs[i] := Array.getElem?_eq_getElem hi
  have hs := h.size
  by_cases h8 : i < 8
  · have := h.st i h8; rw [e] at this; rw [Option.some.inj this]; rfl
  · by_cases h72 : i < 72
    · obtain ⟨x, hx⟩ := h.byte (i - 8) (by omega)
      rw [show 8 + (i - 8) = i by omega, e] at hx; rw [Option.some.inj hx]; rfl
    · by_cases e72 : i = 72
      · subst e72; have := h.len; rw [e] at this; rw [Option.some.inj this]; rfl
      · have e73 : i = 73 := by omega
        subst e73; have := h.made; rw [e] at this; rw [Option.some.inj this]; rfl

set_option maxHeartbeats 400000 in
theorem none_any (b : Nat) (w : World) (h : w.cell? ⟨b, 73, none⟩ = some (.bool true)) :
    Calls Tryd.prog 57 #[.pointer (some ⟨b, 0, none⟩)] w fun e w' => e = .returned (.bool false) ∧ w' = w := by
  go_enter Tryd.func57, Tryd.ntmps57
  go_wp2
  go_ret
  exact ⟨rfl, rfl⟩

set_option maxHeartbeats 400000 in
theorem none_nil (w : World) :
    Calls Tryd.prog 57 #[.pointer none] w fun e w' => e = .returned (.bool true) ∧ w' = w := by
  go_enter Tryd.func57, Tryd.ntmps57
  go_wp2
  go_ret
  exact ⟨rfl, rfl⟩

def zeroHash : Array Value := (List.replicate 8 (Value.int .u32 0) ++ List.replicate 64 (Value.int .u8 0) ++ [Value.int .i64 0, Value.bool false]).toArray
set_option maxRecDepth 100000 in
set_option maxHeartbeats 400000 in
theorem copy_any (b : Nat) (m : List UInt8) (w : World) (h : HashAt w b m) :
    Calls Tryd.prog 60 #[.pointer (some ⟨b, 0, none⟩)] w fun e w' => e = .returned (.pointer (some ⟨w.heap.size, 0, none⟩)) ∧ Below w.heap.size w w' ∧ HashAt w' w.heap.size m := by
  obtain ⟨cs, hh, hc⟩ := h
  have c73 := (hh.cell 73).trans hc.made
  have hs := hc.size
  go_enter Tryd.func60, Tryd.ntmps60
  go_wp2_with (first
    | (go_at_call 57; refine (none_any _ _ c73).mono ?_; rintro e w' ⟨rfl, hw⟩; obtain rfl := hw.symm)
    | refine wpList_load_row rfl 101 _ rfl b rfl 101 cs (0, 0) _ hh Tryd.underlying101 rfl (by rw [hs]; kernel_rfl) ?_
    | refine wpList_store_row rfl 101 _ _ rfl w.heap.size cs rfl rfl 101 _ (has_new _ _ _ _ rfl) (by rw [hs]; kernel_rfl) (by rw [hs]; simp) hc.one ?_)
  go_ret
  have hn := has_new w zeroHash 101 w.heap.size rfl
  have h1 := setRow_heap (w.alloc (.cells zeroHash 101)) w.heap.size _ cs _ _ hn
  exact ⟨rfl, ((Below.refl _ _).alloc (Nat.le_refl _) _).trans ⟨rfl, rfl, rfl, by simp, fun j hj => setRow_other _ _ _ _ (by omega)⟩, cs, h1, hc⟩

set_option maxHeartbeats 400000 in
theorem copy_nil (w : World) :
    Calls Tryd.prog 60 #[.pointer none] w fun e w' => e = .returned (.pointer none) ∧ w' = w := by
  go_enter Tryd.func60, Tryd.ntmps60
  go_wp2_with (go_at_call 57; refine (none_nil _).mono ?_; rintro e w' ⟨rfl, rfl⟩)
  go_ret
  exact ⟨rfl, rfl⟩

def squareCells : List Value := (List.range 8).map fun j => Value.int .u32 (wv (squareW j))
def newHash : Array Value := (squareCells ++ List.replicate 64 (Value.int .u8 0) ++ [Value.int .i64 0, Value.bool true]).toArray
theorem newHash_cells : HCells newHash [] := by
  refine ⟨rfl, fun j hj => ?_, fun j hj => absurd hj (by simp), fun j hj => ⟨0, ?_⟩, rfl, rfl, by simp⟩
  · match j, hj with
    | 0, _ | 1, _ | 2, _ | 3, _ | 4, _ | 5, _ | 6, _ | 7, _ => rfl
  · unfold newHash squareCells
    rw [List.getElem?_toArray, List.getElem?_append_left (by simp; omega), List.getElem?_append_right (by simp), List.getElem?_replicate, if_pos (by simp; omega)]
    rfl
theorem Glob.range {w : World} (h : Glob w) : w.rangeAt 0 0 squareCells := fun j v hv => by
  have hj : j < 8 := by
    have := (List.getElem?_eq_some_iff.1 hv).1
    simpa [squareCells] using this
  rw [Nat.zero_add, h.sq j hj, ← hv]
  simp [squareCells, hj]

set_option maxRecDepth 100000 in
set_option maxHeartbeats 400000 in
theorem new_any (w : World) (hg : Glob w) :
    Calls Tryd.prog 50 #[] w fun e w' => e = .returned (.pointer (some ⟨w.heap.size, 0, none⟩)) ∧ Below w.heap.size w w' ∧ HashAt w' w.heap.size [] := by
  go_enter Tryd.func50, Tryd.ntmps50
  go_wp2_with (first
    | refine wpList_load_mid rfl 97 _ rfl 0 0 rfl squareCells _ hg.range Tryd.underlying97 rfl (by kernel_rfl) ?_
    | fail)
  go_ret
  have e : (List.foldl (fun (cs : Array Value) (x : Value × Nat) => cs.setIfInBounds x.snd x.fst) Tryd.zeroCells101 squareCells.zipIdx).setIfInBounds 73 (Value.bool true) = newHash := by kernel_rfl
  rw [e]
  exact ⟨rfl, (Below.refl _ _).alloc (Nat.le_refl _) _, newHash, has_new _ _ _ _ rfl, newHash_cells⟩
end Go.Proofs.YtcmkjgodgocdfaaDoor
