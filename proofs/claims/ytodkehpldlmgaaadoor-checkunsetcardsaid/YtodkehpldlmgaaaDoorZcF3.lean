/- What comes in: two bools, three words, what is known and how much less. -/
import Derived.Test.YtodkehpldlmgaaaDoorZq7
namespace Go.Proofs.YtodkehpldlmgaaaDoor
open Go.ChangeShapes Go.WideShapes Go.ChangeAt Go.RowKit Go.Deep

set_option maxRecDepth 100000 in
theorem bools_of {H : Type} {enc : TypeId × Value → H} {W : World} {base : Nat} {r : Reach} {v : Value} {d : DataW H} {ps : List MemPlace} (hv : Value.okWide Tryd.prog W r base 69 v) (h : DataW.Trod enc Tryd.prog W 0 (fun _ => true) true 69 v d ps) :
    ∃ a b : Bool, v = .agg #[.bool a, .bool b] := by
  unfold Value.okWide at hv
  rw [Tryd.underlying69] at hv
  obtain ⟨cs, rfl, hsz, _⟩ := hv
  obtain ⟨fuel, hf⟩ := h
  have hf : DataW.trod enc Tryd.prog W 0 (fun _ => true) true fuel 69 cs.toList = some (d, ps) := hf
  have c4 : Tryd.prog.cellsOf 4 = 1 := by kernel_rfl
  obtain ⟨ys, m, hm, hxy1, hl1, hn, hel⟩ := DataW.trod_array Tryd.underlying69 hf
  rw [c4] at hel
  have hl2 : cs.toList.length = 2 := hl1.trans (by kernel_rfl)
  obtain ⟨v0, v1, hcs⟩ := two_of cs.toList hl2
  rw [hcs] at hel
  have h0 := hel 0 (by decide)
  have h1 := hel 1 (by decide)
  rw [List.getElem?_eq_getElem (by omega)] at h0 h1
  obtain ⟨a, ha, _⟩ := DataW.trod_bool Tryd.underlying4 h0
  obtain ⟨b, hb, _⟩ := DataW.trod_bool Tryd.underlying4 h1
  obtain rfl : v0 = .bool a := by simpa using ha
  obtain rfl : v1 = .bool b := by simpa using hb
  exact ⟨a, b, congrArg _ (arr_of hcs)⟩
set_option maxRecDepth 100000 in
theorem spot_of {H : Type} {enc : TypeId × Value → H} {W : World} {base : Nat} {r : Reach} {v : Value} {d : DataW H} {ps : List MemPlace} (hv : Value.okWide Tryd.prog W r base 57 v) (h : DataW.Trod enc Tryd.prog W 0 (fun _ => true) true 57 v d ps) :
    ∃ a b c : Nat, v = .agg #[.int .u32 (a : Int), .int .u32 (b : Int), .int .u32 (c : Int)] ∧ a < 4294967296 ∧ b < 4294967296 ∧ c < 4294967296 := by
  unfold Value.okWide at hv
  rw [Tryd.underlying57] at hv
  obtain ⟨cs, rfl, hsz, _⟩ := hv
  obtain ⟨fuel, hf⟩ := h
  have hf : DataW.trod enc Tryd.prog W 0 (fun _ => true) true fuel 57 cs.toList = some (d, ps) := hf
  obtain ⟨xs, k, hk, hxy, hl, hxl, hf⟩ := DataW.trod_struct Tryd.underlying57 hf
  obtain ⟨v0, v1, v2, hcs⟩ := three_of cs.toList (hl.trans (by kernel_rfl))
  obtain ⟨x0, x1, x2, rfl⟩ := three_of xs hxl
  rw [hcs] at hf
  have c36 : Tryd.prog.cellsOf 36 = 1 := by kernel_rfl
  have h0 : DataW.trod enc Tryd.prog W 0 (fun _ => true) true k 36 (([v0, v1, v2].drop 0).take (Tryd.prog.cellsOf 36)) = some x0 := hf 0 _ rfl
  have h1 : DataW.trod enc Tryd.prog W 0 (fun _ => true) true k 36 (([v0, v1, v2].drop 1).take (Tryd.prog.cellsOf 36)) = some x1 := hf 1 _ rfl
  have h2 : DataW.trod enc Tryd.prog W 0 (fun _ => true) true k 36 (([v0, v1, v2].drop 2).take (Tryd.prog.cellsOf 36)) = some x2 := hf 2 _ rfl
  rw [c36] at h0 h1 h2
  obtain ⟨z0, hz0, _, hw0⟩ := DataW.trod_int Tryd.underlying36 h0
  obtain ⟨z1, hz1, _, hw1⟩ := DataW.trod_int Tryd.underlying36 h1
  obtain ⟨z2, hz2, _, hw2⟩ := DataW.trod_int Tryd.underlying36 h2
  obtain rfl : v0 = .int .u32 z0 := by simpa using hz0
  obtain rfl : v1 = .int .u32 z1 := by simpa using hz1
  obtain rfl : v2 = .int .u32 z2 := by simpa using hz2
  obtain ⟨n0, rfl, b0⟩ := nat_of_u32 hw0
  obtain ⟨n1, rfl, b1⟩ := nat_of_u32 hw1
  obtain ⟨n2, rfl, b2⟩ := nat_of_u32 hw2
  exact ⟨n0, n1, n2, congrArg _ (arr_of hcs), b0, b1, b2⟩
def wordC (U : Nat → Nat) : List Value := (List.range 10).map fun i => .int .u32 (U i : Int)
set_option maxRecDepth 100000 in
/-- What is known, and how much less, that comes in. -/
theorem less_of {H : Type} {enc : TypeId × Value → H} {W : World} {base : Nat} {r : Reach} {v : Value} {d : DataW H} {ps : List MemPlace} (hv : Value.okWide Tryd.prog W r base 64 v) (h : DataW.Trod enc Tryd.prog W 0 (fun _ => true) true 64 v d ps) :
    ∃ (k : Kn) (U D : Nat → Nat), v = .agg (k.cells ++ (wordC U ++ wordC D)).toArray ∧ KOk k ∧ (∀ i, i < 10 → U i < 4294967296) ∧ ∀ i, i < 10 → D i < 4294967296 := by
  unfold Value.okWide at hv
  rw [Tryd.underlying64] at hv
  obtain ⟨cs, rfl, hsz, _⟩ := hv
  obtain ⟨fuel, hf⟩ := h
  have hf : DataW.trod enc Tryd.prog W 0 (fun _ => true) true fuel 64 cs.toList = some (d, ps) := hf
  obtain ⟨xs, k, hk, hxy, hl, hxl, hf⟩ := DataW.trod_struct Tryd.underlying64 hf
  have hl51 : cs.toList.length = 51 := hl.trans (by kernel_rfl)
  obtain ⟨x0, x1, x2, rfl⟩ := three_of xs hxl
  have c43 : Tryd.prog.cellsOf 43 = 31 := by kernel_rfl
  have c62 : Tryd.prog.cellsOf 62 = 10 := by kernel_rfl
  have h0 : DataW.trod enc Tryd.prog W 0 (fun _ => true) true k 43 ((cs.toList.drop 0).take (Tryd.prog.cellsOf 43)) = some x0 := hf 0 _ rfl
  have h1 : DataW.trod enc Tryd.prog W 0 (fun _ => true) true k 62 ((cs.toList.drop 31).take (Tryd.prog.cellsOf 62)) = some x1 := hf 1 _ rfl
  have h2 : DataW.trod enc Tryd.prog W 0 (fun _ => true) true k 62 ((cs.toList.drop 41).take (Tryd.prog.cellsOf 62)) = some x2 := hf 2 _ rfl
  rw [c43] at h0
  rw [c62] at h1 h2
  obtain ⟨kn, hkn, hok⟩ := kn_cells h0
  obtain ⟨U, hU, bU⟩ := words_cells Tryd.underlying62 h1 c62
  obtain ⟨D, hD, bD⟩ := words_cells Tryd.underlying62 h2 c62
  have e : cs.toList = (cs.toList.drop 0).take 31 ++ ((cs.toList.drop 31).take 10 ++ (cs.toList.drop 41).take 10) := by
    rw [List.drop_zero, List.take_of_length_le (l := cs.toList.drop 41) (by rw [List.length_drop]; omega), show cs.toList.drop 41 = (cs.toList.drop 31).drop 10 by rw [List.drop_drop], List.take_append_drop, List.take_append_drop]
  rw [hkn, hU, hD] at e
  exact ⟨kn, U, D, congrArg _ (arr_of e), hok, bU, bD⟩
end Go.Proofs.YtodkehpldlmgaaaDoor
