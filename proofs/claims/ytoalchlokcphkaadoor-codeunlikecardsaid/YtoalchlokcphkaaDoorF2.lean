/- What comes in: words, extensions. -/
import Derived.Test.YtoalchlokcphkaaDoorF1
namespace Go.Proofs.YtoalchlokcphkaaDoor
open Go.ChangeShapes Go.WideShapes Go.ChangeAt Go.RowKit Go.Deep

theorem spot_none {W : World} {a : Addr} {v : Value} (h : W.cell? a = some v) : a.spot = none := by
  unfold World.cell? at h
  split at h
  · split at h
    · cases h
    · rename_i hh; simpa using hh
  · cases h

set_option maxRecDepth 100000 in
theorem u32_of {H : Type} {enc : TypeId × Value → H} {W : World} {base : Nat} {r : Reach} {v : Value} {d : DataW H} {ps : List MemPlace} (hv : Value.okWide Tryd.prog W r base 41 v) (h : DataW.Trod enc Tryd.prog W 0 (fun _ => true) true 41 v d ps) :
    ∃ x : Nat, v = .int .u32 x ∧ x < 4294967296 := by
  obtain ⟨n, rfl, _, _, hw⟩ := open_int Tryd.underlying41 hv h
  have hb := bounds_u32 hw
  have e : n = (n.toNat : Int) := by omega
  exact ⟨n.toNat, congrArg (Value.int .u32) e, by omega⟩
set_option maxRecDepth 100000 in
theorem ins_cells {H : Type} {enc : TypeId × Value → H} {W : World} {fuel : Nat} {cs : List Value} {x : DataW H × List MemPlace} (h : DataW.trod enc Tryd.prog W 0 (fun _ => true) true fuel 43 cs = some x) :
    ∃ i : Ins, cs = i.cells ∧ i.imm < 4294967296 := by
  obtain ⟨xs, k, hk, hxy, hl, hxl, hf⟩ := DataW.trod_struct Tryd.underlying43 h
  obtain ⟨v0, v1, v2, v3, v4, rfl⟩ := five_of cs (hl.trans (by kernel_rfl))
  obtain ⟨x0, x1, x2, x3, x4, rfl⟩ := five_of xs hxl
  have c3 : Tryd.prog.cellsOf 3 = 1 := by kernel_rfl
  have c40 : Tryd.prog.cellsOf 40 = 1 := by kernel_rfl
  have c41 : Tryd.prog.cellsOf 41 = 1 := by kernel_rfl
  have h0 : DataW.trod enc Tryd.prog W 0 (fun _ => true) true k 40 (([v0, v1, v2, v3, v4].drop 0).take (Tryd.prog.cellsOf 40)) = some x0 := hf 0 _ rfl
  have h1 : DataW.trod enc Tryd.prog W 0 (fun _ => true) true k 3 (([v0, v1, v2, v3, v4].drop 1).take (Tryd.prog.cellsOf 3)) = some x1 := hf 1 _ rfl
  have h2 : DataW.trod enc Tryd.prog W 0 (fun _ => true) true k 3 (([v0, v1, v2, v3, v4].drop 2).take (Tryd.prog.cellsOf 3)) = some x2 := hf 2 _ rfl
  have h3 : DataW.trod enc Tryd.prog W 0 (fun _ => true) true k 3 (([v0, v1, v2, v3, v4].drop 3).take (Tryd.prog.cellsOf 3)) = some x3 := hf 3 _ rfl
  have h4 : DataW.trod enc Tryd.prog W 0 (fun _ => true) true k 41 (([v0, v1, v2, v3, v4].drop 4).take (Tryd.prog.cellsOf 41)) = some x4 := hf 4 _ rfl
  rw [c40] at h0
  rw [c3] at h1 h2 h3
  rw [c41] at h4
  obtain ⟨z0, hz0, _⟩ := DataW.trod_int Tryd.underlying40 h0
  obtain ⟨z1, hz1, _⟩ := DataW.trod_int Tryd.underlying3 h1
  obtain ⟨z2, hz2, _⟩ := DataW.trod_int Tryd.underlying3 h2
  obtain ⟨z3, hz3, _⟩ := DataW.trod_int Tryd.underlying3 h3
  obtain ⟨z4, hz4, _, hw⟩ := DataW.trod_int Tryd.underlying41 h4
  obtain rfl : v0 = .int .i64 z0 := by simpa using hz0
  obtain rfl : v1 = .int .i64 z1 := by simpa using hz1
  obtain rfl : v2 = .int .i64 z2 := by simpa using hz2
  obtain rfl : v3 = .int .i64 z3 := by simpa using hz3
  obtain rfl : v4 = .int .u32 z4 := by simpa using hz4
  have hb := bounds_u32 hw
  refine ⟨⟨z0, z1, z2, z3, z4.toNat⟩, ?_, by show z4.toNat < _; omega⟩
  unfold Ins.cells
  show _ = [Value.int .i64 z0, .int .i64 z1, .int .i64 z2, .int .i64 z3, .int .u32 (z4.toNat : Int)]
  rw [show ((z4.toNat : Nat) : Int) = z4 by omega]
/-- Instructions that come in: none, or such as lie somewhere. -/
theorem prg_cells {H : Type} {enc : TypeId × Value → H} {W : World} {fuel : Nat} {v : Value} {x : DataW H × List MemPlace} (hs : 0 < W.heap.size) (hf : DataW.trod enc Tryd.prog W 0 (fun _ => true) true fuel 22 [v] = some x) :
    ∃ l : List Ins, Prg W v l ∧ ∀ i ∈ l, i.imm < 4294967296 := by
  have c43 : Tryd.prog.cellsOf 43 = 5 := by kernel_rfl
  rcases open_slice Tryd.underlying22 hf with ⟨hcs, _⟩ | ⟨a, len, cap, m, n, D, Pl, hcs, _, hle, _, hmm, _, hx⟩
  · obtain rfl : v = .slice none 0 0 := by simpa using hcs
    exact ⟨[], ⟨none, 0, 0, 0, rfl, fun h => absurd rfl h, ⟨fun k i h => by simp at h, fun k i h => by simp at h, fun k i h => by simp at h, fun k i h => by simp at h, fun k i h => by simp at h⟩, hs⟩, fun i hi => by simp at hi⟩
  · obtain rfl : v = .slice (some a) len cap := by simpa using hcs
    simp only [if_true] at hmm
    subst hmm
    by_cases h0 : len = 0
    · subst h0
      exact ⟨[], ⟨some a, m, 0, 0, rfl, fun h => absurd rfl h, ⟨fun k i h => by simp at h, fun k i h => by simp at h, fun k i h => by simp at h, fun k i h => by simp at h, fun k i h => by simp at h⟩, hs⟩, fun i hi => by simp at hi⟩
    · have each : ∀ k, k < len → ∃ i : Ins, (∀ j u, i.cells[j]? = some u → W.cell? ((a.add (k * 5)).add j) = some u) ∧ i.imm < 4294967296 := fun k hk => by
        obtain ⟨cs', h1, h2⟩ := hx k (by omega)
        rw [c43] at h1
        obtain ⟨_, hlen, hcell⟩ := World.cells?_some h1
        obtain ⟨i, rfl, hb⟩ := ins_cells h2
        refine ⟨i, fun j u hj => ?_, hb⟩
        have hj5 : j < 5 := (List.getElem?_eq_some_iff.1 hj).1
        rw [hcell j hj5, ← hj]
      obtain ⟨i0, hc0, _⟩ := each 0 (by omega)
      have hc00 := hc0 0 _ rfl
      have hsp := spot_none hc00
      obtain ⟨b, o, sp⟩ := a
      have hsp' : sp = none := by
        cases sp with
        | none => rfl
        | some q => simp [Addr.add] at hsp
      subst hsp'
      simp only [Addr.add_mid] at each hc00
      have hlt : b < W.heap.size := block_of_cell hc00
      let F : Nat → Ins := fun k => if hk : k < len then (each k hk).choose else ⟨0, 0, 0, 0, 0⟩
      have hF : ∀ k i, ((List.range len).map F)[k]? = some i → (∀ j u, i.cells[j]? = some u → W.cell? ⟨b, o + k * 5 + j, none⟩ = some u) ∧ i.imm < 4294967296 := fun k i hi => by
        have hkl : k < len := by have := (List.getElem?_eq_some_iff.1 hi).1; simpa using this
        have e1 : F k = i := by simpa [hkl] using hi
        have e2 : F k = (each k hkl).choose := dif_pos hkl
        have := (each k hkl).choose_spec
        rw [← e2, e1] at this
        exact this
      refine ⟨(List.range len).map F, ⟨some ⟨b, o, none⟩, m, b, o, by simp, fun _ => rfl, ⟨fun k i h => (hF k i h).1 0 _ rfl, fun k i h => (hF k i h).1 1 _ rfl, fun k i h => (hF k i h).1 2 _ rfl, fun k i h => (hF k i h).1 3 _ rfl, fun k i h => (hF k i h).1 4 _ rfl⟩, hlt⟩, fun i hi => ?_⟩
      obtain ⟨k, hk, e⟩ := List.mem_iff_getElem.1 hi
      exact (hF k i (by rw [List.getElem?_eq_getElem hk, e])).2
set_option maxRecDepth 100000 in
/-- An extension that comes in. -/
theorem prog_of {H : Type} {enc : TypeId × Value → H} {W : World} {base : Nat} {r : Reach} {v : Value} {d : DataW H} {ps : List MemPlace} (hs : 0 < W.heap.size) (hv : Value.okWide Tryd.prog W r base 24 v) (h : DataW.Trod enc Tryd.prog W 0 (fun _ => true) true 24 v d ps) :
    ∃ (ctx : Int) (sv : Value) (l : List Ins), v = .agg #[.int .i64 ctx, sv] ∧ Prg W sv l ∧ ∀ i ∈ l, i.imm < 4294967296 := by
  unfold Value.okWide at hv
  rw [Tryd.underlying24] at hv
  obtain ⟨cs, rfl, hsz, _⟩ := hv
  obtain ⟨fuel, hf⟩ := h
  obtain ⟨xs, k, hk, hxy, hl, hxl, hfl⟩ := DataW.trod_struct Tryd.underlying24 hf
  obtain ⟨v0, v1, hcs⟩ := two_of cs.toList (by rw [Array.length_toList, hsz]; kernel_rfl)
  have hcs' : cs = #[v0, v1] := by cases cs; simp at hcs; rw [hcs]
  subst hcs'
  obtain ⟨x0, x1, rfl⟩ := two_of xs hxl
  have c3 : Tryd.prog.cellsOf 3 = 1 := by kernel_rfl
  have c22 : Tryd.prog.cellsOf 22 = 1 := by kernel_rfl
  have h0 : DataW.trod enc Tryd.prog W 0 (fun _ => true) true k 3 (([v0, v1].drop 0).take (Tryd.prog.cellsOf 3)) = some x0 := hfl 0 _ rfl
  have h1 : DataW.trod enc Tryd.prog W 0 (fun _ => true) true k 22 (([v0, v1].drop 1).take (Tryd.prog.cellsOf 22)) = some x1 := hfl 1 _ rfl
  rw [c3] at h0
  rw [c22] at h1
  obtain ⟨z0, hz0, _⟩ := DataW.trod_int Tryd.underlying3 h0
  obtain rfl : v0 = .int .i64 z0 := by simpa using hz0
  obtain ⟨l, hl1, hl2⟩ := prg_cells hs h1
  exact ⟨z0, v1, l, rfl, hl1, hl2⟩
end Go.Proofs.YtoalchlokcphkaaDoor
