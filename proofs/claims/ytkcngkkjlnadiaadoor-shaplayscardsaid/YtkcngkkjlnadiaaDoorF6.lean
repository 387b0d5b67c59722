/- A script that comes in. -/
import Derived.Test.YtkcngkkjlnadiaaDoorF3
import Derived.Test.YtkcngkkjlnadiaaDoorL1
import Derived.Deep.Slices
import Derived.ChangeSame
namespace Go.Proofs.YtkcngkkjlnadiaaDoor
open Go.ChangeShapes Go.WideShapes Go.ChangeAt Go.RowKit Go.Deep

theorem bytes_cells {H : Type} {enc : TypeId × Value → H} {W : World} {fuel : Nat} {v : Value} {x : DataW H × List MemPlace} (hs : 0 < W.heap.size) (hf : DataW.trod enc Tryd.prog W 0 (fun _ => true) true fuel 22 [v] = some x) : ∃ l : List UInt8, Bytes W v l := by
  have hc : Tryd.prog.cellsOf 5 = 1 := by kernel_rfl
  rcases open_ints Tryd.underlying22 Tryd.underlying5 hc hf with ⟨hcs, _⟩ | ⟨a, len, cap, zs, hcs, _, hle, _, hall, _, hcell, hwf⟩
  · obtain rfl : v = .slice none 0 0 := by simpa using hcs
    exact ⟨[], bytes_nil W hs⟩
  · obtain rfl : v = .slice (some a) len cap := by simpa using hcs
    simp only [if_true] at hall
    have hx : ((zs.take len).map fun z => UInt8.ofNat z.toNat).length = len := by simp; omega
    by_cases h0 : len = 0
    · subst h0
      exact ⟨[], some a, cap, 0, 0, rfl, Nat.zero_le _, fun h => absurd rfl h, fun j hj => absurd hj (by simp), hs⟩
    · have hsp := spot_none (hcell 0 (by omega))
      obtain ⟨b, o, sp⟩ := a
      obtain rfl : sp = none := hsp
      have hlt : b < W.heap.size := block_lt_of_cell (hcell 0 (by omega))
      refine ⟨_, some ⟨b, o, none⟩, cap, b, o, by rw [hx], by rw [hx]; exact hle, fun _ => rfl, fun j hj => ?_, hlt⟩
      rw [hx] at hj
      have hj' := hcell j (by omega)
      rw [Addr.add_mid] at hj'
      rw [hj']
      have hw := hwf (zs.getD j 0) (by rw [List.getD_eq_getElem?_getD, List.getElem?_eq_getElem (by omega)]; exact List.getElem_mem _)
      have hb := bounds_u8 hw
      have e : ((zs.take len).map fun z => UInt8.ofNat z.toNat)[j]?.getD 0 = UInt8.ofNat (zs.getD j 0).toNat := by
        rw [List.getElem?_map, List.getElem?_take_of_lt hj, List.getD_eq_getElem?_getD, List.getElem?_eq_getElem (by omega)]; rfl
      rw [e]
      congr 2
      unfold bv
      rw [UInt8.toNat_ofNat']
      omega
theorem act_cells {H : Type} {enc : TypeId × Value → H} {W : World} {fuel : Nat} {cs : List Value} {x : DataW H × List MemPlace} (hs : 0 < W.heap.size) (h : DataW.trod enc Tryd.prog W 0 (fun _ => true) true fuel 43 cs = some x) :
    ∃ (c : Ac) (sv : Value), cs = [.int .i64 c.what, .bool c.two, sv] ∧ Bytes W sv c.bytes := by
  obtain ⟨xs, k, hk, hxy, hl, hxl, hf⟩ := DataW.trod_struct Tryd.underlying43 h
  have hl3 : cs.length = 3 := hl.trans (by kernel_rfl)
  match cs, hl3 with
  | [v0, v1, v2], _ =>
    have h0 := hf 0 _ rfl
    have h1 := hf 1 _ rfl
    have h2 := hf 2 _ rfl
    have c3 : Tryd.prog.cellsOf 3 = 1 := by kernel_rfl
    have c4 : Tryd.prog.cellsOf 4 = 1 := by kernel_rfl
    have c22 : Tryd.prog.cellsOf 22 = 1 := by kernel_rfl
    have xl : xs.length = 3 := hxl
    have g0 : xs[0]? = some xs[0] := List.getElem?_eq_getElem (by omega)
    have g1 : xs[1]? = some xs[1] := List.getElem?_eq_getElem (by omega)
    have g2 : xs[2]? = some xs[2] := List.getElem?_eq_getElem (by omega)
    rw [g0] at h0
    rw [g1] at h1
    rw [g2] at h2
    have e0 : DataW.trod enc Tryd.prog W 0 (fun _ => true) true k 3 [v0] = some xs[0] := by rw [← h0]; show _ = DataW.trod enc Tryd.prog W 0 (fun _ => true) true k 3 (([v0, v1, v2].drop 0).take (Tryd.prog.cellsOf 3)); rw [c3]; rfl
    have e1 : DataW.trod enc Tryd.prog W 0 (fun _ => true) true k 4 [v1] = some xs[1] := by rw [← h1]; show _ = DataW.trod enc Tryd.prog W 0 (fun _ => true) true k 4 (([v0, v1, v2].drop 1).take (Tryd.prog.cellsOf 4)); rw [c4]; rfl
    have e2 : DataW.trod enc Tryd.prog W 0 (fun _ => true) true k 22 [v2] = some xs[2] := by rw [← h2]; show _ = DataW.trod enc Tryd.prog W 0 (fun _ => true) true k 22 (([v0, v1, v2].drop 2).take (Tryd.prog.cellsOf 22)); rw [c22]; rfl
    obtain ⟨z, hz, _⟩ := DataW.trod_int Tryd.underlying3 e0
    obtain ⟨b, hb, _⟩ := DataW.trod_bool Tryd.underlying4 e1
    obtain ⟨l, hly⟩ := bytes_cells hs e2
    obtain rfl : v0 = .int .i64 z := by simpa using hz
    obtain rfl : v1 = .bool b := by simpa using hb
    exact ⟨⟨z, b, l⟩, v2, rfl, hly⟩
theorem acts_of {H : Type} {enc : TypeId × Value → H} {W : World} {base : Nat} {r : Reach} {v : Value} {d : DataW H} {ps : List MemPlace} (hs : 0 < W.heap.size) (hv : Value.okWide Tryd.prog W r base 41 v) (h : DataW.Trod enc Tryd.prog W 0 (fun _ => true) true 41 v d ps) :
    ∃ acs : List Ac, Acts W v acs := by
  obtain ⟨a0, len, cap, rfl⟩ := okWide_slice Tryd.underlying41 hv
  obtain ⟨fuel, hf⟩ := h
  have c43 : Tryd.prog.cellsOf 43 = 3 := by kernel_rfl
  rcases open_slice Tryd.underlying41 hf with ⟨hcs, _⟩ | ⟨a, len', cap', m, n, D, Pl, hcs, _, hle, _, hmm, _, hx⟩
  · simp [Value.cells] at hcs
    obtain ⟨rfl, rfl, rfl⟩ := hcs
    exact ⟨[], none, 0, 0, 0, rfl, fun h => absurd rfl h, fun i c hi => absurd hi (by simp), hs⟩
  · simp [Value.cells] at hcs
    obtain ⟨rfl, rfl, rfl⟩ := hcs
    simp only [if_true] at hmm
    subst hmm
    by_cases h0 : len = 0
    · subst h0
      exact ⟨[], some a, m, 0, 0, rfl, fun h => absurd rfl h, fun i c hi => absurd hi (by simp), hs⟩
    · have each : ∀ i, i < len → ∃ (c : Ac) (sv : Value), W.cell? (a.add (i * 3)) = some (.int .i64 c.what) ∧ W.cell? ((a.add (i * 3)).add 1) = some (.bool c.two) ∧ W.cell? ((a.add (i * 3)).add 2) = some sv ∧ Bytes W sv c.bytes := fun i hi => by
        obtain ⟨cs', h1, h2⟩ := hx i (by omega)
        rw [c43] at h1
        obtain ⟨_, hlen, hcell⟩ := World.cells?_some h1
        obtain ⟨c, sv, rfl, hb⟩ := act_cells hs h2
        have k0 := hcell 0 (by omega)
        have k1 := hcell 1 (by omega)
        have k2 := hcell 2 (by omega)
        refine ⟨c, sv, ?_, by simpa using k1, by simpa using k2, hb⟩
        have e : (a.add (i * 3)).add 0 = a.add (i * 3) := by unfold Addr.add; split <;> simp_all
        rw [e] at k0
        simpa using k0
      obtain ⟨c0, s0, hc0, _⟩ := each 0 (by omega)
      have hsp := spot_none hc0
      obtain ⟨b, o, sp⟩ := a
      have hsp' : sp = none := by
        cases sp with
        | none => rfl
        | some q => simp [Addr.add] at hsp
      subst hsp'
      simp only [Addr.add_mid] at each hc0
      have hlt : b < W.heap.size := block_lt_of_cell hc0
      let F : Nat → Ac := fun i => if hi : i < len then (each i hi).choose else ⟨0, false, []⟩
      refine ⟨(List.range len).map F, some ⟨b, o, none⟩, m, b, o, by simp, fun _ => rfl, fun i c hi => ?_, hlt⟩
      have hil : i < len := by have := (List.getElem?_eq_some_iff.1 hi).1; simpa using this
      have hF : F i = c := by simpa [hil] using hi
      have hFi : F i = (each i hil).choose := dif_pos hil
      obtain ⟨sv, k0, k1, k2, k3⟩ := (each i hil).choose_spec
      rw [← hFi, hF] at k0 k1 k3
      exact ⟨k0, k1, sv, k2, k3⟩
end Go.Proofs.YtkcngkkjlnadiaaDoor
