/- Rows of bytes that come in. -/
import Derived.Test.YtkcngkkjlnadiaaDoorF3
import Derived.Test.YtkcngkkjlnadiaaDoorJ1
import Derived.Deep.Matrix
namespace Go.Proofs.YtkcngkkjlnadiaaDoor
open Go.ChangeShapes Go.WideShapes Go.ChangeAt Go.RowKit Go.Deep

theorem rows_of {H : Type} {enc : TypeId × Value → H} {W : World} {base : Nat} {r : Reach} {v : Value} {d : DataW H} {ps : List MemPlace} (hs : 0 < W.heap.size) (hv : Value.okWide Tryd.prog W r base 28 v) (h : DataW.Trod enc Tryd.prog W 0 (fun _ => true) true 28 v d ps) :
    ∃ ds : List (List UInt8), Rws W v ds := by
  obtain ⟨a0, len, cap, rfl⟩ := okWide_slice Tryd.underlying28 hv
  obtain ⟨fuel, hf⟩ := h
  rcases open_int_rows Tryd.underlying28 Tryd.underlying22 Tryd.underlying5 (by kernel_rfl) (by kernel_rfl) hf with ⟨hcs, _⟩ | ⟨a, len', cap', A, L, C, Z, hcs, _, hle, _, _, hall⟩
  · simp [Value.cells] at hcs
    obtain ⟨rfl, rfl, rfl⟩ := hcs
    exact ⟨[], none, 0, 0, 0, rfl, fun h => absurd rfl h, fun i hi => absurd hi (by simp), hs⟩
  · simp [Value.cells] at hcs
    obtain ⟨rfl, rfl, rfl⟩ := hcs
    by_cases h0 : len = 0
    · subst h0
      exact ⟨[], some a, cap, 0, 0, rfl, fun h => absurd rfl h, fun i hi => absurd hi (by simp), hs⟩
    · have hsp := spot_none (hall 0 (by omega)).1
      obtain ⟨b, o, sp⟩ := a
      obtain rfl : sp = none := hsp
      have hlt : b < W.heap.size := block_lt_of_cell (hall 0 (by omega)).1
      refine ⟨(List.range len).map fun r => ((Z r).take (L r)).map fun z => UInt8.ofNat z.toNat, some ⟨b, o, none⟩, cap, b, o, by simp, fun _ => rfl, fun i hi => ?_, hlt⟩
      have hi' : i < len := by simpa using hi
      obtain ⟨hc, hLC, _, hZ, hwf, hnone, hsome⟩ := hall i (by omega)
      rw [Addr.add_mid] at hc
      refine ⟨_, hc, ?_⟩
      have e : ((List.range len).map fun r => ((Z r).take (L r)).map fun z => UInt8.ofNat z.toNat)[i]?.getD [] = ((Z i).take (L i)).map fun z => UInt8.ofNat z.toNat := by simp [hi']
      rw [e]
      have hx : (((Z i).take (L i)).map fun z => UInt8.ofNat z.toNat).length = L i := by simp; omega
      by_cases hL : L i = 0
      · have e2 : (((Z i).take (L i)).map fun z => UInt8.ofNat z.toNat) = [] := by rw [hL]; rfl
        rw [e2, hL]
        exact ⟨A i, C i, 0, 0, rfl, Nat.zero_le _, fun h => absurd rfl h, fun j hj => absurd hj (by simp), hs⟩
      · cases hA : A i with
        | none => exact absurd (hnone hA) (by omega)
        | some a' =>
          obtain ⟨_, hcell⟩ := hsome a' hA
          have hsp' := spot_none (hcell 0 (by omega))
          obtain ⟨b', o', sp'⟩ := a'
          obtain rfl : sp' = none := hsp'
          have hlt' : b' < W.heap.size := block_lt_of_cell (hcell 0 (by omega))
          refine ⟨some ⟨b', o', none⟩, C i, b', o', by rw [hx], by rw [hx]; exact hLC, fun _ => rfl, fun j hj => ?_, hlt'⟩
          rw [hx] at hj
          have hj' := hcell j (by omega)
          rw [Addr.add_mid] at hj'
          rw [hj']
          have hw := hwf ((Z i).getD j 0) (by rw [List.getD_eq_getElem?_getD, List.getElem?_eq_getElem (by omega)]; exact List.getElem_mem _)
          have hb := bounds_u8 hw
          have e3 : (((Z i).take (L i)).map fun z => UInt8.ofNat z.toNat)[j]?.getD 0 = UInt8.ofNat ((Z i).getD j 0).toNat := by
            rw [List.getElem?_map, List.getElem?_take_of_lt hj, List.getD_eq_getElem?_getD, List.getElem?_eq_getElem (by omega)]; rfl
          rw [e3]
          congr 2
          unfold bv
          rw [UInt8.toNat_ofNat']
          omega
end Go.Proofs.YtkcngkkjlnadiaaDoor
