/- An array of 64 bytes that comes in. -/
import Derived.Test.YtkcngkkjlnadiaaDoorF3
namespace Go.Proofs.YtkcngkkjlnadiaaDoor
open Go.ChangeShapes Go.WideShapes Go.ChangeAt Go.RowKit

/-- An array of 64 bytes that comes in. -/
theorem arr64_of {H : Type} {enc : TypeId × Value → H} {W : World} {base : Nat} {r : Reach} {v : Value} {d : DataW H} {ps : List MemPlace} (hv : Value.okWide Tryd.prog W r base 54 v) (h : DataW.Trod enc Tryd.prog W 0 (fun _ => true) true 54 v d ps) :
    ∃ x : List UInt8, x.length = 64 ∧ v = .agg (byteCells x) := by
  unfold Value.okWide at hv
  rw [Tryd.underlying54] at hv
  obtain ⟨cs, rfl, hsz, _⟩ := hv
  obtain ⟨fuel, hf⟩ := h
  have hc : Tryd.prog.cellsOf 54 = 64 := by kernel_rfl
  obtain ⟨xs, m, _, hx, _, _, _⟩ := DataW.trod_array Tryd.underlying54 hf
  rw [hx] at hf
  have a0 := trod_ints Tryd.underlying54 Tryd.underlying5 (by kernel_rfl) hf
  refine ⟨(List.range 64).map fun j => UInt8.ofNat (intOf (cs[j]?.getD undef)).toNat, by simp, ?_⟩
  congr 1
  refine cells_eq cs _ 64 (by simp) (hsz.trans hc) (fun j hj => ?_)
  obtain ⟨z, e1, _, hw⟩ := a0 j hj
  have e1' : cs[j]? = some (.int .u8 z) := by simpa [Value.cells] using e1
  rw [e1']
  simp only [List.getElem?_map, List.getElem?_range hj, Option.map_some, Option.getD_some, e1', intOf]
  have hb := bounds_u8 hw
  congr 2
  unfold bv
  rw [UInt8.toNat_ofNat']
  omega

end Go.Proofs.YtkcngkkjlnadiaaDoor
