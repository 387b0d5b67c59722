/- The frame of this seat's rows: what the listed variables give; a digest that comes in is 32 bytes. -/
import Derived.Test.YtcmkjgodgocdfaaDoorRows
import Derived.Test.YtcmkjgodgocdfaaDoorU0
import Derived.ProofKit
import Derived.LaidMore
import Derived.OpenShut
import Derived.ShutString
import Derived.ChangeOld
import Derived.Stop.Joined
namespace Go.Proofs.YtcmkjgodgocdfaaDoor
open Go.ChangeShapes Go.WideShapes Go.ChangeAt Go.RowKit

theorem own : ownKnob Tryd.prog.godebug = none := by kernel_rfl
theorem laidOut : laidOutB Tryd.prog = true := by kernel_rfl
theorem gSq : Tryd.prog.globalNamed "cachet/sha.squareWords" = some 0 := by kernel_rfl
theorem gCu : Tryd.prog.globalNamed "cachet/sha.cubeWords" = some 1 := by kernel_rfl
theorem tSq : (Tryd.prog.globals[0]?).map (·.type) = some 97 := by kernel_rfl
theorem tCu : (Tryd.prog.globals[1]?).map (·.type) = some 112 := by kernel_rfl

/-- An array of integers, one cell each, read as data. -/
theorem trod_ints {H : Type} {enc : TypeId × Value → H} {W : World} {base fuel n : Nat} {spare : Nat → Bool} {held : Bool} {t e : TypeId} {k : IntKind} {cs : List Value} {ds : List (DataW H)} {ps : List MemPlace}
    (ht : Tryd.prog.underlying t = some (.array n e)) (he : Tryd.prog.underlying e = some (.int k)) (hc : Tryd.prog.cellsOf e = 1) (h : DataW.trod enc Tryd.prog W base spare held fuel t cs = some (.agg ds, ps)) :
    ∀ j, j < n → ∃ z, cs[j]? = some (.int k z) ∧ ds[j]? = some (.lit (.int k z)) ∧ (Lit.int k z).wf = true := by
  obtain ⟨xs, m, rfl, hx, hlen, hn, hel⟩ := DataW.trod_array ht h
  simp only [Prod.mk.injEq, DataW.agg.injEq] at hx
  intro j hj
  have h1 := hel j hj
  rw [List.getElem?_eq_getElem (by omega), hc, Nat.mul_one] at h1
  obtain ⟨z, e1, e2, hw⟩ := DataW.trod_int he h1
  refine ⟨z, ?_, ?_, hw⟩
  · have := congrArg (fun l : List Value => l[0]?) e1
    simp only [List.getElem?_take_of_lt (Nat.zero_lt_one), List.getElem?_drop, Nat.add_zero] at this
    simpa using this
  · rw [hx.1, List.getElem?_map, List.getElem?_eq_getElem (by omega), e2]; rfl

abbrev laidL : List (String × DataW Unit) := [("cachet/sha.squareWords", Rows.laid_cachet_sha_squareWords), ("cachet/sha.cubeWords", Rows.laid_cachet_sha_cubeWords)]
theorem sq_lit : (Rows.laid_cachet_sha_squareWords : DataW Unit) = .agg (squareList.map fun n : Nat => .lit (.int .u32 (n : Int))) := rfl
theorem cu_lit : (Rows.laid_cachet_sha_cubeWords : DataW Unit) = .agg (cubeList.map fun n : Nat => .lit (.int .u32 (n : Int))) := rfl
theorem sq_wv (j : Nat) (h : j < 8) : ((squareList[j]?.getD 0 : Nat) : Int) = wv (squareW j) := by
  have key : ∀ i : Fin 8, ((squareList[i.val]?.getD 0 : Nat) : Int) = wv (squareW i.val) := by decide +kernel
  exact key ⟨j, h⟩
theorem cu_wv (j : Nat) (h : j < 64) : ((cubeList[j]?.getD 0 : Nat) : Int) = wv (cubeW j) := by
  have key : ∀ i : Fin 64, ((cubeList[i.val]?.getD 0 : Nat) : Int) = wv (cubeW i.val) := by decide +kernel
  exact key ⟨j, h⟩

/-- What the listed variables give. -/
theorem of_laid {W : World} (h : laidMetH Tryd.prog laidL W) : Glob W := by
  rw [MakeChecks.laidMetH_plain _ _ _ (by kernel_rfl)] at h
  obtain ⟨ps, ⟨g0, t0, cs0, f0, p0, q0, hg0, ht0, hv0, hd0, ⟨g1, t1, cs1, f1, p1, q1, hg1, ht1, hv1, hd1, _, _⟩, _⟩, _, _⟩ := h
  obtain rfl := Option.some.inj (gSq.symm.trans hg0)
  obtain rfl := Option.some.inj (gCu.symm.trans hg1)
  obtain rfl := Option.some.inj (tSq.symm.trans ht0)
  obtain rfl := Option.some.inj (tCu.symm.trans ht1)
  rw [sq_lit] at hd0
  rw [cu_lit] at hd1
  have a0 := trod_ints Tryd.underlying97 Tryd.underlying87 (by kernel_rfl) hd0
  have a1 := trod_ints Tryd.underlying112 Tryd.underlying87 (by kernel_rfl) hd1
  have c0 : ∀ j, j < 8 → W.cell? ⟨0, j, none⟩ = some (.int .u32 (wv (squareW j))) := fun j hj => by
    obtain ⟨z, e1, e2, _⟩ := a0 j hj
    rw [World.var?_cell hg0 hv0 j]
    rw [List.getElem?_map, List.getElem?_eq_getElem (show j < squareList.length from hj)] at e2
    simp only [Option.map_some, Option.some.injEq, DataW.lit.injEq, Lit.int.injEq, true_and] at e2
    have e3 := sq_wv j hj
    rw [List.getElem?_eq_getElem (show j < squareList.length from hj), Option.getD_some, e2] at e3
    rw [← e3, ← e1]; simp
  have c1 : ∀ j, j < 64 → W.cell? ⟨1, j, none⟩ = some (.int .u32 (wv (cubeW j))) := fun j hj => by
    obtain ⟨z, e1, e2, _⟩ := a1 j hj
    rw [World.var?_cell hg1 hv1 j]
    rw [List.getElem?_map, List.getElem?_eq_getElem (show j < cubeList.length from hj)] at e2
    simp only [Option.map_some, Option.some.injEq, DataW.lit.injEq, Lit.int.injEq, true_and] at e2
    have e3 := cu_wv j hj
    rw [List.getElem?_eq_getElem (show j < cubeList.length from hj), Option.getD_some, e2] at e3
    rw [← e3, ← e1]; simp
  exact ⟨c0, c1, block_lt_of_cell (c1 0 (by decide))⟩

set_option maxRecDepth 100000 in
/-- A digest that comes in is 32 bytes. -/
theorem dig_of {H : Type} {enc : TypeId × Value → H} {W : World} {base : Nat} {r : Reach} {v : Value} {d : DataW H} {ps : List MemPlace} (hv : Value.okWide Tryd.prog W r base 30 v) (h : DataW.Trod enc Tryd.prog W 0 (fun _ => true) true 30 v d ps) :
    ∃ x : List UInt8, x.length = 32 ∧ v = .agg (byteCells x) := by
  unfold Value.okWide at hv
  rw [Tryd.underlying30] at hv
  obtain ⟨cs, rfl, hsz, _⟩ := hv
  obtain ⟨fuel, hf⟩ := h
  have hc : Tryd.prog.cellsOf 30 = 32 := by kernel_rfl
  obtain ⟨xs, m, _, hx, _, _, _⟩ := DataW.trod_array Tryd.underlying30 hf
  rw [hx] at hf
  have a0 := trod_ints Tryd.underlying30 Tryd.underlying5 (by kernel_rfl) hf
  refine ⟨(List.range 32).map fun j => UInt8.ofNat (intOf (cs[j]?.getD undef)).toNat, by simp, ?_⟩
  congr 1
  refine cells_eq cs _ 32 (by simp) (hsz.trans hc) (fun j hj => ?_)
  obtain ⟨z, e1, _, hw⟩ := a0 j hj
  have e1' : cs[j]? = some (.int .u8 z) := by simpa [Value.cells] using e1
  rw [e1']
  simp only [List.getElem?_map, List.getElem?_range hj, Option.map_some, Option.getD_some, e1', intOf]
  have hb := bounds_u8 hw
  congr 2
  unfold bv
  rw [UInt8.toNat_ofNat']
  omega

/-- The door's own heap meets the condition: three closed facts. -/
theorem door_met (os : Os) (args : Array Value) : laidMetH Tryd.prog laidL ((World.doorLaid Tryd.prog 400 os).forCall (fun _ _ => 0) ⟨#[], args, []⟩).memory :=
  laidMetH_of_parts3 (fuel := 8) (laidMet_of_run' 8 (by kernel_rfl) (by kernel_rfl)) (by kernel_rfl) (by kernel_rfl)
end Go.Proofs.YtcmkjgodgocdfaaDoor
