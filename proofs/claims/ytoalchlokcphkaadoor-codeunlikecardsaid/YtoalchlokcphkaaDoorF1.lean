/- The frame of this seat's rows: what the listed variables give; what comes in. -/
import Derived.Test.YtoalchlokcphkaaDoorRows
import Derived.Test.YtoalchlokcphkaaDoorD5
import Derived.ProofKit
import Derived.LaidMore
import Derived.OpenShut
import Derived.ShutString
import Derived.ChangeOld
import Derived.ChangeSlices
import Derived.Deep.Slices
import Derived.Stop.Joined
namespace Go.Proofs.YtoalchlokcphkaaDoor
open Go.ChangeShapes Go.WideShapes Go.ChangeAt Go.RowKit Go.Deep

theorem own : ownKnob Tryd.prog.godebug = none := by kernel_rfl
theorem laidOut : laidOutB Tryd.prog = true := by kernel_rfl
theorem gOps : Tryd.prog.globalNamed "cachet/code.ops" = some 0 := by kernel_rfl
theorem tOps : (Tryd.prog.globals[0]?).map (·.type) = some 63 := by kernel_rfl
abbrev laidL : List (String × DataW Unit) := [("cachet/code.ops", Rows.laid_cachet_code_ops)]
theorem ops_lit : (Rows.laid_cachet_code_ops : DataW Unit) = .agg (opsL.map fun x => .agg [.lit (.string x.1), .lit (.int .i64 x.2)]) := rfl

theorem two_of {α : Type} : ∀ (xs : List α), xs.length = 2 → ∃ a b, xs = [a, b]
  | [a, b], _ => ⟨a, b, rfl⟩
theorem five_of {α : Type} : ∀ (xs : List α), xs.length = 5 → ∃ a b c d e, xs = [a, b, c, d, e]
  | [a, b, c, d, e], _ => ⟨a, b, c, d, e, rfl⟩
set_option maxRecDepth 100000 in
theorem pair_of {H : Type} {enc : TypeId × Value → H} {W : World} {base fuel : Nat} {spare : Nat → Bool} {held : Bool} {cs : List Value} {n : List UInt8} {u : Int} {ps : List MemPlace}
    (h : DataW.trod enc Tryd.prog W base spare held fuel 62 cs = some (.agg [.lit (.string n), .lit (.int .i64 u)], ps)) : cs = [.string ⟨n.toArray⟩, .int .i64 u] := by
  obtain ⟨xs, k, hk, hxy, hl, hxl, hf⟩ := DataW.trod_struct Tryd.underlying62 h
  have hl2 : cs.length = 2 := hl.trans (by kernel_rfl)
  obtain ⟨v0, v1, rfl⟩ := two_of cs hl2
  obtain ⟨x0, x1, rfl⟩ := two_of xs hxl
  have h0 := hf 0 _ rfl
  have h1 := hf 1 _ rfl
  have c9 : Tryd.prog.cellsOf 9 = 1 := by kernel_rfl
  have c61 : Tryd.prog.cellsOf 61 = 1 := by kernel_rfl
  have e0 : DataW.trod enc Tryd.prog W base spare held k 9 [v0] = some x0 := by
    have : DataW.trod enc Tryd.prog W base spare held k 9 (([v0, v1].drop 0).take (Tryd.prog.cellsOf 9)) = some x0 := h0
    rw [c9] at this; exact this
  have e1 : DataW.trod enc Tryd.prog W base spare held k 61 [v1] = some x1 := by
    have : DataW.trod enc Tryd.prog W base spare held k 61 (([v0, v1].drop 1).take (Tryd.prog.cellsOf 61)) = some x1 := h1
    rw [c61] at this; exact this
  obtain ⟨s, hs, hxs, _⟩ := DataW.trod_string Tryd.underlying9 e0
  obtain ⟨z, hz, hxz, _⟩ := DataW.trod_int Tryd.underlying61 e1
  obtain rfl : v0 = .string s := by simpa using hs
  obtain rfl : v1 = .int .i64 z := by simpa using hz
  have h2 := (Prod.mk.inj hxy).1
  rw [List.map_cons, List.map_cons, List.map_nil, hxs, hxz] at h2
  simp only [DataW.agg.injEq, List.cons.injEq, DataW.lit.injEq, Lit.string.injEq, Lit.int.injEq, true_and, and_true] at h2
  obtain ⟨rfl, rfl⟩ := h2
  rfl
theorem opsL_len : opsL.length = 25 := rfl

set_option maxRecDepth 100000 in
theorem of_laid {W : World} (h : laidMetH Tryd.prog laidL W) : Glob W := by
  rw [MakeChecks.laidMetH_plain _ _ _ (by kernel_rfl)] at h
  obtain ⟨ps, ⟨g0, t0, cs0, f0, p0, q0, hg0, ht0, hv0, hd0, _, _⟩, _, _⟩ := h
  obtain rfl := Option.some.inj (gOps.symm.trans hg0)
  obtain rfl := Option.some.inj (tOps.symm.trans ht0)
  rw [ops_lit] at hd0
  obtain ⟨xs, m, rfl, hx, hlen, hn, hel⟩ := DataW.trod_array Tryd.underlying63 hd0
  simp only [Prod.mk.injEq, DataW.agg.injEq] at hx
  have c62 : Tryd.prog.cellsOf 62 = 2 := by kernel_rfl
  have key : ∀ j, j < 25 → W.cell? ⟨0, j * 2, none⟩ = some (.string ⟨(nameL j).toArray⟩) ∧ W.cell? ⟨0, j * 2 + 1, none⟩ = some (.int .i64 (usesN j)) := fun j hj => by
    have h1 := hel j hj
    rw [List.getElem?_eq_getElem (by omega), c62] at h1
    have e2 : (opsL.map fun x => (DataW.agg [.lit (.string x.1), .lit (.int .i64 x.2)] : DataW Unit))[j]? = some (.agg [.lit (.string (nameL j)), .lit (.int .i64 (usesN j))]) := by
      rw [List.getElem?_map]; unfold nameL usesN
      rw [List.getElem?_eq_getElem (by rw [opsL_len]; exact hj)]; rfl
    rw [hx.1, List.getElem?_map, List.getElem?_eq_getElem (by omega)] at e2
    simp only [Option.map_some, Option.some.injEq] at e2
    have hc := pair_of (n := nameL j) (u := usesN j) (ps := xs[j].2) (by rw [h1]; exact congrArg some (Prod.ext e2 rfl))
    have k0 := congrArg (fun l : List Value => l[0]?) hc
    have k1 := congrArg (fun l : List Value => l[1]?) hc
    simp only [List.getElem?_take_of_lt (show 0 < 2 by decide), List.getElem?_take_of_lt (show 1 < 2 by decide), List.getElem?_drop, Nat.add_zero] at k0 k1
    refine ⟨?_, ?_⟩
    · rw [World.var?_cell hg0 hv0 (j * 2)]; simpa using k0
    · rw [World.var?_cell hg0 hv0 (j * 2 + 1)]; simpa using k1
  exact ⟨fun j hj => (key j hj).1, fun j hj => (key j hj).2⟩
/-- The door's own heap meets the condition: three closed facts. -/
theorem door_met (os : Os) (args : Array Value) : laidMetH Tryd.prog laidL ((World.doorLaid Tryd.prog 400 os).forCall (fun _ _ => 0) ⟨#[], args, []⟩).memory :=
  laidMetH_of_parts3 (fuel := 8) (laidMet_of_run' 8 (by kernel_rfl) (by kernel_rfl)) (by kernel_rfl) (by kernel_rfl)
end Go.Proofs.YtoalchlokcphkaaDoor
