/- The law ShaCuts, whatever comes in. -/
import Derived.Test.YtkcngkkjlnadiaaDoorK2
import Derived.Test.YtkcngkkjlnadiaaDoorF3
namespace Go.Proofs.YtkcngkkjlnadiaaDoor
open Go.ChangeShapes Go.WideShapes Go.ChangeAt Go.RowKit

theorem cuts_out (v0 vc : Value) (b s : List UInt8) (ns : List Int) (w : World) (hb : Bytes w v0 b) (hn : Nums w vc ns) (hg0 : Glob w) (hout : ¬ (b.length ≤ 2000 ∧ ns.length ≤ 30 ∧ s.length ≤ 1000)) :
    Calls Tryd.prog 14 #[v0, vc, .string ⟨s.toArray⟩] w fun e w' => e = .returned (.bool true) ∧ Below w.heap.size w w' := by
  obtain ⟨a0, c0, d0, o0, rfl, _⟩ := id hb
  obtain ⟨an, cn, dn, on, rfl, _⟩ := hn
  by_cases k0 : b.length ≤ 2000
  · by_cases k1 : ns.length ≤ 30
    · have i0 : ¬ (2000 : Int) < (b.length : Int) := by omega
      have i1 : ¬ (30 : Int) < (ns.length : Int) := by omega
      have i2 : (1000 : Int) < (s.length : Int) := by omega
      clear hb hout k0 k1
      go_enter Tryd.func14, Tryd.ntmps14
      go_wp2_with fail
      refine (works_any _ hg0).mono ?_
      rintro e W ⟨rfl, hB⟩
      go_wp2_with fail
      go_ret
      exact ⟨rfl, hB⟩
    · have i0 : ¬ (2000 : Int) < (b.length : Int) := by omega
      have i1 : (30 : Int) < (ns.length : Int) := by omega
      clear hb hout k0 k1
      go_enter Tryd.func14, Tryd.ntmps14
      go_wp2_with fail
      refine (works_any _ hg0).mono ?_
      rintro e W ⟨rfl, hB⟩
      go_wp2_with fail
      go_ret
      exact ⟨rfl, hB⟩
  · have i0 : (2000 : Int) < (b.length : Int) := by omega
    clear hb hout k0
    go_enter Tryd.func14, Tryd.ntmps14
    go_wp2_with fail
    refine (works_any _ hg0).mono ?_
    rintro e W ⟨rfl, hB⟩
    go_wp2_with fail
    go_ret
    exact ⟨rfl, hB⟩
theorem cuts_all (v0 vc : Value) (b s : List UInt8) (ns : List Int) (w : World) (hb : Bytes w v0 b) (hn : Nums w vc ns) (hg0 : Glob w) :
    Calls Tryd.prog 14 #[v0, vc, .string ⟨s.toArray⟩] w fun e w' => e = .returned (.bool true) ∧ Below w.heap.size w w' := by
  by_cases h : b.length ≤ 2000 ∧ ns.length ≤ 30 ∧ s.length ≤ 1000
  · exact cuts_walk v0 vc b s ns w hb hn hg0 h
  · exact cuts_out v0 vc b s ns w hb hn hg0 h
theorem nums_of {H : Type} {enc : TypeId × Value → H} {W : World} {base : Nat} {r : Reach} {v : Value} {d : DataW H} {ps : List MemPlace} (hs : 0 < W.heap.size) (hv : Value.okWide Tryd.prog W r base 58 v) (h : DataW.Trod enc Tryd.prog W 0 (fun _ => true) true 58 v d ps) :
    ∃ x : List Int, Nums W v x := by
  obtain ⟨a0, len, cap, rfl⟩ := okWide_slice Tryd.underlying58 hv
  obtain ⟨fuel, hf⟩ := h
  have hc : Tryd.prog.cellsOf 3 = 1 := by kernel_rfl
  rcases open_ints Tryd.underlying58 Tryd.underlying3 hc hf with ⟨hcs, _⟩ | ⟨a, len', cap', zs, hcs, _, hle, _, hall, _, hcell, hwf⟩
  · simp [Value.cells] at hcs
    obtain ⟨rfl, rfl, rfl⟩ := hcs
    exact ⟨[], none, 0, 0, 0, rfl, fun h => absurd rfl h, fun i hi => absurd hi (by simp), hs⟩
  · simp [Value.cells] at hcs
    obtain ⟨rfl, rfl, rfl⟩ := hcs
    simp only [if_true] at hall
    by_cases h0 : len = 0
    · subst h0
      exact ⟨[], some a, cap, 0, 0, rfl, fun h => absurd rfl h, fun i hi => absurd hi (by simp), hs⟩
    · have hsp := spot_none (hcell 0 (by omega))
      obtain ⟨b, o, sp⟩ := a
      obtain rfl : sp = none := hsp
      have hlt : b < W.heap.size := block_lt_of_cell (hcell 0 (by omega))
      have hx : (zs.take len).length = len := by simp; omega
      refine ⟨zs.take len, some ⟨b, o, none⟩, cap, b, o, by rw [hx], fun _ => rfl, fun j hj => ?_, hlt⟩
      rw [hx] at hj
      have hj' := hcell j (by omega)
      rw [Addr.add_mid] at hj'
      rw [hj', List.getElem?_take_of_lt hj, List.getD_eq_getElem?_getD]
end Go.Proofs.YtkcngkkjlnadiaaDoor
