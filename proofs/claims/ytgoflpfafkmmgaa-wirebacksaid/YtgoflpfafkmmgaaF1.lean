/- The frame of this seat's rows; bytes that come in. -/
import Derived.Test.YtgoflpfafkmmgaaRows
import Derived.Test.YtgoflpfafkmmgaaN1
import Derived.ProofKit
import Derived.OpenShut
import Derived.ChangeOld
import Derived.ChangeSlices
import Derived.Stop.Joined
namespace Go.Proofs.Ytgoflpfafkmmgaa
open Go.ChangeShapes Go.WideShapes Go.ChangeAt Go.RowKit

theorem own : ownKnob Try.prog.godebug = none := by kernel_rfl
theorem laidOut : laidOutB Try.prog = true := by kernel_rfl
/-- Bytes that come in: none, or such as lie somewhere. -/
def In (w : World) (v : Value) (d : List UInt8) : Prop := (d = [] ∧ ∃ a c, v = .slice a 0 c) ∨ Bytes w v d
theorem In.bytes {w w' : World} {v : Value} {d : List UInt8} (h : In w v d) (k : Below w.heap.size w w') (h0 : 0 < w'.heap.size) : Bytes w' v d := by
  rcases h with ⟨rfl, a, c, rfl⟩ | h
  · exact ⟨a, c, 0, 0, rfl, Nat.zero_le _, fun h => absurd rfl h, fun j hj => absurd hj (by simp), h0⟩
  · exact h.below k
theorem In.slice {w : World} {v : Value} {d : List UInt8} (h : In w v d) : ∃ a c, v = .slice a d.length c := by
  rcases h with ⟨rfl, a, c, rfl⟩ | ⟨a, c, _, _, h, _⟩
  · exact ⟨a, c, rfl⟩
  · exact ⟨a, c, h⟩
/-- Of blocks that come later none holds them. -/
theorem In.ap {w w' : World} {v : Value} {d : List UInt8} (h : In w v d) (k : Below w.heap.size w w') {S : Nat → Prop} (hS : ∀ i, S i → w.heap.size ≤ i) (h1 : ∃ i, i < w'.heap.size ∧ ¬ S i) : BytesAp S w' v d := by
  rcases h with ⟨rfl, a, c, rfl⟩ | h
  · obtain ⟨i, hi, hn⟩ := h1
    exact ⟨a, c, i, 0, rfl, Nat.zero_le _, fun h => absurd rfl h, fun j hj => absurd hj (by simp), hi, hn⟩
  · obtain ⟨a, cap, db, o, e1, e2, e3, e4, e5⟩ := h
    exact ⟨a, cap, db, o, e1, e2, e3, fun j hj => (k.cell (p := ⟨db, o + j, none⟩) e5).trans (e4 j hj), Nat.lt_of_lt_of_le e5 k.size, fun e => by have := hS _ e; omega⟩
theorem spot_none {W : World} {a : Addr} {v : Value} (h : W.cell? a = some v) : a.spot = none := by
  unfold World.cell? at h
  split at h
  · split at h
    · cases h
    · rename_i hh; simpa using hh
  · cases h
theorem bytes_of {H : Type} {enc : TypeId × Value → H} {W : World} {base : Nat} {r : Reach} {v : Value} {d : DataW H} {ps : List MemPlace} (hv : Value.okWide Try.prog W r base 27 v) (h : DataW.Trod enc Try.prog W 0 (fun _ => true) true 27 v d ps) :
    ∃ x : List UInt8, In W v x := by
  obtain ⟨a0, len, cap, rfl⟩ := okWide_slice Try.underlying27 hv
  obtain ⟨fuel, hf⟩ := h
  have hc : Try.prog.cellsOf 5 = 1 := by kernel_rfl
  rcases open_ints Try.underlying27 Try.underlying5 hc hf with ⟨hcs, _⟩ | ⟨a, len', cap', zs, hcs, _, hle, _, hall, _, hcell, hwf⟩
  · simp [Value.cells] at hcs
    obtain ⟨rfl, rfl, rfl⟩ := hcs
    exact ⟨[], .inl ⟨rfl, none, 0, rfl⟩⟩
  · simp [Value.cells] at hcs
    obtain ⟨rfl, rfl, rfl⟩ := hcs
    simp only [if_true] at hall
    have hx : ((zs.take len).map fun z => UInt8.ofNat z.toNat).length = len := by simp; omega
    by_cases h0 : len = 0
    · subst h0
      exact ⟨[], .inl ⟨rfl, some a, cap, rfl⟩⟩
    · have hsp := spot_none (hcell 0 (by omega))
      obtain ⟨b, o, sp⟩ := a
      obtain rfl : sp = none := hsp
      have hlt : b < W.heap.size := block_of_cell (hcell 0 (by omega))
      refine ⟨_, .inr ⟨some ⟨b, o, none⟩, cap, b, o, by rw [hx], by rw [hx]; exact hle, fun _ => rfl, fun j hj => ?_, hlt⟩⟩
      rw [hx] at hj
      have hj' := hcell j (by omega)
      rw [Addr.add_mid] at hj'
      rw [hj']
      have hw := hwf (zs.getD j 0) (by rw [List.getD_eq_getElem?_getD, List.getElem?_eq_getElem (by omega)]; exact List.getElem_mem _)
      have hb := bounds_u8 hw
      have e : ((zs.take len).map fun z => UInt8.ofNat z.toNat)[j]?.getD 0 = UInt8.ofNat (zs.getD j 0).toNat := by
        rw [List.getElem?_map, List.getElem?_take_of_lt hj, List.getD_eq_getElem?_getD, List.getElem?_eq_getElem (by omega)]; rfl
      rw [e]
      refine congrArg (fun z => some (Value.int .u8 z)) ?_
      unfold bv
      rw [UInt8.toNat_ofNat']
      omega
end Go.Proofs.Ytgoflpfafkmmgaa
