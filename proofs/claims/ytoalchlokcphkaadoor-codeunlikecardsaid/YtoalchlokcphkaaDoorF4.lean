/- What spoils bytes, as it comes in. -/
import Derived.Test.YtoalchlokcphkaaDoorF3
namespace Go.Proofs.YtoalchlokcphkaaDoor
open Go.ChangeShapes Go.WideShapes Go.ChangeAt Go.RowKit Go.Deep

theorem three_of {α : Type} : ∀ (xs : List α), xs.length = 3 → ∃ a b c, xs = [a, b, c]
  | [a, b, c], _ => ⟨a, b, c, rfl⟩
theorem u8_byte {z : Int} (h : (Lit.int .u8 z).wf = true) : Value.int .u8 z = .int .u8 (bv (UInt8.ofNat z.toNat)) := by
  have hb := bounds_u8 h
  congr 1
  unfold bv
  rw [UInt8.toNat_ofNat']
  omega
set_option maxRecDepth 100000 in
theorem other_of {H : Type} {enc : TypeId × Value → H} {W : World} {base : Nat} {r : Reach} {v : Value} {d : DataW H} {ps : List MemPlace} (hv : Value.okWide Tryd.prog W r base 56 v) (h : DataW.Trod enc Tryd.prog W 0 (fun _ => true) true 56 v d ps) :
    ∃ (xb more : UInt8) (cut : Int), v = .agg #[.int .u8 (bv xb), .int .i64 cut, .int .u8 (bv more)] := by
  unfold Value.okWide at hv
  rw [Tryd.underlying56] at hv
  obtain ⟨cs, rfl, hsz, _⟩ := hv
  obtain ⟨fuel, hf⟩ := h
  obtain ⟨xs, k, hk, hxy, hl, hxl, hfl⟩ := DataW.trod_struct Tryd.underlying56 hf
  obtain ⟨v0, v1, v2, hcs⟩ := three_of cs.toList (by rw [Array.length_toList, hsz]; kernel_rfl)
  have hcs' : cs = #[v0, v1, v2] := by cases cs; simp at hcs; rw [hcs]
  subst hcs'
  obtain ⟨x0, x1, x2, rfl⟩ := three_of xs hxl
  have c3 : Tryd.prog.cellsOf 3 = 1 := by kernel_rfl
  have c5 : Tryd.prog.cellsOf 5 = 1 := by kernel_rfl
  have h0 : DataW.trod enc Tryd.prog W 0 (fun _ => true) true k 5 (([v0, v1, v2].drop 0).take (Tryd.prog.cellsOf 5)) = some x0 := hfl 0 _ rfl
  have h1 : DataW.trod enc Tryd.prog W 0 (fun _ => true) true k 3 (([v0, v1, v2].drop 1).take (Tryd.prog.cellsOf 3)) = some x1 := hfl 1 _ rfl
  have h2 : DataW.trod enc Tryd.prog W 0 (fun _ => true) true k 5 (([v0, v1, v2].drop 2).take (Tryd.prog.cellsOf 5)) = some x2 := hfl 2 _ rfl
  rw [c5] at h0 h2
  rw [c3] at h1
  obtain ⟨z0, hz0, _, w0⟩ := DataW.trod_int Tryd.underlying5 h0
  obtain ⟨z1, hz1, _⟩ := DataW.trod_int Tryd.underlying3 h1
  obtain ⟨z2, hz2, _, w2⟩ := DataW.trod_int Tryd.underlying5 h2
  obtain rfl : v0 = .int .u8 z0 := by simpa using hz0
  obtain rfl : v1 = .int .i64 z1 := by simpa using hz1
  obtain rfl : v2 = .int .u8 z2 := by simpa using hz2
  exact ⟨_, _, z1, by rw [u8_byte w0, u8_byte w2]⟩
end Go.Proofs.YtoalchlokcphkaaDoor
