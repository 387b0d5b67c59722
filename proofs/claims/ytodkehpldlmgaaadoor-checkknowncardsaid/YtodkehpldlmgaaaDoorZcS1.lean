/- The document's spans: a range as two numbers, and back. -/
import Derived.Test.YtodkehpldlmgaaaDoorZq1
namespace Go.Proofs.YtodkehpldlmgaaaDoor
open Go.RowKit

/-- Two numbers. -/
abbrev spV (l g : Int) : Value := .agg #[.int .i64 l, .int .i64 g]
set_option maxRecDepth 10000 in
set_option maxHeartbeats 1000000 in
theorem rspan_any (d : Rg) (hd : d.Ok) (w : World) :
    Calls Tryd.prog 35 #[d.v] w fun e w' => e = .returned (spV d.least d.great) ∧ Below w.heap.size w w' := by
  obtain ⟨ds, dl, dg⟩ := d
  obtain ⟨d1, d2⟩ := hd
  simp only at d1 d2
  have e1 : IntKind.i64.wrap (dl : Int) = (dl : Int) := by simp only [IntKind.wrap, IntKind.bits, IntKind.signed]; go_num
  have e2 : IntKind.i64.wrap (dg : Int) = (dg : Int) := by simp only [IntKind.wrap, IntKind.bits, IntKind.signed]; go_num
  go_enter Tryd.func35, Tryd.ntmps35
  go_wp2
  exact bodyPost_ret (v := spV dl dg) (by simp [results, Tryd.results35, go_sem]) rfl ⟨rfl, ((Below.refl _ _).alloc (Nat.le_refl _) _).alloc (by simp) _⟩
set_option maxRecDepth 10000 in
set_option maxHeartbeats 1000000 in
theorem rrange_any (l g : Nat) (h1 : l < 4294967296) (h2 : g < 4294967296) (w : World) :
    Calls Tryd.prog 66 #[spV l g] w fun e w' => e = .returned (fromR l g).v ∧ Below w.heap.size w w' := by
  have e1 : IntKind.u32.wrap (l : Int) = (l : Int) := by simp only [IntKind.wrap, IntKind.bits, IntKind.signed]; go_num
  have e2 : IntKind.u32.wrap (g : Int) = (g : Int) := by simp only [IntKind.wrap, IntKind.bits, IntKind.signed]; go_num
  go_enter Tryd.func66, Tryd.ntmps66
  go_wp2
  exact bodyPost_ret (v := .agg #[.bool true, .int .u32 (l : Int), .int .u32 (g : Int)]) (by simp [results, Tryd.results66, go_sem]) rfl ⟨rfl, ((Below.refl _ _).alloc (Nat.le_refl _) _).alloc (by simp) _⟩
end Go.Proofs.YtodkehpldlmgaaaDoor
