/- Bytes of memory at their bounds: what is passed by. -/
import Derived.Test.YtodkehpldlmgaaaDoorZq7
import Derived.Deep.MidRow
namespace Go.Proofs.YtodkehpldlmgaaaDoor
open Go.RowKit

set_option maxRecDepth 10000 in
set_option maxHeartbeats 4000000 in
theorem bounds_e0 (rl rg : Nat) (off ctx : Int) (w : World) (hG : Glob w) :
    Calls Tryd.prog 7 #[.agg #[.bool false, .int .u32 (rl : Int), .int .u32 (rg : Int)], .int .i64 off, .int .i64 ctx] w fun e w' => e = .returned (.bool true) ∧ Below w.heap.size w w' := by
  have hB0 : Below w.heap.size w (w.alloc (.cells #[.bool false, .int .u32 (rl : Int), .int .u32 (rg : Int)] 40)) := (Below.refl _ _).alloc (Nat.le_refl _) _
  have hkn := knownl_any _ (hG.below hB0 hG.size)
  have HB0 := hB0
  clear hG hB0
  go_enter Tryd.func7, Tryd.ntmps7
  go_wp2_with (go_at_call 12; refine hkn.mono ?_; rintro e W1 ⟨rfl, hB1⟩)
  go_ret
  exact ⟨rfl, HB0.trans (hB1.mono HB0.size)⟩
set_option maxRecDepth 10000 in
set_option maxHeartbeats 4000000 in
theorem bounds_e1 (rl rg : Nat) (off ctx : Int) (w : World) (hG : Glob w) (h1 : (rg : Int) < (rl : Int)) :
    Calls Tryd.prog 7 #[.agg #[.bool true, .int .u32 (rl : Int), .int .u32 (rg : Int)], .int .i64 off, .int .i64 ctx] w fun e w' => e = .returned (.bool true) ∧ Below w.heap.size w w' := by
  have hB0 : Below w.heap.size w (w.alloc (.cells #[.bool true, .int .u32 (rl : Int), .int .u32 (rg : Int)] 40)) := (Below.refl _ _).alloc (Nat.le_refl _) _
  have hkn := knownl_any _ (hG.below hB0 hG.size)
  have HB0 := hB0
  clear hG hB0
  go_enter Tryd.func7, Tryd.ntmps7
  go_wp2_with (go_at_call 12; refine hkn.mono ?_; rintro e W1 ⟨rfl, hB1⟩)
  go_ret
  exact ⟨rfl, HB0.trans (hB1.mono HB0.size)⟩
set_option maxRecDepth 10000 in
set_option maxHeartbeats 4000000 in
theorem bounds_e2 (rl rg : Nat) (off ctx : Int) (w : World) (hG : Glob w) (h1 : ¬ (rg : Int) < (rl : Int)) (h2 : off < -32768) :
    Calls Tryd.prog 7 #[.agg #[.bool true, .int .u32 (rl : Int), .int .u32 (rg : Int)], .int .i64 off, .int .i64 ctx] w fun e w' => e = .returned (.bool true) ∧ Below w.heap.size w w' := by
  have hB0 : Below w.heap.size w (w.alloc (.cells #[.bool true, .int .u32 (rl : Int), .int .u32 (rg : Int)] 40)) := (Below.refl _ _).alloc (Nat.le_refl _) _
  have hkn := knownl_any _ (hG.below hB0 hG.size)
  have HB0 := hB0
  clear hG hB0
  go_enter Tryd.func7, Tryd.ntmps7
  go_wp2_with (go_at_call 12; refine hkn.mono ?_; rintro e W1 ⟨rfl, hB1⟩)
  go_ret
  exact ⟨rfl, HB0.trans (hB1.mono HB0.size)⟩
set_option maxRecDepth 10000 in
set_option maxHeartbeats 4000000 in
theorem bounds_e3 (rl rg : Nat) (off ctx : Int) (w : World) (hG : Glob w) (h1 : ¬ (rg : Int) < (rl : Int)) (h2 : ¬ off < -32768) (h3 : 32767 < off) :
    Calls Tryd.prog 7 #[.agg #[.bool true, .int .u32 (rl : Int), .int .u32 (rg : Int)], .int .i64 off, .int .i64 ctx] w fun e w' => e = .returned (.bool true) ∧ Below w.heap.size w w' := by
  have hB0 : Below w.heap.size w (w.alloc (.cells #[.bool true, .int .u32 (rl : Int), .int .u32 (rg : Int)] 40)) := (Below.refl _ _).alloc (Nat.le_refl _) _
  have hkn := knownl_any _ (hG.below hB0 hG.size)
  have HB0 := hB0
  clear hG hB0
  go_enter Tryd.func7, Tryd.ntmps7
  go_wp2_with (go_at_call 12; refine hkn.mono ?_; rintro e W1 ⟨rfl, hB1⟩)
  go_ret
  exact ⟨rfl, HB0.trans (hB1.mono HB0.size)⟩
set_option maxRecDepth 10000 in
set_option maxHeartbeats 4000000 in
theorem bounds_e4 (rl rg : Nat) (off ctx : Int) (w : World) (hG : Glob w) (h1 : ¬ (rg : Int) < (rl : Int)) (h2 : ¬ off < -32768) (h3 : ¬ 32767 < off) (h4 : ctx < 0) :
    Calls Tryd.prog 7 #[.agg #[.bool true, .int .u32 (rl : Int), .int .u32 (rg : Int)], .int .i64 off, .int .i64 ctx] w fun e w' => e = .returned (.bool true) ∧ Below w.heap.size w w' := by
  have hB0 : Below w.heap.size w (w.alloc (.cells #[.bool true, .int .u32 (rl : Int), .int .u32 (rg : Int)] 40)) := (Below.refl _ _).alloc (Nat.le_refl _) _
  have hkn := knownl_any _ (hG.below hB0 hG.size)
  have HB0 := hB0
  clear hG hB0
  go_enter Tryd.func7, Tryd.ntmps7
  go_wp2_with (go_at_call 12; refine hkn.mono ?_; rintro e W1 ⟨rfl, hB1⟩)
  go_ret
  exact ⟨rfl, HB0.trans (hB1.mono HB0.size)⟩
set_option maxRecDepth 10000 in
set_option maxHeartbeats 4000000 in
theorem bounds_e5 (rl rg : Nat) (off ctx : Int) (w : World) (hG : Glob w) (h1 : ¬ (rg : Int) < (rl : Int)) (h2 : ¬ off < -32768) (h3 : ¬ 32767 < off) (h4 : ¬ ctx < 0) (h5 : 256 < ctx) :
    Calls Tryd.prog 7 #[.agg #[.bool true, .int .u32 (rl : Int), .int .u32 (rg : Int)], .int .i64 off, .int .i64 ctx] w fun e w' => e = .returned (.bool true) ∧ Below w.heap.size w w' := by
  have hB0 : Below w.heap.size w (w.alloc (.cells #[.bool true, .int .u32 (rl : Int), .int .u32 (rg : Int)] 40)) := (Below.refl _ _).alloc (Nat.le_refl _) _
  have hkn := knownl_any _ (hG.below hB0 hG.size)
  have HB0 := hB0
  clear hG hB0
  go_enter Tryd.func7, Tryd.ntmps7
  go_wp2_with (go_at_call 12; refine hkn.mono ?_; rintro e W1 ⟨rfl, hB1⟩)
  go_ret
  exact ⟨rfl, HB0.trans (hB1.mono HB0.size)⟩
end Go.Proofs.YtodkehpldlmgaaaDoor
