/- What works() is about: three leaves. -/
import Derived.Test.YtcmkjgodgocdfaaDoorT7
namespace Go.Proofs.YtcmkjgodgocdfaaDoor
open Go.RowKit

def dg (k : UInt8) : Dig := k :: List.replicate 31 0
theorem dg_len (k : UInt8) : (dg k).length = 32 := by simp [dg]
def three : List Dig := [dg 1, dg 2, dg 3]
theorem three_all : All32 three := ((All32.one (dg_len 1)).snoc (dg_len 2)).snoc (dg_len 3)
theorem three_rows : rowsL (three.map markL) = [[markL (dg 1), markL (dg 2), markL (dg 3)], [bothL (markL (dg 1)) (markL (dg 2)), markL (dg 3)], [bothL (bothL (markL (dg 1)) (markL (dg 2))) (markL (dg 3))]] := by
  show rowsL [markL (dg 1), markL (dg 2), markL (dg 3)] = _
  rw [rowsL_more (by simp)]
  show _ :: rowsL [bothL (markL (dg 1)) (markL (dg 2)), markL (dg 3)] = _
  rw [rowsL_more (by simp)]
  show _ :: _ :: rowsL [bothL (bothL (markL (dg 1)) (markL (dg 2))) (markL (dg 3))] = _
  rw [rowsL_last (by simp)]
theorem three_root : rootOf three = bothL (bothL (markL (dg 1)) (markL (dg 2))) (markL (dg 3)) := by unfold rootOf; rw [three_rows]; rfl
theorem three_path : pathOf three 2 = [bothL (markL (dg 1)) (markL (dg 2))] := by unfold pathOf; rw [three_rows]; rfl
theorem three_sides : sidesL 2 3 = [true] := by
  rw [sidesL_no (by decide) (by decide)]
  show sidesL 1 2 = _
  rw [sidesL_yes (by decide) (by decide)]
  show _ :: sidesL 0 1 = _
  rw [sidesL_stop (by decide)]
  rfl
theorem three_up : upL (sidesL 2 3) (pathOf three 2) (markL (dg 3)) = rootOf three := by rw [three_sides, three_path, three_root]; rfl
set_option maxRecDepth 100000 in
theorem three_ne : (bothL (bothL (markL (dg 1)) (markL (dg 2))) (markL (dg 3)) == List.replicate 32 0) = false := by decide +kernel
theorem run_build_dig (w : World) (k : UInt8) : (Instr.build 30 #[(0, .int .u8 (bv k))]).run Tryd.prog w = .ok (.agg (byteCells (dg k))) w := by
  kernel_rfl
theorem run_build_zero (w : World) : (Instr.build 30 #[]).run Tryd.prog w = .ok (.agg (byteCells (List.replicate 32 0))) w := by
  kernel_rfl
theorem run_build_three (w : World) : (Instr.buildSlice 22 3 #[(0, .agg (byteCells (dg 1))), (1, .agg (byteCells (dg 2))), (2, .agg (byteCells (dg 3)))]).run Tryd.prog w = .ok (.slice (some ⟨w.heap.size, 0, none⟩) 3 3) (w.alloc (.cells (three.flatten.map bc).toArray 30)) :=
  run_buildSlice_digs w three _ three_all (by simp [three]) (by simp [three]) (by simp [three])
end Go.Proofs.YtcmkjgodgocdfaaDoor
