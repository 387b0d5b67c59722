/- Texts put together, in build order: T7, T8, T9, W1. -/
import Derived.Test.YtcmkjgodgocdfaaDoorQ4
/- merkle's Check. -/
namespace Go.Proofs.YtcmkjgodgocdfaaDoor
open Go.RowKit

def checkE (E : Int) (same : Bool) : Int := if E = 0 then (if same then 0 else 140) else E
set_option maxRecDepth 100000 in
set_option maxHeartbeats 1000000 in
theorem check_of (root leaf D : Dig) (i n E : Int) (pv : Value) (a : Option Addr) (m cap : Nat) (hpv : pv = .slice a m cap) (w : World) (hr : root.length = 32) (hl : leaf.length = 32) (hD : D.length = 32)
    (hup : ∀ w1, Below w.heap.size w w1 → Calls Tryd.prog 25 #[.agg (byteCells leaf), .int .i64 i, .int .i64 n, pv] w1 fun e w' => e = .returned (.tuple #[.agg (byteCells D), .int .i64 E]) ∧ Below w1.heap.size w1 w') :
    Calls Tryd.prog 27 #[.agg (byteCells root), .agg (byteCells leaf), .int .i64 i, .int .i64 n, pv] w fun e w' => e = .returned (.int .i64 (checkE E (D == root))) ∧ Below w.heap.size w w' := by
  subst hpv
  have hrs : (byteCells root).size = 32 := by rw [byteCells_size, hr]
  have hls : (byteCells leaf).size = 32 := by rw [byteCells_size, hl]
  have hDs : (byteCells D).size = 32 := by rw [byteCells_size, hD]
  have q : ∀ w, (Op.equalIn 10000 30 (.agg (byteCells D)) (.agg (byteCells root))).run Tryd.prog w = .ok (D == root) w := fun w => eq_dig D root hD hr w
  obtain ⟨sm, hsm⟩ : ∃ sm, (D == root) = sm := ⟨_, rfl⟩
  rw [hsm]
  simp only [hsm] at q
  clear hsm
  go_enter Tryd.func27, Tryd.ntmps27
  go_upto_region 1 with (fail)
  refine named (p := Code.wp _ _ _ _) ?_
  intro W0 hW0
  have hz0 : w.heap.size + 2 ≤ W0.heap.size := by rw [hW0]; simp
  have hB0 : Below w.heap.size w W0 := by
    rw [hW0]
    repeat (first | exact Below.refl _ _ | refine Below.alloc ?_ (by simp <;> omega) _)
  have x0 : Has W0 w.heap.size (byteCells root) 30 := by
    rw [hW0]; repeat (first | (refine has_new _ _ _ _ ?_; simp; done) | refine has_old ?_)
  have x1 : Has W0 (w.heap.size + 1) (byteCells leaf) 30 := by
    rw [hW0]; repeat (first | (refine has_new _ _ _ _ ?_; simp; done) | refine has_old ?_)
  clear hW0
  have hu := hup W0 hB0
  clear hup
  go_wp2_with (refine wpList_load_row rfl 30 _ rfl (w.heap.size + 1) rfl 30 (byteCells leaf) (0, 0) _ x1 Tryd.underlying30 rfl (by rw [hls]; kernel_rfl) ?_)
  refine hu.mono ?_
  clear hu
  rintro e W1 ⟨rfl, hB1⟩
  have hz1 := hB1.size
  have hn1 := has_new W1 (zeroCells 32) 30 W1.heap.size rfl
  go_upto_region 2 with (refine wpList_store_row rfl 30 _ _ rfl W1.heap.size (byteCells D) rfl rfl 30 _ hn1 (by rw [hDs]; kernel_rfl) (by rw [hDs, zeroCells_size]) (byteCells_one _) ?_)
  refine named (p := Code.wp _ _ _ _) ?_
  intro W2 hW2
  have hB2 : Below W1.heap.size W1 W2 := by
    rw [hW2]; exact ((Below.refl _ _).alloc (Nat.le_refl _) _).trans ⟨rfl, rfl, rfl, by simp, fun j hj => setRow_other _ _ _ _ (by omega)⟩
  have y0 : Has W2 W1.heap.size (byteCells D) 30 := by rw [hW2]; exact setRow_heap _ _ _ _ _ _ hn1
  clear hW2 hn1
  have y1 := (x0.below hB1 x0.lt).below hB2 (Nat.lt_of_lt_of_le x0.lt hz1)
  have hBw : Below w.heap.size w W2 := (hB0.trans (hB1.mono (by omega))).trans (hB2.mono (by omega))
  by_cases hE : E = 0
  · subst hE
    cases sm with
    | true =>
      go_wp2_with (first
        | refine wpList_load_row rfl 30 _ rfl W1.heap.size rfl 30 (byteCells D) (0, 0) _ y0 Tryd.underlying30 rfl (by rw [hDs]; kernel_rfl) ?_
        | refine wpList_load_row rfl 30 _ rfl w.heap.size rfl 30 (byteCells root) (0, 0) _ y1 Tryd.underlying30 rfl (by rw [hrs]; kernel_rfl) ?_)
      go_ret
      exact ⟨rfl, hBw⟩
    | false =>
      go_wp2_with (first
        | refine wpList_load_row rfl 30 _ rfl W1.heap.size rfl 30 (byteCells D) (0, 0) _ y0 Tryd.underlying30 rfl (by rw [hDs]; kernel_rfl) ?_
        | refine wpList_load_row rfl 30 _ rfl w.heap.size rfl 30 (byteCells root) (0, 0) _ y1 Tryd.underlying30 rfl (by rw [hrs]; kernel_rfl) ?_)
      go_ret
      exact ⟨rfl, hBw⟩
  · go_wp2
    go_ret
    exact ⟨by unfold checkE; rw [if_neg hE]; rfl, hBw⟩
end Go.Proofs.YtcmkjgodgocdfaaDoor
/- What works() is about: three leaves. -/
namespace Go.Proofs.YtcmkjgodgocdfaaDoor
open Go.RowKit

def dg (k : UInt8) : Dig := k :: List.replicate 31 0
theorem dg_len (k : UInt8) : (dg k).length = 32 := by simp [dg]
def three : List Dig := [dg 1, dg 2, dg 3]
theorem three_all : All32 three := ((All32.one (dg_len 1)).snoc (dg_len 2)).snoc (dg_len 3)
theorem three_rows : rowsL (three.map markL) = [[markL (dg 1), markL (dg 2), markL (dg 3)], [bothL (markL (dg 1)) (markL (dg 2)), markL (dg 3)], [bothL (bothL (markL (dg 1)) (markL (dg 2))) (markL (dg 3))]] := by
  show rowsL [markL (dg 1), markL (dg 2), markL (dg 3)] = _
  rw [rowsL_more (by simp)]
  show _ :: rowsL [bothL (markL (dg 1)) (markL (dg 2)), markL (dg 3)] = _
  rw [rowsL_more (by simp)]
  show _ :: _ :: rowsL [bothL (bothL (markL (dg 1)) (markL (dg 2))) (markL (dg 3))] = _
  rw [rowsL_last (by simp)]
theorem three_root : rootOf three = bothL (bothL (markL (dg 1)) (markL (dg 2))) (markL (dg 3)) := by unfold rootOf; rw [three_rows]; rfl
theorem three_path : pathOf three 2 = [bothL (markL (dg 1)) (markL (dg 2))] := by unfold pathOf; rw [three_rows]; rfl
theorem three_sides : sidesL 2 3 = [true] := by
  rw [sidesL_no (by decide) (by decide)]
  show sidesL 1 2 = _
  rw [sidesL_yes (by decide) (by decide)]
  show _ :: sidesL 0 1 = _
  rw [sidesL_stop (by decide)]
  rfl
theorem three_up : upL (sidesL 2 3) (pathOf three 2) (markL (dg 3)) = rootOf three := by rw [three_sides, three_path, three_root]; rfl
set_option maxRecDepth 100000 in
theorem three_ne : (bothL (bothL (markL (dg 1)) (markL (dg 2))) (markL (dg 3)) == List.replicate 32 0) = false := by decide +kernel
theorem run_build_dig (w : World) (k : UInt8) : (Instr.build 30 #[(0, .int .u8 (bv k))]).run Tryd.prog w = .ok (.agg (byteCells (dg k))) w := by
  kernel_rfl
theorem run_build_zero (w : World) : (Instr.build 30 #[]).run Tryd.prog w = .ok (.agg (byteCells (List.replicate 32 0))) w := by
  kernel_rfl
theorem run_build_three (w : World) : (Instr.buildSlice 22 3 #[(0, .agg (byteCells (dg 1))), (1, .agg (byteCells (dg 2))), (2, .agg (byteCells (dg 3)))]).run Tryd.prog w = .ok (.slice (some ⟨w.heap.size, 0, none⟩) 3 3) (w.alloc (.cells (three.flatten.map bc).toArray 30)) :=
  run_buildSlice_digs w three _ three_all (by simp [three]) (by simp [three]) (by simp [three])
end Go.Proofs.YtcmkjgodgocdfaaDoor
/- works(): three leaves, the last one's path. -/
namespace Go.Proofs.YtcmkjgodgocdfaaDoor
open Go.RowKit

theorem wpList_build {w : World} {ops : Array Oper} {rest : List Oper} {o : Oper} {a : Act} {Q : Exit → Act → World → Prop} (hw : Region.wanted o (yielded ops a.tmps) = true) (parts : Array (Nat × Operand)) (ho : o.op = .build 30 parts) (vals : Array (Nat × Value)) (d : Dig)
    (hv : parts.map (fun (i, x) => (i, a.eval x)) = vals) (hrun : (Instr.build 30 vals).run Tryd.prog w = .ok (.agg (byteCells d)) w)
    (h : wpList Tryd.prog ops Q rest (a.put o.dst (.agg (byteCells d))) w) : wpList Tryd.prog ops Q (o :: rest) a w := by
  refine wpList_run hw ?_ h
  unfold execOp
  simp only [ho]
  have hv' : parts.map (fun x => match x with | (i, x) => (i, a.eval x)) = vals := hv
  simp only [hv', Sem.run_bind, hrun, Result.andThen_ok, Sem.run_pure]
theorem wpList_buildSlice {w w' : World} {ops : Array Oper} {rest : List Oper} {o : Oper} {a : Act} {Q : Exit → Act → World → Prop} (hw : Region.wanted o (yielded ops a.tmps) = true) (n : Nat) (parts : Array (Nat × Operand)) (ho : o.op = .buildSlice 22 n parts) (vals : Array (Nat × Value)) (v : Value)
    (hv : parts.map (fun (i, x) => (i, a.eval x)) = vals) (hrun : (Instr.buildSlice 22 n vals).run Tryd.prog w = .ok v w')
    (h : wpList Tryd.prog ops Q rest (a.put o.dst v) w') : wpList Tryd.prog ops Q (o :: rest) a w := by
  refine wpList_run hw ?_ h
  unfold execOp
  simp only [ho]
  have hv' : parts.map (fun x => match x with | (i, x) => (i, a.eval x)) = vals := hv
  simp only [hv', Sem.run_bind, hrun, Result.andThen_ok, Sem.run_pure]
set_option maxRecDepth 100000 in
set_option maxHeartbeats 1000000 in
theorem works_any (w : World) (hg : Glob w) : Calls Tryd.prog 13 #[] w fun e w' => e = .returned (.bool true) ∧ Below w.heap.size w w' := by
  have hgs := hg.size
  have hdg := digs_new w three three_all (by simp [three])
  have hB0 := (Below.refl w.heap.size w).alloc (Nat.le_refl _) (.cells (three.flatten.map bc).toArray 30)
  have hb3 := run_build_three w
  have hl3 : three.length = 3 := rfl
  obtain ⟨W0, hW0⟩ : ∃ W0, w.alloc (.cells (three.flatten.map bc).toArray 30) = W0 := ⟨_, rfl⟩
  rw [hW0] at hdg hB0 hb3
  rw [hl3] at hdg
  have hs0 : w.heap.size < W0.heap.size := by rw [← hW0]; simp
  clear hW0
  have hnew := tnew_any _ three W0 hdg (by decide) (by decide)
  go_enter Tryd.func13, Tryd.ntmps13
  go_wp2_with (first
    | refine wpList_build (by rfl) _ rfl #[(0, .int .u8 (bv 1))] (dg 1) (by rfl) (run_build_dig _ 1) ?_
    | refine wpList_build (by rfl) _ rfl #[(0, .int .u8 (bv 2))] (dg 2) (by rfl) (run_build_dig _ 2) ?_
    | refine wpList_build (by rfl) _ rfl #[(0, .int .u8 (bv 3))] (dg 3) (by rfl) (run_build_dig _ 3) ?_
    | refine wpList_buildSlice (by rfl) 3 _ rfl #[(0, .agg (byteCells (dg 1))), (1, .agg (byteCells (dg 2))), (2, .agg (byteCells (dg 3)))] _ (by kernel_rfl) hb3 ?_)
  refine hnew.mono ?_
  clear hnew
  rintro e W1 ⟨tb, rfl, hT1, hB1⟩
  have hBw1 : Below w.heap.size w W1 := hB0.trans (hB1.mono (by omega))
  have hg1 := hg.below hBw1 hg.size
  have hrt := troot_any hT1 hg1
  go_wp2_with fail
  refine hrt.mono ?_
  clear hrt
  rintro e W2 ⟨rfl, hB2⟩
  have hr32 := (rootOf_spec (ds := three) (by decide)).2.1
  obtain ⟨R, hR⟩ : ∃ R, rootOf three = R := ⟨_, rfl⟩
  rw [hR] at hr32 ⊢
  have hRs : (byteCells R).size = 32 := by rw [byteCells_size, hr32]
  have hn2 := has_new W2 (zeroCells 32) 30 W2.heap.size rfl
  go_upto_region 3 with (refine wpList_store_row rfl 30 _ _ rfl W2.heap.size (byteCells R) rfl rfl 30 _ hn2 (by rw [hRs]; kernel_rfl) (by rw [hRs, zeroCells_size]) (byteCells_one _) ?_)
  refine named (p := Code.wp _ _ _ _) ?_
  intro W3 hW3
  have hB3 : Below W2.heap.size W2 W3 := by
    rw [hW3]; exact ((Below.refl _ _).alloc (Nat.le_refl _) _).trans ⟨rfl, rfl, rfl, by simp, fun j hj => setRow_other _ _ _ _ (by omega)⟩
  have y0 : Has W3 W2.heap.size (byteCells R) 30 := by rw [hW3]; exact setRow_heap _ _ _ _ _ _ hn2
  clear hW3 hn2
  have hs2 := hB2.size
  have hs1 := hBw1.size
  have hB13 : Below W1.heap.size W1 W3 := hB2.trans (hB3.mono hs2)
  have hT3 := hT1.below hB13
  have hg3 := hg1.below hB13 hg1.size
  have hpt := path_ok hT3 hg3 2 (by decide)
  go_wp2_with fail
  refine hpt.mono ?_
  clear hpt
  rintro e W4 ⟨v4, rfl, ho4, hB4⟩
  have hp1 : (pathOf three 2).length = 1 := by rw [three_path]; rfl
  obtain ⟨a4, c4, hv4⟩ := ho4.slice
  rw [hp1] at hv4
  subst hv4
  have hst := steps_ok 2 3 (by decide) (by decide) W4
  rw [three_sides] at hst
  go_wp2_with fail
  refine hst.mono ?_
  clear hst
  rintro e W5 ⟨rfl, hB5⟩
  have hm0 : mayB ((0 : Nat) : Int) = false := by decide
  have hnb := tnew_bad none 0 0 W5 hm0
  have hs3 := y0.lt
  have hs4 := hB4.size
  have hB35 : Below W3.heap.size W3 W5 := hB4.trans (hB5.mono hs4)
  have y5 := y0.below hB35 y0.lt
  have hg5 := hg3.below hB35 hg3.size
  have hBw5 : Below w.heap.size w W5 := (hBw1.trans (hB13.mono hs1)).trans (hB35.mono (by omega))
  have hd5 := (ho4.below hB5).digs (by have := hg5.size; omega)
  have hup : ∀ w1, Below W5.heap.size W5 w1 → Calls Tryd.prog 25 #[.agg (byteCells (dg 3)), .int .i64 2, .int .i64 3, .slice a4 1 c4] w1 fun e w' => e = .returned (.tuple #[.agg (byteCells R), .int .i64 0]) ∧ Below w1.heap.size w1 w' := fun w1 hw1 => by
    have := up_ok (dg 3) 2 3 _ (pathOf three 2) w1 (dg_len 3) (by decide) (by decide) (hd5.below hw1) (by rw [hp1, three_sides]; rfl) (hg5.below hw1 hg5.size)
    rw [three_up, hR] at this
    exact this
  have hc1 := check_of R (dg 3) R 2 3 0 _ a4 1 c4 rfl W5 hr32 (dg_len 3) hr32 hup
  rw [show checkE 0 (R == R) = 0 by simp [checkE]] at hc1
  have hc2 : ∀ W6, Below W5.heap.size W5 W6 → Calls Tryd.prog 27 #[.agg (byteCells (List.replicate 32 0)), .agg (byteCells (dg 3)), .int .i64 2, .int .i64 3, .slice a4 1 c4] W6 fun e w' => e = .returned (.int .i64 140) ∧ Below W6.heap.size W6 w' := fun W6 h6 => by
    have := check_of (List.replicate 32 0) (dg 3) R 2 3 0 _ a4 1 c4 rfl W6 (by simp) (dg_len 3) hr32 (fun w1 hw1 => hup w1 (h6.trans (hw1.mono h6.size)))
    rw [show (R == List.replicate 32 0) = false by rw [← hR, three_root]; exact three_ne] at this
    exact this
  clear hup hB0 hB1 hB2 hB3 hB4 hB5 hB13 hB35 ho4 hT1 hT3 y0 hd5 hb3 hdg
  go_wp2_with (first
    | (go_at_call 14; refine hnb.mono ?_; rintro e w' ⟨rfl, hw⟩; obtain rfl := hw.symm)
    | (go_at_call 20; refine (num_any _ _).mono ?_; rintro e w' ⟨rfl, hw⟩; obtain rfl := hw.symm)
    | refine wpList_load_row_if (by rfl) 30 _ rfl W2.heap.size rfl 30 (byteCells R) (0, 0) _ y5 Tryd.underlying30 rfl (by rw [hRs]; kernel_rfl) ?_
    | (go_at_call 27; refine hc1.mono ?_; clear hc1; rintro e W6 ⟨rfl, hB6⟩; have hc3 := hc2 W6 hB6)
    | (go_at_call 27; refine hc3.mono ?_; clear hc3; rintro e W7 ⟨rfl, hB7⟩))
  go_ret
  have hs5 := hBw5.size
  exact ⟨rfl, (hBw5.trans (hB6.mono hs5)).trans (hB7.mono (by have := hB6.size; omega))⟩
end Go.Proofs.YtcmkjgodgocdfaaDoor
/- MerkleSteps: the law's walk. -/
namespace Go.Proofs.YtcmkjgodgocdfaaDoor
open Go.RowKit

set_option maxRecDepth 100000 in
set_option maxHeartbeats 1000000 in
theorem steps_walk (i n : Int) (w : World) (hg : Glob w) : Calls Tryd.prog 7 #[.int .i64 i, .int .i64 n] w fun e w' => e = .returned (.bool true) ∧ Below w.heap.size w w' := by
  have h1 := steps_any i n w
  have h2 := refsteps_any i n
  obtain ⟨V, hV⟩ : ∃ V, stepsV i n = V := ⟨_, rfl⟩
  obtain ⟨E, hE⟩ : ∃ E, stepsE i n = E := ⟨_, rfl⟩
  simp only [hV, hE] at h1 h2
  clear hV hE
  go_enter Tryd.func7, Tryd.ntmps7
  go_wp2_with (first
    | (go_at_call 28; refine h1.mono ?_; rintro e W1 ⟨rfl, hB1⟩; have hg1 := hg.below hB1 hg.size; have hwk := works_any W1 hg1)
    | (go_at_call 29; refine (h2 _).mono ?_; rintro e w' ⟨rfl, hw⟩; obtain rfl := hw.symm)
    | (go_at_call 20; refine (num_any _ _).mono ?_; rintro e w' ⟨rfl, hw⟩; obtain rfl := hw.symm)
    | (go_at_call 13; refine hwk.mono ?_; rintro e W2 ⟨rfl, hB2⟩))
  go_ret
  exact ⟨rfl, hB1.trans (hB2.mono hB1.size)⟩
end Go.Proofs.YtcmkjgodgocdfaaDoor
