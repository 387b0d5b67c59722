/- Texts put together, in build order: T7, T8, T9, U1, U2, U3, W3, F2. -/
import Derived.Test.YtcmkjgodgocdfaaDoorQ4
import Derived.Test.YtcmkjgodgocdfaaDoorQ2
import Derived.Test.YtcmkjgodgocdfaaDoorQ3
import Derived.ChangeSlices
import Derived.Deep.Slices
import Derived.ChangeSame
/- merkle's Check. -/
namespace Go.Proofs.YtcmkjgodgocdfaaDoor
open Go.RowKit

def checkE (E : Int) (same : Bool) : Int := if E = 0 then (if same then 0 else 140) else E
set_option maxRecDepth 100000 in
set_option maxHeartbeats 1000000 in
theorem check_of (root leaf D : Dig) (i n E : Int) (pv : Value) (a : Option Addr) (m cap : Nat) (hpv : pv = .slice a m cap) (w : World) (hr : root.length = 32) (hl : leaf.length = 32) (hD : D.length = 32)
    (hup : ∀ w1, Below w.heap.size w w1 → Calls Tryd.prog 25 #[.agg (byteCells leaf), .int .i64 i, .int .i64 n, pv] w1 fun e w' => e = .returned (.tuple #[.agg (byteCells D), .int .i64 E]) ∧ Below w1.heap.size w1 w') :
    Calls Tryd.prog 27 #[.agg (byteCells root), .agg (byteCells leaf), .int .i64 i, .int .i64 n, pv] w fun e w' => e = .returned (.int .i64 (checkE E (D == root))) ∧ Below w.heap.size w w' := by
  subst hpv
  have hrs : (byteCells root).size = 32 := by rw [byteCells_size, hr]
  have hls : (byteCells leaf).size = 32 := by rw [byteCells_size, hl]
  have hDs : (byteCells D).size = 32 := by rw [byteCells_size, hD]
  have q : ∀ w, (Op.equalIn 10000 30 (.agg (byteCells D)) (.agg (byteCells root))).run Tryd.prog w = .ok (D == root) w := fun w => eq_dig D root hD hr w
  obtain ⟨sm, hsm⟩ : ∃ sm, (D == root) = sm := ⟨_, rfl⟩
  rw [hsm]
  simp only [hsm] at q
  clear hsm
  go_enter Tryd.func27, Tryd.ntmps27
  go_upto_region 1 with (fail)
  refine named (p := Code.wp _ _ _ _) ?_
  intro W0 hW0
  have hz0 : w.heap.size + 2 ≤ W0.heap.size := by rw [hW0]; simp
  have hB0 : Below w.heap.size w W0 := by
    rw [hW0]
    repeat (first | exact Below.refl _ _ | refine Below.alloc ?_ (by simp <;> omega) _)
  have x0 : Has W0 w.heap.size (byteCells root) 30 := by
    rw [hW0]; repeat (first | (refine has_new _ _ _ _ ?_; simp; done) | refine has_old ?_)
  have x1 : Has W0 (w.heap.size + 1) (byteCells leaf) 30 := by
    rw [hW0]; repeat (first | (refine has_new _ _ _ _ ?_; simp; done) | refine has_old ?_)
  clear hW0
  have hu := hup W0 hB0
  clear hup
  go_wp2_with (refine wpList_load_row rfl 30 _ rfl (w.heap.size + 1) rfl 30 (byteCells leaf) (0, 0) _ x1 Tryd.underlying30 rfl (by rw [hls]; kernel_rfl) ?_)
  refine hu.mono ?_
  clear hu
  rintro e W1 ⟨rfl, hB1⟩
  have hz1 := hB1.size
  have hn1 := has_new W1 (zeroCells 32) 30 W1.heap.size rfl
  go_upto_region 2 with (refine wpList_store_row rfl 30 _ _ rfl W1.heap.size (byteCells D) rfl rfl 30 _ hn1 (by rw [hDs]; kernel_rfl) (by rw [hDs, zeroCells_size]) (byteCells_one _) ?_)
  refine named (p := Code.wp _ _ _ _) ?_
  intro W2 hW2
  have hB2 : Below W1.heap.size W1 W2 := by
    rw [hW2]; exact ((Below.refl _ _).alloc (Nat.le_refl _) _).trans ⟨rfl, rfl, rfl, by simp, fun j hj => setRow_other _ _ _ _ (by omega)⟩
  have y0 : Has W2 W1.heap.size (byteCells D) 30 := by rw [hW2]; exact setRow_heap _ _ _ _ _ _ hn1
  clear hW2 hn1
  have y1 := (x0.below hB1 x0.lt).below hB2 (Nat.lt_of_lt_of_le x0.lt hz1)
  have hBw : Below w.heap.size w W2 := (hB0.trans (hB1.mono (by omega))).trans (hB2.mono (by omega))
  by_cases hE : E = 0
  · subst hE
    cases sm with
    | true =>
      go_wp2_with (first
        | refine wpList_load_row rfl 30 _ rfl W1.heap.size rfl 30 (byteCells D) (0, 0) _ y0 Tryd.underlying30 rfl (by rw [hDs]; kernel_rfl) ?_
        | refine wpList_load_row rfl 30 _ rfl w.heap.size rfl 30 (byteCells root) (0, 0) _ y1 Tryd.underlying30 rfl (by rw [hrs]; kernel_rfl) ?_)
      go_ret
      exact ⟨rfl, hBw⟩
    | false =>
      go_wp2_with (first
        | refine wpList_load_row rfl 30 _ rfl W1.heap.size rfl 30 (byteCells D) (0, 0) _ y0 Tryd.underlying30 rfl (by rw [hDs]; kernel_rfl) ?_
        | refine wpList_load_row rfl 30 _ rfl w.heap.size rfl 30 (byteCells root) (0, 0) _ y1 Tryd.underlying30 rfl (by rw [hrs]; kernel_rfl) ?_)
      go_ret
      exact ⟨rfl, hBw⟩
  · go_wp2
    go_ret
    exact ⟨by unfold checkE; rw [if_neg hE]; rfl, hBw⟩
end Go.Proofs.YtcmkjgodgocdfaaDoor
/- What works() is about: three leaves. -/
namespace Go.Proofs.YtcmkjgodgocdfaaDoor
open Go.RowKit

def dg (k : UInt8) : Dig := k :: List.replicate 31 0
theorem dg_len (k : UInt8) : (dg k).length = 32 := by simp [dg]
def three : List Dig := [dg 1, dg 2, dg 3]
theorem three_all : All32 three := ((All32.one (dg_len 1)).snoc (dg_len 2)).snoc (dg_len 3)
theorem three_rows : rowsL (three.map markL) = [[markL (dg 1), markL (dg 2), markL (dg 3)], [bothL (markL (dg 1)) (markL (dg 2)), markL (dg 3)], [bothL (bothL (markL (dg 1)) (markL (dg 2))) (markL (dg 3))]] := by
  show rowsL [markL (dg 1), markL (dg 2), markL (dg 3)] = _
  rw [rowsL_more (by simp)]
  show _ :: rowsL [bothL (markL (dg 1)) (markL (dg 2)), markL (dg 3)] = _
  rw [rowsL_more (by simp)]
  show _ :: _ :: rowsL [bothL (bothL (markL (dg 1)) (markL (dg 2))) (markL (dg 3))] = _
  rw [rowsL_last (by simp)]
theorem three_root : rootOf three = bothL (bothL (markL (dg 1)) (markL (dg 2))) (markL (dg 3)) := by unfold rootOf; rw [three_rows]; rfl
theorem three_path : pathOf three 2 = [bothL (markL (dg 1)) (markL (dg 2))] := by unfold pathOf; rw [three_rows]; rfl
theorem three_sides : sidesL 2 3 = [true] := by
  rw [sidesL_no (by decide) (by decide)]
  show sidesL 1 2 = _
  rw [sidesL_yes (by decide) (by decide)]
  show _ :: sidesL 0 1 = _
  rw [sidesL_stop (by decide)]
  rfl
theorem three_up : upL (sidesL 2 3) (pathOf three 2) (markL (dg 3)) = rootOf three := by rw [three_sides, three_path, three_root]; rfl
set_option maxRecDepth 100000 in
theorem three_ne : (bothL (bothL (markL (dg 1)) (markL (dg 2))) (markL (dg 3)) == List.replicate 32 0) = false := by decide +kernel
theorem run_build_dig (w : World) (k : UInt8) : (Instr.build 30 #[(0, .int .u8 (bv k))]).run Tryd.prog w = .ok (.agg (byteCells (dg k))) w := by
  kernel_rfl
theorem run_build_zero (w : World) : (Instr.build 30 #[]).run Tryd.prog w = .ok (.agg (byteCells (List.replicate 32 0))) w := by
  kernel_rfl
theorem run_build_three (w : World) : (Instr.buildSlice 22 3 #[(0, .agg (byteCells (dg 1))), (1, .agg (byteCells (dg 2))), (2, .agg (byteCells (dg 3)))]).run Tryd.prog w = .ok (.slice (some ⟨w.heap.size, 0, none⟩) 3 3) (w.alloc (.cells (three.flatten.map bc).toArray 30)) :=
  run_buildSlice_digs w three _ three_all (by simp [three]) (by simp [three]) (by simp [three])
end Go.Proofs.YtcmkjgodgocdfaaDoor
/- works(): three leaves, the last one's path. -/
namespace Go.Proofs.YtcmkjgodgocdfaaDoor
open Go.RowKit

theorem wpList_build {w : World} {ops : Array Oper} {rest : List Oper} {o : Oper} {a : Act} {Q : Exit → Act → World → Prop} (hw : Region.wanted o (yielded ops a.tmps) = true) (parts : Array (Nat × Operand)) (ho : o.op = .build 30 parts) (vals : Array (Nat × Value)) (d : Dig)
    (hv : parts.map (fun (i, x) => (i, a.eval x)) = vals) (hrun : (Instr.build 30 vals).run Tryd.prog w = .ok (.agg (byteCells d)) w)
    (h : wpList Tryd.prog ops Q rest (a.put o.dst (.agg (byteCells d))) w) : wpList Tryd.prog ops Q (o :: rest) a w := by
  refine wpList_run hw ?_ h
  unfold execOp
  simp only [ho]
  have hv' : parts.map (fun x => match x with | (i, x) => (i, a.eval x)) = vals := hv
  simp only [hv', Sem.run_bind, hrun, Result.andThen_ok, Sem.run_pure]
theorem wpList_buildSlice {w w' : World} {ops : Array Oper} {rest : List Oper} {o : Oper} {a : Act} {Q : Exit → Act → World → Prop} (hw : Region.wanted o (yielded ops a.tmps) = true) (n : Nat) (parts : Array (Nat × Operand)) (ho : o.op = .buildSlice 22 n parts) (vals : Array (Nat × Value)) (v : Value)
    (hv : parts.map (fun (i, x) => (i, a.eval x)) = vals) (hrun : (Instr.buildSlice 22 n vals).run Tryd.prog w = .ok v w')
    (h : wpList Tryd.prog ops Q rest (a.put o.dst v) w') : wpList Tryd.prog ops Q (o :: rest) a w := by
  refine wpList_run hw ?_ h
  unfold execOp
  simp only [ho]
  have hv' : parts.map (fun x => match x with | (i, x) => (i, a.eval x)) = vals := hv
  simp only [hv', Sem.run_bind, hrun, Result.andThen_ok, Sem.run_pure]
set_option maxRecDepth 100000 in
set_option maxHeartbeats 1000000 in
theorem works_any (w : World) (hg : Glob w) : Calls Tryd.prog 13 #[] w fun e w' => e = .returned (.bool true) ∧ Below w.heap.size w w' := by
  have hgs := hg.size
  have hdg := digs_new w three three_all (by simp [three])
  have hB0 := (Below.refl w.heap.size w).alloc (Nat.le_refl _) (.cells (three.flatten.map bc).toArray 30)
  have hb3 := run_build_three w
  have hl3 : three.length = 3 := rfl
  obtain ⟨W0, hW0⟩ : ∃ W0, w.alloc (.cells (three.flatten.map bc).toArray 30) = W0 := ⟨_, rfl⟩
  rw [hW0] at hdg hB0 hb3
  rw [hl3] at hdg
  have hs0 : w.heap.size < W0.heap.size := by rw [← hW0]; simp
  clear hW0
  have hnew := tnew_any _ three W0 hdg (by decide) (by decide)
  go_enter Tryd.func13, Tryd.ntmps13
  go_wp2_with (first
    | refine wpList_build (by rfl) _ rfl #[(0, .int .u8 (bv 1))] (dg 1) (by rfl) (run_build_dig _ 1) ?_
    | refine wpList_build (by rfl) _ rfl #[(0, .int .u8 (bv 2))] (dg 2) (by rfl) (run_build_dig _ 2) ?_
    | refine wpList_build (by rfl) _ rfl #[(0, .int .u8 (bv 3))] (dg 3) (by rfl) (run_build_dig _ 3) ?_
    | refine wpList_buildSlice (by rfl) 3 _ rfl #[(0, .agg (byteCells (dg 1))), (1, .agg (byteCells (dg 2))), (2, .agg (byteCells (dg 3)))] _ (by kernel_rfl) hb3 ?_)
  refine hnew.mono ?_
  clear hnew
  rintro e W1 ⟨tb, rfl, hT1, hB1⟩
  have hBw1 : Below w.heap.size w W1 := hB0.trans (hB1.mono (by omega))
  have hg1 := hg.below hBw1 hg.size
  have hrt := troot_any hT1 hg1
  go_wp2_with fail
  refine hrt.mono ?_
  clear hrt
  rintro e W2 ⟨rfl, hB2⟩
  have hr32 := (rootOf_spec (ds := three) (by decide)).2.1
  obtain ⟨R, hR⟩ : ∃ R, rootOf three = R := ⟨_, rfl⟩
  rw [hR] at hr32 ⊢
  have hRs : (byteCells R).size = 32 := by rw [byteCells_size, hr32]
  have hn2 := has_new W2 (zeroCells 32) 30 W2.heap.size rfl
  go_upto_region 3 with (refine wpList_store_row rfl 30 _ _ rfl W2.heap.size (byteCells R) rfl rfl 30 _ hn2 (by rw [hRs]; kernel_rfl) (by rw [hRs, zeroCells_size]) (byteCells_one _) ?_)
  refine named (p := Code.wp _ _ _ _) ?_
  intro W3 hW3
  have hB3 : Below W2.heap.size W2 W3 := by
    rw [hW3]; exact ((Below.refl _ _).alloc (Nat.le_refl _) _).trans ⟨rfl, rfl, rfl, by simp, fun j hj => setRow_other _ _ _ _ (by omega)⟩
  have y0 : Has W3 W2.heap.size (byteCells R) 30 := by rw [hW3]; exact setRow_heap _ _ _ _ _ _ hn2
  clear hW3 hn2
  have hs2 := hB2.size
  have hs1 := hBw1.size
  have hB13 : Below W1.heap.size W1 W3 := hB2.trans (hB3.mono hs2)
  have hT3 := hT1.below hB13
  have hg3 := hg1.below hB13 hg1.size
  have hpt := path_ok hT3 hg3 2 (by decide)
  go_wp2_with fail
  refine hpt.mono ?_
  clear hpt
  rintro e W4 ⟨v4, rfl, ho4, hB4⟩
  have hp1 : (pathOf three 2).length = 1 := by rw [three_path]; rfl
  obtain ⟨a4, c4, hv4⟩ := ho4.slice
  rw [hp1] at hv4
  subst hv4
  have hst := steps_ok 2 3 (by decide) (by decide) W4
  rw [three_sides] at hst
  go_wp2_with fail
  refine hst.mono ?_
  clear hst
  rintro e W5 ⟨rfl, hB5⟩
  have hm0 : mayB ((0 : Nat) : Int) = false := by decide
  have hnb := tnew_bad none 0 0 W5 hm0
  have hs3 := y0.lt
  have hs4 := hB4.size
  have hB35 : Below W3.heap.size W3 W5 := hB4.trans (hB5.mono hs4)
  have y5 := y0.below hB35 y0.lt
  have hg5 := hg3.below hB35 hg3.size
  have hBw5 : Below w.heap.size w W5 := (hBw1.trans (hB13.mono hs1)).trans (hB35.mono (by omega))
  have hd5 := (ho4.below hB5).digs (by have := hg5.size; omega)
  have hup : ∀ w1, Below W5.heap.size W5 w1 → Calls Tryd.prog 25 #[.agg (byteCells (dg 3)), .int .i64 2, .int .i64 3, .slice a4 1 c4] w1 fun e w' => e = .returned (.tuple #[.agg (byteCells R), .int .i64 0]) ∧ Below w1.heap.size w1 w' := fun w1 hw1 => by
    have := up_ok (dg 3) 2 3 _ (pathOf three 2) w1 (dg_len 3) (by decide) (by decide) (hd5.below hw1) (by rw [hp1, three_sides]; rfl) (hg5.below hw1 hg5.size)
    rw [three_up, hR] at this
    exact this
  have hc1 := check_of R (dg 3) R 2 3 0 _ a4 1 c4 rfl W5 hr32 (dg_len 3) hr32 hup
  rw [show checkE 0 (R == R) = 0 by simp [checkE]] at hc1
  have hc2 : ∀ W6, Below W5.heap.size W5 W6 → Calls Tryd.prog 27 #[.agg (byteCells (List.replicate 32 0)), .agg (byteCells (dg 3)), .int .i64 2, .int .i64 3, .slice a4 1 c4] W6 fun e w' => e = .returned (.int .i64 140) ∧ Below W6.heap.size W6 w' := fun W6 h6 => by
    have := check_of (List.replicate 32 0) (dg 3) R 2 3 0 _ a4 1 c4 rfl W6 (by simp) (dg_len 3) hr32 (fun w1 hw1 => hup w1 (h6.trans (hw1.mono h6.size)))
    rw [show (R == List.replicate 32 0) = false by rw [← hR, three_root]; exact three_ne] at this
    exact this
  clear hup hB0 hB1 hB2 hB3 hB4 hB5 hB13 hB35 ho4 hT1 hT3 y0 hd5 hb3 hdg
  go_wp2_with (first
    | (go_at_call 14; refine hnb.mono ?_; rintro e w' ⟨rfl, hw⟩; obtain rfl := hw.symm)
    | (go_at_call 20; refine (num_any _ _).mono ?_; rintro e w' ⟨rfl, hw⟩; obtain rfl := hw.symm)
    | refine wpList_load_row_if (by rfl) 30 _ rfl W2.heap.size rfl 30 (byteCells R) (0, 0) _ y5 Tryd.underlying30 rfl (by rw [hRs]; kernel_rfl) ?_
    | (go_at_call 27; refine hc1.mono ?_; clear hc1; rintro e W6 ⟨rfl, hB6⟩; have hc3 := hc2 W6 hB6)
    | (go_at_call 27; refine hc3.mono ?_; clear hc3; rintro e W7 ⟨rfl, hB7⟩))
  go_ret
  have hs5 := hBw5.size
  exact ⟨rfl, (hBw5.trans (hB6.mono hs5)).trans (hB7.mono (by have := hB6.size; omega))⟩
end Go.Proofs.YtcmkjgodgocdfaaDoor
/- The document's Mark and Both. -/
namespace Go.Proofs.YtcmkjgodgocdfaaDoor
open Go.RowKit

set_option maxRecDepth 100000 in
set_option maxHeartbeats 1000000 in
theorem refmark_any (d : Dig) (w : World) (hd : d.length = 32) (hg : Glob w) : Calls Tryd.prog 38 #[.agg (byteCells d)] w fun e w' => e = .returned (.agg (byteCells (markL d))) ∧ Below w.heap.size w w' := by
  have hgs := hg.size
  have hbs : (byteCells d).size = 32 := by rw [byteCells_size, hd]
  go_enter Tryd.func38, Tryd.ntmps38
  go_upto_region 1 with (fail)
  refine named (p := Code.wp _ _ _ _) ?_
  intro W0 hW0
  have hz0 : w.heap.size + 2 ≤ W0.heap.size := by rw [hW0]; simp
  have hB0 : Below w.heap.size w W0 := by
    rw [hW0]
    repeat (first | exact Below.refl _ _ | refine Below.alloc ?_ (by simp <;> omega) _)
  have x0 : Has W0 w.heap.size (byteCells d) 30 := by
    rw [hW0]; repeat (first | (refine has_new _ _ _ _ ?_; simp; done) | refine has_old ?_)
  have x1 : Has W0 (w.heap.size + 1) (zeroCells 32) 30 := by
    rw [hW0]; repeat (first | (refine has_new _ _ _ _ ?_; simp; done) | refine has_old ?_)
  clear hW0
  have hn0 := has_new W0 #[.int .u8 0] 5 W0.heap.size rfl
  have ho0 : Own W0.heap.size (W0.alloc (.cells #[.int .u8 0] 5)) (.slice (some ⟨W0.heap.size, 0, none⟩) 1 1) [0] :=
    ⟨rfl, .inr ⟨_, 1, _, rfl, Nat.le_refl _, hn0, Nat.le_refl _, by simp only [maxLen]; omega, rfl, rfl⟩⟩
  have hBa := (Below.refl W0.heap.size W0).alloc (Nat.le_refl _) (.cells #[.int .u8 0] 5)
  have hby : Bytes (W0.alloc (.cells #[.int .u8 0] 5)) (.slice (some ⟨w.heap.size, 0, none⟩) 32 32) d := by
    have x0' := x0.below hBa x0.lt
    exact ⟨_, 32, w.heap.size, 0, by rw [hd], by omega, fun _ => rfl, fun j hj => by rw [x0'.cell, Nat.zero_add]; exact byteCells_at d j hj, x0'.lt⟩
  go_wp2_with (first
    | (refine wpList_append_bytes rfl _ _ 77 rfl info5 Tryd.underlying77 W0.heap.size _ _ [0] d rfl rfl ho0 hby (by simp; omega) (by simp) ?_; intro v1 W1 ho1 hg1; obtain ⟨a1, n1, c1, rfl⟩ : ∃ a n c, v1 = Value.slice a n c := (by obtain ⟨a, c, e⟩ := ho1.slice; exact ⟨a, _, c, e⟩)))
  have hlow := grown_keeps ho0 hg1 (by simp)
  have hB1 : Below W0.heap.size W0 W1 := hBa.trans hlow
  have hBw : Below w.heap.size w W1 := hB0.trans (hB1.mono (by omega))
  have hg1' := hg.below hBw hg.size
  have hb1 := ho1.bytes (by have := hg1'.size; omega)
  have hm : markL d = shaL ([0] ++ d) := rfl
  have hl1 : ([0] ++ d).length < 1000000000 := by simp; omega
  obtain ⟨L, hL⟩ : ∃ L, [0] ++ d = L := ⟨_, rfl⟩
  rw [hL] at hb1 hm hl1
  refine (refsum_any _ L W1 hb1 hl1).mono ?_
  rintro e W2 ⟨rfl, hB2⟩
  rw [← hm]
  have hm32 : (markL d).length = 32 := shaL_length _
  obtain ⟨x, hx⟩ : ∃ x, markL d = x := ⟨_, rfl⟩
  rw [hx] at hm32 ⊢
  have hxs : (byteCells x).size = 32 := by rw [byteCells_size, hm32]
  have hr := (x1.below hB1 x1.lt).below hB2 (Nat.lt_of_lt_of_le x1.lt hB1.size)
  clear hm hb1 hby ho0 ho1
  go_wp2_with (refine wpList_store_row rfl 30 _ _ rfl (w.heap.size + 1) (byteCells x) rfl rfl 30 _ hr (by rw [hxs]; kernel_rfl) (by rw [hxs, zeroCells_size]) (byteCells_one _) ?_)
  refine bodyPost_ret (results_cell_row rfl _ _ (w.heap.size + 1) 30 _ (0, 0) _ rfl (setRow_heap _ _ _ _ _ _ hr) Tryd.underlying30 rfl (by rw [hxs]; kernel_rfl)) rfl ?_
  exact ⟨by rw [hx], (hBw.trans (hB2.mono hBw.size)).trans ⟨rfl, rfl, rfl, by simp, fun j hj => setRow_other _ _ _ _ (by omega)⟩⟩
theorem wp_append_by {o : Oper} {a : Act} {w : World} {K : Act → World → Prop} {Q : Exit → Act → World → Prop} (s y : Operand)
    (ho : o.op = .call { callee := .builtin .append, args := #[s, y], argTypes := #[77, 77] }) (base : Nat) (v xv : Value) (d x : List UInt8) (hs : a.eval s = v) (hy : a.eval y = xv) (hown : Own base w v d) (hx : Bytes w xv x) (hsm : d.length + x.length ≤ 100000000000000) (hbase : base ≤ w.heap.size)
    (h : ∀ v' w', Own base w' v' (d ++ x) → w.grownBy w' v.ownBlock → K (a.put o.dst v') w') : o.wp Tryd.prog a w K Q := by
  obtain ⟨v', w', h1, h2, h3, _⟩ := run_append_bytes o.type info5 Tryd.underlying77 base w v xv d x hown hx hsm hbase
  unfold Oper.wp execOp
  simp only [ho, resolve, invoke, builtin, Sem.run_bind, Sem.run_pure, Result.andThen_ok, List.map_toArray, List.map_cons, List.map_nil, hs, hy, h1]
  exact h v' w' h2 h3
theorem bytes_has {w : World} {b : Nat} {d : Dig} (h : Has w b (byteCells d) 30) (hd : d.length = 32) : Bytes w (.slice (some ⟨b, 0, none⟩) 32 32) d :=
  ⟨_, 32, b, 0, by rw [hd], by omega, fun _ => rfl, fun j hj => by rw [h.cell, Nat.zero_add]; exact byteCells_at d j hj, h.lt⟩
set_option maxRecDepth 100000 in
set_option maxHeartbeats 1000000 in
theorem refboth_any (d e : Dig) (w : World) (hd : d.length = 32) (he : e.length = 32) (hg : Glob w) : Calls Tryd.prog 39 #[.agg (byteCells d), .agg (byteCells e)] w fun r w' => r = .returned (.agg (byteCells (bothL d e))) ∧ Below w.heap.size w w' := by
  have hgs := hg.size
  have hbs : (byteCells d).size = 32 := by rw [byteCells_size, hd]
  have hm : bothL d e = shaL (([1] ++ d) ++ e) := rfl
  have hx32 : (bothL d e).length = 32 := shaL_length _
  have hl1 : (([1] ++ d) ++ e).length < 1000000000 := by simp; omega
  obtain ⟨x, hx⟩ : ∃ x, bothL d e = x := ⟨_, rfl⟩
  rw [hx] at hm hx32 ⊢
  have hxs : (byteCells x).size = 32 := by rw [byteCells_size, hx32]
  go_enter Tryd.func39, Tryd.ntmps39
  go_upto_region 1 with (fail)
  refine named (p := Code.wp _ _ _ _) ?_
  intro W0 hW0
  have hz0 : w.heap.size + 3 ≤ W0.heap.size := by rw [hW0]; simp
  have hB0 : Below w.heap.size w W0 := by
    rw [hW0]
    repeat (first | exact Below.refl _ _ | refine Below.alloc ?_ (by simp <;> omega) _)
  have x0 : Has W0 w.heap.size (byteCells d) 30 := by
    rw [hW0]; repeat (first | (refine has_new _ _ _ _ ?_; simp; done) | refine has_old ?_)
  have x1 : Has W0 (w.heap.size + 1) (byteCells e) 30 := by
    rw [hW0]; repeat (first | (refine has_new _ _ _ _ ?_; simp; done) | refine has_old ?_)
  have x2 : Has W0 (w.heap.size + 2) (zeroCells 32) 30 := by
    rw [hW0]; repeat (first | (refine has_new _ _ _ _ ?_; simp; done) | refine has_old ?_)
  clear hW0
  simp only [Nat.add_assoc, Nat.reduceAdd]
  refine wp_region_K (S := fun _ => True) (fun _ => true) (by kernel_rfl) ?_
  refine K_take (i := 1) (v := .slice (some ⟨w.heap.size, 0, none⟩) 32 32) rfl (by kernel_rfl) (by kernel_rfl) (by kernel_rfl) (by kernel_rfl) (by kernel_rfl) (by rfl) (fun w' _ => by go_simp) trivial ?_
  refine K_take (i := 3) (v := .slice (some ⟨w.heap.size + 1, 0, none⟩) 32 32) rfl (by kernel_rfl) (by kernel_rfl) (by kernel_rfl) (by kernel_rfl) (by kernel_rfl) (by rfl) (fun w' _ => by go_simp) trivial ?_
  refine K_next (i := 0) (by kernel_rfl) rfl (by rfl) (fun K hK => ?_)
  go_simp
  refine hK _ _ (fun _ => trivial) ?_
  clear hK
  have hn0 := has_new W0.drew #[.int .u8 1] 5 W0.heap.size rfl
  have ho0 : Own W0.heap.size (W0.drew.alloc (.cells #[.int .u8 1] 5)) (.slice (some ⟨W0.heap.size, 0, none⟩) 1 1) [1] :=
    ⟨rfl, .inr ⟨_, 1, _, rfl, Nat.le_refl _, hn0, Nat.le_refl _, by simp only [maxLen]; omega, rfl, rfl⟩⟩
  have hBa : Below W0.heap.size W0 (W0.drew.alloc (.cells #[.int .u8 1] 5)) := (Below.refl W0.heap.size W0).drew.alloc (Nat.le_refl _) _
  refine K_next (i := 2) (by kernel_rfl) rfl (by rfl) (fun K hK => ?_)
  refine wp_append_by _ _ rfl W0.heap.size _ _ [1] d (by kernel_rfl) (by kernel_rfl) ho0 (bytes_has (x0.below hBa x0.lt) hd) (by simp; omega) hBa.size ?_
  intro v1 W1 ho1 hg1
  refine hK _ _ (fun _ => trivial) ?_
  clear hK
  have hB1 : Below W0.heap.size W0 W1 := hBa.trans (grown_keeps ho0 hg1 hBa.size)
  refine K_next (i := 4) (by kernel_rfl) rfl (by rfl) (fun K hK => ?_)
  refine wp_append_by _ _ rfl W0.heap.size v1 _ ([1] ++ d) e (by kernel_rfl) (by kernel_rfl) ho1 (bytes_has (x1.below hB1 x1.lt) he) (by simp; omega) hB1.size ?_
  intro v2 W2 ho2 hg2
  refine hK _ _ (fun _ => trivial) ?_
  clear hK
  have hB2 : Below W0.heap.size W0 W2 := hB1.trans (grown_keeps ho1 hg2 hB1.size)
  have hBw : Below w.heap.size w W2 := hB0.trans (hB2.mono (by omega))
  have hb2 := ho2.bytes (by have := hBw.size; omega)
  obtain ⟨a2, n2, c2, rfl⟩ : ∃ a n c, v2 = Value.slice a n c := by obtain ⟨a, c, e⟩ := ho2.slice; exact ⟨a, _, c, e⟩
  obtain ⟨L, hL⟩ : ∃ L, ([1] ++ d) ++ e = L := ⟨_, rfl⟩
  rw [hL] at hb2 hm hl1
  clear ho0 ho1 ho2
  refine K_next (i := 5) (by kernel_rfl) rfl (by rfl) (fun K hK => ?_)
  go_simp
  refine (refsum_any _ L W2 hb2 hl1).mono ?_
  rintro r W3 ⟨rfl, hB3⟩
  rw [← hm]
  refine hK _ _ (fun _ => trivial) ?_
  clear hK
  have hr := (x2.below hB2 x2.lt).below hB3 (Nat.lt_of_lt_of_le x2.lt hB2.size)
  refine K_next (i := 6) (by kernel_rfl) rfl (by rfl) (fun K hK => ?_)
  refine wp_store_dig _ _ rfl (w.heap.size + 2) x (by kernel_rfl) (by kernel_rfl) hx32 _ hr (by rw [zeroCells_size]) ?_
  refine hK _ _ (fun _ => trivial) (K_done (by kernel_rfl) ?_)
  clear hK
  go_wp2
  refine bodyPost_ret (results_cell_row rfl _ _ (w.heap.size + 2) 30 _ (0, 0) _ rfl (setRow_heap _ _ _ _ _ _ hr) Tryd.underlying30 rfl (by rw [hxs]; kernel_rfl)) rfl ?_
  exact ⟨rfl, (hBw.trans (hB3.mono hBw.size)).trans ⟨rfl, rfl, rfl, by simp, fun j hj => setRow_other _ _ _ _ (by omega)⟩⟩
end Go.Proofs.YtcmkjgodgocdfaaDoor
/- The document's Up. -/
namespace Go.Proofs.YtcmkjgodgocdfaaDoor
open Go.RowKit

set_option maxRecDepth 100000 in
set_option maxHeartbeats 1000000 in
theorem refup_ok (leaf : Dig) (i n : Nat) (pv : Value) (ds : List Dig) (w : World) (hl : leaf.length = 32) (hin : i < n) (hn : n ≤ 16) (hp : Digs w pv ds) (hlen : ds.length = (sidesL i n).length) (hg : Glob w) :
    Calls Tryd.prog 26 #[.agg (byteCells leaf), .int .i64 (i : Int), .int .i64 (n : Int), pv] w fun e w' => e = .returned (.tuple #[.agg (byteCells (upL (sidesL i n) ds (markL leaf))), .int .i64 0]) ∧ Below w.heap.size w w' := by
  have hgs := hg.size
  obtain ⟨h32, a, cap, g, o, rfl, hcap, hmx, ha, hinn, hgl⟩ := hp
  unfold maxLen at hmx
  have hs16 := sidesL_le n i
  have hbs : (byteCells leaf).size = 32 := by rw [byteCells_size, hl]
  have hst := refsteps_any (i : Int) (n : Int)
  have hE : stepsE (i : Int) (n : Int) = 0 := by
    unfold stepsE
    rw [show mayB (n : Int) = true by simp [mayB]; omega, show thereB (i : Int) (n : Int) = true by simp [thereB]; omega]
    rfl
  have hV : stepsV (i : Int) (n : Int) = ((sidesL i n).length : Int) := by
    unfold stepsV
    rw [show mayB (n : Int) = true by simp [mayB]; omega, show thereB (i : Int) (n : Int) = true by simp [thereB]; omega]
    rfl
  simp only [hE, hV] at hst
  obtain ⟨sd, hsd⟩ : ∃ sd, sidesL i n = sd := ⟨_, rfl⟩
  obtain ⟨m, hm⟩ : ∃ m, ds.length = m := ⟨_, rfl⟩
  rw [hsd] at hlen hs16 ⊢
  simp only [hsd] at hst
  rw [hm] at hlen hcap ⊢
  rw [← hlen] at hs16
  simp only [← hlen] at hst
  have HL : Hid (m = sd.length ∧ ds.length = m) := ⟨hlen, hm⟩
  have HS : Hid (sd = sd.take 0 ++ sidesL i n) := by rw [hsd]; rfl
  clear hsd hlen hm hE hV
  go_enter Tryd.func26, Tryd.ntmps26
  go_upto_region 6 with (go_at_call 29; refine (hst _).mono ?_; rintro e w' ⟨rfl, hw⟩; obtain rfl := hw.symm)
  refine named (p := Code.wp _ _ _ _) ?_
  intro W0 hW0
  have hz0 : w.heap.size + 2 ≤ W0.heap.size := by rw [hW0]; simp
  have hB0 : Below w.heap.size w W0 := by
    rw [hW0]
    repeat (first | exact Below.refl _ _ | refine Below.alloc ?_ (by simp <;> omega) _)
  have x0 : Has W0 w.heap.size (byteCells leaf) 30 := by
    rw [hW0]; repeat (first | (refine has_new _ _ _ _ ?_; simp; done) | refine has_old ?_)
  have x1 : Has W0 (w.heap.size + 1) (zeroCells 32) 30 := by
    rw [hW0]; repeat (first | (refine has_new _ _ _ _ ?_; simp; done) | refine has_old ?_)
  clear hW0 hst
  have hg0 := hg.below hB0 hg.size
  have hmk := refmark_any leaf W0 hl hg0
  have hm32 : (markL leaf).length = 32 := shaL_length _
  obtain ⟨x, hx⟩ : ∃ x, markL leaf = x := ⟨_, rfl⟩
  rw [hx] at hm32 hmk
  have HX : Hid (markL leaf = x) := hx
  clear hx
  have hxs : (byteCells x).size = 32 := by rw [byteCells_size, hm32]
  go_wp2_with (refine wpList_load_row rfl 30 _ rfl w.heap.size rfl 30 (byteCells leaf) (0, 0) _ x0 Tryd.underlying30 rfl (by rw [hbs]; kernel_rfl) ?_)
  refine hmk.mono ?_
  rintro e W1 ⟨rfl, hB1⟩
  have hn1 := has_new W1 (zeroCells 32) 30 W1.heap.size rfl
  go_upto_region 7 with (refine wpList_store_row rfl 30 _ _ rfl W1.heap.size (byteCells x) rfl rfl 30 _ hn1 (by rw [hxs]; kernel_rfl) (by rw [hxs, zeroCells_size]) (byteCells_one _) ?_)
  refine named (p := Code.wp _ _ _ _) ?_
  intro W2 hW2
  have hB2 : Below W1.heap.size W1 W2 := by
    rw [hW2]; exact ((Below.refl _ _).alloc (Nat.le_refl _) _).trans ⟨rfl, rfl, rfl, by simp, fun j hj => setRow_other _ _ _ _ (by omega)⟩
  have y0 : Has W2 W1.heap.size (byteCells x) 30 := by rw [hW2]; exact setRow_heap _ _ _ _ _ _ hn1
  clear hW2 hn1 hmk
  have hz1 := hB1.size
  have y1 := (x1.below hB1 x1.lt).below hB2 (Nat.lt_of_lt_of_le x1.lt hz1)
  have hBw : Below w.heap.size w W2 := (hB0.trans (hB1.mono (by omega))).trans (hB2.mono (by omega))
  obtain ⟨ab, hab⟩ : ∃ ab, W1.heap.size = ab := ⟨_, rfl⟩
  have habl : w.heap.size + 2 ≤ ab := by omega
  rw [hab] at y0 ⊢
  clear x0 x1 hB0 hB1 hB2 hab hz1 hz0
  go_wp2_with fail
  go_loopw [1, 2, 13] (fun iv nv kv wr => ∃ I N k : Nat, I < N ∧ N ≤ 16 ∧ k ≤ 16 ∧ iv = .int .i64 I ∧ nv = .int .i64 N ∧ kv = .int .i64 k ∧ Hid (sd = sd.take k ++ sidesL I N) ∧ Hid (k ≤ sd.length) ∧ Has wr ab (byteCells (upL (sd.take k) (ds.take k) x)) 30 ∧ Has wr (w.heap.size + 1) (zeroCells 32) 30 ∧ Below w.heap.size w wr) (fun _ nv _ _ => (intOf nv).toNat)
  case atStart => exact ⟨i, n, 0, hin, hn, by omega, rfl, rfl, rfl, HS, Nat.zero_le _, y0, y1, hBw⟩
  case round =>
    clear y0 y1 hBw
    obtain ⟨I, N, k, a1, a2, a3, rfl, rfl, rfl, hs, hk, y0, y1, hBw⟩ := hrel
    have hy32 := upL_len (sd.take k) (ds.take k) x hm32
    have hgr := hg.below hBw hg.size
    by_cases hc : 1 < N
    · by_cases ho : I % 2 = 1
      · have ei : (I : Int) % 2 = 1 := by omega
        have hy0 := sidesL_yes hc (show oth I < N by unfold oth; rw [if_pos ho]; omega)
        rw [decide_eq_true ho] at hy0
        have hs' := hs.out
        rw [hy0] at hs'
        have hget : sd[k]? = some true := by
          have e1 : (sd.take k).length = k := by rw [List.length_take]; have := hk.out; omega
          rw [hs', List.getElem?_append_right (by omega), e1, Nat.sub_self]; rfl
        have hkl := (List.getElem?_eq_some_iff.1 hget).1
        have hk1 : Hid (k + 1 ≤ sd.length) := hkl
        have hkm : k < m := by have := HL.out; omega
        have hk2 : k + 1 ≤ 16 := by omega
        have hkd : k < ds.length := by have := HL.out; omega
        have hs2 : Hid (sd = sd.take (k + 1) ++ sidesL (I / 2) ((N + 1) / 2)) := by
          show _ = _
          rw [List.take_add_one, hget]
          simpa using hs'
        have hstep := upL_take (qs := ds) (by have := HL.out; omega) hget x
        rw [if_pos rfl] at hstep
        have hq32 := h32.at_ hkd
        have hrq := rangeAt_block (hinn k hkd) (hBw.block g hgl)
        obtain ⟨q, hqq⟩ : ∃ q, ds[k]?.getD [] = q := ⟨_, rfl⟩
        rw [hqq] at hstep hq32 hrq
        obtain ⟨y, hyy⟩ : ∃ y, upL (sd.take k) (ds.take k) x = y := ⟨_, rfl⟩
        rw [hyy] at hstep hy32 y0
        have hys : (byteCells y).size = 32 := by rw [byteCells_size, hy32]
        obtain rfl := ha (by intro e; simp [e] at hkd)
        have hbt := refboth_any q y wr.drew hq32 hy32 ⟨hgr.sq, hgr.cu, hgr.size⟩
        have hz32 : (bothL q y).length = 32 := both_len _ _
        obtain ⟨z, hz⟩ : ∃ z, bothL q y = z := ⟨_, rfl⟩
        rw [hz] at hbt hz32 hstep
        have HST : Hid (upL (sd.take (k + 1)) (ds.take (k + 1)) x = z) := hstep
        clear hs' hs hget hstep hqq hyy hz hy0 hkl
        go_wp2_with fail
        have hS0 : Has wr ab (byteCells y) 30 ∧ wr.rangeAt g (o + k * 32) (byteCells q).toList := ⟨y0, hrq⟩
        refine wp_region_K (S := fun X => Has X ab (byteCells y) 30 ∧ X.rangeAt g (o + k * 32) (byteCells q).toList) (fun i => decide (i < 6)) (by kernel_rfl) ?_
        refine K_take (i := 0) (v := .slice (some ⟨g, o, none⟩) m cap) rfl (by kernel_rfl) (by kernel_rfl) (by kernel_rfl) (by kernel_rfl) (by kernel_rfl) (by rfl) (fun w' hS => by go_simp) hS0 ?_
        refine K_take (i := 1) (v := .int .i64 (k : Int)) rfl (by kernel_rfl) (by kernel_rfl) (by kernel_rfl) (by kernel_rfl) (by kernel_rfl) (by rfl) (fun w' hS => by go_simp) hS0 ?_
        refine K_take (i := 4) (v := .agg (byteCells y)) rfl (by kernel_rfl) (by kernel_rfl) (by kernel_rfl) (by kernel_rfl) (by kernel_rfl) (by rfl) (fun w' hS => by exact run_load_row _ rfl ab (by kernel_rfl) y hy32 hS.1) hS0 ?_
        refine K_take (i := 2) (v := .pointer (some ⟨g, o + k * 32, none⟩)) rfl (by kernel_rfl) (by kernel_rfl) (by kernel_rfl) (by kernel_rfl) (by kernel_rfl) (by rfl) (fun w' hS => by go_simp) hS0 ?_
        refine K_take (i := 3) (v := .agg (byteCells q)) rfl (by kernel_rfl) (by kernel_rfl) (by kernel_rfl) (by kernel_rfl) (by kernel_rfl) (by rfl) (fun w' hS => by exact run_load_mid _ rfl g (o + k * 32) (by kernel_rfl) q hq32 hS.2) hS0 ?_
        refine K_next (i := 5) (by kernel_rfl) rfl (by rfl) (fun K hK => ?_)
        go_simp
        refine hbt.mono ?_
        clear hbt
        rintro e W3 ⟨rfl, hB3⟩
        have hB3' : Below wr.heap.size wr W3 := (Below.refl _ wr).drew.trans hB3
        have hglr : g < wr.heap.size := Nat.lt_of_lt_of_le hgl hBw.size
        refine hK _ _ (fun _ => ⟨y0.below hB3' y0.lt, rangeAt_block hrq (hB3'.block g hglr)⟩) ?_
        clear hK
        refine K_next (i := 6) (by kernel_rfl) rfl (by rfl) (fun K hK => ?_)
        refine wp_store_dig _ _ rfl ab z (by kernel_rfl) (by kernel_rfl) hz32 _ (y0.below hB3' y0.lt) (by rw [hys]) ?_
        refine hK _ _ (fun h => absurd h (by decide)) (K_done (by kernel_rfl) ?_)
        clear hK hS0
        have hX := Ex.setRow ab W3 (byteCells z)
        have z0 : Has (W3.setRow ab (byteCells z)) ab (byteCells z) 30 := setRow_heap _ _ _ _ _ _ (y0.below hB3' y0.lt)
        have z1 := (y1.below hB3' y1.lt).ex hX (by omega)
        have hz3 := hB3'.size
        have hzw := hBw.size
        have hBn : Below w.heap.size w (W3.setRow ab (byteCells z)) := (hBw.trans (hB3'.mono (by omega))).trans (hX.low (by omega) (by omega))
        obtain ⟨W4, hW4⟩ : ∃ W4, W3.setRow ab (byteCells z) = W4 := ⟨_, rfl⟩
        rw [hW4] at z0 z1 hBn ⊢
        clear hW4 hX
        go_wp2_with fail
        go_roundw
        case rel => exact ⟨I / 2, (N + 1) / 2, k + 1, by omega, by omega, hk2, by go_num, by go_num, by go_num, hs2, hk1, by rw [HST.out]; exact z0, z1, hBn⟩
        case measure => simp [intOf]; omega
      · have ei : (I : Int) % 2 = 0 := by omega
        by_cases hl2 : I + 1 < N
        · have hl3 : (I : Int) + 1 < (N : Int) := by omega
          have hy0 := sidesL_yes hc (show oth I < N by unfold oth; rw [if_neg ho]; omega)
          rw [decide_eq_false ho] at hy0
          have hs' := hs.out
          rw [hy0] at hs'
          have hget : sd[k]? = some false := by
            have e1 : (sd.take k).length = k := by rw [List.length_take]; have := hk.out; omega
            rw [hs', List.getElem?_append_right (by omega), e1, Nat.sub_self]; rfl
          have hkl := (List.getElem?_eq_some_iff.1 hget).1
          have hk1 : Hid (k + 1 ≤ sd.length) := hkl
          have hkm : k < m := by have := HL.out; omega
          have hk2 : k + 1 ≤ 16 := by omega
          have hkd : k < ds.length := by have := HL.out; omega
          have hs2 : Hid (sd = sd.take (k + 1) ++ sidesL (I / 2) ((N + 1) / 2)) := by
            show _ = _
            rw [List.take_add_one, hget]
            simpa using hs'
          have hstep := upL_take (qs := ds) (by have := HL.out; omega) hget x
          rw [if_neg (by decide)] at hstep
          have hq32 := h32.at_ hkd
          have hrq := rangeAt_block (hinn k hkd) (hBw.block g hgl)
          obtain ⟨q, hqq⟩ : ∃ q, ds[k]?.getD [] = q := ⟨_, rfl⟩
          rw [hqq] at hstep hq32 hrq
          obtain ⟨y, hyy⟩ : ∃ y, upL (sd.take k) (ds.take k) x = y := ⟨_, rfl⟩
          rw [hyy] at hstep hy32 y0
          have hys : (byteCells y).size = 32 := by rw [byteCells_size, hy32]
          obtain rfl := ha (by intro e; simp [e] at hkd)
          have hbt := refboth_any y q wr.drew hy32 hq32 ⟨hgr.sq, hgr.cu, hgr.size⟩
          have hz32 : (bothL y q).length = 32 := both_len _ _
          obtain ⟨z, hz⟩ : ∃ z, bothL y q = z := ⟨_, rfl⟩
          rw [hz] at hbt hz32 hstep
          have HST : Hid (upL (sd.take (k + 1)) (ds.take (k + 1)) x = z) := hstep
          clear hs' hs hget hstep hqq hyy hz hy0 hkl
          go_wp2_with fail
          have hS0 : Has wr ab (byteCells y) 30 ∧ wr.rangeAt g (o + k * 32) (byteCells q).toList := ⟨y0, hrq⟩
          refine wp_region_K (S := fun X => Has X ab (byteCells y) 30 ∧ X.rangeAt g (o + k * 32) (byteCells q).toList) (fun i => decide (i < 6)) (by kernel_rfl) ?_
          refine K_take (i := 0) (v := .agg (byteCells y)) rfl (by kernel_rfl) (by kernel_rfl) (by kernel_rfl) (by kernel_rfl) (by kernel_rfl) (by rfl) (fun w' hS => by exact run_load_row _ rfl ab (by kernel_rfl) y hy32 hS.1) hS0 ?_
          refine K_take (i := 1) (v := .slice (some ⟨g, o, none⟩) m cap) rfl (by kernel_rfl) (by kernel_rfl) (by kernel_rfl) (by kernel_rfl) (by kernel_rfl) (by rfl) (fun w' hS => by go_simp) hS0 ?_
          refine K_take (i := 2) (v := .int .i64 (k : Int)) rfl (by kernel_rfl) (by kernel_rfl) (by kernel_rfl) (by kernel_rfl) (by kernel_rfl) (by rfl) (fun w' hS => by go_simp) hS0 ?_
          refine K_take (i := 3) (v := .pointer (some ⟨g, o + k * 32, none⟩)) rfl (by kernel_rfl) (by kernel_rfl) (by kernel_rfl) (by kernel_rfl) (by kernel_rfl) (by rfl) (fun w' hS => by go_simp) hS0 ?_
          refine K_take (i := 4) (v := .agg (byteCells q)) rfl (by kernel_rfl) (by kernel_rfl) (by kernel_rfl) (by kernel_rfl) (by kernel_rfl) (by rfl) (fun w' hS => by exact run_load_mid _ rfl g (o + k * 32) (by kernel_rfl) q hq32 hS.2) hS0 ?_
          refine K_next (i := 5) (by kernel_rfl) rfl (by rfl) (fun K hK => ?_)
          go_simp
          refine hbt.mono ?_
          clear hbt
          rintro e W3 ⟨rfl, hB3⟩
          have hB3' : Below wr.heap.size wr W3 := (Below.refl _ wr).drew.trans hB3
          have hglr : g < wr.heap.size := Nat.lt_of_lt_of_le hgl hBw.size
          refine hK _ _ (fun _ => ⟨y0.below hB3' y0.lt, rangeAt_block hrq (hB3'.block g hglr)⟩) ?_
          clear hK
          refine K_next (i := 6) (by kernel_rfl) rfl (by rfl) (fun K hK => ?_)
          refine wp_store_dig _ _ rfl ab z (by kernel_rfl) (by kernel_rfl) hz32 _ (y0.below hB3' y0.lt) (by rw [hys]) ?_
          refine hK _ _ (fun h => absurd h (by decide)) (K_done (by kernel_rfl) ?_)
          clear hK hS0
          have hX := Ex.setRow ab W3 (byteCells z)
          have z0 : Has (W3.setRow ab (byteCells z)) ab (byteCells z) 30 := setRow_heap _ _ _ _ _ _ (y0.below hB3' y0.lt)
          have z1 := (y1.below hB3' y1.lt).ex hX (by omega)
          have hz3 := hB3'.size
          have hzw := hBw.size
          have hBn : Below w.heap.size w (W3.setRow ab (byteCells z)) := (hBw.trans (hB3'.mono (by omega))).trans (hX.low (by omega) (by omega))
          obtain ⟨W4, hW4⟩ : ∃ W4, W3.setRow ab (byteCells z) = W4 := ⟨_, rfl⟩
          rw [hW4] at z0 z1 hBn ⊢
          clear hW4 hX
          go_wp2_with fail
          go_roundw
          case rel => exact ⟨I / 2, (N + 1) / 2, k + 1, by omega, by omega, hk2, by go_num, by go_num, by go_num, hs2, hk1, by rw [HST.out]; exact z0, z1, hBn⟩
          case measure => simp [intOf]; omega
        · have hs2 : Hid (sd = sd.take k ++ sidesL (I / 2) ((N + 1) / 2)) := by
            have := hs.out; rw [sidesL_no hc (show ¬ oth I < N by unfold oth; rw [if_neg ho]; omega)] at this; exact this
          clear hs
          go_wp2_with fail
          go_roundw
          case rel => exact ⟨I / 2, (N + 1) / 2, k, by omega, by omega, a3, by go_num, by go_num, by go_num, hs2, hk, y0, y1, hBw⟩
          case measure => simp [intOf]; omega
    · have hs' := hs.out
      rw [sidesL_stop hc, List.append_nil] at hs'
      have hkk : k = sd.length := by
        have := congrArg List.length hs'
        rw [List.length_take] at this
        have := hk.out
        omega
      rw [hkk, List.take_of_length_le (Nat.le_refl _), List.take_of_length_le (by have := HL.out; omega)] at y0
      rw [hkk, List.take_of_length_le (Nat.le_refl _), List.take_of_length_le (by have := HL.out; omega)] at hy32
      clear hs' hs hkk
      obtain ⟨y, hy⟩ : ∃ y, upL sd ds x = y := ⟨_, rfl⟩
      rw [hy] at y0 hy32
      have hys : (byteCells y).size = 32 := by rw [byteCells_size, hy32]
      have HY : Hid (upL sd ds x = y) := hy
      clear hy
      go_wp2_with (first
        | refine wpList_load_row rfl 30 _ rfl ab rfl 30 (byteCells y) (0, 0) _ y0 Tryd.underlying30 rfl (by rw [hys]; kernel_rfl) ?_
        | refine wpList_store_row rfl 30 _ _ rfl (w.heap.size + 1) (byteCells y) rfl rfl 30 _ y1 (by rw [hys]; kernel_rfl) (by rw [hys, zeroCells_size]) (byteCells_one _) ?_)
      refine bodyPost_ret (results_two rfl _ _ (w.heap.size + 1) _ _ rfl rfl (setRow_heap _ _ _ _ _ _ y1) hys) rfl ?_
      exact ⟨by rw [HX.out, HY.out], hBw.trans ⟨rfl, rfl, rfl, by simp, fun j hj => setRow_other _ _ _ _ (by omega)⟩⟩
end Go.Proofs.YtcmkjgodgocdfaaDoor
/- Up, whatever the path: program and document. -/
namespace Go.Proofs.YtcmkjgodgocdfaaDoor
open Go.RowKit

def zero32 : Dig := List.replicate 32 0
theorem zero32_cells : byteCells zero32 = zeroCells 32 := rfl
theorem zero32_len : zero32.length = 32 := rfl
def upE (i n : Int) (m : Nat) : Int := if stepsE i n = 0 then (if stepsV i n = (m : Int) then 0 else 140) else stepsE i n
def upV (leaf : Dig) (i n : Int) (ds : List Dig) : Dig := if upE i n ds.length = 0 then upL (sidesL i.toNat n.toNat) ds (markL leaf) else zero32

set_option maxRecDepth 100000 in
set_option maxHeartbeats 1000000 in
theorem refup_bad (leaf : Dig) (i n V E : Int) (pv : Value) (a : Option Addr) (m cap : Nat) (hpv : pv = .slice a m cap) (w : World) (hst : ∀ w, Calls Tryd.prog 29 #[.int .i64 i, .int .i64 n] w fun e w' => e = .returned (.tuple #[.int .i64 V, .int .i64 E]) ∧ w' = w) (hbad : ¬ E = 0 ∨ (E = 0 ∧ ¬ (m : Int) = V)) :
    Calls Tryd.prog 26 #[.agg (byteCells leaf), .int .i64 i, .int .i64 n, pv] w fun e w' => e = .returned (.tuple #[.agg (byteCells zero32), .int .i64 (if E = 0 then 140 else E)]) ∧ Below w.heap.size w w' := by
  subst hpv
  rw [zero32_cells]
  rcases hbad with h | ⟨rfl, h⟩
  · rw [if_neg h]
    go_enter Tryd.func26, Tryd.ntmps26
    go_upto_region 3 with (go_at_call 29; refine (hst _).mono ?_; rintro e w' ⟨rfl, hw⟩; obtain rfl := hw.symm)
    refine named (p := Code.wp _ _ _ _) ?_
    intro W0 hW0
    have hB0 : Below w.heap.size w W0 := by
      rw [hW0]
      repeat (first | exact Below.refl _ _ | refine Below.alloc ?_ (by simp <;> omega) _)
    have x1 : Has W0 (w.heap.size + 1) (zeroCells 32) 30 := by
      rw [hW0]; repeat (first | (refine has_new _ _ _ _ ?_; simp; done) | refine has_old ?_)
    clear hW0
    go_wp2_with (refine wpList_store_row rfl 30 _ _ rfl (w.heap.size + 1) (zeroCells 32) rfl rfl 30 _ x1 (by kernel_rfl) rfl (by kernel_rfl) ?_)
    refine bodyPost_ret (results_two rfl _ _ (w.heap.size + 1) _ _ rfl rfl (setRow_heap _ _ _ _ _ _ x1) rfl) rfl ?_
    exact ⟨rfl, hB0.trans ⟨rfl, rfl, rfl, by simp, fun j hj => setRow_other _ _ _ _ (by omega)⟩⟩
  · rw [if_pos rfl]
    go_enter Tryd.func26, Tryd.ntmps26
    go_upto_region 5 with (go_at_call 29; refine (hst _).mono ?_; rintro e w' ⟨rfl, hw⟩; obtain rfl := hw.symm)
    refine named (p := Code.wp _ _ _ _) ?_
    intro W0 hW0
    have hB0 : Below w.heap.size w W0 := by
      rw [hW0]
      repeat (first | exact Below.refl _ _ | refine Below.alloc ?_ (by simp <;> omega) _)
    have x1 : Has W0 (w.heap.size + 1) (zeroCells 32) 30 := by
      rw [hW0]; repeat (first | (refine has_new _ _ _ _ ?_; simp; done) | refine has_old ?_)
    clear hW0
    go_wp2_with (refine wpList_store_row rfl 30 _ _ rfl (w.heap.size + 1) (zeroCells 32) rfl rfl 30 _ x1 (by kernel_rfl) rfl (by kernel_rfl) ?_)
    refine bodyPost_ret (results_two rfl _ _ (w.heap.size + 1) _ _ rfl rfl (setRow_heap _ _ _ _ _ _ x1) rfl) rfl ?_
    exact ⟨rfl, hB0.trans ⟨rfl, rfl, rfl, by simp, fun j hj => setRow_other _ _ _ _ (by omega)⟩⟩
set_option maxRecDepth 100000 in
set_option maxHeartbeats 1000000 in
theorem up_bad (leaf : Dig) (i n V E : Int) (pv : Value) (a : Option Addr) (m cap : Nat) (hpv : pv = .slice a m cap) (w : World) (hst : ∀ w, Calls Tryd.prog 28 #[.int .i64 i, .int .i64 n] w fun e w' => e = .returned (.tuple #[.int .i64 V, .int .i64 E]) ∧ Below w.heap.size w w') (hbad : ¬ E = 0 ∨ (E = 0 ∧ ¬ V = (m : Int))) :
    Calls Tryd.prog 25 #[.agg (byteCells leaf), .int .i64 i, .int .i64 n, pv] w fun e w' => e = .returned (.tuple #[.agg (byteCells zero32), .int .i64 (if E = 0 then 140 else E)]) ∧ Below w.heap.size w w' := by
  subst hpv
  rw [zero32_cells]
  go_enter Tryd.func25, Tryd.ntmps25
  go_upto_region 1 with (fail)
  refine named (p := Code.wp _ _ _ _) ?_
  intro W0 hW0
  have hz0 : w.heap.size + 3 ≤ W0.heap.size := by rw [hW0]; simp
  have hB0 : Below w.heap.size w W0 := by
    rw [hW0]
    repeat (first | exact Below.refl _ _ | refine Below.alloc ?_ (by simp <;> omega) _)
  have x1 : Has W0 (w.heap.size + 1) #[.slice a m cap] 22 := by
    rw [hW0]; repeat (first | (refine has_new _ _ _ _ ?_; simp; done) | refine has_old ?_)
  have x2 : Has W0 (w.heap.size + 2) (zeroCells 32) 30 := by
    rw [hW0]; repeat (first | (refine has_new _ _ _ _ ?_; simp; done) | refine has_old ?_)
  clear hW0
  go_wp2_with fail
  refine (hst W0).mono ?_
  rintro e W1 ⟨rfl, hB1⟩
  have c1 := (x1.below hB1 x1.lt).one
  have y2 := x2.below hB1 x2.lt
  have hBw : Below w.heap.size w W1 := hB0.trans (hB1.mono (by omega))
  clear x1 x2 hst
  rcases hbad with h | ⟨rfl, h⟩
  · go_wp2_with (refine wpList_store_row rfl 30 _ _ rfl (w.heap.size + 2) (zeroCells 32) rfl rfl 30 _ y2 (by kernel_rfl) rfl (by kernel_rfl) ?_)
    refine bodyPost_ret (results_two rfl _ _ (w.heap.size + 2) _ _ rfl rfl (setRow_heap _ _ _ _ _ _ y2) rfl) rfl ?_
    exact ⟨rfl, hBw.trans ⟨rfl, rfl, rfl, by simp, fun j hj => setRow_other _ _ _ _ (by omega)⟩⟩
  · go_wp2_with (refine wpList_store_row rfl 30 _ _ rfl (w.heap.size + 2) (zeroCells 32) rfl rfl 30 _ y2 (by kernel_rfl) rfl (by kernel_rfl) ?_)
    refine bodyPost_ret (results_two rfl _ _ (w.heap.size + 2) _ _ rfl rfl (setRow_heap _ _ _ _ _ _ y2) rfl) rfl ?_
    exact ⟨rfl, hBw.trans ⟨rfl, rfl, rfl, by simp, fun j hj => setRow_other _ _ _ _ (by omega)⟩⟩
theorem ok_of_E {i n : Int} (h : stepsE i n = 0) : ∃ I N : Nat, i = I ∧ n = N ∧ I < N ∧ N ≤ 16 ∧ stepsV i n = ((sidesL I N).length : Int) := by
  unfold stepsE at h
  cases hm : mayB n with
  | false => rw [hm] at h; simp at h
  | true =>
    cases ht : thereB i n with
    | false => rw [hm, ht] at h; simp at h
    | true =>
      have hv : stepsV i n = ((sidesL i.toNat n.toNat).length : Int) := by unfold stepsV; rw [hm, ht]; rfl
      simp only [mayB, thereB, Bool.and_eq_true, decide_eq_true_eq] at hm ht
      exact ⟨i.toNat, n.toNat, by omega, by omega, by omega, by omega, hv⟩
theorem up_any (leaf : Dig) (i n : Int) (pv : Value) (ds : List Dig) (w : World) (hl : leaf.length = 32) (hp : Digs w pv ds) (hg : Glob w) :
    Calls Tryd.prog 25 #[.agg (byteCells leaf), .int .i64 i, .int .i64 n, pv] w fun e w' => e = .returned (.tuple #[.agg (byteCells (upV leaf i n ds)), .int .i64 (upE i n ds.length)]) ∧ Below w.heap.size w w' := by
  obtain ⟨a, cap, hpv⟩ := hp.slice
  unfold upV upE
  by_cases hE : stepsE i n = 0
  · obtain ⟨I, N, rfl, rfl, h1, h2, h3⟩ := ok_of_E hE
    by_cases hV : stepsV (I : Int) (N : Int) = (ds.length : Int)
    · have := up_ok leaf I N pv ds w hl h1 h2 hp (by omega) hg
      simpa [hE, hV] using this
    · have := up_bad leaf (I : Int) (N : Int) _ _ pv a ds.length cap hpv w (fun w => steps_any (I : Int) (N : Int) w) (.inr ⟨hE, hV⟩)
      simpa [hE, hV] using this
  · have := up_bad leaf i n _ _ pv a ds.length cap hpv w (fun w => steps_any i n w) (.inl hE)
    simpa [hE] using this
theorem refup_any (leaf : Dig) (i n : Int) (pv : Value) (ds : List Dig) (w : World) (hl : leaf.length = 32) (hp : Digs w pv ds) (hg : Glob w) :
    Calls Tryd.prog 26 #[.agg (byteCells leaf), .int .i64 i, .int .i64 n, pv] w fun e w' => e = .returned (.tuple #[.agg (byteCells (upV leaf i n ds)), .int .i64 (upE i n ds.length)]) ∧ Below w.heap.size w w' := by
  obtain ⟨a, cap, hpv⟩ := hp.slice
  unfold upV upE
  by_cases hE : stepsE i n = 0
  · obtain ⟨I, N, rfl, rfl, h1, h2, h3⟩ := ok_of_E hE
    by_cases hV : stepsV (I : Int) (N : Int) = (ds.length : Int)
    · have := refup_ok leaf I N pv ds w hl h1 h2 hp (by omega) hg
      simpa [hE, hV] using this
    · have := refup_bad leaf (I : Int) (N : Int) _ _ pv a ds.length cap hpv w (fun w => refsteps_any (I : Int) (N : Int) w) (.inr ⟨hE, fun e => hV e.symm⟩)
      simpa [hE, hV] using this
  · have := refup_bad leaf i n _ _ pv a ds.length cap hpv w (fun w => refsteps_any i n w) (.inl hE)
    simpa [hE] using this
theorem upV_len (leaf : Dig) (i n : Int) (ds : List Dig) : (upV leaf i n ds).length = 32 := by
  unfold upV
  split
  · exact upL_len _ _ _ (shaL_length _)
  · exact zero32_len
end Go.Proofs.YtcmkjgodgocdfaaDoor
/- MerkleUps: the law's walk. -/
namespace Go.Proofs.YtcmkjgodgocdfaaDoor
open Go.RowKit

theorem check_any (root leaf : Dig) (i n : Int) (pv : Value) (ds : List Dig) (w : World) (hr : root.length = 32) (hl : leaf.length = 32) (hp : Digs w pv ds) (hg : Glob w) :
    Calls Tryd.prog 27 #[.agg (byteCells root), .agg (byteCells leaf), .int .i64 i, .int .i64 n, pv] w fun e w' => e = .returned (.int .i64 (checkE (upE i n ds.length) (upV leaf i n ds == root))) ∧ Below w.heap.size w w' := by
  obtain ⟨a, cap, hpv⟩ := hp.slice
  exact check_of root leaf (upV leaf i n ds) i n (upE i n ds.length) pv a ds.length cap hpv w hr hl (upV_len leaf i n ds) (fun w1 hw1 => up_any leaf i n pv ds w1 hl (hp.below hw1) (hg.below hw1 hg.size))
set_option maxRecDepth 100000 in
set_option maxHeartbeats 1000000 in
theorem ups_walk (leaf root : Dig) (i n : Int) (pv : Value) (ds : List Dig) (w : World) (hl : leaf.length = 32) (hr : root.length = 32) (hp : Digs w pv ds) (hg : Glob w) :
    Calls Tryd.prog 6 #[.agg (byteCells leaf), .int .i64 i, .int .i64 n, pv, .agg (byteCells root)] w fun e w' => e = .returned (.bool true) ∧ Below w.heap.size w w' := by
  have hls : (byteCells leaf).size = 32 := by rw [byteCells_size, hl]
  have hrs : (byteCells root).size = 32 := by rw [byteCells_size, hr]
  have hD32 := upV_len leaf i n ds
  have hup := fun w hp hg => up_any leaf i n pv ds w hl hp hg
  have hrf := fun w hp hg => refup_any leaf i n pv ds w hl hp hg
  have hck := fun r w hr hp hg => check_any r leaf i n pv ds w hr hl hp hg
  have hbad : ¬ upE i n ds.length = 0 → upV leaf i n ds = zero32 := fun h => by unfold upV; rw [if_neg h]
  obtain ⟨a, cap, rfl⟩ := hp.slice
  obtain ⟨D, hD⟩ : ∃ D, upV leaf i n ds = D := ⟨_, rfl⟩
  obtain ⟨E, hE⟩ : ∃ E, upE i n ds.length = E := ⟨_, rfl⟩
  obtain ⟨m, hm⟩ : ∃ m, ds.length = m := ⟨_, rfl⟩
  simp only [hD, hm] at hup hrf hck hbad hD32 hp ⊢
  rw [hm] at hE
  simp only [hE] at hup hrf hck hbad
  clear hD hE
  have hDs : (byteCells D).size = 32 := by rw [byteCells_size, hD32]
  have hgs := hg.size
  go_enter Tryd.func6, Tryd.ntmps6
  go_upto_region 1 with (fail)
  refine named (p := Code.wp _ _ _ _) ?_
  intro W0 hW0
  have hz0 : w.heap.size + 2 ≤ W0.heap.size := by rw [hW0]; simp
  have hB0 : Below w.heap.size w W0 := by
    rw [hW0]
    repeat (first | exact Below.refl _ _ | refine Below.alloc ?_ (by simp <;> omega) _)
  have x0 : Has W0 w.heap.size (byteCells leaf) 30 := by
    rw [hW0]; repeat (first | (refine has_new _ _ _ _ ?_; simp; done) | refine has_old ?_)
  have x1 : Has W0 (w.heap.size + 1) (byteCells root) 30 := by
    rw [hW0]; repeat (first | (refine has_new _ _ _ _ ?_; simp; done) | refine has_old ?_)
  clear hW0
  have hg0 := hg.below hB0 hg.size
  by_cases hlong : 40 < m
  · have hwk := works_any W0 hg0
    go_wp2_with (go_at_call 13; refine hwk.mono ?_; rintro e W2 ⟨rfl, hB2⟩)
    go_ret
    exact ⟨rfl, hB0.trans (hB2.mono hB0.size)⟩
  · have hu := hup W0 (hp.below hB0) hg0
    go_wp2_with (refine wpList_load_row rfl 30 _ rfl w.heap.size rfl 30 (byteCells leaf) (0, 0) _ x0 Tryd.underlying30 rfl (by rw [hls]; kernel_rfl) ?_)
    refine hu.mono ?_
    clear hu
    rintro e W1 ⟨rfl, hB1⟩
    have hn1 := has_new W1 (zeroCells 32) 30 W1.heap.size rfl
    go_upto_region 4 with (refine wpList_store_row rfl 30 _ _ rfl W1.heap.size (byteCells D) rfl rfl 30 _ hn1 (by rw [hDs]; kernel_rfl) (by rw [hDs, zeroCells_size]) (byteCells_one _) ?_)
    refine named (p := Code.wp _ _ _ _) ?_
    intro W2 hW2
    have hB2 : Below W1.heap.size W1 W2 := by
      rw [hW2]; exact ((Below.refl _ _).alloc (Nat.le_refl _) _).trans ⟨rfl, rfl, rfl, by simp, fun j hj => setRow_other _ _ _ _ (by omega)⟩
    have y0 : Has W2 W1.heap.size (byteCells D) 30 := by rw [hW2]; exact setRow_heap _ _ _ _ _ _ hn1
    clear hW2 hn1
    have hz1 := hB1.size
    have hB02 : Below W0.heap.size W0 W2 := hB1.trans (hB2.mono hz1)
    have hg2 := hg0.below hB02 hg0.size
    have u0 := x0.below hB02 x0.lt
    have hrf2 := hrf W2 ((hp.below hB0).below (hB02.mono (Nat.le_refl _))) hg2
    go_wp2_with (refine wpList_load_row rfl 30 _ rfl w.heap.size rfl 30 (byteCells leaf) (0, 0) _ u0 Tryd.underlying30 rfl (by rw [hls]; kernel_rfl) ?_)
    refine hrf2.mono ?_
    clear hrf2
    rintro e W3 ⟨rfl, hB3⟩
    have hn3 := has_new W3 (zeroCells 32) 30 W3.heap.size rfl
    go_upto_region 5 with (refine wpList_store_row rfl 30 _ _ rfl W3.heap.size (byteCells D) rfl rfl 30 _ hn3 (by rw [hDs]; kernel_rfl) (by rw [hDs, zeroCells_size]) (byteCells_one _) ?_)
    refine named (p := Code.wp _ _ _ _) ?_
    intro W4 hW4
    have hB4 : Below W3.heap.size W3 W4 := by
      rw [hW4]; exact ((Below.refl _ _).alloc (Nat.le_refl _) _).trans ⟨rfl, rfl, rfl, by simp, fun j hj => setRow_other _ _ _ _ (by omega)⟩
    have y1 : Has W4 W3.heap.size (byteCells D) 30 := by rw [hW4]; exact setRow_heap _ _ _ _ _ _ hn3
    clear hW4 hn3
    have hz3 := hB3.size
    have hz2 := y0.lt
    have hB24 : Below W2.heap.size W2 W4 := hB3.trans (hB4.mono hz3)
    have hB04 : Below W0.heap.size W0 W4 := hB02.trans (hB24.mono (by omega))
    have v0 := x0.below hB04 x0.lt
    have v1 := x1.below hB04 x1.lt
    have v2 := y0.below hB24 y0.lt
    have hg4 := hg0.below hB04 hg0.size
    have hp4 := (hp.below hB0).below hB04
    have hc4 := hck root W4 hr hp4 hg4
    go_wp2_with (first
      | refine wpList_load_row rfl 30 _ rfl w.heap.size rfl 30 (byteCells leaf) (0, 0) _ v0 Tryd.underlying30 rfl (by rw [hls]; kernel_rfl) ?_
      | refine wpList_load_row rfl 30 _ rfl (w.heap.size + 1) rfl 30 (byteCells root) (0, 0) _ v1 Tryd.underlying30 rfl (by rw [hrs]; kernel_rfl) ?_)
    refine hc4.mono ?_
    clear hc4
    rintro e W5 ⟨rfl, hB5⟩
    have hB05 : Below W0.heap.size W0 W5 := hB04.trans (hB5.mono (by have := hB04.size; omega))
    have r0 := v0.below hB5 v0.lt
    have r1 := v1.below hB5 v1.lt
    have r2 := v2.below hB5 v2.lt
    have r3 := y1.below hB5 y1.lt
    have hg5 := hg0.below hB05 hg0.size
    have hp5 := (hp.below hB0).below hB05
    have hBw5 : Below w.heap.size w W5 := hB0.trans (hB05.mono (by omega))
    clear hup hrf x0 x1 u0 v0 v1 v2 y0 y1 hB02 hB24 hB04 hB05 hB1 hB2 hB3 hB4 hB5 hB0
    by_cases hE : E = 0
    · subst hE
      have hq : ∀ w, (Op.equalIn 10000 30 (.agg (byteCells D)) (.agg (byteCells D))).run Tryd.prog w = .ok true w := fun w => by have := eq_dig D D hD32 hD32 w; rwa [show (D == D) = true by simp] at this
      have hcD := hck D W5 hD32 hp5 hg5
      rw [show checkE 0 (D == D) = 0 by simp [checkE]] at hcD
      have hq2 : ∀ w, (Op.equalIn 10000 30 (.agg (byteCells root)) (.agg (byteCells D))).run Tryd.prog w = .ok (D == root) w := fun w => by have := eq_dig root D hr hD32 w; rwa [show (root == D) = (D == root) from BEq.comm] at this
      obtain ⟨sm, hsm⟩ : ∃ sm, (D == root) = sm := ⟨_, rfl⟩
      rw [hsm]
      simp only [hsm] at hq2
      clear hsm hck hbad
      cases sm with
      | true =>
        rw [show checkE 0 true = 0 from rfl]
        go_wp2_with (first
          | refine wpList_load_row_if (by rfl) 30 _ rfl W1.heap.size rfl 30 (byteCells D) (0, 0) _ r2 Tryd.underlying30 rfl (by rw [hDs]; kernel_rfl) ?_
          | refine wpList_load_row_if (by rfl) 30 _ rfl W3.heap.size rfl 30 (byteCells D) (0, 0) _ r3 Tryd.underlying30 rfl (by rw [hDs]; kernel_rfl) ?_
          | refine wpList_load_row_if (by rfl) 30 _ rfl (w.heap.size + 1) rfl 30 (byteCells root) (0, 0) _ r1 Tryd.underlying30 rfl (by rw [hrs]; kernel_rfl) ?_
          | refine wpList_load_row_if (by rfl) 30 _ rfl w.heap.size rfl 30 (byteCells leaf) (0, 0) _ r0 Tryd.underlying30 rfl (by rw [hls]; kernel_rfl) ?_
          | (go_at_call 20; refine (num_any _ _).mono ?_; rintro e w' ⟨rfl, hw⟩; obtain rfl := hw.symm)
          | (go_at_call 27; refine hcD.mono ?_; rintro e W6 ⟨rfl, hB6⟩; have hwk := works_any W6 (hg5.below hB6 hg5.size))
          | (go_at_call 13; refine hwk.mono ?_; rintro e W7 ⟨rfl, hB7⟩))
        go_ret
        exact ⟨rfl, (hBw5.trans (hB6.mono hBw5.size)).trans (hB7.mono (by have := hB6.size; have := hBw5.size; omega))⟩
      | false =>
        rw [show checkE 0 false = 140 from rfl]
        go_wp2_with (first
          | refine wpList_load_row_if (by rfl) 30 _ rfl W1.heap.size rfl 30 (byteCells D) (0, 0) _ r2 Tryd.underlying30 rfl (by rw [hDs]; kernel_rfl) ?_
          | refine wpList_load_row_if (by rfl) 30 _ rfl W3.heap.size rfl 30 (byteCells D) (0, 0) _ r3 Tryd.underlying30 rfl (by rw [hDs]; kernel_rfl) ?_
          | refine wpList_load_row_if (by rfl) 30 _ rfl (w.heap.size + 1) rfl 30 (byteCells root) (0, 0) _ r1 Tryd.underlying30 rfl (by rw [hrs]; kernel_rfl) ?_
          | refine wpList_load_row_if (by rfl) 30 _ rfl w.heap.size rfl 30 (byteCells leaf) (0, 0) _ r0 Tryd.underlying30 rfl (by rw [hls]; kernel_rfl) ?_
          | (go_at_call 20; refine (num_any _ _).mono ?_; rintro e w' ⟨rfl, hw⟩; obtain rfl := hw.symm)
          | (go_at_call 27; refine hcD.mono ?_; rintro e W6 ⟨rfl, hB6⟩; have hwk := works_any W6 (hg5.below hB6 hg5.size))
          | (go_at_call 13; refine hwk.mono ?_; rintro e W7 ⟨rfl, hB7⟩))
        go_ret
        exact ⟨rfl, (hBw5.trans (hB6.mono hBw5.size)).trans (hB7.mono (by have := hB6.size; have := hBw5.size; omega))⟩
    · have hD0 := hbad hE
      have hq : ∀ w, (Op.equalIn 10000 30 (.agg (byteCells D)) (.agg #[.int .u8 0, .int .u8 0, .int .u8 0, .int .u8 0, .int .u8 0, .int .u8 0, .int .u8 0, .int .u8 0, .int .u8 0, .int .u8 0, .int .u8 0, .int .u8 0, .int .u8 0, .int .u8 0, .int .u8 0, .int .u8 0, .int .u8 0, .int .u8 0, .int .u8 0, .int .u8 0, .int .u8 0, .int .u8 0, .int .u8 0, .int .u8 0, .int .u8 0, .int .u8 0, .int .u8 0, .int .u8 0, .int .u8 0, .int .u8 0, .int .u8 0, .int .u8 0])).run Tryd.prog w = .ok true w := fun w => by
        rw [hD0]
        have := eq_dig zero32 zero32 rfl rfl w
        rwa [show (zero32 == zero32) = true by simp] at this
      have hwk := works_any W5 hg5
      rw [show ∀ b, checkE E b = E from fun b => by unfold checkE; rw [if_neg hE]]
      clear hD0 hbad hck
      go_wp2_with (first
        | refine wpList_load_row_if (by rfl) 30 _ rfl W1.heap.size rfl 30 (byteCells D) (0, 0) _ r2 Tryd.underlying30 rfl (by rw [hDs]; kernel_rfl) ?_
        | refine wpList_load_row_if (by rfl) 30 _ rfl W3.heap.size rfl 30 (byteCells D) (0, 0) _ r3 Tryd.underlying30 rfl (by rw [hDs]; kernel_rfl) ?_
        | refine wpList_load_row_if (by rfl) 30 _ rfl (w.heap.size + 1) rfl 30 (byteCells root) (0, 0) _ r1 Tryd.underlying30 rfl (by rw [hrs]; kernel_rfl) ?_
        | refine wpList_load_row_if (by rfl) 30 _ rfl w.heap.size rfl 30 (byteCells leaf) (0, 0) _ r0 Tryd.underlying30 rfl (by rw [hls]; kernel_rfl) ?_
        | (go_at_call 20; refine (num_any _ _).mono ?_; rintro e w' ⟨rfl, hw⟩; obtain rfl := hw.symm)
        | (go_at_call 13; refine hwk.mono ?_; rintro e W7 ⟨rfl, hB7⟩))
      go_ret
      exact ⟨rfl, hBw5.trans (hB7.mono hBw5.size)⟩
end Go.Proofs.YtcmkjgodgocdfaaDoor
/- Digests that come in, in a row. -/
namespace Go.Proofs.YtcmkjgodgocdfaaDoor
open Go.ChangeShapes Go.WideShapes Go.ChangeAt Go.RowKit Go.Deep

theorem spot_none {W : World} {a : Addr} {v : Value} (h : W.cell? a = some v) : a.spot = none := by
  unfold World.cell? at h
  split at h
  · split at h
    · cases h
    · rename_i hh; simpa using hh
  · cases h
set_option maxRecDepth 100000 in
theorem dig_cells {H : Type} {enc : TypeId × Value → H} {W : World} {fuel : Nat} {cs : List Value} {x : DataW H × List MemPlace} (hl : cs.length = 32) (hf : DataW.trod enc Tryd.prog W 0 (fun _ => true) true fuel 30 cs = some x) :
    ∃ d : Dig, d.length = 32 ∧ cs = (byteCells d).toList := by
  obtain ⟨xs, m, _, hx, _, _, _⟩ := DataW.trod_array Tryd.underlying30 hf
  rw [hx] at hf
  have a0 := trod_ints Tryd.underlying30 Tryd.underlying5 (by kernel_rfl) hf
  refine ⟨(List.range 32).map fun j => UInt8.ofNat (intOf (cs[j]?.getD undef)).toNat, by simp, ?_⟩
  have h2 := cells_eq cs.toArray ((List.range 32).map fun j => UInt8.ofNat (intOf (cs[j]?.getD undef)).toNat) 32 (by simp) (by simpa using hl) (fun j hj => by
    obtain ⟨z, e1, _, hw⟩ := a0 j hj
    have e1' : cs.toArray[j]? = some (.int .u8 z) := by simpa using e1
    rw [e1']
    simp only [List.getElem?_map, List.getElem?_range hj, Option.map_some, Option.getD_some, e1, intOf]
    have hb := bounds_u8 hw
    congr 2
    unfold bv
    rw [UInt8.toNat_ofNat']
    omega)
  rw [← h2]
set_option maxRecDepth 100000 in
theorem digs_of {H : Type} {enc : TypeId × Value → H} {W : World} {base : Nat} {r : Reach} {v : Value} {d : DataW H} {ps : List MemPlace} (hs : 0 < W.heap.size) (hv : Value.okWide Tryd.prog W r base 22 v) (h : DataW.Trod enc Tryd.prog W 0 (fun _ => true) true 22 v d ps) :
    ∃ ds : List Dig, Digs W v ds := by
  obtain ⟨a0, len, cap, rfl⟩ := okWide_slice Tryd.underlying22 hv
  obtain ⟨fuel, hf⟩ := h
  have c30 : Tryd.prog.cellsOf 30 = 32 := by kernel_rfl
  rcases open_slice Tryd.underlying22 hf with ⟨hcs, _⟩ | ⟨a, len', cap', m, n, D, Pl, hcs, _, hle, hmx, hmm, _, hx⟩
  · simp [Value.cells] at hcs
    obtain ⟨rfl, rfl, rfl⟩ := hcs
    exact ⟨[], All32.nil, none, 0, 0, 0, rfl, Nat.le_refl _, Nat.zero_le _, fun h => absurd rfl h, fun i hi => absurd hi (by simp), hs⟩
  · simp [Value.cells] at hcs
    obtain ⟨rfl, rfl, rfl⟩ := hcs
    simp only [if_true] at hmm
    subst hmm
    by_cases h0 : len = 0
    · subst h0
      exact ⟨[], All32.nil, some a, m, 0, 0, rfl, Nat.zero_le _, hmx, fun h => absurd rfl h, fun i hi => absurd hi (by simp), hs⟩
    · have each : ∀ i, i < len → ∃ d : Dig, d.length = 32 ∧ ∀ j, j < 32 → W.cell? ((a.add (i * 32)).add j) = some (.int .u8 (bv (d[j]?.getD 0))) := fun i hi => by
        obtain ⟨cs', h1, h2⟩ := hx i (by omega)
        rw [c30] at h1
        obtain ⟨_, hlen, hcell⟩ := World.cells?_some h1
        obtain ⟨d, hd, rfl⟩ := dig_cells (by omega) h2
        refine ⟨d, hd, fun j hj => ?_⟩
        have k := hcell j (by omega)
        rw [k]
        have e := byteCells_at d j (by omega)
        have hlt : j < (byteCells d).toList.length := by rw [byteCells_len]; omega
        first
          | (rw [← e]; simp)
          | (have e2 : (byteCells d).toList[j]? = some (.int .u8 (bv (d[j]?.getD 0))) := by rw [Array.getElem?_toList]; exact e
             rw [← e2]; simp [hlt])
      obtain ⟨d0, hd0, hc0⟩ := each 0 (by omega)
      have hsp := spot_none (hc0 0 (by omega))
      obtain ⟨b, o, sp⟩ := a
      have hsp' : sp = none := by
        cases sp with
        | none => rfl
        | some q => simp [Addr.add] at hsp
      subst hsp'
      simp only [Addr.add_mid] at each hc0
      have hlt : b < W.heap.size := block_lt_of_cell (hc0 0 (by omega))
      let F : Nat → Dig := fun i => if hi : i < len then (each i hi).choose else []
      have hFl : ∀ i, i < len → (F i).length = 32 ∧ ∀ j, j < 32 → W.cell? ⟨b, o + i * 32 + j, none⟩ = some (.int .u8 (bv ((F i)[j]?.getD 0))) := fun i hi => by
        have hFi : F i = (each i hi).choose := dif_pos hi
        rw [hFi]
        exact (each i hi).choose_spec
      refine ⟨(List.range len).map F, fun i d hd => ?_, some ⟨b, o, none⟩, m, b, o, by simp, by simpa using hle, hmx, fun _ => rfl, fun i hi => ?_, hlt⟩
      · have hil : i < len := by have := (List.getElem?_eq_some_iff.1 hd).1; simpa using this
        have : F i = d := by simpa [hil] using hd
        rw [← this]; exact (hFl i hil).1
      · have hil : i < len := by simpa using hi
        have e : ((List.range len).map F)[i]?.getD [] = F i := by simp [hil]
        rw [e]
        intro j u hu
        obtain ⟨hF1, hF2⟩ := hFl i hil
        have hj : j < 32 := by have := (List.getElem?_eq_some_iff.1 hu).1; rw [byteCells_len] at this; omega
        have e2 : (byteCells (F i)).toList[j]? = (byteCells (F i))[j]? := by simp
        rw [hF2 j hj, ← hu, e2]
        exact (byteCells_at (F i) j (by rw [hF1]; exact hj)).symm
end Go.Proofs.YtcmkjgodgocdfaaDoor
