/- Texts put together, in build order: T8, T9, U1, U2, U3, U4, U5, U6, U7, L1, D6, W5. -/
import Derived.Test.YtcmkjgodgocdfaaDoorZq4
import Derived.Test.YtcmkjgodgocdfaaDoorZq3
/- What works() is about: three leaves. -/
namespace Go.Proofs.YtcmkjgodgocdfaaDoor
open Go.RowKit

def dg (k : UInt8) : Dig := k :: List.replicate 31 0
theorem dg_len (k : UInt8) : (dg k).length = 32 := by simp [dg]
def three : List Dig := [dg 1, dg 2, dg 3]
theorem three_all : All32 three := ((All32.one (dg_len 1)).snoc (dg_len 2)).snoc (dg_len 3)
theorem three_rows : rowsL (three.map markL) = [[markL (dg 1), markL (dg 2), markL (dg 3)], [bothL (markL (dg 1)) (markL (dg 2)), markL (dg 3)], [bothL (bothL (markL (dg 1)) (markL (dg 2))) (markL (dg 3))]] := by
  show rowsL [markL (dg 1), markL (dg 2), markL (dg 3)] = _
  rw [rowsL_more (by simp)]
  show _ :: rowsL [bothL (markL (dg 1)) (markL (dg 2)), markL (dg 3)] = _
  rw [rowsL_more (by simp)]
  show _ :: _ :: rowsL [bothL (bothL (markL (dg 1)) (markL (dg 2))) (markL (dg 3))] = _
  rw [rowsL_last (by simp)]
theorem three_root : rootOf three = bothL (bothL (markL (dg 1)) (markL (dg 2))) (markL (dg 3)) := by unfold rootOf; rw [three_rows]; rfl
theorem three_path : pathOf three 2 = [bothL (markL (dg 1)) (markL (dg 2))] := by unfold pathOf; rw [three_rows]; rfl
theorem three_sides : sidesL 2 3 = [true] := by
  rw [sidesL_no (by decide) (by decide)]
  show sidesL 1 2 = _
  rw [sidesL_yes (by decide) (by decide)]
  show _ :: sidesL 0 1 = _
  rw [sidesL_stop (by decide)]
  rfl
theorem three_up : upL (sidesL 2 3) (pathOf three 2) (markL (dg 3)) = rootOf three := by rw [three_sides, three_path, three_root]; rfl
set_option maxRecDepth 100000 in
theorem three_ne : (bothL (bothL (markL (dg 1)) (markL (dg 2))) (markL (dg 3)) == List.replicate 32 0) = false := by decide +kernel
theorem run_build_dig (w : World) (k : UInt8) : (Instr.build 30 #[(0, .int .u8 (bv k))]).run Tryd.prog w = .ok (.agg (byteCells (dg k))) w := by
  kernel_rfl
theorem run_build_zero (w : World) : (Instr.build 30 #[]).run Tryd.prog w = .ok (.agg (byteCells (List.replicate 32 0))) w := by
  kernel_rfl
theorem run_build_three (w : World) : (Instr.buildSlice 22 3 #[(0, .agg (byteCells (dg 1))), (1, .agg (byteCells (dg 2))), (2, .agg (byteCells (dg 3)))]).run Tryd.prog w = .ok (.slice (some ⟨w.heap.size, 0, none⟩) 3 3) (w.alloc (.cells (three.flatten.map bc).toArray 30)) :=
  run_buildSlice_digs w three _ three_all (by simp [three]) (by simp [three]) (by simp [three])
end Go.Proofs.YtcmkjgodgocdfaaDoor
/- works(): three leaves, the last one's path. -/
namespace Go.Proofs.YtcmkjgodgocdfaaDoor
open Go.RowKit

theorem wpList_build {w : World} {ops : Array Oper} {rest : List Oper} {o : Oper} {a : Act} {Q : Exit → Act → World → Prop} (hw : Region.wanted o (yielded ops a.tmps) = true) (parts : Array (Nat × Operand)) (ho : o.op = .build 30 parts) (vals : Array (Nat × Value)) (d : Dig)
    (hv : parts.map (fun (i, x) => (i, a.eval x)) = vals) (hrun : (Instr.build 30 vals).run Tryd.prog w = .ok (.agg (byteCells d)) w)
    (h : wpList Tryd.prog ops Q rest (a.put o.dst (.agg (byteCells d))) w) : wpList Tryd.prog ops Q (o :: rest) a w := by
  refine wpList_run hw ?_ h
  unfold execOp
  simp only [ho]
  have hv' : parts.map (fun x => match x with | (i, x) => (i, a.eval x)) = vals := hv
  simp only [hv', Sem.run_bind, hrun, Result.andThen_ok, Sem.run_pure]
theorem wpList_buildSlice {w w' : World} {ops : Array Oper} {rest : List Oper} {o : Oper} {a : Act} {Q : Exit → Act → World → Prop} (hw : Region.wanted o (yielded ops a.tmps) = true) (n : Nat) (parts : Array (Nat × Operand)) (ho : o.op = .buildSlice 22 n parts) (vals : Array (Nat × Value)) (v : Value)
    (hv : parts.map (fun (i, x) => (i, a.eval x)) = vals) (hrun : (Instr.buildSlice 22 n vals).run Tryd.prog w = .ok v w')
    (h : wpList Tryd.prog ops Q rest (a.put o.dst v) w') : wpList Tryd.prog ops Q (o :: rest) a w := by
  refine wpList_run hw ?_ h
  unfold execOp
  simp only [ho]
  have hv' : parts.map (fun x => match x with | (i, x) => (i, a.eval x)) = vals := hv
  simp only [hv', Sem.run_bind, hrun, Result.andThen_ok, Sem.run_pure]
set_option maxRecDepth 100000 in
set_option maxHeartbeats 1000000 in
theorem works_any (w : World) (hg : Glob w) : Calls Tryd.prog 13 #[] w fun e w' => e = .returned (.bool true) ∧ Below w.heap.size w w' := by
  have hgs := hg.size
  have hdg := digs_new w three three_all (by simp [three])
  have hB0 := (Below.refl w.heap.size w).alloc (Nat.le_refl _) (.cells (three.flatten.map bc).toArray 30)
  have hb3 := run_build_three w
  have hl3 : three.length = 3 := rfl
  obtain ⟨W0, hW0⟩ : ∃ W0, w.alloc (.cells (three.flatten.map bc).toArray 30) = W0 := ⟨_, rfl⟩
  rw [hW0] at hdg hB0 hb3
  rw [hl3] at hdg
  have hs0 : w.heap.size < W0.heap.size := by rw [← hW0]; simp
  clear hW0
  have hnew := tnew_any _ three W0 hdg (by decide) (by decide)
  go_enter Tryd.func13, Tryd.ntmps13
  go_wp2_with (first
    | refine wpList_build (by rfl) _ rfl #[(0, .int .u8 (bv 1))] (dg 1) (by rfl) (run_build_dig _ 1) ?_
    | refine wpList_build (by rfl) _ rfl #[(0, .int .u8 (bv 2))] (dg 2) (by rfl) (run_build_dig _ 2) ?_
    | refine wpList_build (by rfl) _ rfl #[(0, .int .u8 (bv 3))] (dg 3) (by rfl) (run_build_dig _ 3) ?_
    | refine wpList_buildSlice (by rfl) 3 _ rfl #[(0, .agg (byteCells (dg 1))), (1, .agg (byteCells (dg 2))), (2, .agg (byteCells (dg 3)))] _ (by kernel_rfl) hb3 ?_)
  refine hnew.mono ?_
  clear hnew
  rintro e W1 ⟨tb, rfl, hT1, hB1⟩
  have hBw1 : Below w.heap.size w W1 := hB0.trans (hB1.mono (by omega))
  have hg1 := hg.below hBw1 hg.size
  have hrt := troot_any hT1 hg1
  go_wp2_with fail
  refine hrt.mono ?_
  clear hrt
  rintro e W2 ⟨rfl, hB2⟩
  have hr32 := (rootOf_spec (ds := three) (by decide)).2.1
  obtain ⟨R, hR⟩ : ∃ R, rootOf three = R := ⟨_, rfl⟩
  rw [hR] at hr32 ⊢
  have hRs : (byteCells R).size = 32 := by rw [byteCells_size, hr32]
  have hn2 := has_new W2 (zeroCells 32) 30 W2.heap.size rfl
  go_upto_region 3 with (refine wpList_store_row rfl 30 _ _ rfl W2.heap.size (byteCells R) rfl rfl 30 _ hn2 (by rw [hRs]; kernel_rfl) (by rw [hRs, zeroCells_size]) (byteCells_one _) ?_)
  refine named (p := Code.wp _ _ _ _) ?_
  intro W3 hW3
  have hB3 : Below W2.heap.size W2 W3 := by
    rw [hW3]; exact ((Below.refl _ _).alloc (Nat.le_refl _) _).trans ⟨rfl, rfl, rfl, by simp, fun j hj => setRow_other _ _ _ _ (by omega)⟩
  have y0 : Has W3 W2.heap.size (byteCells R) 30 := by rw [hW3]; exact setRow_heap _ _ _ _ _ _ hn2
  clear hW3 hn2
  have hs2 := hB2.size
  have hs1 := hBw1.size
  have hB13 : Below W1.heap.size W1 W3 := hB2.trans (hB3.mono hs2)
  have hT3 := hT1.below hB13
  have hg3 := hg1.below hB13 hg1.size
  have hpt := path_ok hT3 hg3 2 (by decide)
  go_wp2_with fail
  refine hpt.mono ?_
  clear hpt
  rintro e W4 ⟨v4, rfl, ho4, hB4⟩
  have hp1 : (pathOf three 2).length = 1 := by rw [three_path]; rfl
  obtain ⟨a4, c4, hv4⟩ := ho4.slice
  rw [hp1] at hv4
  subst hv4
  have hst := steps_ok 2 3 (by decide) (by decide) W4
  rw [three_sides] at hst
  go_wp2_with fail
  refine hst.mono ?_
  clear hst
  rintro e W5 ⟨rfl, hB5⟩
  have hm0 : mayB ((0 : Nat) : Int) = false := by decide
  have hnb := tnew_bad none 0 0 W5 hm0
  have hs3 := y0.lt
  have hs4 := hB4.size
  have hB35 : Below W3.heap.size W3 W5 := hB4.trans (hB5.mono hs4)
  have y5 := y0.below hB35 y0.lt
  have hg5 := hg3.below hB35 hg3.size
  have hBw5 : Below w.heap.size w W5 := (hBw1.trans (hB13.mono hs1)).trans (hB35.mono (by omega))
  have hd5 := (ho4.below hB5).digs (by have := hg5.size; omega)
  have hup : ∀ w1, Below W5.heap.size W5 w1 → Calls Tryd.prog 25 #[.agg (byteCells (dg 3)), .int .i64 2, .int .i64 3, .slice a4 1 c4] w1 fun e w' => e = .returned (.tuple #[.agg (byteCells R), .int .i64 0]) ∧ Below w1.heap.size w1 w' := fun w1 hw1 => by
    have := up_ok (dg 3) 2 3 _ (pathOf three 2) w1 (dg_len 3) (by decide) (by decide) (hd5.below hw1) (by rw [hp1, three_sides]; rfl) (hg5.below hw1 hg5.size)
    rw [three_up, hR] at this
    exact this
  have hc1 := check_of R (dg 3) R 2 3 0 _ a4 1 c4 rfl W5 hr32 (dg_len 3) hr32 hup
  rw [show checkE 0 (R == R) = 0 by simp [checkE]] at hc1
  have hc2 : ∀ W6, Below W5.heap.size W5 W6 → Calls Tryd.prog 27 #[.agg (byteCells (List.replicate 32 0)), .agg (byteCells (dg 3)), .int .i64 2, .int .i64 3, .slice a4 1 c4] W6 fun e w' => e = .returned (.int .i64 140) ∧ Below W6.heap.size W6 w' := fun W6 h6 => by
    have := check_of (List.replicate 32 0) (dg 3) R 2 3 0 _ a4 1 c4 rfl W6 (by simp) (dg_len 3) hr32 (fun w1 hw1 => hup w1 (h6.trans (hw1.mono h6.size)))
    rw [show (R == List.replicate 32 0) = false by rw [← hR, three_root]; exact three_ne] at this
    exact this
  clear hup hB0 hB1 hB2 hB3 hB4 hB5 hB13 hB35 ho4 hT1 hT3 y0 hd5 hb3 hdg
  go_wp2_with (first
    | (go_at_call 14; refine hnb.mono ?_; rintro e w' ⟨rfl, hw⟩; obtain rfl := hw.symm)
    | (go_at_call 20; refine (num_any _ _).mono ?_; rintro e w' ⟨rfl, hw⟩; obtain rfl := hw.symm)
    | refine wpList_load_row_if (by rfl) 30 _ rfl W2.heap.size rfl 30 (byteCells R) (0, 0) _ y5 Tryd.underlying30 rfl (by rw [hRs]; kernel_rfl) ?_
    | (go_at_call 27; refine hc1.mono ?_; clear hc1; rintro e W6 ⟨rfl, hB6⟩; have hc3 := hc2 W6 hB6)
    | (go_at_call 27; refine hc3.mono ?_; clear hc3; rintro e W7 ⟨rfl, hB7⟩))
  go_ret
  have hs5 := hBw5.size
  exact ⟨rfl, (hBw5.trans (hB6.mono hs5)).trans (hB7.mono (by have := hB6.size; omega))⟩
end Go.Proofs.YtcmkjgodgocdfaaDoor
/- The document's Mark and Both. -/
namespace Go.Proofs.YtcmkjgodgocdfaaDoor
open Go.RowKit

set_option maxRecDepth 100000 in
set_option maxHeartbeats 1000000 in
theorem refmark_any (d : Dig) (w : World) (hd : d.length = 32) (hg : Glob w) : Calls Tryd.prog 38 #[.agg (byteCells d)] w fun e w' => e = .returned (.agg (byteCells (markL d))) ∧ Below w.heap.size w w' := by
  have hgs := hg.size
  have hbs : (byteCells d).size = 32 := by rw [byteCells_size, hd]
  go_enter Tryd.func38, Tryd.ntmps38
  go_upto_region 1 with (fail)
  refine named (p := Code.wp _ _ _ _) ?_
  intro W0 hW0
  have hz0 : w.heap.size + 2 ≤ W0.heap.size := by rw [hW0]; simp
  have hB0 : Below w.heap.size w W0 := by
    rw [hW0]
    repeat (first | exact Below.refl _ _ | refine Below.alloc ?_ (by simp <;> omega) _)
  have x0 : Has W0 w.heap.size (byteCells d) 30 := by
    rw [hW0]; repeat (first | (refine has_new _ _ _ _ ?_; simp; done) | refine has_old ?_)
  have x1 : Has W0 (w.heap.size + 1) (zeroCells 32) 30 := by
    rw [hW0]; repeat (first | (refine has_new _ _ _ _ ?_; simp; done) | refine has_old ?_)
  clear hW0
  have hn0 := has_new W0 #[.int .u8 0] 5 W0.heap.size rfl
  have ho0 : Own W0.heap.size (W0.alloc (.cells #[.int .u8 0] 5)) (.slice (some ⟨W0.heap.size, 0, none⟩) 1 1) [0] :=
    ⟨rfl, .inr ⟨_, 1, _, rfl, Nat.le_refl _, hn0, Nat.le_refl _, by simp only [maxLen]; omega, rfl, rfl⟩⟩
  have hBa := (Below.refl W0.heap.size W0).alloc (Nat.le_refl _) (.cells #[.int .u8 0] 5)
  have hby : Bytes (W0.alloc (.cells #[.int .u8 0] 5)) (.slice (some ⟨w.heap.size, 0, none⟩) 32 32) d := by
    have x0' := x0.below hBa x0.lt
    exact ⟨_, 32, w.heap.size, 0, by rw [hd], by omega, fun _ => rfl, fun j hj => by rw [x0'.cell, Nat.zero_add]; exact byteCells_at d j hj, x0'.lt⟩
  go_wp2_with (first
    | (refine wpList_append_bytes rfl _ _ 77 rfl info5 Tryd.underlying77 W0.heap.size _ _ [0] d rfl rfl ho0 hby (by simp; omega) (by simp) ?_; intro v1 W1 ho1 hg1; obtain ⟨a1, n1, c1, rfl⟩ : ∃ a n c, v1 = Value.slice a n c := (by obtain ⟨a, c, e⟩ := ho1.slice; exact ⟨a, _, c, e⟩)))
  have hlow := grown_keeps ho0 hg1 (by simp)
  have hB1 : Below W0.heap.size W0 W1 := hBa.trans hlow
  have hBw : Below w.heap.size w W1 := hB0.trans (hB1.mono (by omega))
  have hg1' := hg.below hBw hg.size
  have hb1 := ho1.bytes (by have := hg1'.size; omega)
  have hm : markL d = shaL ([0] ++ d) := rfl
  have hl1 : ([0] ++ d).length < 1000000000 := by simp; omega
  obtain ⟨L, hL⟩ : ∃ L, [0] ++ d = L := ⟨_, rfl⟩
  rw [hL] at hb1 hm hl1
  refine (refsum_any _ L W1 hb1 hl1).mono ?_
  rintro e W2 ⟨rfl, hB2⟩
  rw [← hm]
  have hm32 : (markL d).length = 32 := shaL_length _
  obtain ⟨x, hx⟩ : ∃ x, markL d = x := ⟨_, rfl⟩
  rw [hx] at hm32 ⊢
  have hxs : (byteCells x).size = 32 := by rw [byteCells_size, hm32]
  have hr := (x1.below hB1 x1.lt).below hB2 (Nat.lt_of_lt_of_le x1.lt hB1.size)
  clear hm hb1 hby ho0 ho1
  go_wp2_with (refine wpList_store_row rfl 30 _ _ rfl (w.heap.size + 1) (byteCells x) rfl rfl 30 _ hr (by rw [hxs]; kernel_rfl) (by rw [hxs, zeroCells_size]) (byteCells_one _) ?_)
  refine bodyPost_ret (results_cell_row rfl _ _ (w.heap.size + 1) 30 _ (0, 0) _ rfl (setRow_heap _ _ _ _ _ _ hr) Tryd.underlying30 rfl (by rw [hxs]; kernel_rfl)) rfl ?_
  exact ⟨by rw [hx], (hBw.trans (hB2.mono hBw.size)).trans ⟨rfl, rfl, rfl, by simp, fun j hj => setRow_other _ _ _ _ (by omega)⟩⟩
theorem wp_append_by {o : Oper} {a : Act} {w : World} {K : Act → World → Prop} {Q : Exit → Act → World → Prop} (s y : Operand)
    (ho : o.op = .call { callee := .builtin .append, args := #[s, y], argTypes := #[77, 77] }) (base : Nat) (v xv : Value) (d x : List UInt8) (hs : a.eval s = v) (hy : a.eval y = xv) (hown : Own base w v d) (hx : Bytes w xv x) (hsm : d.length + x.length ≤ 100000000000000) (hbase : base ≤ w.heap.size)
    (h : ∀ v' w', Own base w' v' (d ++ x) → w.grownBy w' v.ownBlock → K (a.put o.dst v') w') : o.wp Tryd.prog a w K Q := by
  obtain ⟨v', w', h1, h2, h3, _⟩ := run_append_bytes o.type info5 Tryd.underlying77 base w v xv d x hown hx hsm hbase
  unfold Oper.wp execOp
  simp only [ho, resolve, invoke, builtin, Sem.run_bind, Sem.run_pure, Result.andThen_ok, List.map_toArray, List.map_cons, List.map_nil, hs, hy, h1]
  exact h v' w' h2 h3
theorem bytes_has {w : World} {b : Nat} {d : Dig} (h : Has w b (byteCells d) 30) (hd : d.length = 32) : Bytes w (.slice (some ⟨b, 0, none⟩) 32 32) d :=
  ⟨_, 32, b, 0, by rw [hd], by omega, fun _ => rfl, fun j hj => by rw [h.cell, Nat.zero_add]; exact byteCells_at d j hj, h.lt⟩
set_option maxRecDepth 100000 in
set_option maxHeartbeats 1000000 in
theorem refboth_any (d e : Dig) (w : World) (hd : d.length = 32) (he : e.length = 32) (hg : Glob w) : Calls Tryd.prog 39 #[.agg (byteCells d), .agg (byteCells e)] w fun r w' => r = .returned (.agg (byteCells (bothL d e))) ∧ Below w.heap.size w w' := by
  have hgs := hg.size
  have hbs : (byteCells d).size = 32 := by rw [byteCells_size, hd]
  have hm : bothL d e = shaL (([1] ++ d) ++ e) := rfl
  have hx32 : (bothL d e).length = 32 := shaL_length _
  have hl1 : (([1] ++ d) ++ e).length < 1000000000 := by simp; omega
  obtain ⟨x, hx⟩ : ∃ x, bothL d e = x := ⟨_, rfl⟩
  rw [hx] at hm hx32 ⊢
  have hxs : (byteCells x).size = 32 := by rw [byteCells_size, hx32]
  go_enter Tryd.func39, Tryd.ntmps39
  go_upto_region 1 with (fail)
  refine named (p := Code.wp _ _ _ _) ?_
  intro W0 hW0
  have hz0 : w.heap.size + 3 ≤ W0.heap.size := by rw [hW0]; simp
  have hB0 : Below w.heap.size w W0 := by
    rw [hW0]
    repeat (first | exact Below.refl _ _ | refine Below.alloc ?_ (by simp <;> omega) _)
  have x0 : Has W0 w.heap.size (byteCells d) 30 := by
    rw [hW0]; repeat (first | (refine has_new _ _ _ _ ?_; simp; done) | refine has_old ?_)
  have x1 : Has W0 (w.heap.size + 1) (byteCells e) 30 := by
    rw [hW0]; repeat (first | (refine has_new _ _ _ _ ?_; simp; done) | refine has_old ?_)
  have x2 : Has W0 (w.heap.size + 2) (zeroCells 32) 30 := by
    rw [hW0]; repeat (first | (refine has_new _ _ _ _ ?_; simp; done) | refine has_old ?_)
  clear hW0
  simp only [Nat.add_assoc, Nat.reduceAdd]
  refine wp_region_K (S := fun _ => True) (fun _ => true) (by kernel_rfl) ?_
  refine K_take (i := 1) (v := .slice (some ⟨w.heap.size, 0, none⟩) 32 32) rfl (by kernel_rfl) (by kernel_rfl) (by kernel_rfl) (by kernel_rfl) (by kernel_rfl) (by rfl) (fun w' _ => by go_simp) trivial ?_
  refine K_take (i := 3) (v := .slice (some ⟨w.heap.size + 1, 0, none⟩) 32 32) rfl (by kernel_rfl) (by kernel_rfl) (by kernel_rfl) (by kernel_rfl) (by kernel_rfl) (by rfl) (fun w' _ => by go_simp) trivial ?_
  refine K_next (i := 0) (by kernel_rfl) rfl (by rfl) (fun K hK => ?_)
  go_simp
  refine hK _ _ (fun _ => trivial) ?_
  clear hK
  have hn0 := has_new W0.drew #[.int .u8 1] 5 W0.heap.size rfl
  have ho0 : Own W0.heap.size (W0.drew.alloc (.cells #[.int .u8 1] 5)) (.slice (some ⟨W0.heap.size, 0, none⟩) 1 1) [1] :=
    ⟨rfl, .inr ⟨_, 1, _, rfl, Nat.le_refl _, hn0, Nat.le_refl _, by simp only [maxLen]; omega, rfl, rfl⟩⟩
  have hBa : Below W0.heap.size W0 (W0.drew.alloc (.cells #[.int .u8 1] 5)) := (Below.refl W0.heap.size W0).drew.alloc (Nat.le_refl _) _
  refine K_next (i := 2) (by kernel_rfl) rfl (by rfl) (fun K hK => ?_)
  refine wp_append_by _ _ rfl W0.heap.size _ _ [1] d (by kernel_rfl) (by kernel_rfl) ho0 (bytes_has (x0.below hBa x0.lt) hd) (by simp; omega) hBa.size ?_
  intro v1 W1 ho1 hg1
  refine hK _ _ (fun _ => trivial) ?_
  clear hK
  have hB1 : Below W0.heap.size W0 W1 := hBa.trans (grown_keeps ho0 hg1 hBa.size)
  refine K_next (i := 4) (by kernel_rfl) rfl (by rfl) (fun K hK => ?_)
  refine wp_append_by _ _ rfl W0.heap.size v1 _ ([1] ++ d) e (by kernel_rfl) (by kernel_rfl) ho1 (bytes_has (x1.below hB1 x1.lt) he) (by simp; omega) hB1.size ?_
  intro v2 W2 ho2 hg2
  refine hK _ _ (fun _ => trivial) ?_
  clear hK
  have hB2 : Below W0.heap.size W0 W2 := hB1.trans (grown_keeps ho1 hg2 hB1.size)
  have hBw : Below w.heap.size w W2 := hB0.trans (hB2.mono (by omega))
  have hb2 := ho2.bytes (by have := hBw.size; omega)
  obtain ⟨a2, n2, c2, rfl⟩ : ∃ a n c, v2 = Value.slice a n c := by obtain ⟨a, c, e⟩ := ho2.slice; exact ⟨a, _, c, e⟩
  obtain ⟨L, hL⟩ : ∃ L, ([1] ++ d) ++ e = L := ⟨_, rfl⟩
  rw [hL] at hb2 hm hl1
  clear ho0 ho1 ho2
  refine K_next (i := 5) (by kernel_rfl) rfl (by rfl) (fun K hK => ?_)
  go_simp
  refine (refsum_any _ L W2 hb2 hl1).mono ?_
  rintro r W3 ⟨rfl, hB3⟩
  rw [← hm]
  refine hK _ _ (fun _ => trivial) ?_
  clear hK
  have hr := (x2.below hB2 x2.lt).below hB3 (Nat.lt_of_lt_of_le x2.lt hB2.size)
  refine K_next (i := 6) (by kernel_rfl) rfl (by rfl) (fun K hK => ?_)
  refine wp_store_dig _ _ rfl (w.heap.size + 2) x (by kernel_rfl) (by kernel_rfl) hx32 _ hr (by rw [zeroCells_size]) ?_
  refine hK _ _ (fun _ => trivial) (K_done (by kernel_rfl) ?_)
  clear hK
  go_wp2
  refine bodyPost_ret (results_cell_row rfl _ _ (w.heap.size + 2) 30 _ (0, 0) _ rfl (setRow_heap _ _ _ _ _ _ hr) Tryd.underlying30 rfl (by rw [hxs]; kernel_rfl)) rfl ?_
  exact ⟨rfl, (hBw.trans (hB3.mono hBw.size)).trans ⟨rfl, rfl, rfl, by simp, fun j hj => setRow_other _ _ _ _ (by omega)⟩⟩
end Go.Proofs.YtcmkjgodgocdfaaDoor
/- The document's Up. -/
namespace Go.Proofs.YtcmkjgodgocdfaaDoor
open Go.RowKit

set_option maxRecDepth 100000 in
set_option maxHeartbeats 1000000 in
theorem refup_ok (leaf : Dig) (i n : Nat) (pv : Value) (ds : List Dig) (w : World) (hl : leaf.length = 32) (hin : i < n) (hn : n ≤ 16) (hp : Digs w pv ds) (hlen : ds.length = (sidesL i n).length) (hg : Glob w) :
    Calls Tryd.prog 26 #[.agg (byteCells leaf), .int .i64 (i : Int), .int .i64 (n : Int), pv] w fun e w' => e = .returned (.tuple #[.agg (byteCells (upL (sidesL i n) ds (markL leaf))), .int .i64 0]) ∧ Below w.heap.size w w' := by
  have hgs := hg.size
  obtain ⟨h32, a, cap, g, o, rfl, hcap, hmx, ha, hinn, hgl⟩ := hp
  unfold maxLen at hmx
  have hs16 := sidesL_le n i
  have hbs : (byteCells leaf).size = 32 := by rw [byteCells_size, hl]
  have hst := refsteps_any (i : Int) (n : Int)
  have hE : stepsE (i : Int) (n : Int) = 0 := by
    unfold stepsE
    rw [show mayB (n : Int) = true by simp [mayB]; omega, show thereB (i : Int) (n : Int) = true by simp [thereB]; omega]
    rfl
  have hV : stepsV (i : Int) (n : Int) = ((sidesL i n).length : Int) := by
    unfold stepsV
    rw [show mayB (n : Int) = true by simp [mayB]; omega, show thereB (i : Int) (n : Int) = true by simp [thereB]; omega]
    rfl
  simp only [hE, hV] at hst
  obtain ⟨sd, hsd⟩ : ∃ sd, sidesL i n = sd := ⟨_, rfl⟩
  obtain ⟨m, hm⟩ : ∃ m, ds.length = m := ⟨_, rfl⟩
  rw [hsd] at hlen hs16 ⊢
  simp only [hsd] at hst
  rw [hm] at hlen hcap ⊢
  rw [← hlen] at hs16
  simp only [← hlen] at hst
  have HL : Hid (m = sd.length ∧ ds.length = m) := ⟨hlen, hm⟩
  have HS : Hid (sd = sd.take 0 ++ sidesL i n) := by rw [hsd]; rfl
  clear hsd hlen hm hE hV
  go_enter Tryd.func26, Tryd.ntmps26
  go_upto_region 6 with (go_at_call 29; refine (hst _).mono ?_; rintro e w' ⟨rfl, hw⟩; obtain rfl := hw.symm)
  refine named (p := Code.wp _ _ _ _) ?_
  intro W0 hW0
  have hz0 : w.heap.size + 2 ≤ W0.heap.size := by rw [hW0]; simp
  have hB0 : Below w.heap.size w W0 := by
    rw [hW0]
    repeat (first | exact Below.refl _ _ | refine Below.alloc ?_ (by simp <;> omega) _)
  have x0 : Has W0 w.heap.size (byteCells leaf) 30 := by
    rw [hW0]; repeat (first | (refine has_new _ _ _ _ ?_; simp; done) | refine has_old ?_)
  have x1 : Has W0 (w.heap.size + 1) (zeroCells 32) 30 := by
    rw [hW0]; repeat (first | (refine has_new _ _ _ _ ?_; simp; done) | refine has_old ?_)
  clear hW0 hst
  have hg0 := hg.below hB0 hg.size
  have hmk := refmark_any leaf W0 hl hg0
  have hm32 : (markL leaf).length = 32 := shaL_length _
  obtain ⟨x, hx⟩ : ∃ x, markL leaf = x := ⟨_, rfl⟩
  rw [hx] at hm32 hmk
  have HX : Hid (markL leaf = x) := hx
  clear hx
  have hxs : (byteCells x).size = 32 := by rw [byteCells_size, hm32]
  go_wp2_with (refine wpList_load_row rfl 30 _ rfl w.heap.size rfl 30 (byteCells leaf) (0, 0) _ x0 Tryd.underlying30 rfl (by rw [hbs]; kernel_rfl) ?_)
  refine hmk.mono ?_
  rintro e W1 ⟨rfl, hB1⟩
  have hn1 := has_new W1 (zeroCells 32) 30 W1.heap.size rfl
  go_upto_region 7 with (refine wpList_store_row rfl 30 _ _ rfl W1.heap.size (byteCells x) rfl rfl 30 _ hn1 (by rw [hxs]; kernel_rfl) (by rw [hxs, zeroCells_size]) (byteCells_one _) ?_)
  refine named (p := Code.wp _ _ _ _) ?_
  intro W2 hW2
  have hB2 : Below W1.heap.size W1 W2 := by
    rw [hW2]; exact ((Below.refl _ _).alloc (Nat.le_refl _) _).trans ⟨rfl, rfl, rfl, by simp, fun j hj => setRow_other _ _ _ _ (by omega)⟩
  have y0 : Has W2 W1.heap.size (byteCells x) 30 := by rw [hW2]; exact setRow_heap _ _ _ _ _ _ hn1
  clear hW2 hn1 hmk
  have hz1 := hB1.size
  have y1 := (x1.below hB1 x1.lt).below hB2 (Nat.lt_of_lt_of_le x1.lt hz1)
  have hBw : Below w.heap.size w W2 := (hB0.trans (hB1.mono (by omega))).trans (hB2.mono (by omega))
  obtain ⟨ab, hab⟩ : ∃ ab, W1.heap.size = ab := ⟨_, rfl⟩
  have habl : w.heap.size + 2 ≤ ab := by omega
  rw [hab] at y0 ⊢
  clear x0 x1 hB0 hB1 hB2 hab hz1 hz0
  go_wp2_with fail
  go_loopw [1, 2, 13] (fun iv nv kv wr => ∃ I N k : Nat, I < N ∧ N ≤ 16 ∧ k ≤ 16 ∧ iv = .int .i64 I ∧ nv = .int .i64 N ∧ kv = .int .i64 k ∧ Hid (sd = sd.take k ++ sidesL I N) ∧ Hid (k ≤ sd.length) ∧ Has wr ab (byteCells (upL (sd.take k) (ds.take k) x)) 30 ∧ Has wr (w.heap.size + 1) (zeroCells 32) 30 ∧ Below w.heap.size w wr) (fun _ nv _ _ => (intOf nv).toNat)
  case atStart => exact ⟨i, n, 0, hin, hn, by omega, rfl, rfl, rfl, HS, Nat.zero_le _, y0, y1, hBw⟩
  case round =>
    clear y0 y1 hBw
    obtain ⟨I, N, k, a1, a2, a3, rfl, rfl, rfl, hs, hk, y0, y1, hBw⟩ := hrel
    have hy32 := upL_len (sd.take k) (ds.take k) x hm32
    have hgr := hg.below hBw hg.size
    by_cases hc : 1 < N
    · by_cases ho : I % 2 = 1
      · have ei : (I : Int) % 2 = 1 := by omega
        have hy0 := sidesL_yes hc (show oth I < N by unfold oth; rw [if_pos ho]; omega)
        rw [decide_eq_true ho] at hy0
        have hs' := hs.out
        rw [hy0] at hs'
        have hget : sd[k]? = some true := by
          have e1 : (sd.take k).length = k := by rw [List.length_take]; have := hk.out; omega
          rw [hs', List.getElem?_append_right (by omega), e1, Nat.sub_self]; rfl
        have hkl := (List.getElem?_eq_some_iff.1 hget).1
        have hk1 : Hid (k + 1 ≤ sd.length) := hkl
        have hkm : k < m := by have := HL.out; omega
        have hk2 : k + 1 ≤ 16 := by omega
        have hkd : k < ds.length := by have := HL.out; omega
        have hs2 : Hid (sd = sd.take (k + 1) ++ sidesL (I / 2) ((N + 1) / 2)) := by
          show _ = _
          rw [List.take_add_one, hget]
          simpa using hs'
        have hstep := upL_take (qs := ds) (by have := HL.out; omega) hget x
        rw [if_pos rfl] at hstep
        have hq32 := h32.at_ hkd
        have hrq := rangeAt_block (hinn k hkd) (hBw.block g hgl)
        obtain ⟨q, hqq⟩ : ∃ q, ds[k]?.getD [] = q := ⟨_, rfl⟩
        rw [hqq] at hstep hq32 hrq
        obtain ⟨y, hyy⟩ : ∃ y, upL (sd.take k) (ds.take k) x = y := ⟨_, rfl⟩
        rw [hyy] at hstep hy32 y0
        have hys : (byteCells y).size = 32 := by rw [byteCells_size, hy32]
        obtain rfl := ha (by intro e; simp [e] at hkd)
        have hbt := refboth_any q y wr.drew hq32 hy32 ⟨hgr.sq, hgr.cu, hgr.size⟩
        have hz32 : (bothL q y).length = 32 := both_len _ _
        obtain ⟨z, hz⟩ : ∃ z, bothL q y = z := ⟨_, rfl⟩
        rw [hz] at hbt hz32 hstep
        have HST : Hid (upL (sd.take (k + 1)) (ds.take (k + 1)) x = z) := hstep
        clear hs' hs hget hstep hqq hyy hz hy0 hkl
        go_wp2_with fail
        have hS0 : Has wr ab (byteCells y) 30 ∧ wr.rangeAt g (o + k * 32) (byteCells q).toList := ⟨y0, hrq⟩
        refine wp_region_K (S := fun X => Has X ab (byteCells y) 30 ∧ X.rangeAt g (o + k * 32) (byteCells q).toList) (fun i => decide (i < 6)) (by kernel_rfl) ?_
        refine K_take (i := 0) (v := .slice (some ⟨g, o, none⟩) m cap) rfl (by kernel_rfl) (by kernel_rfl) (by kernel_rfl) (by kernel_rfl) (by kernel_rfl) (by rfl) (fun w' hS => by go_simp) hS0 ?_
        refine K_take (i := 1) (v := .int .i64 (k : Int)) rfl (by kernel_rfl) (by kernel_rfl) (by kernel_rfl) (by kernel_rfl) (by kernel_rfl) (by rfl) (fun w' hS => by go_simp) hS0 ?_
        refine K_take (i := 4) (v := .agg (byteCells y)) rfl (by kernel_rfl) (by kernel_rfl) (by kernel_rfl) (by kernel_rfl) (by kernel_rfl) (by rfl) (fun w' hS => by exact run_load_row _ rfl ab (by kernel_rfl) y hy32 hS.1) hS0 ?_
        refine K_take (i := 2) (v := .pointer (some ⟨g, o + k * 32, none⟩)) rfl (by kernel_rfl) (by kernel_rfl) (by kernel_rfl) (by kernel_rfl) (by kernel_rfl) (by rfl) (fun w' hS => by go_simp) hS0 ?_
        refine K_take (i := 3) (v := .agg (byteCells q)) rfl (by kernel_rfl) (by kernel_rfl) (by kernel_rfl) (by kernel_rfl) (by kernel_rfl) (by rfl) (fun w' hS => by exact run_load_mid _ rfl g (o + k * 32) (by kernel_rfl) q hq32 hS.2) hS0 ?_
        refine K_next (i := 5) (by kernel_rfl) rfl (by rfl) (fun K hK => ?_)
        go_simp
        refine hbt.mono ?_
        clear hbt
        rintro e W3 ⟨rfl, hB3⟩
        have hB3' : Below wr.heap.size wr W3 := (Below.refl _ wr).drew.trans hB3
        have hglr : g < wr.heap.size := Nat.lt_of_lt_of_le hgl hBw.size
        refine hK _ _ (fun _ => ⟨y0.below hB3' y0.lt, rangeAt_block hrq (hB3'.block g hglr)⟩) ?_
        clear hK
        refine K_next (i := 6) (by kernel_rfl) rfl (by rfl) (fun K hK => ?_)
        refine wp_store_dig _ _ rfl ab z (by kernel_rfl) (by kernel_rfl) hz32 _ (y0.below hB3' y0.lt) (by rw [hys]) ?_
        refine hK _ _ (fun h => absurd h (by decide)) (K_done (by kernel_rfl) ?_)
        clear hK hS0
        have hX := Ex.setRow ab W3 (byteCells z)
        have z0 : Has (W3.setRow ab (byteCells z)) ab (byteCells z) 30 := setRow_heap _ _ _ _ _ _ (y0.below hB3' y0.lt)
        have z1 := (y1.below hB3' y1.lt).ex hX (by omega)
        have hz3 := hB3'.size
        have hzw := hBw.size
        have hBn : Below w.heap.size w (W3.setRow ab (byteCells z)) := (hBw.trans (hB3'.mono (by omega))).trans (hX.low (by omega) (by omega))
        obtain ⟨W4, hW4⟩ : ∃ W4, W3.setRow ab (byteCells z) = W4 := ⟨_, rfl⟩
        rw [hW4] at z0 z1 hBn ⊢
        clear hW4 hX
        go_wp2_with fail
        go_roundw
        case rel => exact ⟨I / 2, (N + 1) / 2, k + 1, by omega, by omega, hk2, by go_num, by go_num, by go_num, hs2, hk1, by rw [HST.out]; exact z0, z1, hBn⟩
        case measure => simp [intOf]; omega
      · have ei : (I : Int) % 2 = 0 := by omega
        by_cases hl2 : I + 1 < N
        · have hl3 : (I : Int) + 1 < (N : Int) := by omega
          have hy0 := sidesL_yes hc (show oth I < N by unfold oth; rw [if_neg ho]; omega)
          rw [decide_eq_false ho] at hy0
          have hs' := hs.out
          rw [hy0] at hs'
          have hget : sd[k]? = some false := by
            have e1 : (sd.take k).length = k := by rw [List.length_take]; have := hk.out; omega
            rw [hs', List.getElem?_append_right (by omega), e1, Nat.sub_self]; rfl
          have hkl := (List.getElem?_eq_some_iff.1 hget).1
          have hk1 : Hid (k + 1 ≤ sd.length) := hkl
          have hkm : k < m := by have := HL.out; omega
          have hk2 : k + 1 ≤ 16 := by omega
          have hkd : k < ds.length := by have := HL.out; omega
          have hs2 : Hid (sd = sd.take (k + 1) ++ sidesL (I / 2) ((N + 1) / 2)) := by
            show _ = _
            rw [List.take_add_one, hget]
            simpa using hs'
          have hstep := upL_take (qs := ds) (by have := HL.out; omega) hget x
          rw [if_neg (by decide)] at hstep
          have hq32 := h32.at_ hkd
          have hrq := rangeAt_block (hinn k hkd) (hBw.block g hgl)
          obtain ⟨q, hqq⟩ : ∃ q, ds[k]?.getD [] = q := ⟨_, rfl⟩
          rw [hqq] at hstep hq32 hrq
          obtain ⟨y, hyy⟩ : ∃ y, upL (sd.take k) (ds.take k) x = y := ⟨_, rfl⟩
          rw [hyy] at hstep hy32 y0
          have hys : (byteCells y).size = 32 := by rw [byteCells_size, hy32]
          obtain rfl := ha (by intro e; simp [e] at hkd)
          have hbt := refboth_any y q wr.drew hy32 hq32 ⟨hgr.sq, hgr.cu, hgr.size⟩
          have hz32 : (bothL y q).length = 32 := both_len _ _
          obtain ⟨z, hz⟩ : ∃ z, bothL y q = z := ⟨_, rfl⟩
          rw [hz] at hbt hz32 hstep
          have HST : Hid (upL (sd.take (k + 1)) (ds.take (k + 1)) x = z) := hstep
          clear hs' hs hget hstep hqq hyy hz hy0 hkl
          go_wp2_with fail
          have hS0 : Has wr ab (byteCells y) 30 ∧ wr.rangeAt g (o + k * 32) (byteCells q).toList := ⟨y0, hrq⟩
          refine wp_region_K (S := fun X => Has X ab (byteCells y) 30 ∧ X.rangeAt g (o + k * 32) (byteCells q).toList) (fun i => decide (i < 6)) (by kernel_rfl) ?_
          refine K_take (i := 0) (v := .agg (byteCells y)) rfl (by kernel_rfl) (by kernel_rfl) (by kernel_rfl) (by kernel_rfl) (by kernel_rfl) (by rfl) (fun w' hS => by exact run_load_row _ rfl ab (by kernel_rfl) y hy32 hS.1) hS0 ?_
          refine K_take (i := 1) (v := .slice (some ⟨g, o, none⟩) m cap) rfl (by kernel_rfl) (by kernel_rfl) (by kernel_rfl) (by kernel_rfl) (by kernel_rfl) (by rfl) (fun w' hS => by go_simp) hS0 ?_
          refine K_take (i := 2) (v := .int .i64 (k : Int)) rfl (by kernel_rfl) (by kernel_rfl) (by kernel_rfl) (by kernel_rfl) (by kernel_rfl) (by rfl) (fun w' hS => by go_simp) hS0 ?_
          refine K_take (i := 3) (v := .pointer (some ⟨g, o + k * 32, none⟩)) rfl (by kernel_rfl) (by kernel_rfl) (by kernel_rfl) (by kernel_rfl) (by kernel_rfl) (by rfl) (fun w' hS => by go_simp) hS0 ?_
          refine K_take (i := 4) (v := .agg (byteCells q)) rfl (by kernel_rfl) (by kernel_rfl) (by kernel_rfl) (by kernel_rfl) (by kernel_rfl) (by rfl) (fun w' hS => by exact run_load_mid _ rfl g (o + k * 32) (by kernel_rfl) q hq32 hS.2) hS0 ?_
          refine K_next (i := 5) (by kernel_rfl) rfl (by rfl) (fun K hK => ?_)
          go_simp
          refine hbt.mono ?_
          clear hbt
          rintro e W3 ⟨rfl, hB3⟩
          have hB3' : Below wr.heap.size wr W3 := (Below.refl _ wr).drew.trans hB3
          have hglr : g < wr.heap.size := Nat.lt_of_lt_of_le hgl hBw.size
          refine hK _ _ (fun _ => ⟨y0.below hB3' y0.lt, rangeAt_block hrq (hB3'.block g hglr)⟩) ?_
          clear hK
          refine K_next (i := 6) (by kernel_rfl) rfl (by rfl) (fun K hK => ?_)
          refine wp_store_dig _ _ rfl ab z (by kernel_rfl) (by kernel_rfl) hz32 _ (y0.below hB3' y0.lt) (by rw [hys]) ?_
          refine hK _ _ (fun h => absurd h (by decide)) (K_done (by kernel_rfl) ?_)
          clear hK hS0
          have hX := Ex.setRow ab W3 (byteCells z)
          have z0 : Has (W3.setRow ab (byteCells z)) ab (byteCells z) 30 := setRow_heap _ _ _ _ _ _ (y0.below hB3' y0.lt)
          have z1 := (y1.below hB3' y1.lt).ex hX (by omega)
          have hz3 := hB3'.size
          have hzw := hBw.size
          have hBn : Below w.heap.size w (W3.setRow ab (byteCells z)) := (hBw.trans (hB3'.mono (by omega))).trans (hX.low (by omega) (by omega))
          obtain ⟨W4, hW4⟩ : ∃ W4, W3.setRow ab (byteCells z) = W4 := ⟨_, rfl⟩
          rw [hW4] at z0 z1 hBn ⊢
          clear hW4 hX
          go_wp2_with fail
          go_roundw
          case rel => exact ⟨I / 2, (N + 1) / 2, k + 1, by omega, by omega, hk2, by go_num, by go_num, by go_num, hs2, hk1, by rw [HST.out]; exact z0, z1, hBn⟩
          case measure => simp [intOf]; omega
        · have hs2 : Hid (sd = sd.take k ++ sidesL (I / 2) ((N + 1) / 2)) := by
            have := hs.out; rw [sidesL_no hc (show ¬ oth I < N by unfold oth; rw [if_neg ho]; omega)] at this; exact this
          clear hs
          go_wp2_with fail
          go_roundw
          case rel => exact ⟨I / 2, (N + 1) / 2, k, by omega, by omega, a3, by go_num, by go_num, by go_num, hs2, hk, y0, y1, hBw⟩
          case measure => simp [intOf]; omega
    · have hs' := hs.out
      rw [sidesL_stop hc, List.append_nil] at hs'
      have hkk : k = sd.length := by
        have := congrArg List.length hs'
        rw [List.length_take] at this
        have := hk.out
        omega
      rw [hkk, List.take_of_length_le (Nat.le_refl _), List.take_of_length_le (by have := HL.out; omega)] at y0
      rw [hkk, List.take_of_length_le (Nat.le_refl _), List.take_of_length_le (by have := HL.out; omega)] at hy32
      clear hs' hs hkk
      obtain ⟨y, hy⟩ : ∃ y, upL sd ds x = y := ⟨_, rfl⟩
      rw [hy] at y0 hy32
      have hys : (byteCells y).size = 32 := by rw [byteCells_size, hy32]
      have HY : Hid (upL sd ds x = y) := hy
      clear hy
      go_wp2_with (first
        | refine wpList_load_row rfl 30 _ rfl ab rfl 30 (byteCells y) (0, 0) _ y0 Tryd.underlying30 rfl (by rw [hys]; kernel_rfl) ?_
        | refine wpList_store_row rfl 30 _ _ rfl (w.heap.size + 1) (byteCells y) rfl rfl 30 _ y1 (by rw [hys]; kernel_rfl) (by rw [hys, zeroCells_size]) (byteCells_one _) ?_)
      refine bodyPost_ret (results_two rfl _ _ (w.heap.size + 1) _ _ rfl rfl (setRow_heap _ _ _ _ _ _ y1) hys) rfl ?_
      exact ⟨by rw [HX.out, HY.out], hBw.trans ⟨rfl, rfl, rfl, by simp, fun j hj => setRow_other _ _ _ _ (by omega)⟩⟩
end Go.Proofs.YtcmkjgodgocdfaaDoor
/- Up, whatever the path: program and document. -/
namespace Go.Proofs.YtcmkjgodgocdfaaDoor
open Go.RowKit

def zero32 : Dig := List.replicate 32 0
theorem zero32_cells : byteCells zero32 = zeroCells 32 := rfl
theorem zero32_len : zero32.length = 32 := rfl
def upE (i n : Int) (m : Nat) : Int := if stepsE i n = 0 then (if stepsV i n = (m : Int) then 0 else 140) else stepsE i n
def upV (leaf : Dig) (i n : Int) (ds : List Dig) : Dig := if upE i n ds.length = 0 then upL (sidesL i.toNat n.toNat) ds (markL leaf) else zero32

set_option maxRecDepth 100000 in
set_option maxHeartbeats 1000000 in
theorem refup_bad (leaf : Dig) (i n V E : Int) (pv : Value) (a : Option Addr) (m cap : Nat) (hpv : pv = .slice a m cap) (w : World) (hst : ∀ w, Calls Tryd.prog 29 #[.int .i64 i, .int .i64 n] w fun e w' => e = .returned (.tuple #[.int .i64 V, .int .i64 E]) ∧ w' = w) (hbad : ¬ E = 0 ∨ (E = 0 ∧ ¬ (m : Int) = V)) :
    Calls Tryd.prog 26 #[.agg (byteCells leaf), .int .i64 i, .int .i64 n, pv] w fun e w' => e = .returned (.tuple #[.agg (byteCells zero32), .int .i64 (if E = 0 then 140 else E)]) ∧ Below w.heap.size w w' := by
  subst hpv
  rw [zero32_cells]
  rcases hbad with h | ⟨rfl, h⟩
  · rw [if_neg h]
    go_enter Tryd.func26, Tryd.ntmps26
    go_upto_region 3 with (go_at_call 29; refine (hst _).mono ?_; rintro e w' ⟨rfl, hw⟩; obtain rfl := hw.symm)
    refine named (p := Code.wp _ _ _ _) ?_
    intro W0 hW0
    have hB0 : Below w.heap.size w W0 := by
      rw [hW0]
      repeat (first | exact Below.refl _ _ | refine Below.alloc ?_ (by simp <;> omega) _)
    have x1 : Has W0 (w.heap.size + 1) (zeroCells 32) 30 := by
      rw [hW0]; repeat (first | (refine has_new _ _ _ _ ?_; simp; done) | refine has_old ?_)
    clear hW0
    go_wp2_with (refine wpList_store_row rfl 30 _ _ rfl (w.heap.size + 1) (zeroCells 32) rfl rfl 30 _ x1 (by kernel_rfl) rfl (by kernel_rfl) ?_)
    refine bodyPost_ret (results_two rfl _ _ (w.heap.size + 1) _ _ rfl rfl (setRow_heap _ _ _ _ _ _ x1) rfl) rfl ?_
    exact ⟨rfl, hB0.trans ⟨rfl, rfl, rfl, by simp, fun j hj => setRow_other _ _ _ _ (by omega)⟩⟩
  · rw [if_pos rfl]
    go_enter Tryd.func26, Tryd.ntmps26
    go_upto_region 5 with (go_at_call 29; refine (hst _).mono ?_; rintro e w' ⟨rfl, hw⟩; obtain rfl := hw.symm)
    refine named (p := Code.wp _ _ _ _) ?_
    intro W0 hW0
    have hB0 : Below w.heap.size w W0 := by
      rw [hW0]
      repeat (first | exact Below.refl _ _ | refine Below.alloc ?_ (by simp <;> omega) _)
    have x1 : Has W0 (w.heap.size + 1) (zeroCells 32) 30 := by
      rw [hW0]; repeat (first | (refine has_new _ _ _ _ ?_; simp; done) | refine has_old ?_)
    clear hW0
    go_wp2_with (refine wpList_store_row rfl 30 _ _ rfl (w.heap.size + 1) (zeroCells 32) rfl rfl 30 _ x1 (by kernel_rfl) rfl (by kernel_rfl) ?_)
    refine bodyPost_ret (results_two rfl _ _ (w.heap.size + 1) _ _ rfl rfl (setRow_heap _ _ _ _ _ _ x1) rfl) rfl ?_
    exact ⟨rfl, hB0.trans ⟨rfl, rfl, rfl, by simp, fun j hj => setRow_other _ _ _ _ (by omega)⟩⟩
set_option maxRecDepth 100000 in
set_option maxHeartbeats 1000000 in
theorem up_bad (leaf : Dig) (i n V E : Int) (pv : Value) (a : Option Addr) (m cap : Nat) (hpv : pv = .slice a m cap) (w : World) (hst : ∀ w, Calls Tryd.prog 28 #[.int .i64 i, .int .i64 n] w fun e w' => e = .returned (.tuple #[.int .i64 V, .int .i64 E]) ∧ Below w.heap.size w w') (hbad : ¬ E = 0 ∨ (E = 0 ∧ ¬ V = (m : Int))) :
    Calls Tryd.prog 25 #[.agg (byteCells leaf), .int .i64 i, .int .i64 n, pv] w fun e w' => e = .returned (.tuple #[.agg (byteCells zero32), .int .i64 (if E = 0 then 140 else E)]) ∧ Below w.heap.size w w' := by
  subst hpv
  rw [zero32_cells]
  go_enter Tryd.func25, Tryd.ntmps25
  go_upto_region 1 with (fail)
  refine named (p := Code.wp _ _ _ _) ?_
  intro W0 hW0
  have hz0 : w.heap.size + 3 ≤ W0.heap.size := by rw [hW0]; simp
  have hB0 : Below w.heap.size w W0 := by
    rw [hW0]
    repeat (first | exact Below.refl _ _ | refine Below.alloc ?_ (by simp <;> omega) _)
  have x1 : Has W0 (w.heap.size + 1) #[.slice a m cap] 22 := by
    rw [hW0]; repeat (first | (refine has_new _ _ _ _ ?_; simp; done) | refine has_old ?_)
  have x2 : Has W0 (w.heap.size + 2) (zeroCells 32) 30 := by
    rw [hW0]; repeat (first | (refine has_new _ _ _ _ ?_; simp; done) | refine has_old ?_)
  clear hW0
  go_wp2_with fail
  refine (hst W0).mono ?_
  rintro e W1 ⟨rfl, hB1⟩
  have c1 := (x1.below hB1 x1.lt).one
  have y2 := x2.below hB1 x2.lt
  have hBw : Below w.heap.size w W1 := hB0.trans (hB1.mono (by omega))
  clear x1 x2 hst
  rcases hbad with h | ⟨rfl, h⟩
  · go_wp2_with (refine wpList_store_row rfl 30 _ _ rfl (w.heap.size + 2) (zeroCells 32) rfl rfl 30 _ y2 (by kernel_rfl) rfl (by kernel_rfl) ?_)
    refine bodyPost_ret (results_two rfl _ _ (w.heap.size + 2) _ _ rfl rfl (setRow_heap _ _ _ _ _ _ y2) rfl) rfl ?_
    exact ⟨rfl, hBw.trans ⟨rfl, rfl, rfl, by simp, fun j hj => setRow_other _ _ _ _ (by omega)⟩⟩
  · go_wp2_with (refine wpList_store_row rfl 30 _ _ rfl (w.heap.size + 2) (zeroCells 32) rfl rfl 30 _ y2 (by kernel_rfl) rfl (by kernel_rfl) ?_)
    refine bodyPost_ret (results_two rfl _ _ (w.heap.size + 2) _ _ rfl rfl (setRow_heap _ _ _ _ _ _ y2) rfl) rfl ?_
    exact ⟨rfl, hBw.trans ⟨rfl, rfl, rfl, by simp, fun j hj => setRow_other _ _ _ _ (by omega)⟩⟩
theorem ok_of_E {i n : Int} (h : stepsE i n = 0) : ∃ I N : Nat, i = I ∧ n = N ∧ I < N ∧ N ≤ 16 ∧ stepsV i n = ((sidesL I N).length : Int) := by
  unfold stepsE at h
  cases hm : mayB n with
  | false => rw [hm] at h; simp at h
  | true =>
    cases ht : thereB i n with
    | false => rw [hm, ht] at h; simp at h
    | true =>
      have hv : stepsV i n = ((sidesL i.toNat n.toNat).length : Int) := by unfold stepsV; rw [hm, ht]; rfl
      simp only [mayB, thereB, Bool.and_eq_true, decide_eq_true_eq] at hm ht
      exact ⟨i.toNat, n.toNat, by omega, by omega, by omega, by omega, hv⟩
theorem up_any (leaf : Dig) (i n : Int) (pv : Value) (ds : List Dig) (w : World) (hl : leaf.length = 32) (hp : Digs w pv ds) (hg : Glob w) :
    Calls Tryd.prog 25 #[.agg (byteCells leaf), .int .i64 i, .int .i64 n, pv] w fun e w' => e = .returned (.tuple #[.agg (byteCells (upV leaf i n ds)), .int .i64 (upE i n ds.length)]) ∧ Below w.heap.size w w' := by
  obtain ⟨a, cap, hpv⟩ := hp.slice
  unfold upV upE
  by_cases hE : stepsE i n = 0
  · obtain ⟨I, N, rfl, rfl, h1, h2, h3⟩ := ok_of_E hE
    by_cases hV : stepsV (I : Int) (N : Int) = (ds.length : Int)
    · have := up_ok leaf I N pv ds w hl h1 h2 hp (by omega) hg
      simpa [hE, hV] using this
    · have := up_bad leaf (I : Int) (N : Int) _ _ pv a ds.length cap hpv w (fun w => steps_any (I : Int) (N : Int) w) (.inr ⟨hE, hV⟩)
      simpa [hE, hV] using this
  · have := up_bad leaf i n _ _ pv a ds.length cap hpv w (fun w => steps_any i n w) (.inl hE)
    simpa [hE] using this
theorem refup_any (leaf : Dig) (i n : Int) (pv : Value) (ds : List Dig) (w : World) (hl : leaf.length = 32) (hp : Digs w pv ds) (hg : Glob w) :
    Calls Tryd.prog 26 #[.agg (byteCells leaf), .int .i64 i, .int .i64 n, pv] w fun e w' => e = .returned (.tuple #[.agg (byteCells (upV leaf i n ds)), .int .i64 (upE i n ds.length)]) ∧ Below w.heap.size w w' := by
  obtain ⟨a, cap, hpv⟩ := hp.slice
  unfold upV upE
  by_cases hE : stepsE i n = 0
  · obtain ⟨I, N, rfl, rfl, h1, h2, h3⟩ := ok_of_E hE
    by_cases hV : stepsV (I : Int) (N : Int) = (ds.length : Int)
    · have := refup_ok leaf I N pv ds w hl h1 h2 hp (by omega) hg
      simpa [hE, hV] using this
    · have := refup_bad leaf (I : Int) (N : Int) _ _ pv a ds.length cap hpv w (fun w => refsteps_any (I : Int) (N : Int) w) (.inr ⟨hE, fun e => hV e.symm⟩)
      simpa [hE, hV] using this
  · have := refup_bad leaf i n _ _ pv a ds.length cap hpv w (fun w => refsteps_any i n w) (.inl hE)
    simpa [hE] using this
theorem upV_len (leaf : Dig) (i n : Int) (ds : List Dig) : (upV leaf i n ds).length = 32 := by
  unfold upV
  split
  · exact upL_len _ _ _ (shaL_length _)
  · exact zero32_len
end Go.Proofs.YtcmkjgodgocdfaaDoor
/- The document's Rows. -/
namespace Go.Proofs.YtcmkjgodgocdfaaDoor
open Go.RowKit

theorem wrap_small (E : Nat) (h : E < 64) : IntKind.i64.wrap ((E : Int) + 1) = (E : Int) + 1 := by
  have key : ∀ e : Fin 64, IntKind.i64.wrap ((e.val : Int) + 1) = (e.val : Int) + 1 := by decide
  exact key ⟨E, h⟩
set_option maxRecDepth 100000 in
set_option maxHeartbeats 2000000 in
theorem refrows_any (v : Value) (ds : List Dig) (w : World) (hv : Digs w v ds) (hn : ds.length ≤ 16) (hne : 0 < ds.length) (hg : Glob w) :
    Calls Tryd.prog 24 #[v] w fun e w' => ∃ v' xs, e = .returned v' ∧ RowsAt w.heap.size w.heap.size w' v' (rowsL (ds.map markL)) xs ∧ Below w.heap.size w w' := by
  obtain ⟨h32, a, cap, g, o, rfl, hcap, hmx, ha, hin, hgl⟩ := hv
  obtain rfl := ha (by intro e; simp [e] at hne)
  clear ha
  unfold maxLen at hmx
  have hgs := hg.size
  obtain ⟨j0, hi, hz0, hz1, hz2⟩ := info_parts info22
  have hrl := rowsL_len 16 (ds.map markL) (by simpa using hn)
  have hml : (ds.map markL).length = ds.length := by simp
  have hmA := marks_all ds
  obtain ⟨ms, hms⟩ : ∃ ms, ds.map markL = ms := ⟨_, rfl⟩
  have hat : ∀ k, k < ds.length → ms.take (k + 1) = ms.take k ++ [markL (ds[k]?.getD [])] := fun k hk => by
    rw [← hms, List.take_add_one, List.getElem?_map, List.getElem?_eq_getElem hk]; rfl
  rw [hms] at hrl hml hmA ⊢
  clear hms
  go_enter Tryd.func24, Tryd.ntmps24
  go_wp2_with fail
  go_loopw [3, 4] (fun mv i wr => ∃ k : Nat, k ≤ ds.length ∧ i = .int .i64 k ∧ OwnD w.heap.size wr mv (ms.take k) ∧ Below w.heap.size w wr) (fun _ i _ => ds.length - (intOf i).toNat)
  case atStart => exact ⟨0, Nat.zero_le _, rfl, by rw [List.take_zero]; exact OwnD.nil _ _, Below.refl _ _⟩
  case round =>
    obtain ⟨k, hk, rfl, ho, hBw⟩ := hrel
    have hgw := hg.below hBw hg.size
    have hsw := hBw.size
    by_cases hlt : k < ds.length
    · have hd := h32.at_ hlt
      have hrg := rangeAt_block (hin k hlt) (hBw.block g hgl)
      have htk := hat k hlt
      obtain ⟨d, hdd⟩ : ∃ d, ds[k]?.getD [] = d := ⟨_, rfl⟩
      rw [hdd] at hd hrg htk
      have hmk := refmark_any d wr hd hgw
      have hx32 : (markL d).length = 32 := shaL_length _
      obtain ⟨x, hx⟩ : ∃ x, markL d = x := ⟨_, rfl⟩
      rw [hx] at hmk hx32 htk
      clear hx hdd hat
      have HTK : Hid (ms.take (k + 1) = ms.take k ++ [x]) := htk
      clear htk
      have hlen4 : (ms.take k).length + 1 ≤ 1000 := by rw [List.length_take]; omega
      go_wp2_with (refine wpList_load_mid rfl 30 _ rfl g (o + k * 32) rfl (byteCells d).toList _ hrg Tryd.underlying30 rfl (by rw [byteCells_len, hd]; kernel_rfl) ?_)
      refine hmk.mono ?_
      clear hmk
      rintro e W3 ⟨rfl, hB3⟩
      have ho4 := ho.below hB3
      have hdx := digs_one W3 x hx32
      have hs4 := hB3.size
      go_wp2_with (first
        | refine wpList_build_one rfl _ rfl x rfl hx32 ?_
        | (refine wpList_append_digs rfl _ _ rfl w.heap.size _ _ _ [x] rfl rfl (ho4.alloc _) hdx hlen4 (by simp; omega) ?_; intro v5 W5 ho5 hg5))
      have hBb := (Below.refl W3.heap.size W3).alloc (Nat.le_refl _) (.cells (byteCells x) 30)
      have hlow := grown_low2 (ho4.alloc (.cells (byteCells x) 30)).2 hg5 (by simp; omega)
      go_roundw
      case rel => exact ⟨k + 1, by omega, by go_num, by rw [HTK.out]; exact ho5, ((hBw.trans (hB3.mono (by omega))).trans (hBb.mono (by omega))).trans hlow⟩
      case measure => simp [intOf]; omega
    · obtain rfl : k = ds.length := by omega
      rw [List.take_of_length_le (by omega)] at ho
      obtain ⟨am, nm, cm, rfl⟩ : ∃ a n c, u3 = Value.slice a n c := by obtain ⟨a, c, e⟩ := ho.slice; exact ⟨a, _, c, e⟩
      clear hat hlt hk
      go_wp2_with fail
      refine named (p := Code.wp _ _ _ _) ?_
      intro W0 hW0
      have hz : wr.heap.size < W0.heap.size := by rw [hW0]; simp
      have hB0 : Below wr.heap.size wr W0 := by rw [hW0]; exact (Below.refl _ _).alloc (Nat.le_refl _) _
      have x0 : Has W0 wr.heap.size #[.slice am nm cm] 22 := by rw [hW0]; exact has_new _ _ _ _ rfl
      have hv0 := ho.below hB0
      have hR0 : RowsAt w.heap.size w.heap.size W0 (.slice (some ⟨wr.heap.size, 0, none⟩) 1 1) [ms] [.slice am nm cm] :=
        ⟨⟨rfl, .inr ⟨_, 1, _, rfl, hsw, x0, Nat.le_refl _, by simp only [maxLen]; omega, rfl, rfl⟩⟩, fun j hj => by
          obtain rfl : j = 0 := by simp at hj; omega
          exact ⟨_, rfl, hv0⟩, fun i j u v b hij hu hv => by
          have := (List.getElem?_eq_some_iff.1 hv).1
          simp at this; omega⟩
      have hBw0 : Below w.heap.size w W0 := hBw.trans (hB0.mono hsw)
      clear hW0 x0 ho hB0 hBw hgw
      go_loopw [3, 5] (fun r rv wr => ∃ ds' pre xs, OwnD w.heap.size wr r ds' ∧ 0 < ds'.length ∧ ds'.length ≤ 16 ∧ Hid (rowsL ms = pre ++ rowsL ds') ∧ RowsAt w.heap.size w.heap.size wr rv (pre ++ [ds']) xs ∧ Below w.heap.size w wr) (fun r _ _ => sliceLen r)
      case atStart => exact ⟨ms, [], _, hv0, by omega, by omega, rfl, hR0, hBw0⟩
      case round =>
        clear hv0 hR0 hBw0 hz hsw
        obtain ⟨ds', pre, xs, ho, h0, h16, hrw, hR, hBw⟩ := hrel
        obtain ⟨wq, hwq⟩ : ∃ wq, wq = wr := ⟨_, rfl⟩
        subst hwq
        obtain ⟨ar, cr, rfl⟩ := ho.slice
        by_cases hlt : 1 < ds'.length
        · have hgw := hg.below hBw hg.size
          have hws : 2 ≤ wq.heap.size := hgw.size
          have hBwr : w.heap.size ≤ wq.heap.size := hBw.size
          have hplen : Hid ((pre ++ [ds']).length + 1 ≤ 17) := by
            have := congrArg List.length hrw.out
            rw [List.length_append, rowsL_more hlt, List.length_cons] at this
            have h3 : 1 ≤ (rowsL (aboveL ds')).length := by
              rw [rowsL]; split <;> simp
            show (pre ++ [ds']).length + 1 ≤ 17
            rw [List.length_append, List.length_singleton]
            omega
          obtain ⟨m, hm⟩ : ∃ m, (pre ++ [ds']).length = m := ⟨_, rfl⟩
          have hown := hR.own
          rw [hm] at hplen hown
          have hdg := ho.digs (by omega)
          obtain ⟨g2, o2, c2, e2, _, hg2⟩ := hdg.at_ h0
          simp only [Value.slice.injEq] at e2
          obtain ⟨rfl, _, rfl⟩ := e2
          obtain ⟨h32', _, _, g3, o3, e3, _, _, ha3, hin3, _⟩ := id hdg
          simp only [Value.slice.injEq] at e3
          have ha4 := e3.1.trans (ha3 (by intro e; simp [e] at h0))
          simp only [Option.some.injEq, Addr.mk.injEq, and_true] at ha4
          obtain ⟨rfl, rfl⟩ := ha4
          clear e3 ha3
          have hal := aboveL_len _ ds' (Nat.le_refl _)
          have hdl : decide (1 < (ds'.length : Int)) = true := by simp; omega
          obtain ⟨rl, hrl'⟩ : ∃ rl, ds'.length = rl := ⟨_, rfl⟩
          have Hrl : Hid (ds'.length = rl) := hrl'
          have Hal : Hid ((aboveL ds').length = (rl + 1) / 2) := by rw [← hrl']; exact hal
          rw [hrl'] at hlt h16 h0 hdl ho hdg ⊢
          have HM : Hid ((pre ++ [ds']).length = m) := hm
          clear hal hrl' hm
          go_wp2_with fail
          go_loopw [6, 7] (fun avv iv w3 => ∃ k : Nat, k ≤ (rl + 1) / 2 ∧ iv = .int .i64 ((2 * k : Nat) : Int) ∧ OwnD wq.heap.size w3 avv ((aboveL ds').take k) ∧ Below wq.heap.size wq w3) (fun _ iv _ => rl + 2 - (intOf iv).toNat)
          case atStart => exact ⟨0, Nat.zero_le _, rfl, by rw [List.take_zero]; exact OwnD.nil _ _, Below.refl _ _⟩
          case round =>
            obtain ⟨k, hk, rfl, hoa, hB3⟩ := hrel
            have hs3 := hB3.size
            obtain ⟨E, hE⟩ : ∃ E, 2 * k = E := ⟨_, rfl⟩
            rw [hE]
            have HE : Hid (2 * k = E) := hE
            have hgw3 := hgw.below hB3 hgw.size
            obtain ⟨av, nv, cv, rfl⟩ : ∃ a n c, u6 = Value.slice a n c := by obtain ⟨a, c, e⟩ := hoa.slice; exact ⟨a, _, c, e⟩
            have hlen4 : ((aboveL ds').take k).length + 1 ≤ 1000 := by rw [List.length_take]; omega
            by_cases hlt2 : E < rl
            · have hk0 : 2 * k < ds'.length := by have := Hrl.out; omega
              have htk := aboveL_take ds' k hk0
              have hp32 := h32'.at_ hk0
              have hrp := rangeAt_block (hin3 (2 * k) hk0) (hB3.block g2 hg2)
              rw [hE] at hp32 hrp
              by_cases h2 : E + 1 < rl
              · have hk1 : 2 * k + 1 < ds'.length := by have := Hrl.out; omega
                have hq32 := h32'.at_ hk1
                have hrq := rangeAt_block (hin3 (2 * k + 1) hk1) (hB3.block g2 hg2)
                have hav : aboveAt ds' k = bothL (ds'[2 * k]?.getD []) (ds'[2 * k + 1]?.getD []) := by unfold aboveAt; rw [if_pos hk1]
                rw [hav] at htk
                rw [hE] at hq32 hrq htk
                clear hav hE
                obtain ⟨p, hpp⟩ : ∃ p, ds'[E]?.getD [] = p := ⟨_, rfl⟩
                obtain ⟨q, hqq⟩ : ∃ q, ds'[E + 1]?.getD [] = q := ⟨_, rfl⟩
                rw [hpp] at hp32 hrp htk
                rw [hqq] at hq32 hrq htk
                clear hpp hqq
                have hbt := refboth_any p q wr.drew hp32 hq32 ⟨hgw3.sq, hgw3.cu, hgw3.size⟩
                have hz32 : (bothL p q).length = 32 := both_len _ _
                obtain ⟨z, hz⟩ : ∃ z, bothL p q = z := ⟨_, rfl⟩
                rw [hz] at hbt hz32 htk
                have HTK : Hid ((aboveL ds').take (k + 1) = (aboveL ds').take k ++ [z]) := htk
                clear htk hz hk0 hk1
                go_wp2_with fail
                have hS0 : wr.rangeAt g2 (o2 + E * 32) (byteCells p).toList ∧ wr.rangeAt g2 (o2 + (E + 1) * 32) (byteCells q).toList := ⟨hrp, hrq⟩
                refine wp_region_K (S := fun X => X.rangeAt g2 (o2 + E * 32) (byteCells p).toList ∧ X.rangeAt g2 (o2 + (E + 1) * 32) (byteCells q).toList) (fun i => decide (i < 12)) (by kernel_rfl) ?_
                refine K_take (i := 0) (v := .slice av nv cv) rfl (by kernel_rfl) (by kernel_rfl) (by kernel_rfl) (by kernel_rfl) (by kernel_rfl) (by rfl) (fun w' hS => by go_simp) hS0 ?_
                refine K_take (i := 1) (v := .slice (some ⟨g2, o2, none⟩) rl cr) rfl (by kernel_rfl) (by kernel_rfl) (by kernel_rfl) (by kernel_rfl) (by kernel_rfl) (by rfl) (fun w' hS => by go_simp) hS0 ?_
                refine K_take (i := 2) (v := .int .i64 (E : Int)) rfl (by kernel_rfl) (by kernel_rfl) (by kernel_rfl) (by kernel_rfl) (by kernel_rfl) (by rfl) (fun w' hS => by go_simp) hS0 ?_
                refine K_take (i := 5) (v := .slice (some ⟨g2, o2, none⟩) rl cr) rfl (by kernel_rfl) (by kernel_rfl) (by kernel_rfl) (by kernel_rfl) (by kernel_rfl) (by rfl) (fun w' hS => by go_simp) hS0 ?_
                refine K_take (i := 6) (v := .int .i64 (E : Int)) rfl (by kernel_rfl) (by kernel_rfl) (by kernel_rfl) (by kernel_rfl) (by kernel_rfl) (by rfl) (fun w' hS => by go_simp) hS0 ?_
                refine K_take (i := 7) (v := .int .i64 ((E : Int) + 1)) rfl (by kernel_rfl) (by kernel_rfl) (by kernel_rfl) (by kernel_rfl) (by kernel_rfl) (by rfl) (fun w' hS => by go_simp; exact wrap_small E (by omega)) hS0 ?_
                refine K_take (i := 3) (v := .pointer (some ⟨g2, o2 + E * 32, none⟩)) rfl (by kernel_rfl) (by kernel_rfl) (by kernel_rfl) (by kernel_rfl) (by kernel_rfl) (by rfl) (fun w' hS => by go_simp) hS0 ?_
                refine K_take (i := 8) (v := .pointer (some ⟨g2, o2 + (E + 1) * 32, none⟩)) rfl (by kernel_rfl) (by kernel_rfl) (by kernel_rfl) (by kernel_rfl) (by kernel_rfl) (by rfl) (fun w' hS => by go_simp; intro h; omega) hS0 ?_
                refine K_take (i := 4) (v := .agg (byteCells p)) rfl (by kernel_rfl) (by kernel_rfl) (by kernel_rfl) (by kernel_rfl) (by kernel_rfl) (by rfl) (fun w' hS => by exact run_load_mid _ rfl g2 (o2 + E * 32) (by kernel_rfl) p hp32 hS.1) hS0 ?_
                refine K_take (i := 9) (v := .agg (byteCells q)) rfl (by kernel_rfl) (by kernel_rfl) (by kernel_rfl) (by kernel_rfl) (by kernel_rfl) (by rfl) (fun w' hS => by exact run_load_mid _ rfl g2 (o2 + (E + 1) * 32) (by kernel_rfl) q hq32 hS.2) hS0 ?_
                refine K_next (i := 10) (by kernel_rfl) rfl (by rfl) (fun K hK => ?_)
                go_simp
                refine hbt.mono ?_
                clear hbt
                rintro e W4 ⟨rfl, hB4⟩
                have hB4' : Below wr.heap.size wr W4 := (Below.refl _ wr).drew.trans hB4
                have hgl3 : g2 < wr.heap.size := by omega
                refine hK _ _ (fun _ => ⟨rangeAt_block hrp (hB4'.block g2 hgl3), rangeAt_block hrq (hB4'.block g2 hgl3)⟩) ?_
                clear hK
                refine K_next (i := 11) (by kernel_rfl) rfl (by rfl) (fun K hK => ?_)
                refine op_run (run_build_one _ _ (.tmp 48) z _ hz32 rfl (by kernel_rfl)) ?_
                have hB5 : Below wr.heap.size wr (W4.alloc (.cells (byteCells z) 30)) := hB4'.alloc hB4'.size _
                refine hK _ _ (fun _ => ⟨rangeAt_block hrp (hB5.block g2 hgl3), rangeAt_block hrq (hB5.block g2 hgl3)⟩) ?_
                clear hK
                refine K_next (i := 12) (by kernel_rfl) rfl (by rfl) (fun K hK => ?_)
                refine wp_append_digs _ _ rfl wq.heap.size (.slice av nv cv) _ _ [z] (by kernel_rfl) (by kernel_rfl) (hoa.below hB5) (digs_one W4 z hz32) hlen4 (by have := hB5.size; omega) ?_
                intro v6 W6 ho6 hg6
                refine hK _ _ (fun h => absurd h (by decide)) ?_
                clear hK
                have hlow := grown_low2 (hoa.below hB5).2 hg6 (by have := hB5.size; omega)
                obtain ⟨a6, n6, c6, rfl⟩ : ∃ a n c, v6 = Value.slice a n c := by obtain ⟨a, c, e⟩ := ho6.slice; exact ⟨a, _, c, e⟩
                refine K_next (i := 13) (by kernel_rfl) rfl (by rfl) (fun K hK => ?_)
                go_simp
                refine hK _ _ (fun h => absurd h (by decide)) (K_done (by kernel_rfl) ?_)
                clear hK hS0
                have hBn : Below wq.heap.size wq W6 := (hB3.trans (hB5.mono hs3)).trans hlow
                go_wp2_with fail
                go_roundw
                case rel => exact ⟨k + 1, by have := HE.out; omega, by have := HE.out; congr 1; omega, by rw [HTK.out]; exact ho6, hBn⟩
                case measure => simp [intOf]; omega
              · have hk1 : ¬ 2 * k + 1 < ds'.length := by have := Hrl.out; omega
                have hav : aboveAt ds' k = ds'[2 * k]?.getD [] := by unfold aboveAt; rw [if_neg hk1]
                rw [hav] at htk
                rw [hE] at htk
                clear hav hE
                obtain ⟨p, hpp⟩ : ∃ p, ds'[E]?.getD [] = p := ⟨_, rfl⟩
                rw [hpp] at hp32 hrp htk
                have HTK : Hid ((aboveL ds').take (k + 1) = (aboveL ds').take k ++ [p]) := htk
                clear htk hpp hk0 hk1
                have hdx := digs_one wr p hp32
                go_wp2_with (first
                  | refine wpList_load_mid rfl 30 _ rfl g2 (o2 + E * 32) rfl (byteCells p).toList _ hrp Tryd.underlying30 rfl (by rw [byteCells_len, hp32]; kernel_rfl) ?_
                  | refine wpList_build_one rfl _ rfl p rfl hp32 ?_
                  | (refine wpList_append_digs rfl _ _ rfl wq.heap.size _ _ _ [p] rfl rfl (hoa.alloc _) hdx hlen4 (by simp; omega) ?_; intro v6 W6 ho6 hg6))
                have hBb := (Below.refl wr.heap.size wr).alloc (Nat.le_refl _) (.cells (byteCells p) 30)
                have hlow := grown_low2 (hoa.alloc (.cells (byteCells p) 30)).2 hg6 (by simp; omega)
                have hBn : Below wq.heap.size wq W6 := (hB3.trans (hBb.mono hs3)).trans hlow
                go_roundw
                case rel => exact ⟨k + 1, by have := HE.out; omega, by have := HE.out; congr 1; omega, by rw [HTK.out]; exact ho6, hBn⟩
                case measure => simp [intOf]; omega
            · have hkk : k = (rl + 1) / 2 := by have := HE.out; omega
              have hlk := Hal.out
              rw [hkk, ← hlk, List.take_length] at hoa
              have Hn : Hid (0 < nv ∧ nv < rl ∧ nv ≤ 16 ∧ nv = (aboveL ds').length) := by
                have := hoa.len
                simp only [sliceLen] at this
                exact ⟨by omega, by omega, by omega, this⟩
              clear hkk hlk hE hdl hlen4
              have hown1 := ownsRow_below hown hB3
              have hn2 := has_new wr #[Value.slice av nv cv] 22 wr.heap.size rfl
              go_wp2_with (refine wpList_append_own _ rfl _ _ 45 rfl w.heap.size 22 j0 (.slice none 0 0) 1 24 Tryd.underlying45 hi hz0 hz1 hz2 rfl (by omega) _ m xs rfl (hown1.alloc _) ⟨wr.heap.size, 0, none⟩ 1 1 [Value.slice av nv cv] rfl rfl (fun j u hu => by rw [Addr.add_mid, Nat.zero_add]; refine (hn2.cell j).trans ?_; rw [← hu]; simp) (fun u hu => by simp at hu; subst hu; rfl) (by have := hplen.out; simp only [maxLen]; omega) (by have := hplen.out; omega) (by simp; omega) ?_; intro v4 w4 hown4 hg4 hnil; clear hnil)
              have hm := HM.out
              have hBa := (Below.refl wr.heap.size wr).alloc (Nat.le_refl _) (.cells #[Value.slice av nv cv] 22)
              have hRn := hR.snoc (hB3.trans (hBa.mono hs3)) (hoa.alloc _) hBwr (by rw [hm]; exact hown1.alloc _) (by rw [hm]; exact hown4) hg4
              have hlow := grown_low2 (hown1.alloc (.cells #[Value.slice av nv cv] 22)) hg4 (by simp; omega)
              have hnn := Hn.out
              have hrw' := hrw.out
              rw [rowsL_more (ds := ds') (by have := Hrl.out; omega)] at hrw'
              go_roundw
              case rel => exact ⟨aboveL ds', pre ++ [ds'], _, ((hoa.alloc _).mono hBwr).kept (hown1.alloc _) hg4 (by decide), by omega, by omega, by show _ = _; rw [hrw']; simp, hRn, ((hBw.trans (hB3.mono hBwr)).trans (hBa.mono (by omega))).trans hlow⟩
              case measure => simp [sliceLen]; omega
        · have hfin : rowsL ms = pre ++ [ds'] := by have := hrw.out; rwa [rowsL_last hlt] at this
          go_wp2
          go_ret
          exact ⟨_, xs, rfl, by rw [hfin]; exact hR, hBw⟩
end Go.Proofs.YtcmkjgodgocdfaaDoor
/- The document's Root. -/
namespace Go.Proofs.YtcmkjgodgocdfaaDoor
open Go.RowKit

set_option maxRecDepth 100000 in
set_option maxHeartbeats 1000000 in
theorem refroot_any (v : Value) (ds : List Dig) (w : World) (hv : Digs w v ds) (h16 : ds.length ≤ 16) (h0 : 0 < ds.length) (hg : Glob w) :
    Calls Tryd.prog 22 #[v] w fun e w' => e = .returned (.agg (byteCells (rootOf ds))) ∧ Below w.heap.size w w' := by
  have hgs := hg.size
  have hB0 := (Below.refl w.heap.size w).alloc (Nat.le_refl _) (.cells (zeroCells 32) 30)
  have hrw := refrows_any v ds _ (hv.below hB0) h16 h0 (hg.below hB0 hg.size)
  obtain ⟨a, n, c, rfl⟩ : ∃ a n c, v = Value.slice a n c := by obtain ⟨a, c, e⟩ := hv.slice; exact ⟨a, _, c, e⟩
  obtain ⟨hr1, hr2, hr3⟩ := rootOf_spec h0
  have hR17 : (rowsL (ds.map markL)).length ≤ 17 := rowsL_len 16 _ (by simpa using h16)
  obtain ⟨R, hR⟩ : ∃ R, rowsL (ds.map markL) = R := ⟨_, rfl⟩
  rw [hR] at hr1 hr3 hrw hR17
  obtain ⟨x, hx⟩ : ∃ x, rootOf ds = x := ⟨_, rfl⟩
  rw [hx] at hr1 hr2 ⊢
  clear hR hx
  go_enter Tryd.func22, Tryd.ntmps22
  go_wp2_with fail
  refine hrw.mono ?_
  rintro e W1 ⟨v1, xs, rfl, hRw, hB1⟩
  obtain ⟨g, cap, sv, rfl, hcell, hxs, hsv⟩ := hRw.at_ (j := R.length - 1) (by omega)
  rw [hr1, Option.getD_some] at hsv
  obtain ⟨g2, o2, c2, rfl, hrg, hg2⟩ := (hsv.digs (by have := hB1.size; simp at this; omega)).at_ (i := 0) (by simp)
  simp only [List.getElem?_cons_zero, Option.getD_some, Nat.zero_mul, Nat.add_zero, List.length_singleton] at hrg hcell
  obtain ⟨L, hL⟩ : ∃ L, R.length - 1 = L := ⟨_, rfl⟩
  have hL1 : R.length = L + 1 := by omega
  rw [hL] at hcell
  rw [hL1]
  clear hRw hxs hrw hr1 hL
  have hr : Has W1 w.heap.size (zeroCells 32) 30 := (has_new _ _ _ _ rfl).below hB1 (by simp)
  have hb32 : (byteCells x).size = 32 := by rw [byteCells_size, hr2]
  have eL : ((L + 1 : Nat) : Int) - 1 = (L : Int) := by omega
  go_wp2_with (first
    | refine wpList_load_mid rfl 30 _ rfl g2 o2 rfl (byteCells x).toList _ hrg Tryd.underlying30 rfl (by rw [byteCells_len, hr2]; kernel_rfl) ?_
    | refine wpList_store_row rfl 30 _ _ rfl w.heap.size (byteCells x) rfl rfl 30 _ hr (by rw [hb32]; kernel_rfl) (by rw [hb32, zeroCells_size]) (byteCells_one _) ?_)
  refine bodyPost_ret (results_cell_row rfl _ _ w.heap.size 30 _ (0, 0) _ rfl (setRow_heap _ _ _ _ _ _ hr) Tryd.underlying30 rfl (by rw [hb32]; kernel_rfl)) rfl ?_
  exact ⟨rfl, (hB0.trans (hB1.mono (by simp))).trans ⟨rfl, rfl, rfl, by simp, fun j hj => setRow_other _ _ _ _ (by omega)⟩⟩
end Go.Proofs.YtcmkjgodgocdfaaDoor
/- The document's Path. -/
namespace Go.Proofs.YtcmkjgodgocdfaaDoor
open Go.RowKit

set_option maxRecDepth 100000 in
set_option maxHeartbeats 1000000 in
theorem refpath_any (v : Value) (ds : List Dig) (i : Nat) (w : World) (hv : Digs w v ds) (hd16 : ds.length ≤ 16) (hi : i < ds.length) (hg : Glob w) :
    Calls Tryd.prog 23 #[v, .int .i64 (i : Int)] w fun e w' => ∃ v', e = .returned v' ∧ OwnD w.heap.size w' v' (pathOf ds i) ∧ Below w.heap.size w w' := by
  have hgs := hg.size
  have hd0 : 0 < ds.length := by omega
  have hrw := refrows_any v ds w hv hd16 hd0 hg
  obtain ⟨a, n, c, rfl⟩ : ∃ a n c, v = Value.slice a n c := by obtain ⟨a, c, e⟩ := hv.slice; exact ⟨a, _, c, e⟩
  have hR17 : (rowsL (ds.map markL)).length ≤ 17 := rowsL_len 16 _ (by simpa using hd16)
  have hR0 := (rootOf_spec hd0).2.2
  have hRat := rowsL_at _ (ds.map markL) (Nat.le_refl _) (by simpa using hd0) (marks_all ds)
  have hRfst : (rowsL (ds.map markL))[0]? = some (ds.map markL) := by
    by_cases hh : 1 < (ds.map markL).length
    · rw [rowsL_more hh]; rfl
    · rw [rowsL_last hh]; rfl
  unfold pathOf
  obtain ⟨R, hR⟩ : ∃ R, rowsL (ds.map markL) = R := ⟨_, rfl⟩
  rw [hR] at hR17 hR0 hRat hRfst hrw ⊢
  obtain ⟨P, hP⟩ : ∃ P, pathUp R i = P := ⟨_, rfl⟩
  rw [hP]
  have HP0 : Hid ([] ++ pathUp (R.drop 0) i = P) := by show _ = _; rw [List.drop_zero, List.nil_append]; exact hP
  clear hR hP
  go_enter Tryd.func23, Tryd.ntmps23
  go_wp2_with fail
  refine hrw.mono ?_
  clear hrw
  rintro e W1 ⟨rv, xs, rfl, hRw, hB1⟩
  have hs1 := hB1.size
  obtain ⟨g, cap, sv, rfl, _, _, _⟩ := hRw.at_ (j := 0) hR0
  go_wp2_with fail
  go_loopw [1, 6, 7] (fun iv ov kv wr => ∃ (i' k : Nat) (p : List Dig), iv = .int .i64 i' ∧ kv = .int .i64 k ∧ k < R.length ∧ OwnD W1.heap.size wr ov p ∧ Hid (p ++ pathUp (R.drop k) i' = P) ∧ i' < (R[k]?.getD []).length ∧ p.length ≤ k ∧ Below W1.heap.size W1 wr) (fun _ _ kv _ => R.length - (intOf kv).toNat)
  case atStart => exact ⟨i, 0, [], rfl, rfl, hR0, OwnD.nil _ _, HP0, by rw [hRfst]; simpa using hi, Nat.le_refl _, Below.refl _ _⟩
  case round =>
    obtain ⟨i', k, p, rfl, rfl, hk, ho, hpp, hi', hpk, hBw⟩ := hrel
    have hsw := hBw.size
    have hRr := hRw.below hBw
    obtain ⟨r, hr⟩ : ∃ r, R[k]? = some r := ⟨R[k], List.getElem?_eq_getElem hk⟩
    obtain ⟨a1, a2, a3, a4, a5⟩ := hRat k r hr
    rw [hr, Option.getD_some] at hi'
    have hr16 : r.length ≤ 16 := by simp at a2; omega
    obtain ⟨ao, no, co, rfl⟩ : ∃ a n c, u6 = Value.slice a n c := by obtain ⟨a, c, e⟩ := ho.slice; exact ⟨a, _, c, e⟩
    by_cases hk1 : k + 1 < R.length
    · have h1r : 1 < r.length := by
        refine Decidable.byContradiction fun h => ?_
        have := a5 h
        omega
      have hk2 := a4 h1r
      have hal := aboveL_len _ r (Nat.le_refl _)
      have hpd := pathUp_drop hr hk1 i'
      have hnext : i' / 2 < (R[k + 1]?.getD []).length := by rw [hk2, Option.getD_some]; omega
      have HN : Hid (i' / 2 < (R[k + 1]?.getD []).length) := hnext
      obtain ⟨g1, cap1, sv1, e1, hcell, hxs1, hod⟩ := hRr.at_ (j := k) hk
      simp only [Value.slice.injEq, Option.some.injEq, Addr.mk.injEq, true_and, and_true] at e1
      obtain ⟨rfl, rfl⟩ := e1
      rw [hr, Option.getD_some] at hod
      have hdg := hod.digs (by omega)
      obtain ⟨g2, o2, c2, rfl, _, hg2⟩ := hdg.at_ a1
      obtain ⟨Ot, hOt⟩ : ∃ Ot, oth i' = Ot := ⟨_, rfl⟩
      have eo : (i' : Int) + 1 - 2 * ((i' : Int) % 2) = (Ot : Int) := by rw [← hOt]; unfold oth; split <;> omega
      have hO17 : Ot ≤ 16 := by rw [← hOt]; unfold oth; split <;> omega
      clear hnext hal hk2 a4 a5
      obtain ⟨rl, hrl⟩ : ∃ rl, r.length = rl := ⟨_, rfl⟩
      rw [hOt] at hpd
      by_cases hlt : Ot < rl
      · rw [hrl, if_pos hlt] at hpd
        have hd := a3.at_ (show Ot < r.length by omega)
        obtain ⟨g3, o3, c3, e3, hrg, _⟩ := hdg.at_ (show Ot < r.length by omega)
        simp only [Value.slice.injEq, Option.some.injEq, Addr.mk.injEq, true_and, and_true] at e3
        obtain ⟨⟨rfl, rfl⟩, rfl⟩ := e3
        obtain ⟨d, hdd⟩ : ∃ d, r[Ot]?.getD [] = d := ⟨_, rfl⟩
        rw [hdd] at hd hrg hpd
        have HP : Hid ((p ++ [d]) ++ pathUp (R.drop (k + 1)) (i' / 2) = P) := by have := hpp.out; rw [hpd] at this; show _ = _; rw [List.append_assoc]; exact this
        have hdx := digs_one wr d hd
        have hlen4 : p.length + 1 ≤ 1000 := by omega
        rw [hrl] at hcell
        clear hpp hpd hr hxs1 hdd hOt hrl hod hdg
        go_wp2_with (first
          | refine wpList_load_mid rfl 30 _ rfl g2 (o2 + Ot * 32) rfl (byteCells d).toList _ hrg Tryd.underlying30 rfl (by rw [byteCells_len, hd]; kernel_rfl) ?_
          | refine wpList_build_one rfl _ rfl d rfl hd ?_
          | (refine wpList_append_digs rfl _ _ rfl W1.heap.size _ _ _ [d] rfl rfl (ho.alloc _) hdx hlen4 (by simp; omega) ?_; intro v5 W5 ho5 hg5))
        have hBb := (Below.refl wr.heap.size wr).alloc (Nat.le_refl _) (.cells (byteCells d) 30)
        have hlow := grown_low2 (ho.alloc (.cells (byteCells d) 30)).2 hg5 (by simp; omega)
        go_roundw
        case rel => exact ⟨i' / 2, k + 1, p ++ [d], by go_num, by go_num, hk1, ho5, HP, HN.out, by simp; omega, (hBw.trans (hBb.mono hsw)).trans hlow⟩
        case measure => simp [intOf]; omega
      · rw [hrl, if_neg hlt, List.nil_append] at hpd
        have HP : Hid (p ++ pathUp (R.drop (k + 1)) (i' / 2) = P) := by have := hpp.out; rw [hpd] at this; exact this
        rw [hrl] at hcell
        clear hpp hpd hr hxs1 hOt hrl hod hdg
        go_wp2_with fail
        go_roundw
        case rel => exact ⟨i' / 2, k + 1, p, by go_num, by go_num, hk1, ho, HP, HN.out, by omega, hBw⟩
        case measure => simp [intOf]; omega
    · have HP : Hid (p = P) := by have := hpp.out; rw [pathUp_last (by omega), List.append_nil] at this; exact this
      go_wp2
      go_ret
      exact ⟨_, rfl, by rw [← HP.out]; exact ho.mono hs1, hB1.trans (hBw.mono hs1)⟩
end Go.Proofs.YtcmkjgodgocdfaaDoor
/- The document's Same. -/
namespace Go.Proofs.YtcmkjgodgocdfaaDoor
open Go.RowKit

set_option maxRecDepth 100000 in
set_option maxHeartbeats 1000000 in
theorem same_yes (va vb : Value) (ds : List Dig) (w : World) (ha : Digs w va ds) (hb : Digs w vb ds) (hn : ds.length ≤ 100) :
    Calls Tryd.prog 15 #[va, vb] w fun e w' => e = .returned (.bool true) ∧ Below w.heap.size w w' := by
  have ha0 := ha
  have hb0 := hb
  obtain ⟨a1, c1, rfl⟩ := ha.slice
  obtain ⟨a2, c2, rfl⟩ := hb.slice
  have h32 := ha.1
  obtain ⟨m, hm⟩ : ∃ m, ds.length = m := ⟨_, rfl⟩
  rw [hm] at ha0 hb0 hn ⊢
  have HM : Hid (ds.length = m) := hm
  clear hm ha hb
  have hne : ((m : Int) != (m : Int)) = false := by simp
  go_enter Tryd.func15, Tryd.ntmps15
  go_wp2_with fail
  go_loopw [5] (fun iv wr => ∃ k : Nat, k ≤ m ∧ iv = .int .i64 k ∧ Below w.heap.size w wr) (fun iv _ => m - (intOf iv).toNat)
  case atStart => exact ⟨0, Nat.zero_le _, rfl, Below.refl _ _⟩
  case round =>
    obtain ⟨k, hk, rfl, hBw⟩ := hrel
    by_cases hlt : k < m
    · have hkd : k < ds.length := by have := HM.out; omega
      obtain ⟨g1, o1, d1, e1, hr1, hg1⟩ := ha0.at_ hkd
      obtain ⟨g2, o2, d2, e2, hr2, hg2⟩ := hb0.at_ hkd
      simp only [Value.slice.injEq] at e1 e2
      obtain ⟨rfl, hx1, rfl⟩ := e1
      obtain ⟨rfl, hx2, rfl⟩ := e2
      clear hx1 hx2
      have hd := h32.at_ hkd
      have s1 := rangeAt_block hr1 (hBw.block g1 hg1)
      have s2 := rangeAt_block hr2 (hBw.block g2 hg2)
      obtain ⟨d, hdd⟩ : ∃ d, ds[k]?.getD [] = d := ⟨_, rfl⟩
      rw [hdd] at hd s1 s2
      have hq : ∀ w, (Op.equalIn 10000 30 (.agg (byteCells d)) (.agg (byteCells d))).run Tryd.prog w = .ok true w := fun w => by have := eq_dig d d hd hd w; rwa [show (d == d) = true by simp] at this
      clear hdd hr1 hr2
      go_wp2_with fail
      have hS0 : wr.rangeAt g1 (o1 + k * 32) (byteCells d).toList ∧ wr.rangeAt g2 (o2 + k * 32) (byteCells d).toList := ⟨s1, s2⟩
      refine wp_region_K (S := fun X => X.rangeAt g1 (o1 + k * 32) (byteCells d).toList ∧ X.rangeAt g2 (o2 + k * 32) (byteCells d).toList) (fun _ => true) (by kernel_rfl) ?_
      refine K_take (i := 0) (v := .slice (some ⟨g1, o1, none⟩) m c1) rfl (by kernel_rfl) (by kernel_rfl) (by kernel_rfl) (by kernel_rfl) (by kernel_rfl) (by kernel_rfl) (fun w' hS => by go_simp) hS0 ?_
      refine K_take (i := 1) (v := .int .i64 (k : Int)) rfl (by kernel_rfl) (by kernel_rfl) (by kernel_rfl) (by kernel_rfl) (by kernel_rfl) (by kernel_rfl) (fun w' hS => by go_simp) hS0 ?_
      refine K_take (i := 2) (v := .pointer (some ⟨g1, o1 + k * 32, none⟩)) rfl (by kernel_rfl) (by kernel_rfl) (by kernel_rfl) (by kernel_rfl) (by kernel_rfl) (by kernel_rfl) (fun w' hS => by go_simp) hS0 ?_
      refine K_take (i := 3) (v := .agg (byteCells d)) rfl (by kernel_rfl) (by kernel_rfl) (by kernel_rfl) (by kernel_rfl) (by kernel_rfl) (by kernel_rfl) (fun w' hS => by exact run_load_mid _ rfl g1 (o1 + k * 32) (by kernel_rfl) d hd hS.1) hS0 ?_
      refine K_take (i := 4) (v := .slice (some ⟨g2, o2, none⟩) m c2) rfl (by kernel_rfl) (by kernel_rfl) (by kernel_rfl) (by kernel_rfl) (by kernel_rfl) (by kernel_rfl) (fun w' hS => by go_simp) hS0 ?_
      refine K_take (i := 5) (v := .int .i64 (k : Int)) rfl (by kernel_rfl) (by kernel_rfl) (by kernel_rfl) (by kernel_rfl) (by kernel_rfl) (by kernel_rfl) (fun w' hS => by go_simp) hS0 ?_
      refine K_take (i := 6) (v := .pointer (some ⟨g2, o2 + k * 32, none⟩)) rfl (by kernel_rfl) (by kernel_rfl) (by kernel_rfl) (by kernel_rfl) (by kernel_rfl) (by kernel_rfl) (fun w' hS => by go_simp) hS0 ?_
      refine K_take (i := 7) (v := .agg (byteCells d)) rfl (by kernel_rfl) (by kernel_rfl) (by kernel_rfl) (by kernel_rfl) (by kernel_rfl) (by kernel_rfl) (fun w' hS => by exact run_load_mid _ rfl g2 (o2 + k * 32) (by kernel_rfl) d hd hS.2) hS0 ?_
      refine K_next (i := 8) (by kernel_rfl) rfl (by kernel_rfl) (fun K hK => ?_)
      go_simp
      refine hK _ _ (fun _ => hS0) (K_done (by kernel_rfl) ?_)
      clear hK
      clear hS0
      go_wp2_with fail
      go_roundw
      case rel => exact ⟨k + 1, by omega, by go_num, hBw.drew⟩
      case measure => simp [intOf]; omega
    · go_wp2
      go_ret
      exact ⟨rfl, hBw⟩
end Go.Proofs.YtcmkjgodgocdfaaDoor
/- A path is as long as Steps says, and leads to the root. -/
namespace Go.Proofs.YtcmkjgodgocdfaaDoor
open Go.RowKit

theorem rowsL_cons (ds : List Dig) : ∃ t, rowsL ds = ds :: t := by
  by_cases h : 1 < ds.length
  · exact ⟨_, rowsL_more h⟩
  · exact ⟨[], rowsL_last h⟩
theorem pathUp_more {ds : List Dig} (h : 1 < ds.length) (i : Nat) : pathUp (rowsL ds) i = (if oth i < ds.length then [ds[oth i]?.getD []] else []) ++ pathUp (rowsL (aboveL ds)) (i / 2) := by
  obtain ⟨t, ht⟩ := rowsL_cons (aboveL ds)
  rw [rowsL_more h, ht]
  rfl
theorem pathUp_one {ds : List Dig} (h : ¬ 1 < ds.length) (i : Nat) : pathUp (rowsL ds) i = [] := by rw [rowsL_last h]; rfl
theorem path_len : ∀ (n : Nat) (ds : List Dig), ds.length = n → ∀ i, (pathUp (rowsL ds) i).length = (sidesL i n).length := by
  intro n
  induction n using Nat.strongRecOn with
  | _ n ih =>
    intro ds hn i
    by_cases h : 1 < n
    · have hal := aboveL_len _ ds (Nat.le_refl _)
      have := ih ((n + 1) / 2) (by omega) (aboveL ds) (by omega) (i / 2)
      rw [pathUp_more (by omega), List.length_append, this, hn]
      by_cases ho : oth i < n
      · rw [if_pos ho, sidesL_yes h ho]; simp; omega
      · rw [if_neg ho, sidesL_no h ho]; simp
    · rw [pathUp_one (by omega), sidesL_stop h]; rfl
/-- The last row of one. -/
def topOf (rows : List (List Dig)) : Dig := (rows[rows.length - 1]?.getD [])[0]?.getD []
theorem topOf_more {ds : List Dig} (h : 1 < ds.length) : topOf (rowsL ds) = topOf (rowsL (aboveL ds)) := by
  obtain ⟨t, ht⟩ := rowsL_cons (aboveL ds)
  unfold topOf
  rw [rowsL_more h, ht]
  simp
theorem path_up : ∀ (n : Nat) (ds : List Dig), ds.length = n → ∀ i, i < n → upL (sidesL i n) (pathUp (rowsL ds) i) (ds[i]?.getD []) = topOf (rowsL ds) := by
  intro n
  induction n using Nat.strongRecOn with
  | _ n ih =>
    intro ds hn i hi
    by_cases h : 1 < n
    · have hal := aboveL_len _ ds (Nat.le_refl _)
      have hih := ih ((n + 1) / 2) (by omega) (aboveL ds) (by omega) (i / 2) (by omega)
      have hat := aboveL_at (i / 2) ds (by omega)
      rw [hat, Option.getD_some] at hih
      rw [pathUp_more (by omega), topOf_more (by omega), ← hih, hn]
      unfold aboveAt
      by_cases ho : oth i < n
      · rw [if_pos ho, sidesL_yes h ho]
        by_cases hodd : i % 2 = 1
        · have e1 : oth i = i - 1 := by unfold oth; rw [if_pos hodd]
          have e2 : 2 * (i / 2) = i - 1 := by omega
          have e3 : 2 * (i / 2) + 1 = i := by omega
          rw [if_pos (by omega), e3, e2, e1, decide_eq_true hodd]
          rfl
        · have e1 : oth i = i + 1 := by unfold oth; rw [if_neg hodd]
          have e2 : 2 * (i / 2) = i := by omega
          rw [if_pos (by omega), e2, e1, decide_eq_false hodd]
          rfl
      · rw [if_neg ho, sidesL_no h ho]
        have hev : i % 2 = 0 := by
          refine Decidable.byContradiction fun hc => ho ?_
          unfold oth; rw [if_pos (by omega)]; omega
        have e2 : 2 * (i / 2) = i := by omega
        have e1 : oth i = i + 1 := by unfold oth; rw [if_neg (by omega)]
        rw [if_neg (by omega), e2]
        rfl
    · have hi0 : i = 0 := by omega
      subst hi0
      rw [pathUp_one (by omega), sidesL_stop h]
      unfold topOf
      rw [rowsL_last (by omega)]
      rfl
theorem pathOf_len (ds : List Dig) (i : Nat) : (pathOf ds i).length = (sidesL i ds.length).length := path_len _ (ds.map markL) (by simp) i
theorem pathOf_up (ds : List Dig) (i : Nat) (hi : i < ds.length) : upL (sidesL i ds.length) (pathOf ds i) (markL (ds[i]?.getD [])) = rootOf ds := by
  have := path_up _ (ds.map markL) rfl i (by simpa using hi)
  rw [List.length_map, List.getElem?_map, List.getElem?_eq_getElem hi] at this
  rw [List.getElem?_eq_getElem hi]
  exact this
end Go.Proofs.YtcmkjgodgocdfaaDoor
/- A byte of a row of digests of one's own is changed. -/
namespace Go.Proofs.YtcmkjgodgocdfaaDoor
open Go.RowKit

/-- The k-th digest with another first byte. -/
def setFst (ds : List Dig) (k : Nat) (b : UInt8) : List Dig := ds.set k ((ds[k]?.getD []).set 0 b)
theorem setFst_len (ds : List Dig) (k : Nat) (b : UInt8) : (setFst ds k b).length = ds.length := by simp [setFst]
theorem flat_set : ∀ (ds : List Dig) (k : Nat) (b : UInt8), All32 ds → k < ds.length → (setFst ds k b).flatten = ds.flatten.set (k * 32) b
  | [], k, _, _, h => by simp at h
  | d :: ds, 0, b, h32, _ => by
    have hd : d.length = 32 := h32 0 d rfl
    show ((d.set 0 b) :: ds).flatten = _
    rw [List.flatten_cons, List.flatten_cons, Nat.zero_mul, List.set_append_left _ _ (by omega)]
  | d :: ds, k + 1, b, h32, h => by
    have hd : d.length = 32 := h32 0 d rfl
    have ih := flat_set ds k b (fun i x hx => h32 (i + 1) x hx) (by simpa using h)
    show (d :: setFst ds k b).flatten = _
    rw [List.flatten_cons, ih, List.flatten_cons, List.set_append_right _ _ (by omega)]
    congr 2
    omega
theorem setFst_all {ds : List Dig} (h : All32 ds) (k : Nat) (b : UInt8) (hk : k < ds.length) : All32 (setFst ds k b) := fun i d hd => by
  unfold setFst at hd
  by_cases e : k = i
  · subst e
    rw [List.getElem?_set_self hk] at hd
    rw [← Option.some.inj hd, List.length_set]
    exact h.at_ hk
  · rw [List.getElem?_set_ne e] at hd
    exact h i d hd
theorem OwnD.blk {base : Nat} {w : World} {v : Value} {ds : List Dig} (h : OwnD base w v ds) (h0 : 0 < ds.length) : ∃ g c, v = .slice (some ⟨g, 0, none⟩) ds.length c ∧ base ≤ g ∧ g < w.heap.size := by
  rcases h.2.2 with ⟨rfl, e⟩ | ⟨g, cap, cur, rfl, hb, hg, _⟩
  · omega
  · exact ⟨g, cap, rfl, hb, (h.2.lt g rfl).2⟩
theorem OwnD.setFst {base g n c : Nat} {w : World} {ds : List Dig} (h : OwnD base w (.slice (some ⟨g, 0, none⟩) n c) ds) (k : Nat) (b : UInt8) (hk : k < ds.length) :
    OwnD base (w.setCell ⟨g, k * 32, none⟩ (.int .u8 (bv b))) (.slice (some ⟨g, 0, none⟩) n c) (setFst ds k b) := by
  refine ⟨setFst_all h.1 k b hk, ?_, ?_⟩
  · rw [setFst_len, List.length_map, flat_len (setFst_all h.1 k b hk), setFst_len]
  · rcases h.2.2 with ⟨e, _⟩ | ⟨g', cap, cur, e, hb, hg, hle, hm, hs, ht⟩
    · cases e
    · simp only [Value.slice.injEq, Option.some.injEq, Addr.mk.injEq, and_true] at e
      obtain ⟨rfl, hn, rfl⟩ := e
      refine .inr ⟨g, c, cur.setIfInBounds (k * 32) (.int .u8 (bv b)), by rw [setFst_len, ← hn], hb, ?_, by rw [setFst_len]; exact hle, hm, by rw [Array.size_setIfInBounds]; exact hs, ?_⟩
      · exact Has.set (show Has w g cur 30 from hg) (k * 32) _
      · rw [setFst_len, flat_set ds k b h.1 hk, List.map_set, ← ht, Array.toList_setIfInBounds, List.take_set]
        rfl
end Go.Proofs.YtcmkjgodgocdfaaDoor
/- MerklePaths: the law's walk. -/
namespace Go.Proofs.YtcmkjgodgocdfaaDoor
open Go.RowKit

theorem wrap_byte (b : UInt8) : IntKind.u8.wrap (bv b + 1) = bv (b + 1) := by
  have key : ∀ n : Fin 256, IntKind.u8.wrap ((n.val : Int) + 1) = ((UInt8.ofNat n.val + 1).toNat : Int) := by decide +kernel
  have := key ⟨b.toNat, b.toNat_lt⟩
  simpa [bv] using this
theorem pathOf_le (ds : List Dig) (i : Nat) (h16 : ds.length ≤ 16) : (pathOf ds i).length ≤ 17 := by
  have h1 := pathUp_len (rowsL (ds.map markL)) i
  have h2 := rowsL_len 16 (ds.map markL) (by simpa using h16)
  unfold pathOf
  omega
set_option maxRecDepth 100000 in
set_option maxHeartbeats 1000000 in
theorem paths_ok (v : Value) (ds : List Dig) (i : Nat) (w : World) (hv : Digs w v ds) (h16 : ds.length ≤ 16) (hi : i < ds.length) (hg : Glob w) :
    Calls Tryd.prog 4 #[v, .int .i64 (i : Int)] w fun e w' => e = .returned (.bool true) ∧ Below w.heap.size w w' := by
  have h0 : 0 < ds.length := by omega
  have hgs := hg.size
  have hnew := tnew_any v ds w hv h0 h16
  have hPl := pathOf_le ds i h16
  have hrp := fun w hv hg => refpath_any v ds i w hv h16 hi hg
  have hpt : ∀ (B tb : Nat) (w : World), TreeAt B w tb ds → Glob w → Calls Tryd.prog 18 #[.pointer (some ⟨tb, 0, none⟩), .int .i64 (i : Int)] w fun e w' => ∃ v, e = .returned (.tuple #[v, .int .i64 0]) ∧ OwnD w.heap.size w' v (pathOf ds i) ∧ Below w.heap.size w w' := fun B tb w h hg => path_ok h hg i hi
  obtain ⟨P, hP⟩ : ∃ P, pathOf ds i = P := ⟨_, rfl⟩
  simp only [hP] at hrp hpt hPl
  clear hP
  obtain ⟨a0, c0, rfl⟩ := hv.slice
  obtain ⟨n, hn⟩ : ∃ n, ds.length = n := ⟨_, rfl⟩
  rw [hn] at h16 hi h0 hv hnew ⊢
  simp only [hn] at hrp
  clear hn
  have hdn1 : decide ((n : Int) < 1) = false := by simp; omega
  have hdn2 : decide (16 < (n : Int)) = false := by simp; omega
  go_enter Tryd.func4, Tryd.ntmps4
  go_wp2_with fail
  refine hnew.mono ?_
  clear hnew
  rintro e W1 ⟨tb, rfl, hT1, hB1⟩
  have hg1 := hg.below hB1 hg.size
  have hp1 := hpt _ tb W1 hT1 hg1
  go_wp2_with fail
  refine hp1.mono ?_
  clear hp1
  rintro e W2 ⟨v2, rfl, ho2, hB2⟩
  obtain ⟨a2, c2, hv2⟩ := ho2.slice
  obtain ⟨m, hm⟩ : ∃ m, P.length = m := ⟨_, rfl⟩
  rw [hm] at hv2 hPl
  subst hv2
  have HM : Hid (P.length = m) := hm
  clear hm
  have hs1 := hB1.size
  have hs2 := hB2.size
  have hBw2 : Below w.heap.size w W2 := hB1.trans (hB2.mono hs1)
  have hg2 := hg.below hBw2 hg.size
  have hr2 := hrp W2 (hv.below hBw2) hg2
  go_wp2_with fail
  refine hr2.mono ?_
  clear hr2
  rintro e W3 ⟨v3, rfl, ho3, hB3⟩
  have ho2' := ho2.below hB3
  have hs3 := hB3.size
  have hsame := same_yes _ _ P W3 (ho2'.digs (by omega)) (ho3.digs (by omega)) (by have := HM.out; omega)
  obtain ⟨a3, n3, c3, rfl⟩ : ∃ a n c, v3 = Value.slice a n c := by obtain ⟨a, c, e⟩ := ho3.slice; exact ⟨a, _, c, e⟩
  go_wp2_with fail
  refine hsame.mono ?_
  clear hsame
  rintro e W4 ⟨rfl, hB4⟩
  have ho4 := ho2'.below hB4
  have hB14 : Below W1.heap.size W1 W4 := (hB2.trans (hB3.mono hs2)).trans (hB4.mono (by omega))
  clear ho2 ho2' ho3 hB2 hB3 hB4
  go_wp2_with fail
  go_loopw [10] (fun kv wr => ∃ (k : Nat) (P' : List Dig), k ≤ m ∧ kv = .int .i64 k ∧ P'.length = m ∧ OwnD W1.heap.size wr (.slice a2 m c2) P' ∧ Below W1.heap.size W1 wr) (fun kv _ => m - (intOf kv).toNat)
  case atStart => exact ⟨0, P, Nat.zero_le _, rfl, HM.out, ho4, hB14⟩
  case round =>
    obtain ⟨k, P', hk, rfl, hPm, ho, hBw⟩ := hrel
    have HPm : Hid (P'.length = m) := hPm
    clear hPm
    by_cases hlt : k < m
    · obtain ⟨g, c, eg, hgb, hgl⟩ := ho.blk (by have := HPm.out; omega)
      simp only [Value.slice.injEq] at eg
      obtain ⟨rfl, hx, rfl⟩ := eg
      clear hx
      have hkp : k < P'.length := by have := HPm.out; omega
      have hd32 := ho.1.at_ hkp
      obtain ⟨g', o', c', e', hrg, _⟩ := (ho.digs (by omega)).at_ hkp
      simp only [Value.slice.injEq, Option.some.injEq, Addr.mk.injEq, and_true] at e'
      obtain ⟨⟨rfl, rfl⟩, hx, rfl⟩ := e'
      clear hx
      obtain ⟨b0, hb0⟩ : ∃ b0, (P'[k]?.getD [])[0]?.getD 0 = b0 := ⟨_, rfl⟩
      have hc0 : wr.cell? ⟨g, k * 32, none⟩ = some (.int .u8 (bv b0)) := by
        have := hrg 0 (.int .u8 (bv b0)) (by rw [Array.getElem?_toList, byteCells_at _ 0 (by omega), hb0])
        simpa using this
      have hset := ho.setFst k (b0 + 1) hkp
      have hfr : wr.frozen? ⟨g, k * 32, none⟩ = false := by
        rcases ho.2.2 with ⟨e, _⟩ | ⟨g1, cap1, cur1, e, _, hg1', _⟩
        · cases e
        · simp only [Value.slice.injEq, Option.some.injEq, Addr.mk.injEq, and_true] at e
          obtain ⟨rfl, _, _⟩ := e
          exact (show Has wr g cur1 30 from hg1').free _
      clear hb0 hrg
      go_wp2_with fail
      have hS0 : wr.cell? ⟨g, k * 32, none⟩ = some (.int .u8 (bv b0)) := hc0
      refine wp_region_K (S := fun X => X.cell? ⟨g, k * 32, none⟩ = some (.int .u8 (bv b0))) (fun i => decide (i < 10)) (by kernel_rfl) ?_
      refine K_take (i := 0) (v := .slice (some ⟨g, 0, none⟩) m c2) rfl (by kernel_rfl) (by kernel_rfl) (by kernel_rfl) (by kernel_rfl) (by kernel_rfl) (by kernel_rfl) (fun w' hS => by go_simp) hS0 ?_
      refine K_take (i := 1) (v := .int .i64 (k : Int)) rfl (by kernel_rfl) (by kernel_rfl) (by kernel_rfl) (by kernel_rfl) (by kernel_rfl) (by kernel_rfl) (fun w' hS => by go_simp) hS0 ?_
      refine K_take (i := 2) (v := .slice (some ⟨g, 0, none⟩) m c2) rfl (by kernel_rfl) (by kernel_rfl) (by kernel_rfl) (by kernel_rfl) (by kernel_rfl) (by kernel_rfl) (fun w' hS => by go_simp) hS0 ?_
      refine K_take (i := 3) (v := .int .i64 (k : Int)) rfl (by kernel_rfl) (by kernel_rfl) (by kernel_rfl) (by kernel_rfl) (by kernel_rfl) (by kernel_rfl) (fun w' hS => by go_simp) hS0 ?_
      refine K_take (i := 4) (v := .pointer (some ⟨g, k * 32, none⟩)) rfl (by kernel_rfl) (by kernel_rfl) (by kernel_rfl) (by kernel_rfl) (by kernel_rfl) (by kernel_rfl) (fun w' hS => by go_simp) hS0 ?_
      refine K_take (i := 5) (v := .pointer (some ⟨g, k * 32, none⟩)) rfl (by kernel_rfl) (by kernel_rfl) (by kernel_rfl) (by kernel_rfl) (by kernel_rfl) (by kernel_rfl) (fun w' hS => by go_simp) hS0 ?_
      refine K_take (i := 6) (v := .int .u8 (bv b0)) rfl (by kernel_rfl) (by kernel_rfl) (by kernel_rfl) (by kernel_rfl) (by kernel_rfl) (by kernel_rfl) (fun w' hS => by go_simp) hS0 ?_
      refine K_take (i := 7) (v := .int .u8 (bv (b0 + 1))) rfl (by kernel_rfl) (by kernel_rfl) (by kernel_rfl) (by kernel_rfl) (by kernel_rfl) (by kernel_rfl) (fun w' hS => by go_simp; exact wrap_byte b0) hS0 ?_
      refine K_take (i := 8) (v := .pointer (some ⟨g, k * 32, none⟩)) rfl (by kernel_rfl) (by kernel_rfl) (by kernel_rfl) (by kernel_rfl) (by kernel_rfl) (by kernel_rfl) (fun w' hS => by go_simp) hS0 ?_
      refine K_take (i := 9) (v := .pointer (some ⟨g, k * 32, none⟩)) rfl (by kernel_rfl) (by kernel_rfl) (by kernel_rfl) (by kernel_rfl) (by kernel_rfl) (by kernel_rfl) (fun w' hS => by go_simp) hS0 ?_
      refine K_next (i := 10) (by kernel_rfl) rfl (by kernel_rfl) (fun K hK => ?_)
      go_simp
      refine hK _ _ (fun h => absurd h (by decide)) (K_done (by kernel_rfl) ?_)
      clear hK hS0
      refine named (p := fun X => Exit.inBlock 1 _ _ _ X) ?_
      intro W5 hW5
      have hX : Ex g wr W5 := by rw [hW5]; first | exact Ex.set g wr (k * 32) _ | exact (show Ex g wr wr.drew from ⟨rfl, rfl, rfl, Nat.le_refl _, fun _ _ _ => rfl⟩).trans (Ex.set g wr.drew (k * 32) _) | exact (Ex.set g wr (k * 32) _).trans ⟨rfl, rfl, rfl, Nat.le_refl _, fun _ _ _ => rfl⟩
      have hset2 : OwnD W1.heap.size W5 (.slice (some ⟨g, 0, none⟩) m c2) (setFst P' k (b0 + 1)) := by rw [hW5]; first | exact hset | exact hset.below (Below.refl _ _).drew
      have hBn : Below W1.heap.size W1 W5 := hBw.trans (hX.low hgb hBw.size)
      clear hW5 hX hset hc0 hfr
      go_wp2_with fail
      go_roundw
      case rel => exact ⟨k + 1, setFst P' k (b0 + 1), by omega, by go_num, by rw [setFst_len]; exact HPm.out, hset2, hBn⟩
      case measure => simp [intOf]; omega
    · obtain rfl : k = m := by omega
      have hgw := hg1.below hBw hg1.size
      have hTw := hT1.below hBw
      have hsw := hBw.size
      have hp5 := hpt _ tb wr hTw hgw
      clear hlt hk
      go_wp2_with fail
      refine hp5.mono ?_
      clear hp5
      rintro e W6 ⟨v6, rfl, ho6, hB6⟩
      obtain ⟨a6, n6, c6, rfl⟩ : ∃ a n c, v6 = Value.slice a n c := by obtain ⟨a, c, e⟩ := ho6.slice; exact ⟨a, _, c, e⟩
      have hs6 := hB6.size
      have hBw6 : Below w.heap.size w W6 := (hB1.trans (hBw.mono hs1)).trans (hB6.mono (by omega))
      have hg6 := hg.below hBw6 hg.size
      have hr6 := hrp W6 (hv.below hBw6) hg6
      go_wp2_with fail
      refine hr6.mono ?_
      clear hr6
      rintro e W7 ⟨v7, rfl, ho7, hB7⟩
      obtain ⟨a7, n7, c7, rfl⟩ : ∃ a n c, v7 = Value.slice a n c := by obtain ⟨a, c, e⟩ := ho7.slice; exact ⟨a, _, c, e⟩
      have hs7 := hB7.size
      have hsame := same_yes _ _ P W7 ((ho6.below hB7).digs (by omega)) (ho7.digs (by omega)) (by have := HM.out; omega)
      have hBw7 : Below w.heap.size w W7 := hBw6.trans (hB7.mono (by omega))
      go_wp2_with (first
        | (go_at_call 15; refine hsame.mono ?_; clear hsame; rintro e W8 ⟨rfl, hB8⟩; have hBw8 : Below w.heap.size w W8 := hBw7.trans (hB8.mono (by omega)); have hwk := works_any W8 (hg.below hBw8 hg.size))
        | (go_at_call 20; refine (num_any _ _).mono ?_; rintro e w' ⟨rfl, hw⟩; obtain rfl := hw.symm)
        | (go_at_call 13; refine hwk.mono ?_; rintro e W9 ⟨rfl, hB9⟩))
      go_ret
      exact ⟨rfl, hBw8.trans (hB9.mono hBw8.size)⟩
set_option maxRecDepth 100000 in
set_option maxHeartbeats 1000000 in
theorem paths_walk (v : Value) (ds : List Dig) (i : Int) (w : World) (hv : Digs w v ds) (hg : Glob w) :
    Calls Tryd.prog 4 #[v, .int .i64 i] w fun e w' => e = .returned (.bool true) ∧ Below w.heap.size w w' := by
  by_cases h0 : 1 ≤ ds.length
  · by_cases h16 : ds.length ≤ 16
    · by_cases hi : 0 ≤ i ∧ i < (ds.length : Int)
      · obtain ⟨I, rfl⟩ := Int.eq_ofNat_of_zero_le hi.1
        exact paths_ok v ds I w hv h16 (by omega) hg
      · have hnew := tnew_any v ds w hv h0 h16
        have ht : thereB i ds.length = false := by
          simp only [thereB, Bool.and_eq_false_iff, decide_eq_false_iff_not]
          omega
        have hbd : ∀ (B tb : Nat) (w : World), TreeAt B w tb ds → Calls Tryd.prog 18 #[.pointer (some ⟨tb, 0, none⟩), .int .i64 i] w fun e w' => e = .returned (.tuple #[.slice none 0 0, .int .i64 4]) ∧ Below w.heap.size w w' := fun B tb w h =>
          path_bad _ i 4 w (by decide) (fun w1 hw1 => by have := asked_any (h.below hw1) i; rw [ht] at this; exact this)
        obtain ⟨a0, c0, rfl⟩ := hv.slice
        obtain ⟨n, hn⟩ : ∃ n, ds.length = n := ⟨_, rfl⟩
        rw [hn] at h16 h0 hi hnew ⊢
        clear hn ht hv
        by_cases hneg : i < 0
        · go_enter Tryd.func4, Tryd.ntmps4
          go_wp2_with fail
          refine hnew.mono ?_
          clear hnew
          rintro e W1 ⟨tb, rfl, hT1, hB1⟩
          have hp1 := hbd _ tb W1 hT1
          go_wp2_with fail
          refine hp1.mono ?_
          clear hp1
          rintro e W2 ⟨rfl, hB2⟩
          have hBw2 : Below w.heap.size w W2 := hB1.trans (hB2.mono hB1.size)
          have hwk := works_any W2 (hg.below hBw2 hg.size)
          go_wp2_with (first
            | (go_at_call 20; refine (num_any _ _).mono ?_; rintro e w' ⟨rfl, hw⟩; obtain rfl := hw.symm)
            | (go_at_call 13; refine hwk.mono ?_; rintro e W9 ⟨rfl, hB9⟩))
          go_ret
          exact ⟨rfl, hBw2.trans (hB9.mono hBw2.size)⟩
        · have hge : (n : Int) ≤ i := by omega
          go_enter Tryd.func4, Tryd.ntmps4
          go_wp2_with fail
          refine hnew.mono ?_
          clear hnew
          rintro e W1 ⟨tb, rfl, hT1, hB1⟩
          have hp1 := hbd _ tb W1 hT1
          go_wp2_with fail
          refine hp1.mono ?_
          clear hp1
          rintro e W2 ⟨rfl, hB2⟩
          have hBw2 : Below w.heap.size w W2 := hB1.trans (hB2.mono hB1.size)
          have hwk := works_any W2 (hg.below hBw2 hg.size)
          go_wp2_with (first
            | (go_at_call 20; refine (num_any _ _).mono ?_; rintro e w' ⟨rfl, hw⟩; obtain rfl := hw.symm)
            | (go_at_call 13; refine hwk.mono ?_; rintro e W9 ⟨rfl, hB9⟩))
          go_ret
          exact ⟨rfl, hBw2.trans (hB9.mono hBw2.size)⟩
    · obtain ⟨a0, c0, rfl⟩ := hv.slice
      have hwk := works_any w hg
      go_enter Tryd.func4, Tryd.ntmps4
      go_wp2_with (go_at_call 13; refine hwk.mono ?_; rintro e W9 ⟨rfl, hB9⟩)
      go_ret
      exact ⟨rfl, hB9⟩
  · obtain ⟨a0, c0, rfl⟩ := hv.slice
    have hwk := works_any w hg
    go_enter Tryd.func4, Tryd.ntmps4
    go_wp2_with (go_at_call 13; refine hwk.mono ?_; rintro e W9 ⟨rfl, hB9⟩)
    go_ret
    exact ⟨rfl, hB9⟩
end Go.Proofs.YtcmkjgodgocdfaaDoor
