/- ShaDigits: the law's walk. -/
import Derived.Test.YtkcngkkjlnadiaaDoorD2
import Derived.Lib.ConvBytes
namespace Go.Proofs.YtkcngkkjlnadiaaDoor
open Go.RowKit

/-- An operation by its run. -/
theorem wpList_run {P : Program} {ops : Array Oper} {rest : List Oper} {o : Oper} {a : Act} {w w' : World} {v : Value} {Q : Exit → Act → World → Prop} (hw : Region.wanted o (yielded ops a.tmps) = true)
    (hrun : (execOp a.eval o).run P w = .ok (.value v) w') (h : wpList P ops Q rest (a.put o.dst v) w') : wpList P ops Q (o :: rest) a w := by
  unfold wpList
  rw [if_pos hw]
  refine .inl ?_
  unfold Oper.wp
  rw [hrun]
  exact h

theorem wpList_convert_run {P : Program} {ops : Array Oper} {rest : List Oper} {o : Oper} {a : Act} {w w' : World} {Q : Exit → Act → World → Prop} (hw : Region.wanted o (yielded ops a.tmps) = true)
    (src dst : TypeId) (x : Operand) (ho : o.op = .convert src dst x) (v0 v : Value) (hx : a.eval x = v0) (hrun : (convert src dst v0).run P w = .ok v w') (h : wpList P ops Q rest (a.put o.dst v) w') : wpList P ops Q (o :: rest) a w := by
  refine wpList_run hw ?_ h
  unfold execOp
  simp only [ho, hx, Sem.run_bind, hrun, Sem.run_pure, Result.andThen_ok]
/-- A row of bytes from a block's start on. -/
def Row (W : World) (g : Nat) (l : List UInt8) : Prop := g < W.heap.size ∧ ∀ j, j < l.length → W.cell? ⟨g, j, none⟩ = some (.int .u8 (bv (l[j]?.getD 0)))
theorem Row.below {W W' : World} {g B : Nat} {l : List UInt8} (h : Row W g l) (k : Below B W W') (hb : g < B) : Row W' g l :=
  ⟨Nat.lt_of_lt_of_le h.1 k.size, fun j hj => by rw [World.cell?_of_block (w := W) (k.block g hb)]; exact h.2 j hj⟩
theorem Row.set {W : World} {g : Nat} {l : List UInt8} (h : Row W g l) (p : Nat) (x : UInt8) (hp : p < l.length) : Row (W.setCell ⟨g, p, none⟩ (.int .u8 (bv x))) g (l.set p x) := by
  refine ⟨by simpa using h.1, fun j hj => ?_⟩
  rw [List.length_set] at hj
  by_cases e : j = p
  · subst e
    rw [World.cell?_setCell_same _ _ _ (h.2 j hj)]
    simp [hj]
  · rw [cell_set_off e (h.2 j hj), List.getElem?_set_ne (by omega)]
theorem row_string (W : World) (g c : Nat) (l : List UInt8) (h : Row W g l) :
    (convert 22 9 (.slice (some ⟨g, 0, none⟩) l.length c)).run Tryd.prog W = .ok (.string ⟨l.toArray⟩) W := by
  rw [run_convert_bytes_string W 22 9 5 _ _ _ Tryd.underlying22 Tryd.underlying5 Tryd.underlying9]
  have hld := run_loadCells_list (P := Tryd.prog) (w := W) ⟨g, 0, none⟩ ((l.map fun b => bv b).map (Value.int .u8)) (fun j v hv => by
    have hj : j < l.length := by
      have := (List.getElem?_eq_some_iff.1 hv).1
      simpa using this
    rw [Addr.add_mid, Nat.zero_add, h.2 j hj, ← hv]
    simp [hj])
  have e : ((l.map fun b => bv b).map (Value.int .u8)).length = l.length := by simp
  rw [e] at hld
  rw [run_bytesToString W ⟨g, 0, none⟩ _ _ (l.map fun b => bv b) hld, foldl_push]
  simp
theorem bytesWorld_row (w : World) (l : List UInt8) : Row (Lib.bytesWorld w 5 ⟨l.toArray⟩) w.heap.size l := by
  refine ⟨by rw [Lib.bytesWorld_size]; omega, fun j hj => ?_⟩
  rw [Lib.bytesWorld_cell w 5 ⟨l.toArray⟩ j hj]
  simp [bv, List.getD]
theorem bytesWorld_below (w : World) (s : ByteArray) : Below w.heap.size w (Lib.bytesWorld w 5 s) :=
  ⟨rfl, rfl, rfl, by rw [Lib.bytesWorld_size]; omega, fun j hj => Lib.bytesWorld_at_old w 5 s j hj⟩
theorem bytesWorld_free (w : World) (l : List UInt8) (j : Nat) (hj : j < l.length) : (Lib.bytesWorld w 5 ⟨l.toArray⟩).frozen? ⟨w.heap.size, j, none⟩ = false := by
  have := Lib.bytesWorld_at_new w 5 ⟨l.toArray⟩
  have hs : l.length ≤ (Lib.bytesCells w 5 ⟨l.toArray⟩).size := by simp [Lib.bytesCells]
  simp [World.frozen?, this]
  omega
/-- Which digit: a number of 0 .. 63. -/
theorem at_of (n : Int) : ∃ q : Int, ∃ k : Nat, n.tmod 64 = q ∧ -64 < q ∧ q < 64 ∧ (q + 64).tmod 64 = (k : Int) ∧ (q + 64) % 64 = (k : Int) ∧ k < 64 := by
  have h1 := Int.tmod_lt_of_pos n (show (0 : Int) < 64 by decide)
  have h2 := Int.tmod_lt_of_pos (-n) (show (0 : Int) < 64 by decide)
  rw [Int.neg_tmod] at h2
  refine ⟨n.tmod 64, ((n.tmod 64 + 64) % 64).toNat, rfl, by omega, h1, ?_, by omega, by omega⟩
  rw [Int.tmod_eq_emod_of_nonneg (by omega)]
  omega

set_option maxRecDepth 100000 in
set_option maxHeartbeats 2000000 in
theorem digits_walk (x : List UInt8) (n : Int) (to : UInt8) (hx : x.length = 32) (w : World) (hg0 : Glob w) :
    Calls Tryd.prog 12 #[.agg (byteCells x), .int .i64 n, .int .u8 (bv to)] w fun e w' => e = .returned (.bool true) ∧ Below w.heap.size w w' := by
  have hgs := hg0.size
  have sx : (byteCells x).size = 32 := by rw [byteCells_size, hx]
  obtain ⟨q, k, hq, q0, q1, hk1, hk2, hk⟩ := at_of n
  go_enter Tryd.func12, Tryd.ntmps12
  go_wp2_with (refine wpList_load_row rfl 25 _ rfl w.heap.size rfl 25 (byteCells x) (0, 0) _ (has_new _ _ _ _ rfl) Tryd.underlying25 rfl (by rw [sx]; kernel_rfl) ?_)
  refine named (p := fun X => Calls _ _ _ X _) ?_
  intro W1 hW1
  have hB1 : Below w.heap.size w W1 := by rw [hW1]; exact (Below.refl _ _).alloc (Nat.le_refl _) _
  clear hW1
  refine (reftext_any x hx W1).mono ?_
  rintro e W2 ⟨rfl, hB2⟩
  have hBa : Below w.heap.size w W2 := hB1.trans (hB2.mono hB1.size)
  clear hB1 hB2
  have hT : (textL x).length = 64 := by rw [textL_length, hx]
  generalize textL x = T at *
  have hcv := Lib.run_convert_string_bytes (P := Tryd.prog) W2 9 22 5 ⟨T.toArray⟩ Tryd.underlying9 Tryd.underlying22 Tryd.underlying5
  have hrow := bytesWorld_row W2 T
  have hfr := bytesWorld_free W2 T k (by omega)
  have hB3 := bytesWorld_below W2 ⟨T.toArray⟩
  generalize Lib.bytesWorld W2 5 ⟨T.toArray⟩ = W3 at *
  have hcg := grownCap_ge W2 (ByteArray.size ⟨T.toArray⟩) 0 5
  generalize grownCap W2 (ByteArray.size ⟨T.toArray⟩) 0 5 = cap at *
  have e64 : ByteArray.size ⟨T.toArray⟩ = 64 := hT
  rw [e64] at hcv hcg
  have hcell := hrow.2 k (by omega)
  have hrow4 := hrow.set k to (by omega)
  have hlen : (T.set k to).length = 64 := by rw [List.length_set, hT]
  have hstr := row_string _ _ cap _ hrow4
  rw [hlen] at hstr
  have hBb : Below w.heap.size w (W3.setCell ⟨W2.heap.size, k, none⟩ (.int .u8 (bv to))) :=
    (hBa.trans (hB3.mono hBa.size)).trans ⟨rfl, rfl, rfl, by simp, fun j hj => heap_setCell_other _ _ _ _ (by have := hBa.size; show j ≠ W2.heap.size; omega)⟩
  go_wp2_with fail
  clear hstr hfr hcell hcv hB3 hrow hBa
  generalize W3.setCell ⟨W2.heap.size, k, none⟩ (.int .u8 (bv to)) = W4 at *
  generalize W2.heap.size = G at *
  generalize T.set k to = L at *
  refine (parse_any L W4).mono ?_
  rintro e W5 ⟨rfl, hB5⟩
  have hrow5 := hrow4.below hB5 hrow4.1
  have hBc : Below w.heap.size w W5 := hBb.trans (hB5.mono hBb.size)
  clear hBb hB5 hrow4
  have hd := parseD_length L
  have HDe : ∃ D E, parseD L = D ∧ parseE L = E := ⟨_, _, rfl, rfl⟩
  obtain ⟨D, E, hD, hE⟩ := HDe
  rw [hD, hE]
  rw [hD] at hd
  have HD : Hid (parseD L = D ∧ parseE L = E) := ⟨hD, hE⟩
  clear hD hE
  have sd : (byteCells D).size = 32 := by rw [byteCells_size, hd]
  have hn5 := has_new W5 (zeroCells 32) 25 W5.heap.size rfl
  have hB6' : Below W5.heap.size W5 ((W5.alloc (.cells (zeroCells 32) 25)).setRow W5.heap.size (byteCells D)) := ((Below.refl _ _).alloc (Nat.le_refl _) _).trans ⟨rfl, rfl, rfl, by simp, fun j hj => setRow_other _ _ _ _ (by omega)⟩
  have hstr6 := row_string _ _ cap _ (hrow5.below hB6' hrow5.1)
  rw [hlen] at hstr6
  go_wp2_with (first
    | refine wpList_store_row rfl 25 _ _ rfl W5.heap.size (byteCells D) rfl rfl 25 _ hn5 (by rw [sd]; kernel_rfl) (by rw [sd, zeroCells_size]) (byteCells_one _) ?_
    | refine wpList_convert_run (by rfl) 22 9 _ rfl _ _ rfl hstr6 ?_)
  refine named (p := fun X => Calls _ _ _ X _) ?_
  intro W6 hW6
  have hB6 : Below W5.heap.size W5 W6 := by rw [hW6]; exact hB6'
  have bd6 : Has W6 W5.heap.size (byteCells D) 25 := by rw [hW6]; exact setRow_heap _ _ _ _ _ _ hn5
  have hBe : Below w.heap.size w W6 := hBc.trans (hB6.mono hBc.size)
  clear hstr6 hB6' hW6 hn5 hB6 hBc hrow5
  generalize W5.heap.size = R5 at *
  refine (refparse_any L W6).mono ?_
  rintro e W7 ⟨rfl, hB7⟩
  rw [HD.out.1, HD.out.2]
  have bd7 := bd6.below hB7 bd6.lt
  have hBf : Below w.heap.size w W7 := hBe.trans (hB7.mono hBe.size)
  clear hBe hB7 bd6
  have hn7 := has_new W7 (zeroCells 32) 25 W7.heap.size rfl
  have hB8' : Below W7.heap.size W7 ((W7.alloc (.cells (zeroCells 32) 25)).setRow W7.heap.size (byteCells D)) := ((Below.refl _ _).alloc (Nat.le_refl _) _).trans ⟨rfl, rfl, rfl, by simp, fun j hj => setRow_other _ _ _ _ (by omega)⟩
  have bd8 := bd7.below hB8' bd7.lt
  have bq8 : Has ((W7.alloc (.cells (zeroCells 32) 25)).setRow W7.heap.size (byteCells D)) W7.heap.size (byteCells D) 25 := setRow_heap _ _ _ _ _ _ hn7
  have hBg : Below w.heap.size w _ := hBf.trans (hB8'.mono hBf.size)
  have hg9 := hg0.below hBg hgs
  have q2 : ∀ w, (Op.equalIn 10000 25 (.agg (byteCells D)) (.agg (byteCells D))).run Tryd.prog w = .ok true w := fun w => by
    have := eq_dig D D hd hd w; rwa [beq_self_eq_true] at this
  go_wp2_with (first
    | (go_at_call 23; refine (num_any _ _).mono ?_; rintro e w' ⟨rfl, hw⟩; obtain rfl := hw.symm)
    | refine wpList_store_row rfl 25 _ _ rfl W7.heap.size (byteCells D) rfl rfl 25 _ hn7 (by rw [sd]; kernel_rfl) (by rw [sd, zeroCells_size]) (byteCells_one _) ?_
    | refine wpList_load_row_if (by rfl) 25 _ rfl R5 rfl 25 (byteCells D) (0, 0) _ bd8 Tryd.underlying25 rfl (by rw [sd]; kernel_rfl) ?_
    | refine wpList_load_row_if (by rfl) 25 _ rfl W7.heap.size rfl 25 (byteCells D) (0, 0) _ bq8 Tryd.underlying25 rfl (by rw [sd]; kernel_rfl) ?_)
  refine (works_any _ hg9).mono ?_
  rintro e Wa ⟨rfl, hBi⟩
  go_wp2_with fail
  go_ret
  exact ⟨rfl, hBg.trans (hBi.mono hBg.size)⟩
end Go.Proofs.YtkcngkkjlnadiaaDoor
