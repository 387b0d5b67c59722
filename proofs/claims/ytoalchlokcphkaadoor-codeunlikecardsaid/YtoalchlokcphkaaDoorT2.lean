/- takers. -/
import Derived.Test.YtoalchlokcphkaaDoorT1
import Derived.Laws.Tables
namespace Go.Proofs.YtoalchlokcphkaaDoor
open Go.RowKit

set_option maxHeartbeats 1000000 in
theorem mk_any (k : Int) (bp : Nat) (W : World) :
    Calls Tryd.prog 50 #[.int .i64 k, .pointer (some ⟨bp, 0, none⟩)] W fun e w' => e = .returned (tkF bp W.heap.size) ∧ w' = W.alloc (.cells #[.int .i64 k] 3) := by
  go_enter Tryd.func50, Tryd.ntmps50
  go_wp2
  go_ret
  exact ⟨rfl, rfl⟩
theorem setB_other {W : World} {mb : Nat} {es : Array MapEntry} {clock : Nat} (h : W.heap[mb]? = some (.map es clock)) (o : Obj) {i : Nat} (hi : i ≠ mb) : (ChangeMaps.setBlock W mb o).heap[i]? = W.heap[i]? := ChangeMaps.heap_setBlock_other h o hi
theorem setB_same {W : World} {mb : Nat} {es : Array MapEntry} {clock : Nat} (h : W.heap[mb]? = some (.map es clock)) (o : Obj) : (ChangeMaps.setBlock W mb o).heap[mb]? = some o := ChangeMaps.heap_setBlock_same h o
theorem setB_size (W : World) (mb : Nat) (o : Obj) : (ChangeMaps.setBlock W mb o).heap.size = W.heap.size := by unfold ChangeMaps.setBlock; simp
theorem setB_ex (W : World) {mb : Nat} {es : Array MapEntry} {clock : Nat} (h : W.heap[mb]? = some (.map es clock)) (o : Obj) : Ex mb W (ChangeMaps.setBlock W mb o) :=
  ⟨rfl, rfl, rfl, by rw [setB_size]; exact Nat.le_refl _, fun _ _ hi => setB_other h o hi⟩
set_option maxRecDepth 10000 in
set_option maxHeartbeats 2000000 in
theorem takers_any (v : Value) (d : List UInt8) (w : World) (hv : Bytes w v d) :
    Calls Tryd.prog 43 #[v] w fun e w' => ∃ bp b1 b2 b4 mb, e = .returned (.map (some mb)) ∧ Tk w.heap.size bp b1 b2 b4 mb w' d ∧ Below w.heap.size w w' := by
  obtain ⟨a, n, c, rfl⟩ : ∃ a n c, v = .slice a n c := by obtain ⟨a, c, _, _, h, _⟩ := hv; exact ⟨a, _, c, h⟩
  obtain ⟨W0, hW0⟩ : ∃ W0, W0 = (w.alloc (.cells #[.slice a n c] 27)).alloc (.map #[] 0) := ⟨_, rfl⟩
  have hz0 : Hid (W0.heap.size = w.heap.size + 2) := by show _ = _; rw [hW0]; simp
  have hm0 : W0.heap[w.heap.size + 1]? = some (.map #[] 0) := by rw [hW0, alloc_get, if_pos (by simp)]
  have hb0 : Has W0 w.heap.size #[.slice a n c] 27 := by rw [hW0]; exact has_old (has_new _ _ _ _ rfl)
  have hB0 : Below w.heap.size w W0 := by rw [hW0]; exact ((Below.refl _ _).alloc (Nat.le_refl _) _).alloc (by simp) _
  have hmm : ∀ w, (Instr.makeMap 76 none).run Tryd.prog w = .ok (.map (some w.heap.size)) (w.alloc (.map #[] 0)) := fun _ => rfl
  have hsz : (w.alloc (.cells #[.slice a n c] 27)).heap.size = w.heap.size + 1 := by simp
  go_enter Tryd.func43, Tryd.ntmps43
  go_wp2_with fail
  rw [← hW0]
  clear hmm hsz hW0
  refine (mk_any 1 w.heap.size W0).mono ?_
  rintro e W1 ⟨rfl, hW1⟩
  have hz1 : Hid (W1.heap.size = w.heap.size + 3) := by show _ = _; rw [hW1]; have := hz0.out; simp; omega
  have hm1 : W1.heap[w.heap.size + 1]? = some (.map #[] 0) := by rw [hW1, alloc_get, if_neg (by have := hz0.out; omega)]; exact hm0
  have hb1 : Has W1 w.heap.size #[.slice a n c] 27 := by rw [hW1]; exact has_old hb0
  have g0 : Has W1 (w.heap.size + 2) #[.int .i64 1] 3 := by rw [hW1]; exact has_new _ _ _ _ hz0.out.symm
  have hB1 : Below w.heap.size w W1 := by rw [hW1]; exact hB0.alloc hB0.size _
  rw [hz0.out]
  have hp1 : (Instr.mapUpdate 76 (.map (some (w.heap.size + 1))) (.int .i64 1) (tkF w.heap.size (w.heap.size + 2))).run Tryd.prog W1 = .ok () (ChangeMaps.setBlock W1 (w.heap.size + 1) (.map #[⟨.int .i64 1, tkF w.heap.size (w.heap.size + 2), 0⟩] 1)) := put76 hm1 1 (by decide) (tkF w.heap.size (w.heap.size + 2)) rfl
  have he1 : Ex (w.heap.size + 1) W1 (ChangeMaps.setBlock W1 (w.heap.size + 1) (.map #[⟨.int .i64 1, tkF w.heap.size (w.heap.size + 2), 0⟩] 1)) := setB_ex W1 hm1 _
  clear hW1 hm0 hb0 hB0 hz0
  go_wp2_with fail
  refine named (p := fun W => Calls _ _ _ W _) ?_
  intro W2 hW2
  rw [← hW2] at he1
  have hz0 : Hid (W2.heap.size = w.heap.size + 3) := by show _ = _; rw [hW2, setB_size]; exact hz1.out
  have hm0 : W2.heap[w.heap.size + 1]? = some (.map #[⟨.int .i64 1, tkF w.heap.size (w.heap.size + 2), 0⟩] 1) := by rw [hW2]; exact setB_same hm1 _
  have hb0 := hb1.ex he1 (by omega)
  replace g0 := g0.ex he1 (by omega)
  have hB0 : Below w.heap.size w W2 := Below.ex hB1 hB1.size he1 (by omega)
  clear hW2 hm1 hb1 hB1 hz1 he1 hp1
  refine (mk_any 2 w.heap.size W2).mono ?_
  rintro e W3 ⟨rfl, hW1⟩
  have hz1 : Hid (W3.heap.size = w.heap.size + 4) := by show _ = _; rw [hW1]; have := hz0.out; simp; omega
  have hm1 : W3.heap[w.heap.size + 1]? = some (.map #[⟨.int .i64 1, tkF w.heap.size (w.heap.size + 2), 0⟩] 1) := by rw [hW1, alloc_get, if_neg (by have := hz0.out; omega)]; exact hm0
  have hb1 : Has W3 w.heap.size #[.slice a n c] 27 := by rw [hW1]; exact has_old hb0
  have g0 : Has W3 (w.heap.size + 2) #[.int .i64 1] 3 := by rw [hW1]; exact has_old g0
  have g1 : Has W3 (w.heap.size + 3) #[.int .i64 2] 3 := by rw [hW1]; exact has_new _ _ _ _ hz0.out.symm
  have hB1 : Below w.heap.size w W3 := by rw [hW1]; exact hB0.alloc hB0.size _
  rw [hz0.out]
  have hp1 : (Instr.mapUpdate 76 (.map (some (w.heap.size + 1))) (.int .i64 2) (tkF w.heap.size (w.heap.size + 3))).run Tryd.prog W3 = .ok () (ChangeMaps.setBlock W3 (w.heap.size + 1) (.map #[⟨.int .i64 1, tkF w.heap.size (w.heap.size + 2), 0⟩, ⟨.int .i64 2, tkF w.heap.size (w.heap.size + 3), 1⟩] 2)) := put76 hm1 2 (by decide) (tkF w.heap.size (w.heap.size + 3)) rfl
  have he1 : Ex (w.heap.size + 1) W3 (ChangeMaps.setBlock W3 (w.heap.size + 1) (.map #[⟨.int .i64 1, tkF w.heap.size (w.heap.size + 2), 0⟩, ⟨.int .i64 2, tkF w.heap.size (w.heap.size + 3), 1⟩] 2)) := setB_ex W3 hm1 _
  clear hW1 hm0 hb0 hB0 hz0
  go_wp2_with fail
  refine named (p := fun W => Calls _ _ _ W _) ?_
  intro W4 hW2
  rw [← hW2] at he1
  have hz0 : Hid (W4.heap.size = w.heap.size + 4) := by show _ = _; rw [hW2, setB_size]; exact hz1.out
  have hm0 : W4.heap[w.heap.size + 1]? = some (.map #[⟨.int .i64 1, tkF w.heap.size (w.heap.size + 2), 0⟩, ⟨.int .i64 2, tkF w.heap.size (w.heap.size + 3), 1⟩] 2) := by rw [hW2]; exact setB_same hm1 _
  have hb0 := hb1.ex he1 (by omega)
  replace g0 := g0.ex he1 (by omega)
  replace g1 := g1.ex he1 (by omega)
  have hB0 : Below w.heap.size w W4 := Below.ex hB1 hB1.size he1 (by omega)
  clear hW2 hm1 hb1 hB1 hz1 he1 hp1
  refine (mk_any 4 w.heap.size W4).mono ?_
  rintro e W5 ⟨rfl, hW1⟩
  have hz1 : Hid (W5.heap.size = w.heap.size + 5) := by show _ = _; rw [hW1]; have := hz0.out; simp; omega
  have hm1 : W5.heap[w.heap.size + 1]? = some (.map #[⟨.int .i64 1, tkF w.heap.size (w.heap.size + 2), 0⟩, ⟨.int .i64 2, tkF w.heap.size (w.heap.size + 3), 1⟩] 2) := by rw [hW1, alloc_get, if_neg (by have := hz0.out; omega)]; exact hm0
  have hb1 : Has W5 w.heap.size #[.slice a n c] 27 := by rw [hW1]; exact has_old hb0
  have g0 : Has W5 (w.heap.size + 2) #[.int .i64 1] 3 := by rw [hW1]; exact has_old g0
  have g1 : Has W5 (w.heap.size + 3) #[.int .i64 2] 3 := by rw [hW1]; exact has_old g1
  have g2 : Has W5 (w.heap.size + 4) #[.int .i64 4] 3 := by rw [hW1]; exact has_new _ _ _ _ hz0.out.symm
  have hB1 : Below w.heap.size w W5 := by rw [hW1]; exact hB0.alloc hB0.size _
  rw [hz0.out]
  have hp1 : (Instr.mapUpdate 76 (.map (some (w.heap.size + 1))) (.int .i64 4) (tkF w.heap.size (w.heap.size + 4))).run Tryd.prog W5 = .ok () (ChangeMaps.setBlock W5 (w.heap.size + 1) (.map #[⟨.int .i64 1, tkF w.heap.size (w.heap.size + 2), 0⟩, ⟨.int .i64 2, tkF w.heap.size (w.heap.size + 3), 1⟩, ⟨.int .i64 4, tkF w.heap.size (w.heap.size + 4), 2⟩] 3)) := put76 hm1 4 (by decide) (tkF w.heap.size (w.heap.size + 4)) rfl
  have he1 : Ex (w.heap.size + 1) W5 (ChangeMaps.setBlock W5 (w.heap.size + 1) (.map #[⟨.int .i64 1, tkF w.heap.size (w.heap.size + 2), 0⟩, ⟨.int .i64 2, tkF w.heap.size (w.heap.size + 3), 1⟩, ⟨.int .i64 4, tkF w.heap.size (w.heap.size + 4), 2⟩] 3)) := setB_ex W5 hm1 _
  clear hW1 hm0 hb0 hB0 hz0
  go_wp2_with fail
  go_ret
  refine ⟨w.heap.size, w.heap.size + 2, w.heap.size + 3, w.heap.size + 4, w.heap.size + 1, rfl, ⟨⟨a, n, c, hb1.ex he1 (by omega), ?_⟩, g0.ex he1 (by omega), g1.ex he1 (by omega), g2.ex he1 (by omega), setB_same hm1 _, Nat.le_refl _⟩, Below.ex hB1 hB1.size he1 (by omega)⟩
  have hlo : BytesLo w.heap.size w (.slice a n c) d := by
    obtain ⟨a', cap, db, o, h1, h2, h3, h4, h5⟩ := hv
    exact ⟨a', cap, db, o, h1, h2, h3, h4, h5, by omega⟩
  exact BytesAp.fr hlo (Fr.of_below (S := fun _ => False) (Below.ex hB1 hB1.size he1 (by omega))) (fun _ _ h => h.elim)

/-- What is asked of the takers at a width. -/
theorem Tk.look {B bp b1 b2 b4 mb : Nat} {W : World} {d : List UInt8} (h : Tk B bp b1 b2 b4 mb W d) :
    (Instr.lookup 76 (.map (some mb)) (.int .i64 1) false).run Tryd.prog W = .ok (tkF bp b1) W ∧ (Instr.lookup 76 (.map (some mb)) (.int .i64 2) false).run Tryd.prog W = .ok (tkF bp b2) W ∧ (Instr.lookup 76 (.map (some mb)) (.int .i64 4) false).run Tryd.prog W = .ok (tkF bp b4) W :=
  ⟨look76 h.map 1 (by decide) _ 0 rfl, look76 h.map 2 (by decide) _ 1 rfl, look76 h.map 4 (by decide) _ 2 rfl⟩
/-- The instruction of eight bytes. -/
def sext (n : Nat) : Int := if n < 32768 then n else (n : Int) - 65536
def insOf (x0 x1 x2 x3 x4 x5 x6 x7 : UInt8) : Ins := ⟨x0.toNat, (x1.toNat / 16 : Nat), (x1.toNat % 16 : Nat), sext (numL [x2, x3]), numL [x4, x5, x6, x7]⟩
theorem wrap16 (m : Nat) (hm : m < 65536) : IntKind.i16.wrap (m : Int) = sext m ∧ -32768 ≤ sext m ∧ sext m ≤ 32767 := by
  have e : IntKind.i16.wrap (m : Int) = if (m : Int) % 65536 ≥ 32768 then (m : Int) % 65536 - 65536 else (m : Int) % 65536 := by
    show (if (true && decide ((m : Int) % 65536 ≥ 32768)) = true then (m : Int) % 65536 - 65536 else (m : Int) % 65536) = _
    by_cases h : (m : Int) % 65536 ≥ 32768 <;> simp [h]
  rw [e]
  unfold sext
  by_cases h : m < 32768
  · rw [if_pos h, if_neg (by omega)]; omega
  · rw [if_neg h, if_pos (by omega)]; omega
theorem numL_one (x : UInt8) : numL [x] = x.toNat := by simp [numL]
theorem numL_two (x y : UInt8) : numL [x, y] < 65536 := by have := x.toNat_lt; have := y.toNat_lt; simp [numL]; omega
theorem numL_four (x y z u : UInt8) : numL [x, y, z, u] < 4294967296 := by have := x.toNat_lt; have := y.toNat_lt; have := z.toNat_lt; have := u.toNat_lt; simp [numL]; omega
set_option maxRecDepth 10000 in
set_option maxHeartbeats 2000000 in
theorem ins_any {B bp b1 b2 b4 mb : Nat} {W : World} (x0 x1 x2 x3 x4 x5 x6 x7 : UInt8) (r : List UInt8) (hT : Tk B bp b1 b2 b4 mb W (x0 :: x1 :: x2 :: x3 :: x4 :: x5 :: x6 :: x7 :: r)) :
    Calls Tryd.prog 44 #[.map (some mb)] W fun e w' => e = .returned (.agg (insOf x0 x1 x2 x3 x4 x5 x6 x7).cells.toArray) ∧ Tk B bp b1 b2 b4 mb w' r ∧ Below B W w' ∧ Ex bp W w' := by
  have hbp : bp < W.heap.size := by obtain ⟨_, _, _, h, _⟩ := hT.box; exact h.lt
  have hle := hT.le
  have HC : Hid ((insOf x0 x1 x2 x3 x4 x5 x6 x7).cells.toArray = #[.int .i64 (x0.toNat : Int), .int .i64 ((x1.toNat / 16 : Nat) : Int), .int .i64 ((x1.toNat % 16 : Nat) : Int), .int .i64 (sext (numL [x2, x3])), .int .u32 (numL [x4, x5, x6, x7] : Nat)]) := rfl
  obtain ⟨W0, hW0⟩ : ∃ W0, W0 = W.alloc (.cells #[.int .i64 0, .int .i64 0, .int .i64 0, .int .i64 0, .int .u32 0] 43) := ⟨_, rfl⟩
  have hB0 : Below W.heap.size W W0 := by rw [hW0]; exact (Below.refl W.heap.size W).alloc (Nat.le_refl _) _
  have hT0 := hT.below hB0
  have hH0 : Has W0 W.heap.size #[.int .i64 0, .int .i64 0, .int .i64 0, .int .i64 0, .int .u32 0] 43 := by rw [hW0]; exact has_new _ _ _ _ rfl
  have l1 := hT0.look.1
  unfold tkF at l1
  rw [hW0] at l1
  go_enter Tryd.func44, Tryd.ntmps44
  go_wp2_with fail
  rw [← hW0]
  clear l1 hW0
  refine (tk1 x0 _ hT0).mono ?_
  rintro e W1 ⟨rfl, hT1, hB1, hE1⟩
  rw [numL_one]
  have hH1 := hH0.ex hE1 (by omega)
  have l1 := hT1.look.1
  unfold tkF at l1
  have n0 : x0.toNat < 256 := x0.toNat_lt
  go_wp2_with fail
  refine (tk1 x1 _ hT1).mono ?_
  rintro e W2 ⟨rfl, hT2, hB2, hE2⟩
  rw [numL_one]
  have hH2 := hH1.ex hE2 (by omega)
  clear l1
  have l1 := hT2.look.2.1
  unfold tkF at l1
  have n1 : x1.toNat < 256 := x1.toNat_lt
  go_wp2_with fail
  refine (tk2 x2 x3 _ hT2).mono ?_
  rintro e W3 ⟨rfl, hT3, hB3, hE3⟩
  have hH3 := hH2.ex hE3 (by omega)
  clear l1
  have l1 := hT3.look.2.2
  unfold tkF at l1
  have n2 := numL_two x2 x3
  generalize numL [x2, x3] = m2 at *
  obtain ⟨s, hs⟩ : ∃ s, s = sext m2 := ⟨_, rfl⟩
  rw [← hs] at HC
  have hw : IntKind.i16.wrap (m2 : Int) = s ∧ -32768 ≤ s ∧ s ≤ 32767 := by
    rw [hs]; exact wrap16 m2 n2
  obtain ⟨hw, hs1, hs2⟩ := hw
  clear hs
  go_wp2_with fail
  refine (tk4 x4 x5 x6 x7 r hT3).mono ?_
  rintro e W4 ⟨rfl, hT4, hB4, hE4⟩
  have hH4 := hH3.ex hE4 (by omega)
  have n3 := numL_four x4 x5 x6 x7
  generalize numL [x4, x5, x6, x7] = m3 at *
  clear l1 hH0 hH1 hH2 hH3 hT0 hT1 hT2 hT3
  have e1 : ((x1.toNat : Int) / 16) = ((x1.toNat / 16 : Nat) : Int) := by omega
  have e2 : ((x1.toNat : Int) % 16) = ((x1.toNat % 16 : Nat) : Int) := by omega
  rw [← e1, ← e2] at HC
  clear e1 e2
  obtain ⟨cs, hcs⟩ : ∃ cs : Array Value, cs = #[.int .i64 (x0.toNat : Int), .int .i64 ((x1.toNat : Int) / 16), .int .i64 ((x1.toNat : Int) % 16), .int .i64 s, .int .u32 (m3 : Int)] := ⟨_, rfl⟩
  have q1 : (Tryd.prog.info? 43).map (·.size) = some cs.size := by rw [hcs]; kernel_rfl
  have q2 : 5 = cs.size := by rw [hcs]; rfl
  have q3 : cs.all (·.oneCell') = true := by rw [hcs]; simp [Value.oneCell']
  have HQ : Hid (((Tryd.prog.info? 43).map (·.size) = some cs.size) ∧ 5 = cs.size ∧ cs.all (·.oneCell') = true) := ⟨q1, q2, q3⟩
  clear q1 q2 q3
  go_wp2_with (refine wpList_store_row rfl 43 _ _ rfl W.heap.size cs rfl (by rw [hcs]; rfl) 43 _ hH4 HQ.out.1 HQ.out.2.1 HQ.out.2.2 ?_)
  refine bodyPost_ret (results_cell_row rfl _ _ W.heap.size 43 _ (0, 0) _ rfl (setRow_heap _ _ _ cs _ _ hH4) Tryd.underlying43 rfl HQ.out.1) rfl ?_
  have hzz := hH4.lt
  have hBr : Below B W4 (W4.setRow W.heap.size cs) := ⟨rfl, rfl, rfl, by simp, fun j hj => setRow_other _ _ _ _ (by omega)⟩
  have hEr : Ex W.heap.size W4 (W4.setRow W.heap.size cs) := ⟨rfl, rfl, rfl, by simp, fun j _ hj => setRow_other _ _ _ _ hj⟩
  refine ⟨by rw [HC.out, hcs], hT4.ex hH4 (by decide) (by decide) (by omega) hEr, ?_, ?_⟩
  · exact ((((hB0.mono (by omega)).trans hB1).trans hB2).trans hB3).trans (hB4.trans hBr)
  · refine ⟨?_, ?_, ?_, ?_, fun i hi hne => ?_⟩
    · exact hEr.os.trans (hE4.os.trans (hE3.os.trans (hE2.os.trans (hE1.os.trans hB0.os))))
    · exact hEr.tape.trans (hE4.tape.trans (hE3.tape.trans (hE2.tape.trans (hE1.tape.trans hB0.tape))))
    · exact hEr.output.trans (hE4.output.trans (hE3.output.trans (hE2.output.trans (hE1.output.trans hB0.output))))
    · exact Nat.le_trans hB0.size (Nat.le_trans hE1.size (Nat.le_trans hE2.size (Nat.le_trans hE3.size (Nat.le_trans hE4.size hEr.size))))
    · have s1 := hB0.size; have s2 := hE1.size; have s3 := hE2.size; have s4 := hE3.size; have s5 := hE4.size
      rw [hEr.block i (by omega) (by omega), hE4.block i (by omega) hne, hE3.block i (by omega) hne, hE2.block i (by omega) hne, hE1.block i (by omega) hne, hB0.block i hi]
end Go.Proofs.YtoalchlokcphkaaDoor
