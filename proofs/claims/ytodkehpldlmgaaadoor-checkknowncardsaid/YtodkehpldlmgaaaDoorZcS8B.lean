/- Jumps where a word is asked for, within what is known. -/
import Derived.Test.YtodkehpldlmgaaaDoorZcS8
namespace Go.Proofs.YtodkehpldlmgaaaDoor
open Go.RowKit

set_option maxRecDepth 10000 in
set_option maxHeartbeats 4000000 in
theorem rjump_20d (i : Ins) (k : Kn) (d dl dg m : Nat) (w : World) (hop : i.op = 20) (hd : i.dst = (d : Int)) (hdn : d < 10) (b1 : dl ≤ dg) (b2 : dg < 4294967296) (b3 : m < 4294967296) (p1 : m = dl) (p2 : dl < dg) :
    Calls Tryd.prog 38 #[.agg i.a, .agg k.a, spV dl dg, spV m m] w fun e w' => e = .returned (.agg (wayA ((k).set d (fromR (dl + 1) (dg))) ((k).set d (fromR (m) (m))) 0)) ∧ Below w.heap.size w w' := by
  obtain ⟨dl1, hdl1⟩ : ∃ x, x = dl + 1 := ⟨_, rfl⟩
  have c1 : (dl : Int) ≤ (m : Int) := by omega
  have c2 : (m : Int) ≤ (dg : Int) := by omega
  have c3 : ((dl : Int) != (dg : Int)) = true := by first | (simp; done) | (simp; omega)
  have c4 : ((dl : Int) != (m : Int)) = false := by first | (simp; done) | (simp; omega)
  have c5 : ((m : Int) == (dl : Int)) = true := by first | (simp; done) | (simp; omega)
  have ew : IntKind.i64.wrap ((dl : Int) + 1) = ((dl1 : Nat) : Int) := by rw [IntKind.wrap_i64]; omega
  have HV0 : Hid (dg < 4294967296) := by show _ < _; omega
  have HV1 : Hid (dl1 < 4294967296) := by show _ < _; omega
  have HV2 : Hid (m < 4294967296) := by show _ < _; omega
  have Hdl1 : Hid (dl1 = dl + 1) := hdl1
  clear hdl1
  have hu : True := (fun _ _ _ _ _ _ => trivial) b1 b2 b3 p1 p2 hdn
  clear hu
  clear b1 b2 b3 p1 p2
  have h0 : Hid (i.a[0]? = some (.int .i64 20)) := by show some (Value.int .i64 i.op) = _; rw [hop]
  have h1 : Hid (i.a[1]? = some (.int .i64 (d : Int))) := by show some (Value.int .i64 i.dst) = _; rw [hd]
  go_enter Tryd.func38, Tryd.ntmps38
  go_upto_region 1 with fail
  refine named2 (p := fun X => Code.wp _ _ _ _ X) ?_
  intro W0 hW0
  obtain ⟨hs0, a5, hJ1⟩ := JB.start (show W0 = jW0 w i k dl dg m m from hW0.trans (by kernel_rfl))
  clear hW0
  refine wp_region_lit ?_
  refine valA (.agg zW) ?_
  refine alA 49 zW ?_
  refine stW 49 zW a5 (by kernel_rfl) ?_
  rw [hs0]
  clear a5 hs0
  generalize (W0.alloc (.cells zW 49)).setRow (w.heap.size + 5) zW = W1 at *
  go_simp
  have q0 := hJ1.q h0.out
  have q1 := hJ1.q h1.out
  have d0 := hJ1.d0
  have d1 := hJ1.d1
  have s0 := hJ1.s0
  have s1 := hJ1.s1
  go_upto_region 5 with fail
  clear q0 q1 d0 d1 s0 s1
  have q0 := hJ1.q h0.out
  have q1 := hJ1.q h1.out
  have d0 := hJ1.d0
  have d1 := hJ1.d1
  have s0 := hJ1.s0
  have s1 := hJ1.s1
  have hc := rwith_any (k) d hdn (m) (m) HV2.out HV2.out W1
  first | refine wp_region_lit ?_ | skip
  refine ldA (ld43 hJ1.kn) ?_
  refine valA (.pointer (some ⟨w.heap.size, 1, none⟩)) ?_
  refine ldA (ld3 q1) ?_
  refine ldA (ld86 hJ1.s) ?_
  go_simp
  refine callA hc ?_
  rintro e V2 ⟨rfl, hB2⟩
  refine ⟨_, rfl, ?_⟩
  have hK2 := hJ1.grow hB2
  have ht2 := there_of (o := 31) (n := 31) hK2.v (by rw [wayA_size]; decide)
  clear hc q0 q1 d0 d1 s0 s1
  go_simp
  refine valA (.pointer (some ⟨w.heap.size + 5, 31, none⟩)) ?_
  refine stM ((k).set d (fromR (m) (m))).a ht2 (Kn.a_one _) ?_
  have hJ2 : JB w i k dl dg m m (noK) ((k).set d (fromR (m) (m))) (V2.setCells (w.heap.size + 5) 31 ((k).set d (fromR (m) (m))).a.toList) := hK2.setJ ((k).set d (fromR (m) (m)))
  clear ht2 hK2 hJ1 hB2
  generalize V2.setCells (w.heap.size + 5) 31 ((k).set d (fromR (m) (m))).a.toList = W2 at *
  go_simp
  have q0 := hJ2.q h0.out
  have q1 := hJ2.q h1.out
  have d0 := hJ2.d0
  have d1 := hJ2.d1
  have s0 := hJ2.s0
  have s1 := hJ2.s1
  go_upto_region 6 with fail
  clear q0 q1 d0 d1 s0 s1
  have q0 := hJ2.q h0.out
  have q1 := hJ2.q h1.out
  have d0 := hJ2.d0
  have d1 := hJ2.d1
  have s0 := hJ2.s0
  have s1 := hJ2.s1
  go_upto_region 7 with fail
  clear q0 q1 d0 d1 s0 s1
  refine wp_region_lit ?_
  refine ldA (ld86 hJ2.d) ?_
  refine alA 86 (spA 0 0) ?_
  have ax : Has (W2.alloc (.cells (spA 0 0) 86)) W2.heap.size (spA 0 0) 86 := has_new _ _ _ _ rfl
  refine stW 86 (spA dl dg) ax (by kernel_rfl) ?_
  have hK3 := hJ2.grow ((Below.refl W2.heap.size W2).alloc (Nat.le_refl _) (.cells (spA 0 0) 86))
  have hb : w.heap.size + 6 ≤ W2.heap.size := hJ2.v.lt
  have hx := setRow_has ax (spA dl dg)
  have hJ3 : JB w i k dl dg m m (noK) ((k).set d (fromR (m) (m))) ((W2.alloc (.cells (spA 0 0) 86)).setRow W2.heap.size (spA dl dg)) := hK3.ex (setRow_ex _ _ _) hb
  clear ax hK3 hJ2
  generalize ((W2.alloc (.cells (spA 0 0) 86)).setRow W2.heap.size (spA dl dg)) = W3 at *
  generalize W2.heap.size = bx at *
  go_simp
  have q0 := hJ3.q h0.out
  have q1 := hJ3.q h1.out
  have d0 := hJ3.d0
  have d1 := hJ3.d1
  have s0 := hJ3.s0
  have s1 := hJ3.s1
  go_upto_region 9 with fail
  clear q0 q1 d0 d1 s0 s1
  have q0 := hJ3.q h0.out
  have q1 := hJ3.q h1.out
  have d0 := hJ3.d0
  have d1 := hJ3.d1
  have s0 := hJ3.s0
  have s1 := hJ3.s1
  have x0 : W3.cell? ⟨bx, 0, none⟩ = some (.int .i64 (dl : Int)) := hx.cell 0
  have f0 := hx.free 0
  go_upto_region 12 with fail
  clear q0 q1 d0 d1 s0 s1
  have hJ4 := hJ3.ex (Ex.set bx W3 0 (.int .i64 ((dl1 : Nat) : Int))) hb
  have hy : Has (W3.setCell ⟨bx, 0, none⟩ (.int .i64 ((dl1 : Nat) : Int))) bx (spA (dl1) (dg)) 86 := hx.set 0 (.int .i64 ((dl1 : Nat) : Int))
  clear x0 f0 hx hJ3
  have hx := hy
  clear hy
  generalize W3.setCell ⟨bx, 0, none⟩ (.int .i64 ((dl1 : Nat) : Int)) = W4 at *
  have q0 := hJ4.q h0.out
  have q1 := hJ4.q h1.out
  have d0 := hJ4.d0
  have d1 := hJ4.d1
  have s0 := hJ4.s0
  have s1 := hJ4.s1
  have hc := rwith_any (k) d hdn (dl1) (dg) HV1.out HV0.out W4
  first | refine wp_region_lit ?_ | skip
  refine ldA (ld43 hJ4.kn) ?_
  refine valA (.pointer (some ⟨w.heap.size, 1, none⟩)) ?_
  refine ldA (ld3 q1) ?_
  refine ldA (ld86 hx) ?_
  go_simp
  refine callA hc ?_
  rintro e V5 ⟨rfl, hB2⟩
  refine ⟨_, rfl, ?_⟩
  have hK5 := hJ4.grow hB2
  have ht2 := there_of (o := 0) (n := 31) hK5.v (by rw [wayA_size]; decide)
  have hy := hx.below hB2 hx.lt
  clear hc q0 q1 d0 d1 s0 s1
  go_simp
  refine valA (.pointer (some ⟨w.heap.size + 5, 0, none⟩)) ?_
  refine stM ((k).set d (fromR (dl1) (dg))).a ht2 (Kn.a_one _) ?_
  have hJ5 : JB w i k dl dg m m ((k).set d (fromR (dl1) (dg))) ((k).set d (fromR (m) (m))) (V5.setCells (w.heap.size + 5) 0 ((k).set d (fromR (dl1) (dg))).a.toList) := hK5.setN ((k).set d (fromR (dl1) (dg)))
  clear ht2 hK5 hJ4 hB2 hx hy
  generalize V5.setCells (w.heap.size + 5) 0 ((k).set d (fromR (dl1) (dg))).a.toList = W5 at *
  go_simp
  have q0 := hJ5.q h0.out
  have q1 := hJ5.q h1.out
  have d0 := hJ5.d0
  have d1 := hJ5.d1
  have s0 := hJ5.s0
  have s1 := hJ5.s1
  go_upto_region 13 with fail
  clear q0 q1 d0 d1 s0 s1
  refine wp_region_lit ?_
  refine ldA (ld49 hJ5.v) ?_
  refine stW 49 (wayA ((k).set d (fromR (dl1) (dg))) ((k).set d (fromR (m) (m))) 0) hJ5.r (wayA_one _ _ _) ?_
  have hrow := setRow_has hJ5.r (wayA ((k).set d (fromR (dl1) (dg))) ((k).set d (fromR (m) (m))) 0)
  have hBx : Below w.heap.size w (W5.setRow (w.heap.size + 4) (wayA ((k).set d (fromR (dl1) (dg))) ((k).set d (fromR (m) (m))) 0)) := setRow_below hJ5.below (by omega) _
  clear hJ5
  generalize W5.setRow (w.heap.size + 4) (wayA ((k).set d (fromR (dl1) (dg))) ((k).set d (fromR (m) (m))) 0) = W99 at *
  go_simp
  go_wp2_with fail
  have qdl1 := Hdl1.out
  subst qdl1
  exact bodyPost_ret (results_cell_row rfl _ _ (w.heap.size + 4) 49 _ (0, 0) _ rfl hrow Tryd.underlying49 rfl (by kernel_rfl)) rfl ⟨rfl, hBx⟩
set_option maxRecDepth 10000 in
set_option maxHeartbeats 4000000 in
theorem rjump_20e (i : Ins) (k : Kn) (d dl dg m : Nat) (w : World) (hop : i.op = 20) (hd : i.dst = (d : Int)) (hdn : d < 10) (b1 : dl ≤ dg) (b2 : dg < 4294967296) (b3 : m < 4294967296) (p1 : m = dg) (p2 : dl < dg) :
    Calls Tryd.prog 38 #[.agg i.a, .agg k.a, spV dl dg, spV m m] w fun e w' => e = .returned (.agg (wayA ((k).set d (fromR (dl) (dg - 1))) ((k).set d (fromR (m) (m))) 0)) ∧ Below w.heap.size w w' := by
  obtain ⟨dg1, hdg1⟩ : ∃ x, x = dg - 1 := ⟨_, rfl⟩
  have c1 : (dl : Int) ≤ (m : Int) := by omega
  have c2 : (m : Int) ≤ (dg : Int) := by omega
  have c3 : ((dl : Int) != (dg : Int)) = true := by first | (simp; done) | (simp; omega)
  have c4 : ((dl : Int) != (m : Int)) = true := by first | (simp; done) | (simp; omega)
  have c5 : ((m : Int) == (dl : Int)) = false := by first | (simp; done) | (simp; omega)
  have c6 : ((m : Int) == (dg : Int)) = true := by first | (simp; done) | (simp; omega)
  have ew : IntKind.i64.wrap ((dg : Int) - 1) = ((dg1 : Nat) : Int) := by rw [IntKind.wrap_i64]; omega
  have HV0 : Hid (dg1 < 4294967296) := by show _ < _; omega
  have HV1 : Hid (dl < 4294967296) := by show _ < _; omega
  have HV2 : Hid (m < 4294967296) := by show _ < _; omega
  have Hdg1 : Hid (dg1 = dg - 1) := hdg1
  clear hdg1
  have hu : True := (fun _ _ _ _ _ _ => trivial) b1 b2 b3 p1 p2 hdn
  clear hu
  clear b1 b2 b3 p1 p2
  have h0 : Hid (i.a[0]? = some (.int .i64 20)) := by show some (Value.int .i64 i.op) = _; rw [hop]
  have h1 : Hid (i.a[1]? = some (.int .i64 (d : Int))) := by show some (Value.int .i64 i.dst) = _; rw [hd]
  go_enter Tryd.func38, Tryd.ntmps38
  go_upto_region 1 with fail
  refine named2 (p := fun X => Code.wp _ _ _ _ X) ?_
  intro W0 hW0
  obtain ⟨hs0, a5, hJ1⟩ := JB.start (show W0 = jW0 w i k dl dg m m from hW0.trans (by kernel_rfl))
  clear hW0
  refine wp_region_lit ?_
  refine valA (.agg zW) ?_
  refine alA 49 zW ?_
  refine stW 49 zW a5 (by kernel_rfl) ?_
  rw [hs0]
  clear a5 hs0
  generalize (W0.alloc (.cells zW 49)).setRow (w.heap.size + 5) zW = W1 at *
  go_simp
  have q0 := hJ1.q h0.out
  have q1 := hJ1.q h1.out
  have d0 := hJ1.d0
  have d1 := hJ1.d1
  have s0 := hJ1.s0
  have s1 := hJ1.s1
  go_upto_region 5 with fail
  clear q0 q1 d0 d1 s0 s1
  have q0 := hJ1.q h0.out
  have q1 := hJ1.q h1.out
  have d0 := hJ1.d0
  have d1 := hJ1.d1
  have s0 := hJ1.s0
  have s1 := hJ1.s1
  have hc := rwith_any (k) d hdn (m) (m) HV2.out HV2.out W1
  first | refine wp_region_lit ?_ | skip
  refine ldA (ld43 hJ1.kn) ?_
  refine valA (.pointer (some ⟨w.heap.size, 1, none⟩)) ?_
  refine ldA (ld3 q1) ?_
  refine ldA (ld86 hJ1.s) ?_
  go_simp
  refine callA hc ?_
  rintro e V2 ⟨rfl, hB2⟩
  refine ⟨_, rfl, ?_⟩
  have hK2 := hJ1.grow hB2
  have ht2 := there_of (o := 31) (n := 31) hK2.v (by rw [wayA_size]; decide)
  clear hc q0 q1 d0 d1 s0 s1
  go_simp
  refine valA (.pointer (some ⟨w.heap.size + 5, 31, none⟩)) ?_
  refine stM ((k).set d (fromR (m) (m))).a ht2 (Kn.a_one _) ?_
  have hJ2 : JB w i k dl dg m m (noK) ((k).set d (fromR (m) (m))) (V2.setCells (w.heap.size + 5) 31 ((k).set d (fromR (m) (m))).a.toList) := hK2.setJ ((k).set d (fromR (m) (m)))
  clear ht2 hK2 hJ1 hB2
  generalize V2.setCells (w.heap.size + 5) 31 ((k).set d (fromR (m) (m))).a.toList = W2 at *
  go_simp
  have q0 := hJ2.q h0.out
  have q1 := hJ2.q h1.out
  have d0 := hJ2.d0
  have d1 := hJ2.d1
  have s0 := hJ2.s0
  have s1 := hJ2.s1
  go_upto_region 6 with fail
  clear q0 q1 d0 d1 s0 s1
  have q0 := hJ2.q h0.out
  have q1 := hJ2.q h1.out
  have d0 := hJ2.d0
  have d1 := hJ2.d1
  have s0 := hJ2.s0
  have s1 := hJ2.s1
  go_upto_region 7 with fail
  clear q0 q1 d0 d1 s0 s1
  refine wp_region_lit ?_
  refine ldA (ld86 hJ2.d) ?_
  refine alA 86 (spA 0 0) ?_
  have ax : Has (W2.alloc (.cells (spA 0 0) 86)) W2.heap.size (spA 0 0) 86 := has_new _ _ _ _ rfl
  refine stW 86 (spA dl dg) ax (by kernel_rfl) ?_
  have hK3 := hJ2.grow ((Below.refl W2.heap.size W2).alloc (Nat.le_refl _) (.cells (spA 0 0) 86))
  have hb : w.heap.size + 6 ≤ W2.heap.size := hJ2.v.lt
  have hx := setRow_has ax (spA dl dg)
  have hJ3 : JB w i k dl dg m m (noK) ((k).set d (fromR (m) (m))) ((W2.alloc (.cells (spA 0 0) 86)).setRow W2.heap.size (spA dl dg)) := hK3.ex (setRow_ex _ _ _) hb
  clear ax hK3 hJ2
  generalize ((W2.alloc (.cells (spA 0 0) 86)).setRow W2.heap.size (spA dl dg)) = W3 at *
  generalize W2.heap.size = bx at *
  go_simp
  have q0 := hJ3.q h0.out
  have q1 := hJ3.q h1.out
  have d0 := hJ3.d0
  have d1 := hJ3.d1
  have s0 := hJ3.s0
  have s1 := hJ3.s1
  go_upto_region 11 with fail
  clear q0 q1 d0 d1 s0 s1
  have q0 := hJ3.q h0.out
  have q1 := hJ3.q h1.out
  have d0 := hJ3.d0
  have d1 := hJ3.d1
  have s0 := hJ3.s0
  have s1 := hJ3.s1
  have x1 : W3.cell? ⟨bx, 1, none⟩ = some (.int .i64 (dg : Int)) := hx.cell 1
  have f1 := hx.free 1
  go_upto_region 12 with fail
  clear q0 q1 d0 d1 s0 s1
  have hJ4 := hJ3.ex (Ex.set bx W3 1 (.int .i64 ((dg1 : Nat) : Int))) hb
  have hy : Has (W3.setCell ⟨bx, 1, none⟩ (.int .i64 ((dg1 : Nat) : Int))) bx (spA (dl) (dg1)) 86 := hx.set 1 (.int .i64 ((dg1 : Nat) : Int))
  clear x1 f1 hx hJ3
  have hx := hy
  clear hy
  generalize W3.setCell ⟨bx, 1, none⟩ (.int .i64 ((dg1 : Nat) : Int)) = W4 at *
  have q0 := hJ4.q h0.out
  have q1 := hJ4.q h1.out
  have d0 := hJ4.d0
  have d1 := hJ4.d1
  have s0 := hJ4.s0
  have s1 := hJ4.s1
  have hc := rwith_any (k) d hdn (dl) (dg1) HV1.out HV0.out W4
  first | refine wp_region_lit ?_ | skip
  refine ldA (ld43 hJ4.kn) ?_
  refine valA (.pointer (some ⟨w.heap.size, 1, none⟩)) ?_
  refine ldA (ld3 q1) ?_
  refine ldA (ld86 hx) ?_
  go_simp
  refine callA hc ?_
  rintro e V5 ⟨rfl, hB2⟩
  refine ⟨_, rfl, ?_⟩
  have hK5 := hJ4.grow hB2
  have ht2 := there_of (o := 0) (n := 31) hK5.v (by rw [wayA_size]; decide)
  have hy := hx.below hB2 hx.lt
  clear hc q0 q1 d0 d1 s0 s1
  go_simp
  refine valA (.pointer (some ⟨w.heap.size + 5, 0, none⟩)) ?_
  refine stM ((k).set d (fromR (dl) (dg1))).a ht2 (Kn.a_one _) ?_
  have hJ5 : JB w i k dl dg m m ((k).set d (fromR (dl) (dg1))) ((k).set d (fromR (m) (m))) (V5.setCells (w.heap.size + 5) 0 ((k).set d (fromR (dl) (dg1))).a.toList) := hK5.setN ((k).set d (fromR (dl) (dg1)))
  clear ht2 hK5 hJ4 hB2 hx hy
  generalize V5.setCells (w.heap.size + 5) 0 ((k).set d (fromR (dl) (dg1))).a.toList = W5 at *
  go_simp
  have q0 := hJ5.q h0.out
  have q1 := hJ5.q h1.out
  have d0 := hJ5.d0
  have d1 := hJ5.d1
  have s0 := hJ5.s0
  have s1 := hJ5.s1
  go_upto_region 13 with fail
  clear q0 q1 d0 d1 s0 s1
  refine wp_region_lit ?_
  refine ldA (ld49 hJ5.v) ?_
  refine stW 49 (wayA ((k).set d (fromR (dl) (dg1))) ((k).set d (fromR (m) (m))) 0) hJ5.r (wayA_one _ _ _) ?_
  have hrow := setRow_has hJ5.r (wayA ((k).set d (fromR (dl) (dg1))) ((k).set d (fromR (m) (m))) 0)
  have hBx : Below w.heap.size w (W5.setRow (w.heap.size + 4) (wayA ((k).set d (fromR (dl) (dg1))) ((k).set d (fromR (m) (m))) 0)) := setRow_below hJ5.below (by omega) _
  clear hJ5
  generalize W5.setRow (w.heap.size + 4) (wayA ((k).set d (fromR (dl) (dg1))) ((k).set d (fromR (m) (m))) 0) = W99 at *
  go_simp
  go_wp2_with fail
  have qdg1 := Hdg1.out
  subst qdg1
  exact bodyPost_ret (results_cell_row rfl _ _ (w.heap.size + 4) 49 _ (0, 0) _ rfl hrow Tryd.underlying49 rfl (by kernel_rfl)) rfl ⟨rfl, hBx⟩
set_option maxRecDepth 10000 in
set_option maxHeartbeats 4000000 in
theorem rjump_20f (i : Ins) (k : Kn) (d dl dg m : Nat) (w : World) (hop : i.op = 20) (hd : i.dst = (d : Int)) (hdn : d < 10) (b1 : dl ≤ dg) (b2 : dg < 4294967296) (b3 : m < 4294967296) (p1 : dl < m) (p2 : m < dg) :
    Calls Tryd.prog 38 #[.agg i.a, .agg k.a, spV dl dg, spV m m] w fun e w' => e = .returned (.agg (wayA ((k).set d (fromR (dl) (dg))) ((k).set d (fromR (m) (m))) 0)) ∧ Below w.heap.size w w' := by
  have c1 : (dl : Int) ≤ (m : Int) := by omega
  have c2 : (m : Int) ≤ (dg : Int) := by omega
  have c3 : ((dl : Int) != (dg : Int)) = true := by first | (simp; done) | (simp; omega)
  have c4 : ((dl : Int) != (m : Int)) = true := by first | (simp; done) | (simp; omega)
  have c5 : ((m : Int) == (dl : Int)) = false := by first | (simp; done) | (simp; omega)
  have c6 : ((m : Int) == (dg : Int)) = false := by first | (simp; done) | (simp; omega)
  have HV0 : Hid (dg < 4294967296) := by show _ < _; omega
  have HV1 : Hid (dl < 4294967296) := by show _ < _; omega
  have HV2 : Hid (m < 4294967296) := by show _ < _; omega
  have hu : True := (fun _ _ _ _ _ _ => trivial) b1 b2 b3 p1 p2 hdn
  clear hu
  clear b1 b2 b3 p1 p2
  have h0 : Hid (i.a[0]? = some (.int .i64 20)) := by show some (Value.int .i64 i.op) = _; rw [hop]
  have h1 : Hid (i.a[1]? = some (.int .i64 (d : Int))) := by show some (Value.int .i64 i.dst) = _; rw [hd]
  go_enter Tryd.func38, Tryd.ntmps38
  go_upto_region 1 with fail
  refine named2 (p := fun X => Code.wp _ _ _ _ X) ?_
  intro W0 hW0
  obtain ⟨hs0, a5, hJ1⟩ := JB.start (show W0 = jW0 w i k dl dg m m from hW0.trans (by kernel_rfl))
  clear hW0
  refine wp_region_lit ?_
  refine valA (.agg zW) ?_
  refine alA 49 zW ?_
  refine stW 49 zW a5 (by kernel_rfl) ?_
  rw [hs0]
  clear a5 hs0
  generalize (W0.alloc (.cells zW 49)).setRow (w.heap.size + 5) zW = W1 at *
  go_simp
  have q0 := hJ1.q h0.out
  have q1 := hJ1.q h1.out
  have d0 := hJ1.d0
  have d1 := hJ1.d1
  have s0 := hJ1.s0
  have s1 := hJ1.s1
  go_upto_region 5 with fail
  clear q0 q1 d0 d1 s0 s1
  have q0 := hJ1.q h0.out
  have q1 := hJ1.q h1.out
  have d0 := hJ1.d0
  have d1 := hJ1.d1
  have s0 := hJ1.s0
  have s1 := hJ1.s1
  have hc := rwith_any (k) d hdn (m) (m) HV2.out HV2.out W1
  first | refine wp_region_lit ?_ | skip
  refine ldA (ld43 hJ1.kn) ?_
  refine valA (.pointer (some ⟨w.heap.size, 1, none⟩)) ?_
  refine ldA (ld3 q1) ?_
  refine ldA (ld86 hJ1.s) ?_
  go_simp
  refine callA hc ?_
  rintro e V2 ⟨rfl, hB2⟩
  refine ⟨_, rfl, ?_⟩
  have hK2 := hJ1.grow hB2
  have ht2 := there_of (o := 31) (n := 31) hK2.v (by rw [wayA_size]; decide)
  clear hc q0 q1 d0 d1 s0 s1
  go_simp
  refine valA (.pointer (some ⟨w.heap.size + 5, 31, none⟩)) ?_
  refine stM ((k).set d (fromR (m) (m))).a ht2 (Kn.a_one _) ?_
  have hJ2 : JB w i k dl dg m m (noK) ((k).set d (fromR (m) (m))) (V2.setCells (w.heap.size + 5) 31 ((k).set d (fromR (m) (m))).a.toList) := hK2.setJ ((k).set d (fromR (m) (m)))
  clear ht2 hK2 hJ1 hB2
  generalize V2.setCells (w.heap.size + 5) 31 ((k).set d (fromR (m) (m))).a.toList = W2 at *
  go_simp
  have q0 := hJ2.q h0.out
  have q1 := hJ2.q h1.out
  have d0 := hJ2.d0
  have d1 := hJ2.d1
  have s0 := hJ2.s0
  have s1 := hJ2.s1
  go_upto_region 6 with fail
  clear q0 q1 d0 d1 s0 s1
  have q0 := hJ2.q h0.out
  have q1 := hJ2.q h1.out
  have d0 := hJ2.d0
  have d1 := hJ2.d1
  have s0 := hJ2.s0
  have s1 := hJ2.s1
  go_upto_region 7 with fail
  clear q0 q1 d0 d1 s0 s1
  refine wp_region_lit ?_
  refine ldA (ld86 hJ2.d) ?_
  refine alA 86 (spA 0 0) ?_
  have ax : Has (W2.alloc (.cells (spA 0 0) 86)) W2.heap.size (spA 0 0) 86 := has_new _ _ _ _ rfl
  refine stW 86 (spA dl dg) ax (by kernel_rfl) ?_
  have hK3 := hJ2.grow ((Below.refl W2.heap.size W2).alloc (Nat.le_refl _) (.cells (spA 0 0) 86))
  have hb : w.heap.size + 6 ≤ W2.heap.size := hJ2.v.lt
  have hx := setRow_has ax (spA dl dg)
  have hJ3 : JB w i k dl dg m m (noK) ((k).set d (fromR (m) (m))) ((W2.alloc (.cells (spA 0 0) 86)).setRow W2.heap.size (spA dl dg)) := hK3.ex (setRow_ex _ _ _) hb
  clear ax hK3 hJ2
  generalize ((W2.alloc (.cells (spA 0 0) 86)).setRow W2.heap.size (spA dl dg)) = W3 at *
  generalize W2.heap.size = bx at *
  go_simp
  have q0 := hJ3.q h0.out
  have q1 := hJ3.q h1.out
  have d0 := hJ3.d0
  have d1 := hJ3.d1
  have s0 := hJ3.s0
  have s1 := hJ3.s1
  go_upto_region 12 with fail
  clear q0 q1 d0 d1 s0 s1
  have q0 := hJ3.q h0.out
  have q1 := hJ3.q h1.out
  have d0 := hJ3.d0
  have d1 := hJ3.d1
  have s0 := hJ3.s0
  have s1 := hJ3.s1
  have hc := rwith_any (k) d hdn (dl) (dg) HV1.out HV0.out W3
  first | refine wp_region_lit ?_ | skip
  refine ldA (ld43 hJ3.kn) ?_
  refine valA (.pointer (some ⟨w.heap.size, 1, none⟩)) ?_
  refine ldA (ld3 q1) ?_
  refine ldA (ld86 hx) ?_
  go_simp
  refine callA hc ?_
  rintro e V4 ⟨rfl, hB2⟩
  refine ⟨_, rfl, ?_⟩
  have hK4 := hJ3.grow hB2
  have ht2 := there_of (o := 0) (n := 31) hK4.v (by rw [wayA_size]; decide)
  have hy := hx.below hB2 hx.lt
  clear hc q0 q1 d0 d1 s0 s1
  go_simp
  refine valA (.pointer (some ⟨w.heap.size + 5, 0, none⟩)) ?_
  refine stM ((k).set d (fromR (dl) (dg))).a ht2 (Kn.a_one _) ?_
  have hJ4 : JB w i k dl dg m m ((k).set d (fromR (dl) (dg))) ((k).set d (fromR (m) (m))) (V4.setCells (w.heap.size + 5) 0 ((k).set d (fromR (dl) (dg))).a.toList) := hK4.setN ((k).set d (fromR (dl) (dg)))
  clear ht2 hK4 hJ3 hB2 hx hy
  generalize V4.setCells (w.heap.size + 5) 0 ((k).set d (fromR (dl) (dg))).a.toList = W4 at *
  go_simp
  have q0 := hJ4.q h0.out
  have q1 := hJ4.q h1.out
  have d0 := hJ4.d0
  have d1 := hJ4.d1
  have s0 := hJ4.s0
  have s1 := hJ4.s1
  go_upto_region 13 with fail
  clear q0 q1 d0 d1 s0 s1
  refine wp_region_lit ?_
  refine ldA (ld49 hJ4.v) ?_
  refine stW 49 (wayA ((k).set d (fromR (dl) (dg))) ((k).set d (fromR (m) (m))) 0) hJ4.r (wayA_one _ _ _) ?_
  have hrow := setRow_has hJ4.r (wayA ((k).set d (fromR (dl) (dg))) ((k).set d (fromR (m) (m))) 0)
  have hBx : Below w.heap.size w (W4.setRow (w.heap.size + 4) (wayA ((k).set d (fromR (dl) (dg))) ((k).set d (fromR (m) (m))) 0)) := setRow_below hJ4.below (by omega) _
  clear hJ4
  generalize W4.setRow (w.heap.size + 4) (wayA ((k).set d (fromR (dl) (dg))) ((k).set d (fromR (m) (m))) 0) = W99 at *
  go_simp
  go_wp2_with fail
  exact bodyPost_ret (results_cell_row rfl _ _ (w.heap.size + 4) 49 _ (0, 0) _ rfl hrow Tryd.underlying49 rfl (by kernel_rfl)) rfl ⟨rfl, hBx⟩
end Go.Proofs.YtodkehpldlmgaaaDoor
