/- Jumps where a word is asked for: ways of which it is no part, and a single word. -/
import Derived.Test.YtodkehpldlmgaaaDoorZcS8
namespace Go.Proofs.YtodkehpldlmgaaaDoor
open Go.RowKit

set_option maxRecDepth 10000 in
set_option maxHeartbeats 4000000 in
theorem rjump_20a1 (i : Ins) (k : Kn) (d dl dg m : Nat) (w : World) (hop : i.op = 20) (hd : i.dst = (d : Int)) (hdn : d < 10) (b1 : dl ≤ dg) (b2 : dg < 4294967296) (b3 : m < 4294967296) (p1 : m < dl) (p0 : dl = dg) :
    Calls Tryd.prog 38 #[.agg i.a, .agg k.a, spV dl dg, spV m m] w fun e w' => e = .returned (.agg (wayA ((k).set d (fromR (dl) (dg))) (noK) 0)) ∧ Below w.heap.size w w' := by
  have c1 : ¬ (dl : Int) ≤ (m : Int) := by omega
  have c3 : ((dl : Int) != (dg : Int)) = false := by first | (simp; done) | (simp; omega)
  have c4 : ((dl : Int) != (m : Int)) = true := by first | (simp; done) | (simp; omega)
  have c6 : ((m : Int) == (dg : Int)) = false := by first | (simp; done) | (simp; omega)
  have c5 : ((m : Int) == (dl : Int)) = false := by first | (simp; done) | (simp; omega)
  have HV0 : Hid (dg < 4294967296) := by show _ < _; omega
  have HV1 : Hid (dl < 4294967296) := by show _ < _; omega
  have hu : True := (fun _ _ _ _ _ _ => trivial) b1 b2 b3 p1 p0 hdn
  clear hu
  clear b1 b2 b3 p1 p0
  have h0 : Hid (i.a[0]? = some (.int .i64 20)) := by show some (Value.int .i64 i.op) = _; rw [hop]
  have h1 : Hid (i.a[1]? = some (.int .i64 (d : Int))) := by show some (Value.int .i64 i.dst) = _; rw [hd]
  go_enter Tryd.func38, Tryd.ntmps38
  go_upto_region 1 with fail
  refine named2 (p := fun X => Code.wp _ _ _ _ X) ?_
  intro W0 hW0
  obtain ⟨hs0, a5, hJ1⟩ := JB.start (show W0 = jW0 w i k dl dg m m from hW0.trans (by kernel_rfl))
  clear hW0
  refine wp_region_lit ?_
  refine valA (.agg zW) ?_
  refine alA 49 zW ?_
  refine stW 49 zW a5 (by kernel_rfl) ?_
  rw [hs0]
  clear a5 hs0
  generalize (W0.alloc (.cells zW 49)).setRow (w.heap.size + 5) zW = W1 at *
  go_simp
  have q0 := hJ1.q h0.out
  have q1 := hJ1.q h1.out
  have d0 := hJ1.d0
  have d1 := hJ1.d1
  have s0 := hJ1.s0
  have s1 := hJ1.s1
  go_upto_region 6 with fail
  clear q0 q1 d0 d1 s0 s1
  have q0 := hJ1.q h0.out
  have q1 := hJ1.q h1.out
  have d0 := hJ1.d0
  have d1 := hJ1.d1
  have s0 := hJ1.s0
  have s1 := hJ1.s1
  go_upto_region 7 with fail
  clear q0 q1 d0 d1 s0 s1
  refine wp_region_lit ?_
  refine ldA (ld86 hJ1.d) ?_
  refine alA 86 (spA 0 0) ?_
  have ax : Has (W1.alloc (.cells (spA 0 0) 86)) W1.heap.size (spA 0 0) 86 := has_new _ _ _ _ rfl
  refine stW 86 (spA dl dg) ax (by kernel_rfl) ?_
  have hK2 := hJ1.grow ((Below.refl W1.heap.size W1).alloc (Nat.le_refl _) (.cells (spA 0 0) 86))
  have hb : w.heap.size + 6 ≤ W1.heap.size := hJ1.v.lt
  have hx := setRow_has ax (spA dl dg)
  have hJ2 : JB w i k dl dg m m (noK) (noK) ((W1.alloc (.cells (spA 0 0) 86)).setRow W1.heap.size (spA dl dg)) := hK2.ex (setRow_ex _ _ _) hb
  clear ax hK2 hJ1
  generalize ((W1.alloc (.cells (spA 0 0) 86)).setRow W1.heap.size (spA dl dg)) = W2 at *
  generalize W1.heap.size = bx at *
  go_simp
  have q0 := hJ2.q h0.out
  have q1 := hJ2.q h1.out
  have d0 := hJ2.d0
  have d1 := hJ2.d1
  have s0 := hJ2.s0
  have s1 := hJ2.s1
  go_upto_region 12 with fail
  clear q0 q1 d0 d1 s0 s1
  have q0 := hJ2.q h0.out
  have q1 := hJ2.q h1.out
  have d0 := hJ2.d0
  have d1 := hJ2.d1
  have s0 := hJ2.s0
  have s1 := hJ2.s1
  have hc := rwith_any (k) d hdn (dl) (dg) HV1.out HV0.out W2
  first | refine wp_region_lit ?_ | skip
  refine ldA (ld43 hJ2.kn) ?_
  refine valA (.pointer (some ⟨w.heap.size, 1, none⟩)) ?_
  refine ldA (ld3 q1) ?_
  refine ldA (ld86 hx) ?_
  go_simp
  refine callA hc ?_
  rintro e V3 ⟨rfl, hB2⟩
  refine ⟨_, rfl, ?_⟩
  have hK3 := hJ2.grow hB2
  have ht2 := there_of (o := 0) (n := 31) hK3.v (by rw [wayA_size]; decide)
  have hy := hx.below hB2 hx.lt
  clear hc q0 q1 d0 d1 s0 s1
  go_simp
  refine valA (.pointer (some ⟨w.heap.size + 5, 0, none⟩)) ?_
  refine stM ((k).set d (fromR (dl) (dg))).a ht2 (Kn.a_one _) ?_
  have hJ3 : JB w i k dl dg m m ((k).set d (fromR (dl) (dg))) (noK) (V3.setCells (w.heap.size + 5) 0 ((k).set d (fromR (dl) (dg))).a.toList) := hK3.setN ((k).set d (fromR (dl) (dg)))
  clear ht2 hK3 hJ2 hB2 hx hy
  generalize V3.setCells (w.heap.size + 5) 0 ((k).set d (fromR (dl) (dg))).a.toList = W3 at *
  go_simp
  have q0 := hJ3.q h0.out
  have q1 := hJ3.q h1.out
  have d0 := hJ3.d0
  have d1 := hJ3.d1
  have s0 := hJ3.s0
  have s1 := hJ3.s1
  go_upto_region 13 with fail
  clear q0 q1 d0 d1 s0 s1
  refine wp_region_lit ?_
  refine ldA (ld49 hJ3.v) ?_
  refine stW 49 (wayA ((k).set d (fromR (dl) (dg))) (noK) 0) hJ3.r (wayA_one _ _ _) ?_
  have hrow := setRow_has hJ3.r (wayA ((k).set d (fromR (dl) (dg))) (noK) 0)
  have hBx : Below w.heap.size w (W3.setRow (w.heap.size + 4) (wayA ((k).set d (fromR (dl) (dg))) (noK) 0)) := setRow_below hJ3.below (by omega) _
  clear hJ3
  generalize W3.setRow (w.heap.size + 4) (wayA ((k).set d (fromR (dl) (dg))) (noK) 0) = W99 at *
  go_simp
  go_wp2_with fail
  exact bodyPost_ret (results_cell_row rfl _ _ (w.heap.size + 4) 49 _ (0, 0) _ rfl hrow Tryd.underlying49 rfl (by kernel_rfl)) rfl ⟨rfl, hBx⟩
set_option maxRecDepth 10000 in
set_option maxHeartbeats 4000000 in
theorem rjump_20b1 (i : Ins) (k : Kn) (d dl dg m : Nat) (w : World) (hop : i.op = 20) (hd : i.dst = (d : Int)) (hdn : d < 10) (b1 : dl ≤ dg) (b2 : dg < 4294967296) (b3 : m < 4294967296) (p1 : dg < m) (p0 : dl = dg) :
    Calls Tryd.prog 38 #[.agg i.a, .agg k.a, spV dl dg, spV m m] w fun e w' => e = .returned (.agg (wayA ((k).set d (fromR (dl) (dg))) (noK) 0)) ∧ Below w.heap.size w w' := by
  have c1 : (dl : Int) ≤ (m : Int) := by omega
  have c2 : ¬ (m : Int) ≤ (dg : Int) := by omega
  have c3 : ((dl : Int) != (dg : Int)) = false := by first | (simp; done) | (simp; omega)
  have c4 : ((dl : Int) != (m : Int)) = true := by first | (simp; done) | (simp; omega)
  have c6 : ((m : Int) == (dg : Int)) = false := by first | (simp; done) | (simp; omega)
  have c5 : ((m : Int) == (dl : Int)) = false := by first | (simp; done) | (simp; omega)
  have HV0 : Hid (dg < 4294967296) := by show _ < _; omega
  have HV1 : Hid (dl < 4294967296) := by show _ < _; omega
  have hu : True := (fun _ _ _ _ _ _ => trivial) b1 b2 b3 p1 p0 hdn
  clear hu
  clear b1 b2 b3 p1 p0
  have h0 : Hid (i.a[0]? = some (.int .i64 20)) := by show some (Value.int .i64 i.op) = _; rw [hop]
  have h1 : Hid (i.a[1]? = some (.int .i64 (d : Int))) := by show some (Value.int .i64 i.dst) = _; rw [hd]
  go_enter Tryd.func38, Tryd.ntmps38
  go_upto_region 1 with fail
  refine named2 (p := fun X => Code.wp _ _ _ _ X) ?_
  intro W0 hW0
  obtain ⟨hs0, a5, hJ1⟩ := JB.start (show W0 = jW0 w i k dl dg m m from hW0.trans (by kernel_rfl))
  clear hW0
  refine wp_region_lit ?_
  refine valA (.agg zW) ?_
  refine alA 49 zW ?_
  refine stW 49 zW a5 (by kernel_rfl) ?_
  rw [hs0]
  clear a5 hs0
  generalize (W0.alloc (.cells zW 49)).setRow (w.heap.size + 5) zW = W1 at *
  go_simp
  have q0 := hJ1.q h0.out
  have q1 := hJ1.q h1.out
  have d0 := hJ1.d0
  have d1 := hJ1.d1
  have s0 := hJ1.s0
  have s1 := hJ1.s1
  go_upto_region 6 with fail
  clear q0 q1 d0 d1 s0 s1
  have q0 := hJ1.q h0.out
  have q1 := hJ1.q h1.out
  have d0 := hJ1.d0
  have d1 := hJ1.d1
  have s0 := hJ1.s0
  have s1 := hJ1.s1
  go_upto_region 7 with fail
  clear q0 q1 d0 d1 s0 s1
  refine wp_region_lit ?_
  refine ldA (ld86 hJ1.d) ?_
  refine alA 86 (spA 0 0) ?_
  have ax : Has (W1.alloc (.cells (spA 0 0) 86)) W1.heap.size (spA 0 0) 86 := has_new _ _ _ _ rfl
  refine stW 86 (spA dl dg) ax (by kernel_rfl) ?_
  have hK2 := hJ1.grow ((Below.refl W1.heap.size W1).alloc (Nat.le_refl _) (.cells (spA 0 0) 86))
  have hb : w.heap.size + 6 ≤ W1.heap.size := hJ1.v.lt
  have hx := setRow_has ax (spA dl dg)
  have hJ2 : JB w i k dl dg m m (noK) (noK) ((W1.alloc (.cells (spA 0 0) 86)).setRow W1.heap.size (spA dl dg)) := hK2.ex (setRow_ex _ _ _) hb
  clear ax hK2 hJ1
  generalize ((W1.alloc (.cells (spA 0 0) 86)).setRow W1.heap.size (spA dl dg)) = W2 at *
  generalize W1.heap.size = bx at *
  go_simp
  have q0 := hJ2.q h0.out
  have q1 := hJ2.q h1.out
  have d0 := hJ2.d0
  have d1 := hJ2.d1
  have s0 := hJ2.s0
  have s1 := hJ2.s1
  go_upto_region 12 with fail
  clear q0 q1 d0 d1 s0 s1
  have q0 := hJ2.q h0.out
  have q1 := hJ2.q h1.out
  have d0 := hJ2.d0
  have d1 := hJ2.d1
  have s0 := hJ2.s0
  have s1 := hJ2.s1
  have hc := rwith_any (k) d hdn (dl) (dg) HV1.out HV0.out W2
  first | refine wp_region_lit ?_ | skip
  refine ldA (ld43 hJ2.kn) ?_
  refine valA (.pointer (some ⟨w.heap.size, 1, none⟩)) ?_
  refine ldA (ld3 q1) ?_
  refine ldA (ld86 hx) ?_
  go_simp
  refine callA hc ?_
  rintro e V3 ⟨rfl, hB2⟩
  refine ⟨_, rfl, ?_⟩
  have hK3 := hJ2.grow hB2
  have ht2 := there_of (o := 0) (n := 31) hK3.v (by rw [wayA_size]; decide)
  have hy := hx.below hB2 hx.lt
  clear hc q0 q1 d0 d1 s0 s1
  go_simp
  refine valA (.pointer (some ⟨w.heap.size + 5, 0, none⟩)) ?_
  refine stM ((k).set d (fromR (dl) (dg))).a ht2 (Kn.a_one _) ?_
  have hJ3 : JB w i k dl dg m m ((k).set d (fromR (dl) (dg))) (noK) (V3.setCells (w.heap.size + 5) 0 ((k).set d (fromR (dl) (dg))).a.toList) := hK3.setN ((k).set d (fromR (dl) (dg)))
  clear ht2 hK3 hJ2 hB2 hx hy
  generalize V3.setCells (w.heap.size + 5) 0 ((k).set d (fromR (dl) (dg))).a.toList = W3 at *
  go_simp
  have q0 := hJ3.q h0.out
  have q1 := hJ3.q h1.out
  have d0 := hJ3.d0
  have d1 := hJ3.d1
  have s0 := hJ3.s0
  have s1 := hJ3.s1
  go_upto_region 13 with fail
  clear q0 q1 d0 d1 s0 s1
  refine wp_region_lit ?_
  refine ldA (ld49 hJ3.v) ?_
  refine stW 49 (wayA ((k).set d (fromR (dl) (dg))) (noK) 0) hJ3.r (wayA_one _ _ _) ?_
  have hrow := setRow_has hJ3.r (wayA ((k).set d (fromR (dl) (dg))) (noK) 0)
  have hBx : Below w.heap.size w (W3.setRow (w.heap.size + 4) (wayA ((k).set d (fromR (dl) (dg))) (noK) 0)) := setRow_below hJ3.below (by omega) _
  clear hJ3
  generalize W3.setRow (w.heap.size + 4) (wayA ((k).set d (fromR (dl) (dg))) (noK) 0) = W99 at *
  go_simp
  go_wp2_with fail
  exact bodyPost_ret (results_cell_row rfl _ _ (w.heap.size + 4) 49 _ (0, 0) _ rfl hrow Tryd.underlying49 rfl (by kernel_rfl)) rfl ⟨rfl, hBx⟩
set_option maxRecDepth 10000 in
set_option maxHeartbeats 4000000 in
theorem rjump_20a2 (i : Ins) (k : Kn) (d dl dg m : Nat) (w : World) (hop : i.op = 20) (hd : i.dst = (d : Int)) (hdn : d < 10) (b1 : dl ≤ dg) (b2 : dg < 4294967296) (b3 : m < 4294967296) (p1 : m < dl) (p0 : dl < dg) :
    Calls Tryd.prog 38 #[.agg i.a, .agg k.a, spV dl dg, spV m m] w fun e w' => e = .returned (.agg (wayA ((k).set d (fromR (dl) (dg))) (noK) 0)) ∧ Below w.heap.size w w' := by
  have c1 : ¬ (dl : Int) ≤ (m : Int) := by omega
  have c3 : ((dl : Int) != (dg : Int)) = true := by first | (simp; done) | (simp; omega)
  have c4 : ((dl : Int) != (m : Int)) = true := by first | (simp; done) | (simp; omega)
  have c6 : ((m : Int) == (dg : Int)) = false := by first | (simp; done) | (simp; omega)
  have c5 : ((m : Int) == (dl : Int)) = false := by first | (simp; done) | (simp; omega)
  have HV0 : Hid (dg < 4294967296) := by show _ < _; omega
  have HV1 : Hid (dl < 4294967296) := by show _ < _; omega
  have hu : True := (fun _ _ _ _ _ _ => trivial) b1 b2 b3 p1 p0 hdn
  clear hu
  clear b1 b2 b3 p1 p0
  have h0 : Hid (i.a[0]? = some (.int .i64 20)) := by show some (Value.int .i64 i.op) = _; rw [hop]
  have h1 : Hid (i.a[1]? = some (.int .i64 (d : Int))) := by show some (Value.int .i64 i.dst) = _; rw [hd]
  go_enter Tryd.func38, Tryd.ntmps38
  go_upto_region 1 with fail
  refine named2 (p := fun X => Code.wp _ _ _ _ X) ?_
  intro W0 hW0
  obtain ⟨hs0, a5, hJ1⟩ := JB.start (show W0 = jW0 w i k dl dg m m from hW0.trans (by kernel_rfl))
  clear hW0
  refine wp_region_lit ?_
  refine valA (.agg zW) ?_
  refine alA 49 zW ?_
  refine stW 49 zW a5 (by kernel_rfl) ?_
  rw [hs0]
  clear a5 hs0
  generalize (W0.alloc (.cells zW 49)).setRow (w.heap.size + 5) zW = W1 at *
  go_simp
  have q0 := hJ1.q h0.out
  have q1 := hJ1.q h1.out
  have d0 := hJ1.d0
  have d1 := hJ1.d1
  have s0 := hJ1.s0
  have s1 := hJ1.s1
  go_upto_region 6 with fail
  clear q0 q1 d0 d1 s0 s1
  have q0 := hJ1.q h0.out
  have q1 := hJ1.q h1.out
  have d0 := hJ1.d0
  have d1 := hJ1.d1
  have s0 := hJ1.s0
  have s1 := hJ1.s1
  go_upto_region 7 with fail
  clear q0 q1 d0 d1 s0 s1
  refine wp_region_lit ?_
  refine ldA (ld86 hJ1.d) ?_
  refine alA 86 (spA 0 0) ?_
  have ax : Has (W1.alloc (.cells (spA 0 0) 86)) W1.heap.size (spA 0 0) 86 := has_new _ _ _ _ rfl
  refine stW 86 (spA dl dg) ax (by kernel_rfl) ?_
  have hK2 := hJ1.grow ((Below.refl W1.heap.size W1).alloc (Nat.le_refl _) (.cells (spA 0 0) 86))
  have hb : w.heap.size + 6 ≤ W1.heap.size := hJ1.v.lt
  have hx := setRow_has ax (spA dl dg)
  have hJ2 : JB w i k dl dg m m (noK) (noK) ((W1.alloc (.cells (spA 0 0) 86)).setRow W1.heap.size (spA dl dg)) := hK2.ex (setRow_ex _ _ _) hb
  clear ax hK2 hJ1
  generalize ((W1.alloc (.cells (spA 0 0) 86)).setRow W1.heap.size (spA dl dg)) = W2 at *
  generalize W1.heap.size = bx at *
  go_simp
  have q0 := hJ2.q h0.out
  have q1 := hJ2.q h1.out
  have d0 := hJ2.d0
  have d1 := hJ2.d1
  have s0 := hJ2.s0
  have s1 := hJ2.s1
  go_upto_region 12 with fail
  clear q0 q1 d0 d1 s0 s1
  have q0 := hJ2.q h0.out
  have q1 := hJ2.q h1.out
  have d0 := hJ2.d0
  have d1 := hJ2.d1
  have s0 := hJ2.s0
  have s1 := hJ2.s1
  have hc := rwith_any (k) d hdn (dl) (dg) HV1.out HV0.out W2
  first | refine wp_region_lit ?_ | skip
  refine ldA (ld43 hJ2.kn) ?_
  refine valA (.pointer (some ⟨w.heap.size, 1, none⟩)) ?_
  refine ldA (ld3 q1) ?_
  refine ldA (ld86 hx) ?_
  go_simp
  refine callA hc ?_
  rintro e V3 ⟨rfl, hB2⟩
  refine ⟨_, rfl, ?_⟩
  have hK3 := hJ2.grow hB2
  have ht2 := there_of (o := 0) (n := 31) hK3.v (by rw [wayA_size]; decide)
  have hy := hx.below hB2 hx.lt
  clear hc q0 q1 d0 d1 s0 s1
  go_simp
  refine valA (.pointer (some ⟨w.heap.size + 5, 0, none⟩)) ?_
  refine stM ((k).set d (fromR (dl) (dg))).a ht2 (Kn.a_one _) ?_
  have hJ3 : JB w i k dl dg m m ((k).set d (fromR (dl) (dg))) (noK) (V3.setCells (w.heap.size + 5) 0 ((k).set d (fromR (dl) (dg))).a.toList) := hK3.setN ((k).set d (fromR (dl) (dg)))
  clear ht2 hK3 hJ2 hB2 hx hy
  generalize V3.setCells (w.heap.size + 5) 0 ((k).set d (fromR (dl) (dg))).a.toList = W3 at *
  go_simp
  have q0 := hJ3.q h0.out
  have q1 := hJ3.q h1.out
  have d0 := hJ3.d0
  have d1 := hJ3.d1
  have s0 := hJ3.s0
  have s1 := hJ3.s1
  go_upto_region 13 with fail
  clear q0 q1 d0 d1 s0 s1
  refine wp_region_lit ?_
  refine ldA (ld49 hJ3.v) ?_
  refine stW 49 (wayA ((k).set d (fromR (dl) (dg))) (noK) 0) hJ3.r (wayA_one _ _ _) ?_
  have hrow := setRow_has hJ3.r (wayA ((k).set d (fromR (dl) (dg))) (noK) 0)
  have hBx : Below w.heap.size w (W3.setRow (w.heap.size + 4) (wayA ((k).set d (fromR (dl) (dg))) (noK) 0)) := setRow_below hJ3.below (by omega) _
  clear hJ3
  generalize W3.setRow (w.heap.size + 4) (wayA ((k).set d (fromR (dl) (dg))) (noK) 0) = W99 at *
  go_simp
  go_wp2_with fail
  exact bodyPost_ret (results_cell_row rfl _ _ (w.heap.size + 4) 49 _ (0, 0) _ rfl hrow Tryd.underlying49 rfl (by kernel_rfl)) rfl ⟨rfl, hBx⟩
set_option maxRecDepth 10000 in
set_option maxHeartbeats 4000000 in
theorem rjump_20b2 (i : Ins) (k : Kn) (d dl dg m : Nat) (w : World) (hop : i.op = 20) (hd : i.dst = (d : Int)) (hdn : d < 10) (b1 : dl ≤ dg) (b2 : dg < 4294967296) (b3 : m < 4294967296) (p1 : dg < m) (p0 : dl < dg) :
    Calls Tryd.prog 38 #[.agg i.a, .agg k.a, spV dl dg, spV m m] w fun e w' => e = .returned (.agg (wayA ((k).set d (fromR (dl) (dg))) (noK) 0)) ∧ Below w.heap.size w w' := by
  have c1 : (dl : Int) ≤ (m : Int) := by omega
  have c2 : ¬ (m : Int) ≤ (dg : Int) := by omega
  have c3 : ((dl : Int) != (dg : Int)) = true := by first | (simp; done) | (simp; omega)
  have c4 : ((dl : Int) != (m : Int)) = true := by first | (simp; done) | (simp; omega)
  have c6 : ((m : Int) == (dg : Int)) = false := by first | (simp; done) | (simp; omega)
  have c5 : ((m : Int) == (dl : Int)) = false := by first | (simp; done) | (simp; omega)
  have HV0 : Hid (dg < 4294967296) := by show _ < _; omega
  have HV1 : Hid (dl < 4294967296) := by show _ < _; omega
  have hu : True := (fun _ _ _ _ _ _ => trivial) b1 b2 b3 p1 p0 hdn
  clear hu
  clear b1 b2 b3 p1 p0
  have h0 : Hid (i.a[0]? = some (.int .i64 20)) := by show some (Value.int .i64 i.op) = _; rw [hop]
  have h1 : Hid (i.a[1]? = some (.int .i64 (d : Int))) := by show some (Value.int .i64 i.dst) = _; rw [hd]
  go_enter Tryd.func38, Tryd.ntmps38
  go_upto_region 1 with fail
  refine named2 (p := fun X => Code.wp _ _ _ _ X) ?_
  intro W0 hW0
  obtain ⟨hs0, a5, hJ1⟩ := JB.start (show W0 = jW0 w i k dl dg m m from hW0.trans (by kernel_rfl))
  clear hW0
  refine wp_region_lit ?_
  refine valA (.agg zW) ?_
  refine alA 49 zW ?_
  refine stW 49 zW a5 (by kernel_rfl) ?_
  rw [hs0]
  clear a5 hs0
  generalize (W0.alloc (.cells zW 49)).setRow (w.heap.size + 5) zW = W1 at *
  go_simp
  have q0 := hJ1.q h0.out
  have q1 := hJ1.q h1.out
  have d0 := hJ1.d0
  have d1 := hJ1.d1
  have s0 := hJ1.s0
  have s1 := hJ1.s1
  go_upto_region 6 with fail
  clear q0 q1 d0 d1 s0 s1
  have q0 := hJ1.q h0.out
  have q1 := hJ1.q h1.out
  have d0 := hJ1.d0
  have d1 := hJ1.d1
  have s0 := hJ1.s0
  have s1 := hJ1.s1
  go_upto_region 7 with fail
  clear q0 q1 d0 d1 s0 s1
  refine wp_region_lit ?_
  refine ldA (ld86 hJ1.d) ?_
  refine alA 86 (spA 0 0) ?_
  have ax : Has (W1.alloc (.cells (spA 0 0) 86)) W1.heap.size (spA 0 0) 86 := has_new _ _ _ _ rfl
  refine stW 86 (spA dl dg) ax (by kernel_rfl) ?_
  have hK2 := hJ1.grow ((Below.refl W1.heap.size W1).alloc (Nat.le_refl _) (.cells (spA 0 0) 86))
  have hb : w.heap.size + 6 ≤ W1.heap.size := hJ1.v.lt
  have hx := setRow_has ax (spA dl dg)
  have hJ2 : JB w i k dl dg m m (noK) (noK) ((W1.alloc (.cells (spA 0 0) 86)).setRow W1.heap.size (spA dl dg)) := hK2.ex (setRow_ex _ _ _) hb
  clear ax hK2 hJ1
  generalize ((W1.alloc (.cells (spA 0 0) 86)).setRow W1.heap.size (spA dl dg)) = W2 at *
  generalize W1.heap.size = bx at *
  go_simp
  have q0 := hJ2.q h0.out
  have q1 := hJ2.q h1.out
  have d0 := hJ2.d0
  have d1 := hJ2.d1
  have s0 := hJ2.s0
  have s1 := hJ2.s1
  go_upto_region 12 with fail
  clear q0 q1 d0 d1 s0 s1
  have q0 := hJ2.q h0.out
  have q1 := hJ2.q h1.out
  have d0 := hJ2.d0
  have d1 := hJ2.d1
  have s0 := hJ2.s0
  have s1 := hJ2.s1
  have hc := rwith_any (k) d hdn (dl) (dg) HV1.out HV0.out W2
  first | refine wp_region_lit ?_ | skip
  refine ldA (ld43 hJ2.kn) ?_
  refine valA (.pointer (some ⟨w.heap.size, 1, none⟩)) ?_
  refine ldA (ld3 q1) ?_
  refine ldA (ld86 hx) ?_
  go_simp
  refine callA hc ?_
  rintro e V3 ⟨rfl, hB2⟩
  refine ⟨_, rfl, ?_⟩
  have hK3 := hJ2.grow hB2
  have ht2 := there_of (o := 0) (n := 31) hK3.v (by rw [wayA_size]; decide)
  have hy := hx.below hB2 hx.lt
  clear hc q0 q1 d0 d1 s0 s1
  go_simp
  refine valA (.pointer (some ⟨w.heap.size + 5, 0, none⟩)) ?_
  refine stM ((k).set d (fromR (dl) (dg))).a ht2 (Kn.a_one _) ?_
  have hJ3 : JB w i k dl dg m m ((k).set d (fromR (dl) (dg))) (noK) (V3.setCells (w.heap.size + 5) 0 ((k).set d (fromR (dl) (dg))).a.toList) := hK3.setN ((k).set d (fromR (dl) (dg)))
  clear ht2 hK3 hJ2 hB2 hx hy
  generalize V3.setCells (w.heap.size + 5) 0 ((k).set d (fromR (dl) (dg))).a.toList = W3 at *
  go_simp
  have q0 := hJ3.q h0.out
  have q1 := hJ3.q h1.out
  have d0 := hJ3.d0
  have d1 := hJ3.d1
  have s0 := hJ3.s0
  have s1 := hJ3.s1
  go_upto_region 13 with fail
  clear q0 q1 d0 d1 s0 s1
  refine wp_region_lit ?_
  refine ldA (ld49 hJ3.v) ?_
  refine stW 49 (wayA ((k).set d (fromR (dl) (dg))) (noK) 0) hJ3.r (wayA_one _ _ _) ?_
  have hrow := setRow_has hJ3.r (wayA ((k).set d (fromR (dl) (dg))) (noK) 0)
  have hBx : Below w.heap.size w (W3.setRow (w.heap.size + 4) (wayA ((k).set d (fromR (dl) (dg))) (noK) 0)) := setRow_below hJ3.below (by omega) _
  clear hJ3
  generalize W3.setRow (w.heap.size + 4) (wayA ((k).set d (fromR (dl) (dg))) (noK) 0) = W99 at *
  go_simp
  go_wp2_with fail
  exact bodyPost_ret (results_cell_row rfl _ _ (w.heap.size + 4) 49 _ (0, 0) _ rfl hrow Tryd.underlying49 rfl (by kernel_rfl)) rfl ⟨rfl, hBx⟩
set_option maxRecDepth 10000 in
set_option maxHeartbeats 4000000 in
theorem rjump_20c (i : Ins) (k : Kn) (d m : Nat) (w : World) (hop : i.op = 20) (hd : i.dst = (d : Int)) (hdn : d < 10) (b3 : m < 4294967296) :
    Calls Tryd.prog 38 #[.agg i.a, .agg k.a, spV m m, spV m m] w fun e w' => e = .returned (.agg (wayA (noK) ((k).set d (fromR (m) (m))) 0)) ∧ Below w.heap.size w w' := by
  have c1 : (m : Int) ≤ (m : Int) := by omega
  have c2 : (m : Int) ≤ (m : Int) := by omega
  have c3 : ((m : Int) != (m : Int)) = false := by first | (simp; done) | (simp; omega)
  have c4 : ((m : Int) != (m : Int)) = false := by first | (simp; done) | (simp; omega)
  have c5 : ((m : Int) == (m : Int)) = true := by first | (simp; done) | (simp; omega)
  have HV0 : Hid (m < 4294967296) := by show _ < _; omega
  have hu : True := (fun _ _ => trivial) b3 hdn
  clear hu
  clear b3
  have h0 : Hid (i.a[0]? = some (.int .i64 20)) := by show some (Value.int .i64 i.op) = _; rw [hop]
  have h1 : Hid (i.a[1]? = some (.int .i64 (d : Int))) := by show some (Value.int .i64 i.dst) = _; rw [hd]
  go_enter Tryd.func38, Tryd.ntmps38
  go_upto_region 1 with fail
  refine named2 (p := fun X => Code.wp _ _ _ _ X) ?_
  intro W0 hW0
  obtain ⟨hs0, a5, hJ1⟩ := JB.start (show W0 = jW0 w i k m m m m from hW0.trans (by kernel_rfl))
  clear hW0
  refine wp_region_lit ?_
  refine valA (.agg zW) ?_
  refine alA 49 zW ?_
  refine stW 49 zW a5 (by kernel_rfl) ?_
  rw [hs0]
  clear a5 hs0
  generalize (W0.alloc (.cells zW 49)).setRow (w.heap.size + 5) zW = W1 at *
  go_simp
  have q0 := hJ1.q h0.out
  have q1 := hJ1.q h1.out
  have d0 := hJ1.d0
  have d1 := hJ1.d1
  have s0 := hJ1.s0
  have s1 := hJ1.s1
  go_upto_region 5 with fail
  clear q0 q1 d0 d1 s0 s1
  have q0 := hJ1.q h0.out
  have q1 := hJ1.q h1.out
  have d0 := hJ1.d0
  have d1 := hJ1.d1
  have s0 := hJ1.s0
  have s1 := hJ1.s1
  have hc := rwith_any (k) d hdn (m) (m) HV0.out HV0.out W1
  first | refine wp_region_lit ?_ | skip
  refine ldA (ld43 hJ1.kn) ?_
  refine valA (.pointer (some ⟨w.heap.size, 1, none⟩)) ?_
  refine ldA (ld3 q1) ?_
  refine ldA (ld86 hJ1.s) ?_
  go_simp
  refine callA hc ?_
  rintro e V2 ⟨rfl, hB2⟩
  refine ⟨_, rfl, ?_⟩
  have hK2 := hJ1.grow hB2
  have ht2 := there_of (o := 31) (n := 31) hK2.v (by rw [wayA_size]; decide)
  clear hc q0 q1 d0 d1 s0 s1
  go_simp
  refine valA (.pointer (some ⟨w.heap.size + 5, 31, none⟩)) ?_
  refine stM ((k).set d (fromR (m) (m))).a ht2 (Kn.a_one _) ?_
  have hJ2 : JB w i k m m m m (noK) ((k).set d (fromR (m) (m))) (V2.setCells (w.heap.size + 5) 31 ((k).set d (fromR (m) (m))).a.toList) := hK2.setJ ((k).set d (fromR (m) (m)))
  clear ht2 hK2 hJ1 hB2
  generalize V2.setCells (w.heap.size + 5) 31 ((k).set d (fromR (m) (m))).a.toList = W2 at *
  go_simp
  have q0 := hJ2.q h0.out
  have q1 := hJ2.q h1.out
  have d0 := hJ2.d0
  have d1 := hJ2.d1
  have s0 := hJ2.s0
  have s1 := hJ2.s1
  go_upto_region 6 with fail
  clear q0 q1 d0 d1 s0 s1
  have q0 := hJ2.q h0.out
  have q1 := hJ2.q h1.out
  have d0 := hJ2.d0
  have d1 := hJ2.d1
  have s0 := hJ2.s0
  have s1 := hJ2.s1
  go_upto_region 13 with fail
  clear q0 q1 d0 d1 s0 s1
  refine wp_region_lit ?_
  refine ldA (ld49 hJ2.v) ?_
  refine stW 49 (wayA (noK) ((k).set d (fromR (m) (m))) 0) hJ2.r (wayA_one _ _ _) ?_
  have hrow := setRow_has hJ2.r (wayA (noK) ((k).set d (fromR (m) (m))) 0)
  have hBx : Below w.heap.size w (W2.setRow (w.heap.size + 4) (wayA (noK) ((k).set d (fromR (m) (m))) 0)) := setRow_below hJ2.below (by omega) _
  clear hJ2
  generalize W2.setRow (w.heap.size + 4) (wayA (noK) ((k).set d (fromR (m) (m))) 0) = W99 at *
  go_simp
  go_wp2_with fail
  exact bodyPost_ret (results_cell_row rfl _ _ (w.heap.size + 4) 49 _ (0, 0) _ rfl hrow Tryd.underlying49 rfl (by kernel_rfl)) rfl ⟨rfl, hBx⟩
end Go.Proofs.YtodkehpldlmgaaaDoor
