/- Jumps below another register: one way, or the register itself. -/
import Derived.Test.YtodkehpldlmgaaaDoorZcS8
namespace Go.Proofs.YtodkehpldlmgaaaDoor
open Go.RowKit

set_option maxRecDepth 10000 in
set_option maxHeartbeats 4000000 in
theorem rjump_22a (i : Ins) (k : Kn) (d s dl dg sl sg : Nat) (w : World) (hop : i.op = 22) (hd : i.dst = (d : Int)) (hdn : d < 10) (hs : i.src = (s : Int)) (hsn : s < 10) (b1 : dl ≤ dg) (b2 : dg < 4294967296) (b3 : sl ≤ sg) (b4 : sg < 4294967296) (pds : ¬ d = s) (p1 : dl < sg) (p2 : dg < sl) :
    Calls Tryd.prog 38 #[.agg i.a, .agg k.a, spV dl dg, spV sl sg] w fun e w' => e = .returned (.agg (wayA (noK) (((k).set d (fromR (dl) (dg))).set s (fromR (sl) (sg))) 0)) ∧ Below w.heap.size w w' := by
  obtain ⟨dl1, hdl1⟩ : ∃ x, x = dl + 1 := ⟨_, rfl⟩
  obtain ⟨sg1, hsg1⟩ : ∃ x, x = sg - 1 := ⟨_, rfl⟩
  have cds : ((d : Int) == (s : Int)) = false := by simp; omega
  have c1 : ((dl : Nat) : Int) < ((sg : Nat) : Int) := by omega
  have c2 : ¬ ((sl : Nat) : Int) ≤ ((dg : Nat) : Int) := by omega
  have e1 : IntKind.i64.wrap ((sg : Int) - 1) = ((sg1 : Nat) : Int) := by rw [IntKind.wrap_i64]; omega
  have e2 : IntKind.i64.wrap ((dl : Int) + 1) = ((dl1 : Nat) : Int) := by rw [IntKind.wrap_i64]; omega
  have c3 : ¬ ((sg1 : Nat) : Int) < ((dg : Nat) : Int) := by omega
  have c4 : ¬ ((sl : Nat) : Int) < ((dl1 : Nat) : Int) := by omega
  have HV0 : Hid (dg < 4294967296) := by show _ < _; omega
  have HV1 : Hid (dl < 4294967296) := by show _ < _; omega
  have HV2 : Hid (sg < 4294967296) := by show _ < _; omega
  have HV3 : Hid (sl < 4294967296) := by show _ < _; omega
  have Hdl1 : Hid (dl1 = dl + 1) := hdl1
  clear hdl1
  have Hsg1 : Hid (sg1 = sg - 1) := hsg1
  clear hsg1
  have hu : True := (fun _ _ _ _ _ _ _ _ _ => trivial) b1 b2 b3 b4 pds p1 p2 hdn hsn
  clear hu
  clear b1 b2 b3 b4 pds p1 p2
  have h0 : Hid (i.a[0]? = some (.int .i64 22)) := by show some (Value.int .i64 i.op) = _; rw [hop]
  have h1 : Hid (i.a[1]? = some (.int .i64 (d : Int))) := by show some (Value.int .i64 i.dst) = _; rw [hd]
  have h2 : Hid (i.a[2]? = some (.int .i64 (s : Int))) := by show some (Value.int .i64 i.src) = _; rw [hs]
  go_enter Tryd.func38, Tryd.ntmps38
  go_upto_region 1 with fail
  refine named2 (p := fun X => Code.wp _ _ _ _ X) ?_
  intro W0 hW0
  obtain ⟨hs0, a5, hJ1⟩ := JB.start (show W0 = jW0 w i k dl dg sl sg from hW0.trans (by kernel_rfl))
  clear hW0
  refine wp_region_lit ?_
  refine valA (.agg zW) ?_
  refine alA 49 zW ?_
  refine stW 49 zW a5 (by kernel_rfl) ?_
  rw [hs0]
  clear a5 hs0
  generalize (W0.alloc (.cells zW 49)).setRow (w.heap.size + 5) zW = W1 at *
  go_simp
  have q0 := hJ1.q h0.out
  have q1 := hJ1.q h1.out
  have q2 := hJ1.q h2.out
  have d0 := hJ1.d0
  have d1 := hJ1.d1
  have s0 := hJ1.s0
  have s1 := hJ1.s1
  go_upto_region 17 with fail
  clear q0 q1 d0 d1 s0 s1 q2
  have q0 := hJ1.q h0.out
  have q1 := hJ1.q h1.out
  have q2 := hJ1.q h2.out
  have d0 := hJ1.d0
  have d1 := hJ1.d1
  have s0 := hJ1.s0
  have s1 := hJ1.s1
  have hc := rwith_any (k) d hdn (dl) (dg) HV1.out HV0.out W1
  first | refine wp_region_lit ?_ | skip
  refine ldA (ld43 hJ1.kn) ?_
  refine valA (.pointer (some ⟨w.heap.size, 1, none⟩)) ?_
  refine ldA (ld3 q1) ?_
  refine valA (.pointer (some ⟨w.heap.size + 2, 0, none⟩)) ?_
  go_simp
  refine ldA (ld2 d0) ?_
  refine valA (.pointer (some ⟨w.heap.size + 2, 1, none⟩)) ?_
  refine ldA (ld2 d1) ?_
  refine valA (.pointer (some ⟨w.heap.size + 3, 1, none⟩)) ?_
  go_simp
  refine ldA (ld2 s1) ?_
  refine valR (v := .int .i64 ((sg1 : Nat) : Int)) (by rw [← e1]; kernel_rfl) ?_
  refine valR (v := .int .i64 ((dg : Nat) : Int)) (run_min _ _ rfl (dg : Int) ((sg1 : Nat) : Int) _ (by kernel_rfl) (by kernel_rfl) (by rw [eq_comm]; first | (exact if_pos (by assumption)) | (exact if_neg (by assumption)))) ?_
  refine valA (spV ((dl : Nat) : Int) ((dg : Nat) : Int)) ?_
  go_simp
  refine callA hc ?_
  rintro e V2 ⟨rfl, hB2⟩
  refine ⟨_, rfl, ?_⟩
  have hK2 := hJ1.grow hB2
  have ht2 := there_of (o := 31) (n := 31) hK2.v (by rw [wayA_size]; decide)
  clear hc q0 q1 d0 d1 s0 s1 q2
  go_simp
  refine valA (.pointer (some ⟨w.heap.size + 5, 31, none⟩)) ?_
  refine stM ((k).set d (fromR (dl) (dg))).a ht2 (Kn.a_one _) ?_
  have hJ2 : JB w i k dl dg sl sg (noK) ((k).set d (fromR (dl) (dg))) (V2.setCells (w.heap.size + 5) 31 ((k).set d (fromR (dl) (dg))).a.toList) := hK2.setJ ((k).set d (fromR (dl) (dg)))
  clear ht2 hK2 hJ1 hB2
  generalize V2.setCells (w.heap.size + 5) 31 ((k).set d (fromR (dl) (dg))).a.toList = W2 at *
  go_simp
  have q0 := hJ2.q h0.out
  have q1 := hJ2.q h1.out
  have q2 := hJ2.q h2.out
  have d0 := hJ2.d0
  have d1 := hJ2.d1
  have s0 := hJ2.s0
  have s1 := hJ2.s1
  go_upto_region 19 with fail
  clear q0 q1 d0 d1 s0 s1 q2
  have q0 := hJ2.q h0.out
  have q1 := hJ2.q h1.out
  have q2 := hJ2.q h2.out
  have d0 := hJ2.d0
  have d1 := hJ2.d1
  have s0 := hJ2.s0
  have s1 := hJ2.s1
  have hc := rwith_any ((k).set d (fromR (dl) (dg))) s hsn (sl) (sg) HV3.out HV2.out W2
  first | refine wp_region_lit ?_ | skip
  refine valA (.pointer (some ⟨w.heap.size + 5, 31, none⟩)) ?_
  refine ldA (ld43J hJ2.v) ?_
  refine valA (.pointer (some ⟨w.heap.size, 2, none⟩)) ?_
  refine ldA (ld3 q2) ?_
  go_simp
  refine valA (.pointer (some ⟨w.heap.size + 3, 0, none⟩)) ?_
  refine ldA (ld2 s0) ?_
  refine valA (.pointer (some ⟨w.heap.size + 2, 0, none⟩)) ?_
  refine ldA (ld2 d0) ?_
  go_simp
  refine valR (v := .int .i64 ((dl1 : Nat) : Int)) (by rw [← e2]; kernel_rfl) ?_
  refine valR (v := .int .i64 ((sl : Nat) : Int)) (run_max _ _ rfl (sl : Int) ((dl1 : Nat) : Int) _ (by kernel_rfl) (by kernel_rfl) (by rw [eq_comm]; first | (exact if_pos (by assumption)) | (exact if_neg (by assumption)))) ?_
  refine valA (.pointer (some ⟨w.heap.size + 3, 1, none⟩)) ?_
  refine ldA (ld2 s1) ?_
  go_simp
  refine valA (spV ((sl : Nat) : Int) ((sg : Nat) : Int)) ?_
  refine callA hc ?_
  rintro e V3 ⟨rfl, hB2⟩
  refine ⟨_, rfl, ?_⟩
  have hK3 := hJ2.grow hB2
  have ht2 := there_of (o := 31) (n := 31) hK3.v (by rw [wayA_size]; decide)
  clear hc q0 q1 d0 d1 s0 s1 q2
  go_simp
  refine valA (.pointer (some ⟨w.heap.size + 5, 31, none⟩)) ?_
  refine stM (((k).set d (fromR (dl) (dg))).set s (fromR (sl) (sg))).a ht2 (Kn.a_one _) ?_
  have hJ3 : JB w i k dl dg sl sg (noK) (((k).set d (fromR (dl) (dg))).set s (fromR (sl) (sg))) (V3.setCells (w.heap.size + 5) 31 (((k).set d (fromR (dl) (dg))).set s (fromR (sl) (sg))).a.toList) := hK3.setJ (((k).set d (fromR (dl) (dg))).set s (fromR (sl) (sg)))
  clear ht2 hK3 hJ2 hB2
  generalize V3.setCells (w.heap.size + 5) 31 (((k).set d (fromR (dl) (dg))).set s (fromR (sl) (sg))).a.toList = W3 at *
  go_simp
  have q0 := hJ3.q h0.out
  have q1 := hJ3.q h1.out
  have q2 := hJ3.q h2.out
  have d0 := hJ3.d0
  have d1 := hJ3.d1
  have s0 := hJ3.s0
  have s1 := hJ3.s1
  go_upto_region 24 with fail
  clear q0 q1 d0 d1 s0 s1 q2
  refine wp_region_lit ?_
  refine ldA (ld49 hJ3.v) ?_
  refine stW 49 (wayA (noK) (((k).set d (fromR (dl) (dg))).set s (fromR (sl) (sg))) 0) hJ3.r (wayA_one _ _ _) ?_
  have hrow := setRow_has hJ3.r (wayA (noK) (((k).set d (fromR (dl) (dg))).set s (fromR (sl) (sg))) 0)
  have hBx : Below w.heap.size w (W3.setRow (w.heap.size + 4) (wayA (noK) (((k).set d (fromR (dl) (dg))).set s (fromR (sl) (sg))) 0)) := setRow_below hJ3.below (by omega) _
  clear hJ3
  generalize W3.setRow (w.heap.size + 4) (wayA (noK) (((k).set d (fromR (dl) (dg))).set s (fromR (sl) (sg))) 0) = W99 at *
  go_simp
  go_wp2_with fail
  have qdl1 := Hdl1.out
  subst qdl1
  have qsg1 := Hsg1.out
  subst qsg1
  exact bodyPost_ret (results_cell_row rfl _ _ (w.heap.size + 4) 49 _ (0, 0) _ rfl hrow Tryd.underlying49 rfl (by kernel_rfl)) rfl ⟨rfl, hBx⟩
set_option maxRecDepth 10000 in
set_option maxHeartbeats 4000000 in
theorem rjump_22b (i : Ins) (k : Kn) (d s dl dg sl sg : Nat) (w : World) (hop : i.op = 22) (hd : i.dst = (d : Int)) (hdn : d < 10) (hs : i.src = (s : Int)) (hsn : s < 10) (b1 : dl ≤ dg) (b2 : dg < 4294967296) (b3 : sl ≤ sg) (b4 : sg < 4294967296) (pds : ¬ d = s) (p1 : sg ≤ dl) :
    Calls Tryd.prog 38 #[.agg i.a, .agg k.a, spV dl dg, spV sl sg] w fun e w' => e = .returned (.agg (wayA (((k).set d (fromR (dl) (dg))).set s (fromR (sl) (sg))) (noK) 0)) ∧ Below w.heap.size w w' := by
  have cds : ((d : Int) == (s : Int)) = false := by simp; omega
  have c1 : ¬ ((dl : Nat) : Int) < ((sg : Nat) : Int) := by omega
  have c2 : ((sl : Nat) : Int) ≤ ((dg : Nat) : Int) := by omega
  have c3 : ¬ ((dl : Nat) : Int) < ((sl : Nat) : Int) := by omega
  have c4 : ¬ ((dg : Nat) : Int) < ((sg : Nat) : Int) := by omega
  have HV0 : Hid (dg < 4294967296) := by show _ < _; omega
  have HV1 : Hid (dl < 4294967296) := by show _ < _; omega
  have HV2 : Hid (sg < 4294967296) := by show _ < _; omega
  have HV3 : Hid (sl < 4294967296) := by show _ < _; omega
  have hu : True := (fun _ _ _ _ _ _ _ _ => trivial) b1 b2 b3 b4 pds p1 hdn hsn
  clear hu
  clear b1 b2 b3 b4 pds p1
  have h0 : Hid (i.a[0]? = some (.int .i64 22)) := by show some (Value.int .i64 i.op) = _; rw [hop]
  have h1 : Hid (i.a[1]? = some (.int .i64 (d : Int))) := by show some (Value.int .i64 i.dst) = _; rw [hd]
  have h2 : Hid (i.a[2]? = some (.int .i64 (s : Int))) := by show some (Value.int .i64 i.src) = _; rw [hs]
  go_enter Tryd.func38, Tryd.ntmps38
  go_upto_region 1 with fail
  refine named2 (p := fun X => Code.wp _ _ _ _ X) ?_
  intro W0 hW0
  obtain ⟨hs0, a5, hJ1⟩ := JB.start (show W0 = jW0 w i k dl dg sl sg from hW0.trans (by kernel_rfl))
  clear hW0
  refine wp_region_lit ?_
  refine valA (.agg zW) ?_
  refine alA 49 zW ?_
  refine stW 49 zW a5 (by kernel_rfl) ?_
  rw [hs0]
  clear a5 hs0
  generalize (W0.alloc (.cells zW 49)).setRow (w.heap.size + 5) zW = W1 at *
  go_simp
  have q0 := hJ1.q h0.out
  have q1 := hJ1.q h1.out
  have q2 := hJ1.q h2.out
  have d0 := hJ1.d0
  have d1 := hJ1.d1
  have s0 := hJ1.s0
  have s1 := hJ1.s1
  go_upto_region 21 with fail
  clear q0 q1 d0 d1 s0 s1 q2
  have q0 := hJ1.q h0.out
  have q1 := hJ1.q h1.out
  have q2 := hJ1.q h2.out
  have d0 := hJ1.d0
  have d1 := hJ1.d1
  have s0 := hJ1.s0
  have s1 := hJ1.s1
  have hc := rwith_any (k) d hdn (dl) (dg) HV1.out HV0.out W1
  first | refine wp_region_lit ?_ | skip
  refine ldA (ld43 hJ1.kn) ?_
  refine valA (.pointer (some ⟨w.heap.size, 1, none⟩)) ?_
  refine ldA (ld3 q1) ?_
  refine valA (.pointer (some ⟨w.heap.size + 2, 0, none⟩)) ?_
  go_simp
  refine ldA (ld2 d0) ?_
  refine valA (.pointer (some ⟨w.heap.size + 3, 0, none⟩)) ?_
  refine ldA (ld2 s0) ?_
  refine valR (v := .int .i64 ((dl : Nat) : Int)) (run_max _ _ rfl (dl : Int) (sl : Int) _ (by kernel_rfl) (by kernel_rfl) (by rw [eq_comm]; first | (exact if_pos (by assumption)) | (exact if_neg (by assumption)))) ?_
  go_simp
  refine valA (.pointer (some ⟨w.heap.size + 2, 1, none⟩)) ?_
  refine ldA (ld2 d1) ?_
  refine valA (spV ((dl : Nat) : Int) ((dg : Nat) : Int)) ?_
  refine callA hc ?_
  rintro e V2 ⟨rfl, hB2⟩
  refine ⟨_, rfl, ?_⟩
  have hK2 := hJ1.grow hB2
  have ht2 := there_of (o := 0) (n := 31) hK2.v (by rw [wayA_size]; decide)
  clear hc q0 q1 d0 d1 s0 s1 q2
  go_simp
  refine valA (.pointer (some ⟨w.heap.size + 5, 0, none⟩)) ?_
  refine stM ((k).set d (fromR (dl) (dg))).a ht2 (Kn.a_one _) ?_
  have hJ2 : JB w i k dl dg sl sg ((k).set d (fromR (dl) (dg))) (noK) (V2.setCells (w.heap.size + 5) 0 ((k).set d (fromR (dl) (dg))).a.toList) := hK2.setN ((k).set d (fromR (dl) (dg)))
  clear ht2 hK2 hJ1 hB2
  generalize V2.setCells (w.heap.size + 5) 0 ((k).set d (fromR (dl) (dg))).a.toList = W2 at *
  go_simp
  have q0 := hJ2.q h0.out
  have q1 := hJ2.q h1.out
  have q2 := hJ2.q h2.out
  have d0 := hJ2.d0
  have d1 := hJ2.d1
  have s0 := hJ2.s0
  have s1 := hJ2.s1
  go_upto_region 23 with fail
  clear q0 q1 d0 d1 s0 s1 q2
  have q0 := hJ2.q h0.out
  have q1 := hJ2.q h1.out
  have q2 := hJ2.q h2.out
  have d0 := hJ2.d0
  have d1 := hJ2.d1
  have s0 := hJ2.s0
  have s1 := hJ2.s1
  have hc := rwith_any ((k).set d (fromR (dl) (dg))) s hsn (sl) (sg) HV3.out HV2.out W2
  first | refine wp_region_lit ?_ | skip
  refine valA (.pointer (some ⟨w.heap.size + 5, 0, none⟩)) ?_
  refine ldA (ld43N hJ2.v) ?_
  refine valA (.pointer (some ⟨w.heap.size, 2, none⟩)) ?_
  refine ldA (ld3 q2) ?_
  go_simp
  refine valA (.pointer (some ⟨w.heap.size + 3, 0, none⟩)) ?_
  refine ldA (ld2 s0) ?_
  refine valA (.pointer (some ⟨w.heap.size + 3, 1, none⟩)) ?_
  refine ldA (ld2 s1) ?_
  go_simp
  refine valA (.pointer (some ⟨w.heap.size + 2, 1, none⟩)) ?_
  refine ldA (ld2 d1) ?_
  refine valR (v := .int .i64 ((sg : Nat) : Int)) (run_min _ _ rfl (sg : Int) (dg : Int) _ (by kernel_rfl) (by kernel_rfl) (by rw [eq_comm]; first | (exact if_pos (by assumption)) | (exact if_neg (by assumption)))) ?_
  refine valA (spV ((sl : Nat) : Int) ((sg : Nat) : Int)) ?_
  go_simp
  refine callA hc ?_
  rintro e V3 ⟨rfl, hB2⟩
  refine ⟨_, rfl, ?_⟩
  have hK3 := hJ2.grow hB2
  have ht2 := there_of (o := 0) (n := 31) hK3.v (by rw [wayA_size]; decide)
  clear hc q0 q1 d0 d1 s0 s1 q2
  go_simp
  refine valA (.pointer (some ⟨w.heap.size + 5, 0, none⟩)) ?_
  refine stM (((k).set d (fromR (dl) (dg))).set s (fromR (sl) (sg))).a ht2 (Kn.a_one _) ?_
  have hJ3 : JB w i k dl dg sl sg (((k).set d (fromR (dl) (dg))).set s (fromR (sl) (sg))) (noK) (V3.setCells (w.heap.size + 5) 0 (((k).set d (fromR (dl) (dg))).set s (fromR (sl) (sg))).a.toList) := hK3.setN (((k).set d (fromR (dl) (dg))).set s (fromR (sl) (sg)))
  clear ht2 hK3 hJ2 hB2
  generalize V3.setCells (w.heap.size + 5) 0 (((k).set d (fromR (dl) (dg))).set s (fromR (sl) (sg))).a.toList = W3 at *
  go_simp
  have q0 := hJ3.q h0.out
  have q1 := hJ3.q h1.out
  have q2 := hJ3.q h2.out
  have d0 := hJ3.d0
  have d1 := hJ3.d1
  have s0 := hJ3.s0
  have s1 := hJ3.s1
  go_upto_region 24 with fail
  clear q0 q1 d0 d1 s0 s1 q2
  refine wp_region_lit ?_
  refine ldA (ld49 hJ3.v) ?_
  refine stW 49 (wayA (((k).set d (fromR (dl) (dg))).set s (fromR (sl) (sg))) (noK) 0) hJ3.r (wayA_one _ _ _) ?_
  have hrow := setRow_has hJ3.r (wayA (((k).set d (fromR (dl) (dg))).set s (fromR (sl) (sg))) (noK) 0)
  have hBx : Below w.heap.size w (W3.setRow (w.heap.size + 4) (wayA (((k).set d (fromR (dl) (dg))).set s (fromR (sl) (sg))) (noK) 0)) := setRow_below hJ3.below (by omega) _
  clear hJ3
  generalize W3.setRow (w.heap.size + 4) (wayA (((k).set d (fromR (dl) (dg))).set s (fromR (sl) (sg))) (noK) 0) = W99 at *
  go_simp
  go_wp2_with fail
  exact bodyPost_ret (results_cell_row rfl _ _ (w.heap.size + 4) 49 _ (0, 0) _ rfl hrow Tryd.underlying49 rfl (by kernel_rfl)) rfl ⟨rfl, hBx⟩
set_option maxRecDepth 10000 in
set_option maxHeartbeats 4000000 in
theorem rjump_22g (i : Ins) (k : Kn) (d s dl dg sl sg : Nat) (w : World) (hop : i.op = 22) (hd : i.dst = (d : Int)) (hdn : d < 10) (hs : i.src = (s : Int)) (hsn : s < 10) (b1 : dl ≤ dg) (b2 : dg < 4294967296) (b3 : sl ≤ sg) (b4 : sg < 4294967296) (pds : d = s) :
    Calls Tryd.prog 38 #[.agg i.a, .agg k.a, spV dl dg, spV sl sg] w fun e w' => e = .returned (.agg (wayA (k) (noK) 0)) ∧ Below w.heap.size w w' := by
  have cds : ((d : Int) == (s : Int)) = true := by simp [pds]
  have hu : True := (fun _ _ _ _ _ _ _ => trivial) b1 b2 b3 b4 pds hdn hsn
  clear hu
  clear b1 b2 b3 b4 pds
  have h0 : Hid (i.a[0]? = some (.int .i64 22)) := by show some (Value.int .i64 i.op) = _; rw [hop]
  have h1 : Hid (i.a[1]? = some (.int .i64 (d : Int))) := by show some (Value.int .i64 i.dst) = _; rw [hd]
  have h2 : Hid (i.a[2]? = some (.int .i64 (s : Int))) := by show some (Value.int .i64 i.src) = _; rw [hs]
  go_enter Tryd.func38, Tryd.ntmps38
  go_upto_region 1 with fail
  refine named2 (p := fun X => Code.wp _ _ _ _ X) ?_
  intro W0 hW0
  obtain ⟨hs0, a5, hJ1⟩ := JB.start (show W0 = jW0 w i k dl dg sl sg from hW0.trans (by kernel_rfl))
  clear hW0
  refine wp_region_lit ?_
  refine valA (.agg zW) ?_
  refine alA 49 zW ?_
  refine stW 49 zW a5 (by kernel_rfl) ?_
  rw [hs0]
  clear a5 hs0
  generalize (W0.alloc (.cells zW 49)).setRow (w.heap.size + 5) zW = W1 at *
  go_simp
  have q0 := hJ1.q h0.out
  have q1 := hJ1.q h1.out
  have q2 := hJ1.q h2.out
  have d0 := hJ1.d0
  have d1 := hJ1.d1
  have s0 := hJ1.s0
  have s1 := hJ1.s1
  go_upto_region 15 with fail
  clear q0 q1 d0 d1 s0 s1 q2
  refine wp_region_lit ?_
  refine ldA (ld43 hJ1.kn) ?_
  refine valA (.agg (wayA k noK 0)) ?_
  refine stW 49 (wayA k noK 0) hJ1.r (wayA_one _ _ _) ?_
  have hrow := setRow_has hJ1.r (wayA k noK 0)
  have hBx : Below w.heap.size w (W1.setRow (w.heap.size + 4) (wayA k noK 0)) := setRow_below hJ1.below (by omega) _
  clear hJ1
  generalize W1.setRow (w.heap.size + 4) (wayA k noK 0) = W99 at *
  go_simp
  go_wp2_with fail
  exact bodyPost_ret (results_cell_row rfl _ _ (w.heap.size + 4) 49 _ (0, 0) _ rfl hrow Tryd.underlying49 rfl (by kernel_rfl)) rfl ⟨rfl, hBx⟩
end Go.Proofs.YtodkehpldlmgaaaDoor
