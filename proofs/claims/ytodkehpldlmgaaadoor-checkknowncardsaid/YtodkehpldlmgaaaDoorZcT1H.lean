/- The document's Behind, by kinds of Ops: r 19, r 20, r 21. -/
import Derived.Test.YtodkehpldlmgaaaDoorZcT1
namespace Go.Proofs.YtodkehpldlmgaaaDoor
open Go.RowKit

set_option maxRecDepth 10000 in
set_option maxHeartbeats 4000000 in
theorem rbeh_ok_19 {i : Ins} {c : Int} {k : Kn} {d s dl dg sl sg : Nat} {ds ss : Bool} (w : World) (Hop : i.op = 19) (B : Bd i k d s dl dg sl sg ds ss) : BG i c k w (wayA (noK) (k) (0)) := by
  obtain ⟨Hc, Hdd, hdn, Hss, hsn, hrd, hrs, hkd, hks⟩ := B
  have hu : True := (fun _ _ _ _ _ _ _ _ => trivial) hrd hrs hkd hks hdn hsn Hdd Hss
  clear hu
  unfold BG
  have hus := uses_at 19 false false true false true (by decide)
  obtain ⟨W0, hW0⟩ : ∃ W0, W0 = ((w.alloc (.cells i.a 38)).alloc (.cells k.a 43)).alloc (.cells (wayA noK noK 0) 49) := ⟨_, rfl⟩
  have hR0 : RB w i k W0 := by
    rw [hW0]
    exact ⟨has_old (has_old (has_new _ _ _ _ rfl)), has_old (has_new _ _ _ _ (by simp)), has_new _ _ _ _ (by simp), (((Below.refl _ _).alloc (Nat.le_refl _) _).alloc (by simp) _).alloc (by simp; omega) _⟩
  go_enter Tryd.func20, Tryd.ntmps20
  go_upto_region 1 with fail
  refine named2 (p := fun X => Code.wp _ _ _ _ X) ?_
  intro W9 hW9
  have hW : W0 = W9 := hW0.trans (Eq.trans (by kernel_rfl) hW9.symm)
  subst hW
  clear hW9 hW0
  have p0 : W0.cell? ⟨w.heap.size + 1, 0, none⟩ = some (.bool true) := by have := hR0.kn.cell 0; rw [this]; show some (Value.bool k.come) = _; rw [Hc]
  have q0 : W0.cell? ⟨w.heap.size, 0, none⟩ = some (.int .i64 19) := by have := hR0.ins.cell 0; rw [this]; show some (Value.int .i64 i.op) = _; rw [Hop]
  go_upto_region 5 with (go_at_call 34; refine (hus W0).mono ?_; rintro e W1 ⟨rfl, hW1⟩; obtain rfl := hW1.symm; clear hus p0 q0)
  go_upto_region 6 with fail
  have q1 : W1.cell? ⟨w.heap.size, 1, none⟩ = some (.int .i64 (d : Int)) := by have := hR0.ins.cell 1; rw [this]; show some (Value.int .i64 i.dst) = _; rw [Hdd]
  have q2 : W1.cell? ⟨w.heap.size, 2, none⟩ = some (.int .i64 (s : Int)) := by have := hR0.ins.cell 2; rw [this]; show some (Value.int .i64 i.src) = _; rw [Hss]
  have hd10 : (d : Int) < 10 := by omega
  have hs10 : (s : Int) < 10 := by omega
  go_upto_region 8 with fail
  clear q1 q2
  refine spans_reg (by kernel_rfl) hR0 Hdd hdn Hss hsn hrd hrs hkd hks (fun b6 b7 W2 hS2 => ?_)
  clear hR0
  unfold spK
  go_simp
  go_upto_region 13 with fail
  have ax : Has (W2.alloc (.cells (spA 0 0) 86)) W2.heap.size (spA 0 0) 86 := has_new _ _ _ _ rfl
  first | refine wp_region_lit ?_ | skip
  refine ldA (ld86 hS2.s) ?_
  refine wpList_valG (w' := W2.alloc (.cells (spA 0 0) 86)) (v := .pointer (some ⟨W2.heap.size, 0, none⟩)) (by kernel_rfl) (by kernel_rfl) ?_
  refine stW 86 (spA sl sg) ax (by kernel_rfl) ?_
  have hZ3 : RZ w i k b6 b7 W2.heap.size dl dg sl sg sl sg ((W2.alloc (.cells (spA 0 0) 86)).setRow W2.heap.size (spA sl sg)) := by
    have l6 := hS2.d.lt
    have l7 := hS2.s.lt
    have lr := hS2.base.r.lt
    exact ⟨(hS2.grow ((Below.refl _ _).alloc (Nat.le_refl _) (.cells (spA 0 0) 86))).ex (setRow_ex _ _ _) (by omega) (by omega) (by omega), setRow_has ax _, by omega, by omega, by omega⟩
  clear ax hS2
  generalize (W2.alloc (.cells (spA 0 0) 86)).setRow W2.heap.size (spA sl sg) = W3 at *
  generalize W2.heap.size = bb at *
  refine valA (.int .i64 64) ?_
  go_simp
  go_upto_region 28 with fail
  first | refine wp_region_lit ?_ | skip
  refine ldA (ld43 hZ3.rs.base.kn) ?_
  refine valA (.agg (wayA noK k 0)) ?_
  refine stW 49 (wayA noK k 0) hZ3.rs.base.r (wayA_one _ _ _) ?_
  have hrow := setRow_has hZ3.rs.base.r (wayA noK k 0)
  have hBx : Below w.heap.size w (W3.setRow (w.heap.size + 2) (wayA noK k 0)) := setRow_below hZ3.rs.base.below (by omega) _
  clear hZ3
  generalize W3.setRow (w.heap.size + 2) (wayA noK k 0) = W99 at *
  go_simp
  go_wp2_with fail
  exact bodyPost_ret (results_cell_row rfl _ _ (w.heap.size + 2) 49 _ (0, 0) _ rfl hrow Tryd.underlying49 rfl (by kernel_rfl)) rfl ⟨rfl, hBx⟩
set_option maxRecDepth 10000 in
set_option maxHeartbeats 4000000 in
theorem rbeh_ok_20 {i : Ins} {c : Int} {k : Kn} {d s dl dg sl sg : Nat} {ds ss : Bool} (w : World) (Hop : i.op = 20) (B : Bd i k d s dl dg sl sg ds ss) (hds : ds = true) (m : Nat) (Himm : i.imm = m) (ewm : Hid (IntKind.i64.wrap (m : Int) = (m : Int))) (n2 j2 : Kn) (hju : ∀ X, Calls Tryd.prog 38 #[.agg i.a, .agg k.a, spV dl dg, spV m m] X fun e w' => e = .returned (.agg (wayA n2 j2 0)) ∧ Below X.heap.size X w') : BG i c k w (wayA (n2) (j2) (0)) := by
  obtain ⟨Hc, Hdd, hdn, Hss, hsn, hrd, hrs, hkd, hks⟩ := B
  have hu : True := (fun _ _ _ _ _ _ _ _ => trivial) hrd hrs hkd hks hdn hsn Hdd Hss
  clear hu
  unfold BG
  have hus := uses_at 20 true false true true true (by decide)
  obtain ⟨W0, hW0⟩ : ∃ W0, W0 = ((w.alloc (.cells i.a 38)).alloc (.cells k.a 43)).alloc (.cells (wayA noK noK 0) 49) := ⟨_, rfl⟩
  have hR0 : RB w i k W0 := by
    rw [hW0]
    exact ⟨has_old (has_old (has_new _ _ _ _ rfl)), has_old (has_new _ _ _ _ (by simp)), has_new _ _ _ _ (by simp), (((Below.refl _ _).alloc (Nat.le_refl _) _).alloc (by simp) _).alloc (by simp; omega) _⟩
  go_enter Tryd.func20, Tryd.ntmps20
  go_upto_region 1 with fail
  refine named2 (p := fun X => Code.wp _ _ _ _ X) ?_
  intro W9 hW9
  have hW : W0 = W9 := hW0.trans (Eq.trans (by kernel_rfl) hW9.symm)
  subst hW
  clear hW9 hW0
  have p0 : W0.cell? ⟨w.heap.size + 1, 0, none⟩ = some (.bool true) := by have := hR0.kn.cell 0; rw [this]; show some (Value.bool k.come) = _; rw [Hc]
  have q0 : W0.cell? ⟨w.heap.size, 0, none⟩ = some (.int .i64 20) := by have := hR0.ins.cell 0; rw [this]; show some (Value.int .i64 i.op) = _; rw [Hop]
  go_upto_region 5 with (go_at_call 34; refine (hus W0).mono ?_; rintro e W1 ⟨rfl, hW1⟩; obtain rfl := hW1.symm; clear hus p0 q0)
  go_upto_region 6 with fail
  have q1 : W1.cell? ⟨w.heap.size, 1, none⟩ = some (.int .i64 (d : Int)) := by have := hR0.ins.cell 1; rw [this]; show some (Value.int .i64 i.dst) = _; rw [Hdd]
  have q2 : W1.cell? ⟨w.heap.size, 2, none⟩ = some (.int .i64 (s : Int)) := by have := hR0.ins.cell 2; rw [this]; show some (Value.int .i64 i.src) = _; rw [Hss]
  have hd10 : (d : Int) < 10 := by omega
  have hs10 : (s : Int) < 10 := by omega
  have kd : W1.cell? ⟨w.heap.size + 1, 1 + d * 3, none⟩ = some (.bool true) := (reg_set hR0 d hdn).trans (by rw [hrd, hds])
  go_upto_region 8 with fail
  clear q1 q2 kd
  refine spans_reg (by kernel_rfl) hR0 Hdd hdn Hss hsn hrd hrs hkd hks (fun b6 b7 W2 hS2 => ?_)
  clear hR0
  unfold spK
  go_simp
  go_upto_region 10 with fail
  have q4 : W2.cell? ⟨w.heap.size, 4, none⟩ = some (.int .u32 (m : Int)) := by have := hS2.base.ins.cell 4; rw [this]; show some (Value.int .u32 (i.imm : Int)) = _; rw [Himm]
  first | refine wp_region_lit ?_ | skip
  refine valA (.pointer (some ⟨w.heap.size, 4, none⟩)) ?_
  refine ldA (ld36 q4) ?_
  refine valR (v := .int .i64 (m : Int)) (run_conv36 _ rfl _ (by kernel_rfl) ewm.out) ?_
  refine valA (.pointer (some ⟨w.heap.size, 4, none⟩)) ?_
  go_simp
  refine ldA (ld36 q4) ?_
  refine valR (v := .int .i64 (m : Int)) (run_conv36 _ rfl _ (by kernel_rfl) ewm.out) ?_
  refine valA (spV (m : Int) (m : Int)) ?_
  refine stW 86 (spA m m) hS2.s (by kernel_rfl) ?_
  clear q4
  have hS3 := hS2.setS m m
  clear hS2
  generalize W2.setRow b7 (spA m m) = W3 at *
  go_simp
  go_upto_region 13 with fail
  have ax : Has (W3.alloc (.cells (spA 0 0) 86)) W3.heap.size (spA 0 0) 86 := has_new _ _ _ _ rfl
  first | refine wp_region_lit ?_ | skip
  refine ldA (ld86 hS3.s) ?_
  refine wpList_valG (w' := W3.alloc (.cells (spA 0 0) 86)) (v := .pointer (some ⟨W3.heap.size, 0, none⟩)) (by kernel_rfl) (by kernel_rfl) ?_
  refine stW 86 (spA m m) ax (by kernel_rfl) ?_
  have hZ4 : RZ w i k b6 b7 W3.heap.size dl dg m m m m ((W3.alloc (.cells (spA 0 0) 86)).setRow W3.heap.size (spA m m)) := by
    have l6 := hS3.d.lt
    have l7 := hS3.s.lt
    have lr := hS3.base.r.lt
    exact ⟨(hS3.grow ((Below.refl _ _).alloc (Nat.le_refl _) (.cells (spA 0 0) 86))).ex (setRow_ex _ _ _) (by omega) (by omega) (by omega), setRow_has ax _, by omega, by omega, by omega⟩
  clear ax hS3
  generalize (W3.alloc (.cells (spA 0 0) 86)).setRow W3.heap.size (spA m m) = W4 at *
  generalize W3.heap.size = bb at *
  refine valA (.int .i64 64) ?_
  go_simp
  go_upto_region 38 with fail
  first | refine wp_region_lit ?_ | skip
  refine ldA (ld38 hZ4.rs.base.ins) ?_
  refine ldA (ld43 hZ4.rs.base.kn) ?_
  refine ldA (ld86 hZ4.rs.d) ?_
  refine ldA (ld86 hZ4.rs.s) ?_
  go_simp
  refine callA (hju W4) ?_
  rintro e V1 ⟨rfl, hB2⟩
  refine ⟨_, rfl, ?_⟩
  have hR9 := hZ4.rs.base.grow hB2
  clear hju hB2 hZ4
  go_simp
  refine stW 49 (wayA n2 j2 0) hR9.r (wayA_one _ _ _) ?_
  have hrow := setRow_has hR9.r (wayA n2 j2 0)
  have hBx : Below w.heap.size w (V1.setRow (w.heap.size + 2) (wayA n2 j2 0)) := setRow_below hR9.below (by omega) _
  clear hR9
  generalize V1.setRow (w.heap.size + 2) (wayA n2 j2 0) = W99 at *
  go_simp
  go_wp2_with fail
  exact bodyPost_ret (results_cell_row rfl _ _ (w.heap.size + 2) 49 _ (0, 0) _ rfl hrow Tryd.underlying49 rfl (by kernel_rfl)) rfl ⟨rfl, hBx⟩
set_option maxRecDepth 10000 in
set_option maxHeartbeats 4000000 in
theorem rbeh_ok_21 {i : Ins} {c : Int} {k : Kn} {d s dl dg sl sg : Nat} {ds ss : Bool} (w : World) (Hop : i.op = 21) (B : Bd i k d s dl dg sl sg ds ss) (hds : ds = true) (m : Nat) (Himm : i.imm = m) (ewm : Hid (IntKind.i64.wrap (m : Int) = (m : Int))) (n2 j2 : Kn) (hju : ∀ X, Calls Tryd.prog 38 #[.agg i.a, .agg k.a, spV dl dg, spV m m] X fun e w' => e = .returned (.agg (wayA n2 j2 0)) ∧ Below X.heap.size X w') : BG i c k w (wayA (n2) (j2) (0)) := by
  obtain ⟨Hc, Hdd, hdn, Hss, hsn, hrd, hrs, hkd, hks⟩ := B
  have hu : True := (fun _ _ _ _ _ _ _ _ => trivial) hrd hrs hkd hks hdn hsn Hdd Hss
  clear hu
  unfold BG
  have hus := uses_at 21 true false true true true (by decide)
  obtain ⟨W0, hW0⟩ : ∃ W0, W0 = ((w.alloc (.cells i.a 38)).alloc (.cells k.a 43)).alloc (.cells (wayA noK noK 0) 49) := ⟨_, rfl⟩
  have hR0 : RB w i k W0 := by
    rw [hW0]
    exact ⟨has_old (has_old (has_new _ _ _ _ rfl)), has_old (has_new _ _ _ _ (by simp)), has_new _ _ _ _ (by simp), (((Below.refl _ _).alloc (Nat.le_refl _) _).alloc (by simp) _).alloc (by simp; omega) _⟩
  go_enter Tryd.func20, Tryd.ntmps20
  go_upto_region 1 with fail
  refine named2 (p := fun X => Code.wp _ _ _ _ X) ?_
  intro W9 hW9
  have hW : W0 = W9 := hW0.trans (Eq.trans (by kernel_rfl) hW9.symm)
  subst hW
  clear hW9 hW0
  have p0 : W0.cell? ⟨w.heap.size + 1, 0, none⟩ = some (.bool true) := by have := hR0.kn.cell 0; rw [this]; show some (Value.bool k.come) = _; rw [Hc]
  have q0 : W0.cell? ⟨w.heap.size, 0, none⟩ = some (.int .i64 21) := by have := hR0.ins.cell 0; rw [this]; show some (Value.int .i64 i.op) = _; rw [Hop]
  go_upto_region 5 with (go_at_call 34; refine (hus W0).mono ?_; rintro e W1 ⟨rfl, hW1⟩; obtain rfl := hW1.symm; clear hus p0 q0)
  go_upto_region 6 with fail
  have q1 : W1.cell? ⟨w.heap.size, 1, none⟩ = some (.int .i64 (d : Int)) := by have := hR0.ins.cell 1; rw [this]; show some (Value.int .i64 i.dst) = _; rw [Hdd]
  have q2 : W1.cell? ⟨w.heap.size, 2, none⟩ = some (.int .i64 (s : Int)) := by have := hR0.ins.cell 2; rw [this]; show some (Value.int .i64 i.src) = _; rw [Hss]
  have hd10 : (d : Int) < 10 := by omega
  have hs10 : (s : Int) < 10 := by omega
  have kd : W1.cell? ⟨w.heap.size + 1, 1 + d * 3, none⟩ = some (.bool true) := (reg_set hR0 d hdn).trans (by rw [hrd, hds])
  go_upto_region 8 with fail
  clear q1 q2 kd
  refine spans_reg (by kernel_rfl) hR0 Hdd hdn Hss hsn hrd hrs hkd hks (fun b6 b7 W2 hS2 => ?_)
  clear hR0
  unfold spK
  go_simp
  go_upto_region 10 with fail
  have q4 : W2.cell? ⟨w.heap.size, 4, none⟩ = some (.int .u32 (m : Int)) := by have := hS2.base.ins.cell 4; rw [this]; show some (Value.int .u32 (i.imm : Int)) = _; rw [Himm]
  first | refine wp_region_lit ?_ | skip
  refine valA (.pointer (some ⟨w.heap.size, 4, none⟩)) ?_
  refine ldA (ld36 q4) ?_
  refine valR (v := .int .i64 (m : Int)) (run_conv36 _ rfl _ (by kernel_rfl) ewm.out) ?_
  refine valA (.pointer (some ⟨w.heap.size, 4, none⟩)) ?_
  go_simp
  refine ldA (ld36 q4) ?_
  refine valR (v := .int .i64 (m : Int)) (run_conv36 _ rfl _ (by kernel_rfl) ewm.out) ?_
  refine valA (spV (m : Int) (m : Int)) ?_
  refine stW 86 (spA m m) hS2.s (by kernel_rfl) ?_
  clear q4
  have hS3 := hS2.setS m m
  clear hS2
  generalize W2.setRow b7 (spA m m) = W3 at *
  go_simp
  go_upto_region 13 with fail
  have ax : Has (W3.alloc (.cells (spA 0 0) 86)) W3.heap.size (spA 0 0) 86 := has_new _ _ _ _ rfl
  first | refine wp_region_lit ?_ | skip
  refine ldA (ld86 hS3.s) ?_
  refine wpList_valG (w' := W3.alloc (.cells (spA 0 0) 86)) (v := .pointer (some ⟨W3.heap.size, 0, none⟩)) (by kernel_rfl) (by kernel_rfl) ?_
  refine stW 86 (spA m m) ax (by kernel_rfl) ?_
  have hZ4 : RZ w i k b6 b7 W3.heap.size dl dg m m m m ((W3.alloc (.cells (spA 0 0) 86)).setRow W3.heap.size (spA m m)) := by
    have l6 := hS3.d.lt
    have l7 := hS3.s.lt
    have lr := hS3.base.r.lt
    exact ⟨(hS3.grow ((Below.refl _ _).alloc (Nat.le_refl _) (.cells (spA 0 0) 86))).ex (setRow_ex _ _ _) (by omega) (by omega) (by omega), setRow_has ax _, by omega, by omega, by omega⟩
  clear ax hS3
  generalize (W3.alloc (.cells (spA 0 0) 86)).setRow W3.heap.size (spA m m) = W4 at *
  generalize W3.heap.size = bb at *
  refine valA (.int .i64 64) ?_
  go_simp
  go_upto_region 38 with fail
  first | refine wp_region_lit ?_ | skip
  refine ldA (ld38 hZ4.rs.base.ins) ?_
  refine ldA (ld43 hZ4.rs.base.kn) ?_
  refine ldA (ld86 hZ4.rs.d) ?_
  refine ldA (ld86 hZ4.rs.s) ?_
  go_simp
  refine callA (hju W4) ?_
  rintro e V1 ⟨rfl, hB2⟩
  refine ⟨_, rfl, ?_⟩
  have hR9 := hZ4.rs.base.grow hB2
  clear hju hB2 hZ4
  go_simp
  refine stW 49 (wayA n2 j2 0) hR9.r (wayA_one _ _ _) ?_
  have hrow := setRow_has hR9.r (wayA n2 j2 0)
  have hBx : Below w.heap.size w (V1.setRow (w.heap.size + 2) (wayA n2 j2 0)) := setRow_below hR9.below (by omega) _
  clear hR9
  generalize V1.setRow (w.heap.size + 2) (wayA n2 j2 0) = W99 at *
  go_simp
  go_wp2_with fail
  exact bodyPost_ret (results_cell_row rfl _ _ (w.heap.size + 2) 49 _ (0, 0) _ rfl hrow Tryd.underlying49 rfl (by kernel_rfl)) rfl ⟨rfl, hBx⟩
end Go.Proofs.YtodkehpldlmgaaaDoor
