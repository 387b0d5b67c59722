/- What an instruction makes of anything that is known: the law. -/
import Derived.Test.YtodkehpldlmgaaaDoorZcT3
import Derived.Test.YtodkehpldlmgaaaDoorZcK6
import Derived.Test.YtodkehpldlmgaaaDoorZcG1
namespace Go.Proofs.YtodkehpldlmgaaaDoor
open Go.RowKit

/-- The world of the law. -/
structure CB (w : World) (i : Ins) (k : Kn) (X : World) : Prop where
  ins : Has X w.heap.size i.a 38
  kn : Has X (w.heap.size + 1) k.a 43
  below : Below w.heap.size w X
theorem CB.grow {w X X' : World} {i : Ins} {k : Kn} (h : CB w i k X) (g : Below X.heap.size X X') : CB w i k X' :=
  ⟨h.ins.below g h.ins.lt, h.kn.below g h.kn.lt, h.below.trans (g.mono h.below.size)⟩
theorem run_eqlE {o : Oper} {ρ : Operand → Value} {X : World} (x y : Operand) (ho : o.op = .binOp .eql 3 x y 3) (e : Int) (hx : ρ x = .int .i64 e) (hy : ρ y = .int .i64 e) : (execOp ρ o).run Tryd.prog X = .ok (.value (.bool true)) X := by
  unfold execOp
  simp only [ho]
  go_simp
set_option maxRecDepth 10000 in
set_option maxHeartbeats 4000000 in
theorem behl_may (i : Ins) (hu : i.imm < 4294967296) (c : Int) (k : Kn) (w : World) (hG : Glob w) (hko : KOk k) (hmay : i.may = false) (hv : behV i c k = (noK, noK, 2)) :
    Calls Tryd.prog 4 #[.agg i.a, .int .i64 c, .agg k.a] w fun e w' => e = .returned (.bool true) ∧ Below w.heap.size w w' := by
  have HB17 : ∀ X, Below w.heap.size w X → Calls Tryd.prog 17 #[.agg i.a, .int .i64 c, .agg k.a] X fun e X' => e = .returned (.tuple #[.agg (behV i c k).1.a, .agg (behV i c k).2.1.a, .int .i64 (behV i c k).2.2]) ∧ Below X.heap.size X X' := fun X hX => behind_any i c k X (hG.below hX hG.size) hu hko
  have HM : Hid (∀ X, Calls Tryd.prog 18 #[.agg i.a] X fun e X' => e = .returned (.bool i.may) ∧ Below X.heap.size X X') := fun X => rmay_any i.op i.dst i.src i.off i.imm X (by omega)
  have HR : Hid (∀ X, Calls Tryd.prog 19 #[.agg k.a] X fun e X' => e = .returned (.bool (knB k)) ∧ Below X.heap.size X X') := fun X => rright_any k X
  have HN : Hid (∀ X, Below w.heap.size w X → Calls Tryd.prog 12 #[] X fun e X' => e = .returned (.bool true) ∧ Below X.heap.size X X') := fun X hX => knownl_any X (hG.below hX hG.size)
  have HK : Hid (KOk (behV i c k).1 ∧ KOk (behV i c k).2.1) := behV_right hu hko
  have HK0 : Hid (KOk noK) := noK_right.ok
  rw [hv] at HB17 HK
  clear hv
  simp only at HB17 HK
  obtain ⟨W0, hW0⟩ : ∃ W0, W0 = (w.alloc (.cells i.a 38)).alloc (.cells k.a 43) := ⟨_, rfl⟩
  have hC0 : CB w i k W0 := by
    rw [hW0]
    exact ⟨has_old (has_new _ _ _ _ rfl), has_new _ _ _ _ (by simp), ((Below.refl _ _).alloc (Nat.le_refl _) _).alloc (by simp) _⟩
  clear hG hu hko
  go_enter Tryd.func4, Tryd.ntmps4
  go_upto_region 1 with fail
  refine named2 (p := fun X => Code.wp _ _ _ _ X) ?_
  intro W9 hW9
  have hW : W0 = W9 := hW0.trans hW9.symm
  subst hW
  clear hW9 hW0
  first | refine wp_region_lit ?_ | skip
  have hc1 := HB17 W0 hC0.below
  clear HB17
  refine ldA (ld38 hC0.ins) ?_
  refine valA (.int .i64 c) ?_
  refine ldA (ld43 hC0.kn) ?_
  refine callA hc1 ?_
  rintro e V1 ⟨rfl, hB1⟩
  refine ⟨_, rfl, ?_⟩
  have hC1 := hC0.grow hB1
  clear hc1 hB1 hC0
  go_simp
  refine valA (.tuple #[.agg noK.a, .agg noK.a, .int .i64 (2)]) ?_
  refine valA (.agg noK.a) ?_
  refine valA (.agg noK.a) ?_
  refine valA (.int .i64 (2)) ?_
  go_simp
  refine wpList_valG (w' := V1.alloc (.cells noK.a 43)) (v := .pointer (some ⟨V1.heap.size, 0, none⟩)) (by kernel_rfl) (by kernel_rfl) ?_
  refine wpList_valG (w' := (V1.alloc (.cells noK.a 43)).alloc (.cells noK.a 43)) (v := .pointer (some ⟨(V1.alloc (.cells noK.a 43)).heap.size, 0, none⟩)) (by kernel_rfl) (by kernel_rfl) ?_
  obtain ⟨t1, t2, t3, t4, t5, t6⟩ := two_rows V1 noK noK
  refine stW 43 noK.a t1 (Kn.a_one _) ?_
  refine stW 43 noK.a t2 (Kn.a_one _) ?_
  have hC2 := hC1.grow t5
  clear t1 t2 t5 t6 hC1
  generalize (((V1.alloc (.cells noK.a 43)).alloc (.cells noK.a 43)).setRow V1.heap.size noK.a).setRow (V1.alloc (.cells noK.a 43)).heap.size noK.a = W2 at *
  generalize (V1.alloc (.cells noK.a 43)).heap.size = b8 at *
  generalize V1.heap.size = b7 at *
  refine valA (.int .i64 (2)) ?_
  go_simp
  go_upto_region 2 with fail
  first | refine wp_region_lit ?_ | skip
  refine ldA (ld38 hC2.ins) ?_
  refine callA (HM.out W2) ?_
  rintro e V3 ⟨rfl, hB1⟩
  refine ⟨_, rfl, ?_⟩
  have hC3 := hC2.grow hB1
  have r3 := t3.below hB1 t3.lt
  have r4 := t4.below hB1 t4.lt
  clear hB1 hC2 t3 t4
  rw [hmay]
  go_simp
  refine valA (.bool true) ?_
  refine valA (.bool true) ?_
  refine wpList_notW (by kernel_rfl) ?_
  go_simp
  refine wpList_notW (by kernel_rfl) ?_
  refine valA (.bool true) ?_
  refine valA (.bool true) ?_
  go_simp
  refine wpList_notW (by kernel_rfl) ?_
  refine wpList_notW (by kernel_rfl) ?_
  refine valA (.bool true) ?_
  go_simp
  refine valA (.bool true) ?_
  refine wpList_notW (by kernel_rfl) ?_
  refine wpList_notW (by kernel_rfl) ?_
  go_simp
  refine wpList_notW (by kernel_rfl) ?_
  refine valA (.bool true) ?_
  go_simp
  go_upto_region 3 with fail
  first | refine wp_region_lit ?_ | skip
  refine ldA (ld43 r3) ?_
  refine valA (.agg noK.a) ?_
  refine valR (v := .bool true) (run_eql43 _ _ rfl noK HK0.out (by kernel_rfl) (by kernel_rfl)) ?_
  go_simp
  refine valA (.bool true) ?_
  refine ldA (ld43 r4) ?_
  refine wpList_valW (w' := V3) (v := .agg noK.a) (by kernel_rfl) (by kernel_rfl) ?_
  go_simp
  refine wpList_valW (w' := V3) (v := .bool true) (by kernel_rfl) (run_eql43 _ _ rfl noK HK0.out (by kernel_rfl) (by kernel_rfl)) ?_
  refine valA (.bool true) ?_
  refine valA (.bool true) ?_
  go_simp
  refine wpList_valW (w' := V3) (v := .int .i64 2) (by kernel_rfl) (by kernel_rfl) ?_
  refine wpList_valW (w' := V3) (v := .bool true) (by kernel_rfl) (by kernel_rfl) ?_
  refine valA (.bool true) ?_
  go_simp
  refine valA (.bool true) ?_
  refine callA (HN.out _ hC3.below) ?_
  rintro e V9 ⟨rfl, hB9⟩
  refine ⟨_, rfl, ?_⟩
  have hBF := hC3.below.trans (hB9.mono hC3.below.size)
  clear hB9 hC3 r3 r4
  go_simp
  refine valA (.bool true) ?_
  refine valA (.bool true) ?_
  go_simp
  go_wp2_with fail
  go_ret
  exact ⟨rfl, hBF⟩
set_option maxRecDepth 10000 in
set_option maxHeartbeats 4000000 in
theorem behl_neg (i : Ins) (hu : i.imm < 4294967296) (c : Int) (k : Kn) (w : World) (hG : Glob w) (hko : KOk k) (hmay : i.may = true) (h1 : c < 0) (hv : behV i c k = (noK, noK, 2)) :
    Calls Tryd.prog 4 #[.agg i.a, .int .i64 c, .agg k.a] w fun e w' => e = .returned (.bool true) ∧ Below w.heap.size w w' := by
  have f1 : decide (c < 0) = true := decide_eq_true h1
  clear h1
  have HB17 : ∀ X, Below w.heap.size w X → Calls Tryd.prog 17 #[.agg i.a, .int .i64 c, .agg k.a] X fun e X' => e = .returned (.tuple #[.agg (behV i c k).1.a, .agg (behV i c k).2.1.a, .int .i64 (behV i c k).2.2]) ∧ Below X.heap.size X X' := fun X hX => behind_any i c k X (hG.below hX hG.size) hu hko
  have HM : Hid (∀ X, Calls Tryd.prog 18 #[.agg i.a] X fun e X' => e = .returned (.bool i.may) ∧ Below X.heap.size X X') := fun X => rmay_any i.op i.dst i.src i.off i.imm X (by omega)
  have HR : Hid (∀ X, Calls Tryd.prog 19 #[.agg k.a] X fun e X' => e = .returned (.bool (knB k)) ∧ Below X.heap.size X X') := fun X => rright_any k X
  have HN : Hid (∀ X, Below w.heap.size w X → Calls Tryd.prog 12 #[] X fun e X' => e = .returned (.bool true) ∧ Below X.heap.size X X') := fun X hX => knownl_any X (hG.below hX hG.size)
  have HK : Hid (KOk (behV i c k).1 ∧ KOk (behV i c k).2.1) := behV_right hu hko
  have HK0 : Hid (KOk noK) := noK_right.ok
  rw [hv] at HB17 HK
  clear hv
  simp only at HB17 HK
  obtain ⟨W0, hW0⟩ : ∃ W0, W0 = (w.alloc (.cells i.a 38)).alloc (.cells k.a 43) := ⟨_, rfl⟩
  have hC0 : CB w i k W0 := by
    rw [hW0]
    exact ⟨has_old (has_new _ _ _ _ rfl), has_new _ _ _ _ (by simp), ((Below.refl _ _).alloc (Nat.le_refl _) _).alloc (by simp) _⟩
  clear hG hu hko
  go_enter Tryd.func4, Tryd.ntmps4
  go_upto_region 1 with fail
  refine named2 (p := fun X => Code.wp _ _ _ _ X) ?_
  intro W9 hW9
  have hW : W0 = W9 := hW0.trans hW9.symm
  subst hW
  clear hW9 hW0
  first | refine wp_region_lit ?_ | skip
  have hc1 := HB17 W0 hC0.below
  clear HB17
  refine ldA (ld38 hC0.ins) ?_
  refine valA (.int .i64 c) ?_
  refine ldA (ld43 hC0.kn) ?_
  refine callA hc1 ?_
  rintro e V1 ⟨rfl, hB1⟩
  refine ⟨_, rfl, ?_⟩
  have hC1 := hC0.grow hB1
  clear hc1 hB1 hC0
  go_simp
  refine valA (.tuple #[.agg noK.a, .agg noK.a, .int .i64 (2)]) ?_
  refine valA (.agg noK.a) ?_
  refine valA (.agg noK.a) ?_
  refine valA (.int .i64 (2)) ?_
  go_simp
  refine wpList_valG (w' := V1.alloc (.cells noK.a 43)) (v := .pointer (some ⟨V1.heap.size, 0, none⟩)) (by kernel_rfl) (by kernel_rfl) ?_
  refine wpList_valG (w' := (V1.alloc (.cells noK.a 43)).alloc (.cells noK.a 43)) (v := .pointer (some ⟨(V1.alloc (.cells noK.a 43)).heap.size, 0, none⟩)) (by kernel_rfl) (by kernel_rfl) ?_
  obtain ⟨t1, t2, t3, t4, t5, t6⟩ := two_rows V1 noK noK
  refine stW 43 noK.a t1 (Kn.a_one _) ?_
  refine stW 43 noK.a t2 (Kn.a_one _) ?_
  have hC2 := hC1.grow t5
  clear t1 t2 t5 t6 hC1
  generalize (((V1.alloc (.cells noK.a 43)).alloc (.cells noK.a 43)).setRow V1.heap.size noK.a).setRow (V1.alloc (.cells noK.a 43)).heap.size noK.a = W2 at *
  generalize (V1.alloc (.cells noK.a 43)).heap.size = b8 at *
  generalize V1.heap.size = b7 at *
  refine valA (.int .i64 (2)) ?_
  go_simp
  go_upto_region 2 with fail
  first | refine wp_region_lit ?_ | skip
  refine ldA (ld38 hC2.ins) ?_
  refine callA (HM.out W2) ?_
  rintro e V3 ⟨rfl, hB1⟩
  refine ⟨_, rfl, ?_⟩
  have hC3 := hC2.grow hB1
  have r3 := t3.below hB1 t3.lt
  have r4 := t4.below hB1 t4.lt
  clear hB1 hC2 t3 t4
  rw [hmay]
  go_simp
  refine valA (.bool false) ?_
  refine valA (.bool false) ?_
  refine wpList_valW (w' := V3) (v := .int .i64 c) (by kernel_rfl) (by kernel_rfl) ?_
  go_simp
  refine wpList_valW (w' := V3) (v := .bool true) (by kernel_rfl) (by rw [← f1]; kernel_rfl) ?_
  refine valA (.bool true) ?_
  refine valA (.bool true) ?_
  go_simp
  refine wpList_notW (by kernel_rfl) ?_
  refine wpList_notW (by kernel_rfl) ?_
  refine valA (.bool true) ?_
  go_simp
  refine valA (.bool true) ?_
  refine wpList_notW (by kernel_rfl) ?_
  refine wpList_notW (by kernel_rfl) ?_
  go_simp
  refine wpList_notW (by kernel_rfl) ?_
  refine valA (.bool true) ?_
  go_simp
  go_upto_region 3 with fail
  first | refine wp_region_lit ?_ | skip
  refine ldA (ld43 r3) ?_
  refine valA (.agg noK.a) ?_
  refine valR (v := .bool true) (run_eql43 _ _ rfl noK HK0.out (by kernel_rfl) (by kernel_rfl)) ?_
  go_simp
  refine valA (.bool true) ?_
  refine ldA (ld43 r4) ?_
  refine wpList_valW (w' := V3) (v := .agg noK.a) (by kernel_rfl) (by kernel_rfl) ?_
  go_simp
  refine wpList_valW (w' := V3) (v := .bool true) (by kernel_rfl) (run_eql43 _ _ rfl noK HK0.out (by kernel_rfl) (by kernel_rfl)) ?_
  refine valA (.bool true) ?_
  refine valA (.bool true) ?_
  go_simp
  refine wpList_valW (w' := V3) (v := .int .i64 2) (by kernel_rfl) (by kernel_rfl) ?_
  refine wpList_valW (w' := V3) (v := .bool true) (by kernel_rfl) (by kernel_rfl) ?_
  refine valA (.bool true) ?_
  go_simp
  refine valA (.bool true) ?_
  refine callA (HN.out _ hC3.below) ?_
  rintro e V9 ⟨rfl, hB9⟩
  refine ⟨_, rfl, ?_⟩
  have hBF := hC3.below.trans (hB9.mono hC3.below.size)
  clear hB9 hC3 r3 r4
  go_simp
  refine valA (.bool true) ?_
  refine valA (.bool true) ?_
  go_simp
  go_wp2_with fail
  go_ret
  exact ⟨rfl, hBF⟩
set_option maxRecDepth 10000 in
set_option maxHeartbeats 4000000 in
theorem behl_big (i : Ins) (hu : i.imm < 4294967296) (c : Int) (k : Kn) (w : World) (hG : Glob w) (hko : KOk k) (hmay : i.may = true) (h1 : ¬ c < 0) (h2 : 256 < c) (hv : behV i c k = (noK, noK, 2)) :
    Calls Tryd.prog 4 #[.agg i.a, .int .i64 c, .agg k.a] w fun e w' => e = .returned (.bool true) ∧ Below w.heap.size w w' := by
  have f1 : decide (c < 0) = false := decide_eq_false h1
  have f2 : decide (256 < c) = true := decide_eq_true h2
  clear h1 h2
  have HB17 : ∀ X, Below w.heap.size w X → Calls Tryd.prog 17 #[.agg i.a, .int .i64 c, .agg k.a] X fun e X' => e = .returned (.tuple #[.agg (behV i c k).1.a, .agg (behV i c k).2.1.a, .int .i64 (behV i c k).2.2]) ∧ Below X.heap.size X X' := fun X hX => behind_any i c k X (hG.below hX hG.size) hu hko
  have HM : Hid (∀ X, Calls Tryd.prog 18 #[.agg i.a] X fun e X' => e = .returned (.bool i.may) ∧ Below X.heap.size X X') := fun X => rmay_any i.op i.dst i.src i.off i.imm X (by omega)
  have HR : Hid (∀ X, Calls Tryd.prog 19 #[.agg k.a] X fun e X' => e = .returned (.bool (knB k)) ∧ Below X.heap.size X X') := fun X => rright_any k X
  have HN : Hid (∀ X, Below w.heap.size w X → Calls Tryd.prog 12 #[] X fun e X' => e = .returned (.bool true) ∧ Below X.heap.size X X') := fun X hX => knownl_any X (hG.below hX hG.size)
  have HK : Hid (KOk (behV i c k).1 ∧ KOk (behV i c k).2.1) := behV_right hu hko
  have HK0 : Hid (KOk noK) := noK_right.ok
  rw [hv] at HB17 HK
  clear hv
  simp only at HB17 HK
  obtain ⟨W0, hW0⟩ : ∃ W0, W0 = (w.alloc (.cells i.a 38)).alloc (.cells k.a 43) := ⟨_, rfl⟩
  have hC0 : CB w i k W0 := by
    rw [hW0]
    exact ⟨has_old (has_new _ _ _ _ rfl), has_new _ _ _ _ (by simp), ((Below.refl _ _).alloc (Nat.le_refl _) _).alloc (by simp) _⟩
  clear hG hu hko
  go_enter Tryd.func4, Tryd.ntmps4
  go_upto_region 1 with fail
  refine named2 (p := fun X => Code.wp _ _ _ _ X) ?_
  intro W9 hW9
  have hW : W0 = W9 := hW0.trans hW9.symm
  subst hW
  clear hW9 hW0
  first | refine wp_region_lit ?_ | skip
  have hc1 := HB17 W0 hC0.below
  clear HB17
  refine ldA (ld38 hC0.ins) ?_
  refine valA (.int .i64 c) ?_
  refine ldA (ld43 hC0.kn) ?_
  refine callA hc1 ?_
  rintro e V1 ⟨rfl, hB1⟩
  refine ⟨_, rfl, ?_⟩
  have hC1 := hC0.grow hB1
  clear hc1 hB1 hC0
  go_simp
  refine valA (.tuple #[.agg noK.a, .agg noK.a, .int .i64 (2)]) ?_
  refine valA (.agg noK.a) ?_
  refine valA (.agg noK.a) ?_
  refine valA (.int .i64 (2)) ?_
  go_simp
  refine wpList_valG (w' := V1.alloc (.cells noK.a 43)) (v := .pointer (some ⟨V1.heap.size, 0, none⟩)) (by kernel_rfl) (by kernel_rfl) ?_
  refine wpList_valG (w' := (V1.alloc (.cells noK.a 43)).alloc (.cells noK.a 43)) (v := .pointer (some ⟨(V1.alloc (.cells noK.a 43)).heap.size, 0, none⟩)) (by kernel_rfl) (by kernel_rfl) ?_
  obtain ⟨t1, t2, t3, t4, t5, t6⟩ := two_rows V1 noK noK
  refine stW 43 noK.a t1 (Kn.a_one _) ?_
  refine stW 43 noK.a t2 (Kn.a_one _) ?_
  have hC2 := hC1.grow t5
  clear t1 t2 t5 t6 hC1
  generalize (((V1.alloc (.cells noK.a 43)).alloc (.cells noK.a 43)).setRow V1.heap.size noK.a).setRow (V1.alloc (.cells noK.a 43)).heap.size noK.a = W2 at *
  generalize (V1.alloc (.cells noK.a 43)).heap.size = b8 at *
  generalize V1.heap.size = b7 at *
  refine valA (.int .i64 (2)) ?_
  go_simp
  go_upto_region 2 with fail
  first | refine wp_region_lit ?_ | skip
  refine ldA (ld38 hC2.ins) ?_
  refine callA (HM.out W2) ?_
  rintro e V3 ⟨rfl, hB1⟩
  refine ⟨_, rfl, ?_⟩
  have hC3 := hC2.grow hB1
  have r3 := t3.below hB1 t3.lt
  have r4 := t4.below hB1 t4.lt
  clear hB1 hC2 t3 t4
  rw [hmay]
  go_simp
  refine valA (.bool false) ?_
  refine valA (.bool false) ?_
  refine wpList_valW (w' := V3) (v := .int .i64 c) (by kernel_rfl) (by kernel_rfl) ?_
  go_simp
  refine wpList_valW (w' := V3) (v := .bool false) (by kernel_rfl) (by rw [← f1]; kernel_rfl) ?_
  refine valA (.bool false) ?_
  refine valA (.bool false) ?_
  go_simp
  refine wpList_valW (w' := V3) (v := .int .i64 c) (by kernel_rfl) (by kernel_rfl) ?_
  refine wpList_valW (w' := V3) (v := .bool true) (by kernel_rfl) (by rw [← f2]; kernel_rfl) ?_
  refine valA (.bool true) ?_
  go_simp
  refine valA (.bool true) ?_
  refine wpList_notW (by kernel_rfl) ?_
  refine wpList_notW (by kernel_rfl) ?_
  go_simp
  refine wpList_notW (by kernel_rfl) ?_
  refine valA (.bool true) ?_
  go_simp
  go_upto_region 3 with fail
  first | refine wp_region_lit ?_ | skip
  refine ldA (ld43 r3) ?_
  refine valA (.agg noK.a) ?_
  refine valR (v := .bool true) (run_eql43 _ _ rfl noK HK0.out (by kernel_rfl) (by kernel_rfl)) ?_
  go_simp
  refine valA (.bool true) ?_
  refine ldA (ld43 r4) ?_
  refine wpList_valW (w' := V3) (v := .agg noK.a) (by kernel_rfl) (by kernel_rfl) ?_
  go_simp
  refine wpList_valW (w' := V3) (v := .bool true) (by kernel_rfl) (run_eql43 _ _ rfl noK HK0.out (by kernel_rfl) (by kernel_rfl)) ?_
  refine valA (.bool true) ?_
  refine valA (.bool true) ?_
  go_simp
  refine wpList_valW (w' := V3) (v := .int .i64 2) (by kernel_rfl) (by kernel_rfl) ?_
  refine wpList_valW (w' := V3) (v := .bool true) (by kernel_rfl) (by kernel_rfl) ?_
  refine valA (.bool true) ?_
  go_simp
  refine valA (.bool true) ?_
  refine callA (HN.out _ hC3.below) ?_
  rintro e V9 ⟨rfl, hB9⟩
  refine ⟨_, rfl, ?_⟩
  have hBF := hC3.below.trans (hB9.mono hC3.below.size)
  clear hB9 hC3 r3 r4
  go_simp
  refine valA (.bool true) ?_
  refine valA (.bool true) ?_
  go_simp
  go_wp2_with fail
  go_ret
  exact ⟨rfl, hBF⟩
set_option maxRecDepth 10000 in
set_option maxHeartbeats 4000000 in
theorem behl_right (i : Ins) (hu : i.imm < 4294967296) (c : Int) (k : Kn) (w : World) (hG : Glob w) (hko : KOk k) (hmay : i.may = true) (h1 : ¬ c < 0) (h2 : ¬ 256 < c) (hkb : knB k = false) (hv : behV i c k = (noK, noK, 2)) :
    Calls Tryd.prog 4 #[.agg i.a, .int .i64 c, .agg k.a] w fun e w' => e = .returned (.bool true) ∧ Below w.heap.size w w' := by
  have f1 : decide (c < 0) = false := decide_eq_false h1
  have f2 : decide (256 < c) = false := decide_eq_false h2
  clear h1 h2
  have HB17 : ∀ X, Below w.heap.size w X → Calls Tryd.prog 17 #[.agg i.a, .int .i64 c, .agg k.a] X fun e X' => e = .returned (.tuple #[.agg (behV i c k).1.a, .agg (behV i c k).2.1.a, .int .i64 (behV i c k).2.2]) ∧ Below X.heap.size X X' := fun X hX => behind_any i c k X (hG.below hX hG.size) hu hko
  have HM : Hid (∀ X, Calls Tryd.prog 18 #[.agg i.a] X fun e X' => e = .returned (.bool i.may) ∧ Below X.heap.size X X') := fun X => rmay_any i.op i.dst i.src i.off i.imm X (by omega)
  have HR : Hid (∀ X, Calls Tryd.prog 19 #[.agg k.a] X fun e X' => e = .returned (.bool (knB k)) ∧ Below X.heap.size X X') := fun X => rright_any k X
  have HN : Hid (∀ X, Below w.heap.size w X → Calls Tryd.prog 12 #[] X fun e X' => e = .returned (.bool true) ∧ Below X.heap.size X X') := fun X hX => knownl_any X (hG.below hX hG.size)
  have HK : Hid (KOk (behV i c k).1 ∧ KOk (behV i c k).2.1) := behV_right hu hko
  have HK0 : Hid (KOk noK) := noK_right.ok
  rw [hv] at HB17 HK
  clear hv
  simp only at HB17 HK
  obtain ⟨W0, hW0⟩ : ∃ W0, W0 = (w.alloc (.cells i.a 38)).alloc (.cells k.a 43) := ⟨_, rfl⟩
  have hC0 : CB w i k W0 := by
    rw [hW0]
    exact ⟨has_old (has_new _ _ _ _ rfl), has_new _ _ _ _ (by simp), ((Below.refl _ _).alloc (Nat.le_refl _) _).alloc (by simp) _⟩
  clear hG hu hko
  go_enter Tryd.func4, Tryd.ntmps4
  go_upto_region 1 with fail
  refine named2 (p := fun X => Code.wp _ _ _ _ X) ?_
  intro W9 hW9
  have hW : W0 = W9 := hW0.trans hW9.symm
  subst hW
  clear hW9 hW0
  first | refine wp_region_lit ?_ | skip
  have hc1 := HB17 W0 hC0.below
  clear HB17
  refine ldA (ld38 hC0.ins) ?_
  refine valA (.int .i64 c) ?_
  refine ldA (ld43 hC0.kn) ?_
  refine callA hc1 ?_
  rintro e V1 ⟨rfl, hB1⟩
  refine ⟨_, rfl, ?_⟩
  have hC1 := hC0.grow hB1
  clear hc1 hB1 hC0
  go_simp
  refine valA (.tuple #[.agg noK.a, .agg noK.a, .int .i64 (2)]) ?_
  refine valA (.agg noK.a) ?_
  refine valA (.agg noK.a) ?_
  refine valA (.int .i64 (2)) ?_
  go_simp
  refine wpList_valG (w' := V1.alloc (.cells noK.a 43)) (v := .pointer (some ⟨V1.heap.size, 0, none⟩)) (by kernel_rfl) (by kernel_rfl) ?_
  refine wpList_valG (w' := (V1.alloc (.cells noK.a 43)).alloc (.cells noK.a 43)) (v := .pointer (some ⟨(V1.alloc (.cells noK.a 43)).heap.size, 0, none⟩)) (by kernel_rfl) (by kernel_rfl) ?_
  obtain ⟨t1, t2, t3, t4, t5, t6⟩ := two_rows V1 noK noK
  refine stW 43 noK.a t1 (Kn.a_one _) ?_
  refine stW 43 noK.a t2 (Kn.a_one _) ?_
  have hC2 := hC1.grow t5
  clear t1 t2 t5 t6 hC1
  generalize (((V1.alloc (.cells noK.a 43)).alloc (.cells noK.a 43)).setRow V1.heap.size noK.a).setRow (V1.alloc (.cells noK.a 43)).heap.size noK.a = W2 at *
  generalize (V1.alloc (.cells noK.a 43)).heap.size = b8 at *
  generalize V1.heap.size = b7 at *
  refine valA (.int .i64 (2)) ?_
  go_simp
  go_upto_region 2 with fail
  first | refine wp_region_lit ?_ | skip
  refine ldA (ld38 hC2.ins) ?_
  refine callA (HM.out W2) ?_
  rintro e V3 ⟨rfl, hB1⟩
  refine ⟨_, rfl, ?_⟩
  have hC3 := hC2.grow hB1
  have r3 := t3.below hB1 t3.lt
  have r4 := t4.below hB1 t4.lt
  clear hB1 hC2 t3 t4
  rw [hmay]
  go_simp
  refine valA (.bool false) ?_
  refine valA (.bool false) ?_
  refine wpList_valW (w' := V3) (v := .int .i64 c) (by kernel_rfl) (by kernel_rfl) ?_
  go_simp
  refine wpList_valW (w' := V3) (v := .bool false) (by kernel_rfl) (by rw [← f1]; kernel_rfl) ?_
  refine valA (.bool false) ?_
  refine valA (.bool false) ?_
  go_simp
  refine wpList_valW (w' := V3) (v := .int .i64 c) (by kernel_rfl) (by kernel_rfl) ?_
  refine wpList_valW (w' := V3) (v := .bool false) (by kernel_rfl) (by rw [← f2]; kernel_rfl) ?_
  refine valA (.bool false) ?_
  go_simp
  refine valA (.bool false) ?_
  refine ldA (ld43 hC3.kn) ?_
  refine callA (HR.out V3) ?_
  rintro e V4 ⟨rfl, hB1⟩
  refine ⟨_, rfl, ?_⟩
  have hC4 := hC3.grow hB1
  have u3 := r3.below hB1 r3.lt
  have u4 := r4.below hB1 r4.lt
  clear hB1 hC3 r3 r4
  rw [hkb]
  go_simp
  refine wpList_valW (w' := V4) (v := .bool true) (by kernel_rfl) (by kernel_rfl) ?_
  refine valA (.bool true) ?_
  go_simp
  go_upto_region 3 with fail
  first | refine wp_region_lit ?_ | skip
  refine ldA (ld43 u3) ?_
  refine valA (.agg noK.a) ?_
  refine valR (v := .bool true) (run_eql43 _ _ rfl noK HK0.out (by kernel_rfl) (by kernel_rfl)) ?_
  go_simp
  refine valA (.bool true) ?_
  refine ldA (ld43 u4) ?_
  refine wpList_valW (w' := V4) (v := .agg noK.a) (by kernel_rfl) (by kernel_rfl) ?_
  go_simp
  refine wpList_valW (w' := V4) (v := .bool true) (by kernel_rfl) (run_eql43 _ _ rfl noK HK0.out (by kernel_rfl) (by kernel_rfl)) ?_
  refine valA (.bool true) ?_
  refine valA (.bool true) ?_
  go_simp
  refine wpList_valW (w' := V4) (v := .int .i64 2) (by kernel_rfl) (by kernel_rfl) ?_
  refine wpList_valW (w' := V4) (v := .bool true) (by kernel_rfl) (by kernel_rfl) ?_
  refine valA (.bool true) ?_
  go_simp
  refine valA (.bool true) ?_
  refine callA (HN.out _ hC4.below) ?_
  rintro e V9 ⟨rfl, hB9⟩
  refine ⟨_, rfl, ?_⟩
  have hBF := hC4.below.trans (hB9.mono hC4.below.size)
  clear hB9 hC4 u3 u4
  go_simp
  refine valA (.bool true) ?_
  refine valA (.bool true) ?_
  go_simp
  go_wp2_with fail
  go_ret
  exact ⟨rfl, hBF⟩
set_option maxRecDepth 10000 in
set_option maxHeartbeats 4000000 in
theorem behl_ok (i : Ins) (hu : i.imm < 4294967296) (c : Int) (k : Kn) (w : World) (hG : Glob w) (hko : KOk k) (hmay : i.may = true) (h1 : ¬ c < 0) (h2 : ¬ 256 < c) (hkb : knB k = true) (hch : chkE c [i] = 0) :
    Calls Tryd.prog 4 #[.agg i.a, .int .i64 c, .agg k.a] w fun e w' => e = .returned (.bool true) ∧ Below w.heap.size w w' := by
  have f1 : decide (c < 0) = false := decide_eq_false h1
  have f2 : decide (256 < c) = false := decide_eq_false h2
  clear h1 h2
  have HB17 : ∀ X, Below w.heap.size w X → Calls Tryd.prog 17 #[.agg i.a, .int .i64 c, .agg k.a] X fun e X' => e = .returned (.tuple #[.agg (behV i c k).1.a, .agg (behV i c k).2.1.a, .int .i64 (behV i c k).2.2]) ∧ Below X.heap.size X X' := fun X hX => behind_any i c k X (hG.below hX hG.size) hu hko
  have HM : Hid (∀ X, Calls Tryd.prog 18 #[.agg i.a] X fun e X' => e = .returned (.bool i.may) ∧ Below X.heap.size X X') := fun X => rmay_any i.op i.dst i.src i.off i.imm X (by omega)
  have HR : Hid (∀ X, Calls Tryd.prog 19 #[.agg k.a] X fun e X' => e = .returned (.bool (knB k)) ∧ Below X.heap.size X X') := fun X => rright_any k X
  have HN : Hid (∀ X, Below w.heap.size w X → Calls Tryd.prog 12 #[] X fun e X' => e = .returned (.bool true) ∧ Below X.heap.size X X') := fun X hX => knownl_any X (hG.below hX hG.size)
  have HK : Hid (KOk (behV i c k).1 ∧ KOk (behV i c k).2.1) := behV_right hu hko
  have HK0 : Hid (KOk noK) := noK_right.ok
  have HD : Hid (∀ X, Calls Tryd.prog 20 #[.agg i.a, .int .i64 c, .agg k.a] X fun e X' => e = .returned (.agg (wayA (behV i c k).1 (behV i c k).2.1 (behV i c k).2.2)) ∧ Below X.heap.size X X') := fun X => rbehind_any i c k X hch hkb hu hko
  obtain ⟨⟨n, j, E⟩, hbv⟩ : ∃ z, z = behV i c k := ⟨_, rfl⟩
  rw [← hbv] at HB17 HK HD
  clear hbv hch
  simp only at HB17 HK HD
  obtain ⟨W0, hW0⟩ : ∃ W0, W0 = (w.alloc (.cells i.a 38)).alloc (.cells k.a 43) := ⟨_, rfl⟩
  have hC0 : CB w i k W0 := by
    rw [hW0]
    exact ⟨has_old (has_new _ _ _ _ rfl), has_new _ _ _ _ (by simp), ((Below.refl _ _).alloc (Nat.le_refl _) _).alloc (by simp) _⟩
  clear hG hu hko
  go_enter Tryd.func4, Tryd.ntmps4
  go_upto_region 1 with fail
  refine named2 (p := fun X => Code.wp _ _ _ _ X) ?_
  intro W9 hW9
  have hW : W0 = W9 := hW0.trans hW9.symm
  subst hW
  clear hW9 hW0
  first | refine wp_region_lit ?_ | skip
  have hc1 := HB17 W0 hC0.below
  clear HB17
  refine ldA (ld38 hC0.ins) ?_
  refine valA (.int .i64 c) ?_
  refine ldA (ld43 hC0.kn) ?_
  refine callA hc1 ?_
  rintro e V1 ⟨rfl, hB1⟩
  refine ⟨_, rfl, ?_⟩
  have hC1 := hC0.grow hB1
  clear hc1 hB1 hC0
  go_simp
  refine valA (.tuple #[.agg n.a, .agg j.a, .int .i64 (E)]) ?_
  refine valA (.agg n.a) ?_
  refine valA (.agg j.a) ?_
  refine valA (.int .i64 (E)) ?_
  go_simp
  refine wpList_valG (w' := V1.alloc (.cells noK.a 43)) (v := .pointer (some ⟨V1.heap.size, 0, none⟩)) (by kernel_rfl) (by kernel_rfl) ?_
  refine wpList_valG (w' := (V1.alloc (.cells noK.a 43)).alloc (.cells noK.a 43)) (v := .pointer (some ⟨(V1.alloc (.cells noK.a 43)).heap.size, 0, none⟩)) (by kernel_rfl) (by kernel_rfl) ?_
  obtain ⟨t1, t2, t3, t4, t5, t6⟩ := two_rows V1 n j
  refine stW 43 n.a t1 (Kn.a_one _) ?_
  refine stW 43 j.a t2 (Kn.a_one _) ?_
  have hC2 := hC1.grow t5
  clear t1 t2 t5 t6 hC1
  generalize (((V1.alloc (.cells noK.a 43)).alloc (.cells noK.a 43)).setRow V1.heap.size n.a).setRow (V1.alloc (.cells noK.a 43)).heap.size j.a = W2 at *
  generalize (V1.alloc (.cells noK.a 43)).heap.size = b8 at *
  generalize V1.heap.size = b7 at *
  refine valA (.int .i64 (E)) ?_
  go_simp
  go_upto_region 2 with fail
  first | refine wp_region_lit ?_ | skip
  refine ldA (ld38 hC2.ins) ?_
  refine callA (HM.out W2) ?_
  rintro e V3 ⟨rfl, hB1⟩
  refine ⟨_, rfl, ?_⟩
  have hC3 := hC2.grow hB1
  have r3 := t3.below hB1 t3.lt
  have r4 := t4.below hB1 t4.lt
  clear hB1 hC2 t3 t4
  rw [hmay]
  go_simp
  refine valA (.bool false) ?_
  refine valA (.bool false) ?_
  refine wpList_valW (w' := V3) (v := .int .i64 c) (by kernel_rfl) (by kernel_rfl) ?_
  go_simp
  refine wpList_valW (w' := V3) (v := .bool false) (by kernel_rfl) (by rw [← f1]; kernel_rfl) ?_
  refine valA (.bool false) ?_
  refine valA (.bool false) ?_
  go_simp
  refine wpList_valW (w' := V3) (v := .int .i64 c) (by kernel_rfl) (by kernel_rfl) ?_
  refine wpList_valW (w' := V3) (v := .bool false) (by kernel_rfl) (by rw [← f2]; kernel_rfl) ?_
  refine valA (.bool false) ?_
  go_simp
  refine valA (.bool false) ?_
  refine ldA (ld43 hC3.kn) ?_
  refine callA (HR.out V3) ?_
  rintro e V4 ⟨rfl, hB1⟩
  refine ⟨_, rfl, ?_⟩
  have hC4 := hC3.grow hB1
  have u3 := r3.below hB1 r3.lt
  have u4 := r4.below hB1 r4.lt
  clear hB1 hC3 r3 r4
  rw [hkb]
  go_simp
  refine wpList_valW (w' := V4) (v := .bool false) (by kernel_rfl) (by kernel_rfl) ?_
  refine valA (.bool false) ?_
  go_simp
  go_upto_region 4 with fail
  first | refine wp_region_lit ?_ | skip
  refine ldA (ld38 hC4.ins) ?_
  refine valA (.int .i64 c) ?_
  refine ldA (ld43 hC4.kn) ?_
  refine callA (HD.out _) ?_
  rintro e V5 ⟨rfl, hB1⟩
  refine ⟨_, rfl, ?_⟩
  have hC5 := hC4.grow hB1
  have x3 := u3.below hB1 u3.lt
  have x4 := u4.below hB1 u4.lt
  clear hB1 hC4 u3 u4
  go_simp
  refine wpList_valG (w' := V5.alloc (.cells (wayA noK noK 0) 49)) (v := .pointer (some ⟨V5.heap.size, 0, none⟩)) (by kernel_rfl) (by kernel_rfl) ?_
  have ax : Has (V5.alloc (.cells (wayA noK noK 0) 49)) V5.heap.size (wayA noK noK 0) 49 := has_new _ _ _ _ rfl
  refine stW 49 (wayA n j E) ax (wayA_one _ _ _) ?_
  have hg : Below V5.heap.size V5 ((V5.alloc (.cells (wayA noK noK 0) 49)).setRow V5.heap.size (wayA n j E)) := setRow_below ((Below.refl _ _).alloc (Nat.le_refl _) _) (Nat.le_refl _) _
  have hC6 := hC5.grow hg
  have y3 := x3.below hg x3.lt
  have y4 := x4.below hg x4.lt
  have yw := setRow_has ax (wayA n j E)
  clear hg hC5 x3 x4 ax
  generalize (V5.alloc (.cells (wayA noK noK 0) 49)).setRow V5.heap.size (wayA n j E) = W6 at *
  generalize V5.heap.size = b10 at *
  go_simp
  go_upto_region 5 with fail
  first | refine wp_region_lit ?_ | skip
  refine valA (.int .i64 E) ?_
  refine valA (.pointer (some ⟨b10, 62, none⟩)) ?_
  refine ldA (ld3 (way_err yw)) ?_
  go_simp
  refine valR (v := .bool true) (run_eqlE _ _ rfl E (by kernel_rfl) (by kernel_rfl)) ?_
  refine valA (.bool true) ?_
  refine ldA (ld43 y3) ?_
  go_simp
  refine wpList_valW (w' := W6) (v := .pointer (some ⟨b10, 0, none⟩)) (by kernel_rfl) (by kernel_rfl) ?_
  refine ldA (ld43N yw) ?_
  refine wpList_valW (w' := W6) (v := .bool true) (by kernel_rfl) (run_eql43 _ _ rfl n HK.out.1 (by kernel_rfl) (by kernel_rfl)) ?_
  go_simp
  refine valA (.bool true) ?_
  refine valA (.bool true) ?_
  refine ldA (ld43 y4) ?_
  go_simp
  refine wpList_valW (w' := W6) (v := .pointer (some ⟨b10, 31, none⟩)) (by kernel_rfl) (by kernel_rfl) ?_
  refine ldA (ld43J yw) ?_
  refine wpList_valW (w' := W6) (v := .bool true) (by kernel_rfl) (run_eql43 _ _ rfl j HK.out.2 (by kernel_rfl) (by kernel_rfl)) ?_
  go_simp
  refine valA (.bool true) ?_
  refine valA (.bool true) ?_
  refine callA (HN.out _ hC6.below) ?_
  rintro e V9 ⟨rfl, hB9⟩
  refine ⟨_, rfl, ?_⟩
  have hBF := hC6.below.trans (hB9.mono hC6.below.size)
  clear hB9 hC6 y3 y4 yw
  go_simp
  refine valA (.bool true) ?_
  refine valA (.bool true) ?_
  go_simp
  go_wp2_with fail
  go_ret
  exact ⟨rfl, hBF⟩
theorem behl_walk (i : Ins) (hu : i.imm < 4294967296) (c : Int) (k : Kn) (w : World) (hG : Glob w) (hko : KOk k) :
    Calls Tryd.prog 4 #[.agg i.a, .int .i64 c, .agg k.a] w fun e w' => e = .returned (.bool true) ∧ Below w.heap.size w w' := by
  cases hmay : i.may with
  | false =>
    refine behl_may i hu c k w hG hko hmay ?_
    unfold behV
    rw [if_pos (.inl (by unfold chkE; split; · decide
                         · rw [if_neg (by simp [hmay])]; decide))]
  | true =>
    by_cases h1 : c < 0
    · refine behl_neg i hu c k w hG hko hmay h1 ?_
      unfold behV
      rw [if_pos (.inl (by rw [chkE_bad (.inl h1)]; decide))]
    by_cases h2 : 256 < c
    · refine behl_big i hu c k w hG hko hmay h1 h2 ?_
      unfold behV
      rw [if_pos (.inl (by rw [chkE_bad (.inr h2)]; decide))]
    cases hkb : knB k with
    | false =>
      refine behl_right i hu c k w hG hko hmay h1 h2 hkb ?_
      unfold behV
      rw [if_pos (.inr hkb)]
    | true => exact behl_ok i hu c k w hG hko hmay h1 h2 hkb (chk_one ⟨mayB_iff.1 hmay, hu⟩ (by omega) (by omega))
end Go.Proofs.YtodkehpldlmgaaaDoor
