/- Which extensions may run, and what is known ahead of each instruction: the law. -/
import Derived.Test.YtodkehpldlmgaaaDoorZcT6
namespace Go.Proofs.YtodkehpldlmgaaaDoor
open Go.RowKit

theorem run_eqlE3 {o : Oper} {ρ : Operand → Value} {X : World} (x y : Operand) (ho : o.op = .binOp .eql 3 x y 3) (e : Int) (hx : ρ x = .int .i64 e) (hy : ρ y = .int .i64 e) : (execOp ρ o).run Tryd.prog X = .ok (.value (.bool true)) X := by
  unfold execOp
  simp only [ho]
  go_simp
theorem ld24 {X : World} {b t : Nat} {c : Int} {sv : Value} (h : Has X b #[.int .i64 c, sv] t) : (loadVar 24 ⟨b, 0, none⟩).run Tryd.prog X = .ok (.agg #[.int .i64 c, sv]) X := ld_row (l := [.int .i64 c, sv]) (has_whole h) (by kernel_rfl)
theorem chk_nice {c : Int} {l : List Ins} (hu : ∀ i, i ∈ l → i.imm < 4294967296) (h : chkE c l = 0) : ∀ i, i ∈ l → MayI i := fun i hi => chk_may h hi (hu i hi)
theorem knownE_chk {c : Int} {l : List Ins} (h : knownE c l = 0) : chkE c l = 0 := by
  by_cases e : chkE c l = 0
  · exact e
  · rw [knownE_bad e] at h; exact h
/-- What both Knowns answer is the same. -/
theorem same_both {c : Int} {l : List Ins} (hu : ∀ i, i ∈ l → i.imm < 4294967296) (hl : l.length ≤ 300) {V : World} {v1 v2 : Value} (h1 : knownE c l = 0 → ∃ ws, aheadE l.length c l 0 startW = .ok ws ∧ KnS V v1 l.length ws) (h2 : knownE c l ≠ 0 → v1 = .slice none 0 0)
    (h3 : knownE c l = 0 → ∃ ws, aheadE l.length c l 0 startW = .ok ws ∧ KnS V v2 l.length ws) (h4 : knownE c l ≠ 0 → v2 = .slice none 0 0) (X : World) (hX : Below V.heap.size V X) :
    Calls Tryd.prog 16 #[v1, v2] X fun e X' => e = .returned (.bool true) ∧ Below X.heap.size X X' := by
  by_cases hE : knownE c l = 0
  · obtain ⟨ws, ha, k1⟩ := h1 hE
    obtain ⟨ws', ha', k2⟩ := h3 hE
    obtain rfl : ws' = ws := by rw [ha] at ha'; cases ha'; rfl
    have hr := ahead_right l 0 startW ws' (chk_nice hu (knownE_chk hE)) startW_right ha
    exact same_yes v1 v2 l.length ws' X (k1.below hX) (k2.below hX) (by omega) (fun j _ => (hr j).ok)
  · rw [h2 hE, h4 hE]
    refine (same_nil X).mono ?_
    rintro e w' ⟨rfl, rfl⟩
    exact ⟨rfl, Below.refl _ _⟩
set_option maxRecDepth 10000 in
set_option maxHeartbeats 4000000 in
theorem knownw_big (c : Int) (sv : Value) (l : List Ins) (w : World) (hG : Glob w) (hP : Prg w sv l) (hbig : 300 < l.length) :
    Calls Tryd.prog 3 #[.agg #[.int .i64 c, sv]] w fun e w' => e = .returned (.bool true) ∧ Below w.heap.size w w' := by
  have HN : Hid (∀ X, Below w.heap.size w X → Calls Tryd.prog 12 #[] X fun e X' => e = .returned (.bool true) ∧ Below X.heap.size X X') := fun X hX => knownl_any X (hG.below hX hG.size)
  obtain ⟨a, cap, b, o, rfl, h2⟩ := hP
  clear h2 hG
  obtain ⟨W0, hW0⟩ : ∃ W0, W0 = w.alloc (.cells #[.int .i64 c, .slice a l.length cap] 24) := ⟨_, rfl⟩
  have hb0 : Has W0 w.heap.size #[.int .i64 c, .slice a l.length cap] 24 := by rw [hW0]; exact has_new _ _ _ _ rfl
  have HB0 : Hid (Below w.heap.size w W0) := by show Below _ _ _; rw [hW0]; exact (Below.refl _ _).alloc (Nat.le_refl _) _
  have c1 : W0.cell? ⟨w.heap.size, 1, none⟩ = some (.slice a l.length cap) := hb0.cell 1
  generalize l.length = n at *
  go_enter Tryd.func3, Tryd.ntmps3
  go_upto_region 1 with fail
  rw [← hW0]
  clear hW0
  have hb' : (300 : Int) < n := by omega
  go_wp2_with (go_at_call 12; refine (HN.out _ HB0.out).mono ?_; rintro e W9 ⟨rfl, hB9⟩)
  go_ret
  exact ⟨rfl, HB0.out.trans (hB9.mono HB0.out.size)⟩
set_option maxRecDepth 10000 in
set_option maxHeartbeats 4000000 in
theorem knownw_yes (c : Int) (sv : Value) (l : List Ins) (w : World) (hG : Glob w) (hP : Prg w sv l) (hu : ∀ i, i ∈ l → i.imm < 4294967296) (hbig : ¬ 300 < l.length) :
    Calls Tryd.prog 3 #[.agg #[.int .i64 c, sv]] w fun e w' => e = .returned (.bool true) ∧ Below w.heap.size w w' := by
  have hl : l.length ≤ 1000000000 := by omega
  have HN : Hid (∀ X, Below w.heap.size w X → Calls Tryd.prog 12 #[] X fun e X' => e = .returned (.bool true) ∧ Below X.heap.size X X') := fun X hX => knownl_any X (hG.below hX hG.size)
  have H13 : Hid (∀ X, Below w.heap.size w X → Calls Tryd.prog 13 #[.agg #[.int .i64 c, sv]] X fun e X' => ∃ v, e = .returned (.tuple #[v, .int .i64 (knownE c l)]) ∧ (knownE c l = 0 → ∃ ws, aheadE l.length c l 0 startW = .ok ws ∧ KnS X' v l.length ws) ∧ (knownE c l ≠ 0 → v = .slice none 0 0) ∧ Below X.heap.size X X') := fun X hX => known_any c sv l X (hG.below hX hG.size) (hP.below hX) hl hu
  have H14 : Hid (∀ X, Below w.heap.size w X → Calls Tryd.prog 14 #[.agg #[.int .i64 c, sv]] X fun e X' => ∃ v, e = .returned (.tuple #[v, .int .i64 (knownE c l)]) ∧ (knownE c l = 0 → ∃ ws, aheadE l.length c l 0 startW = .ok ws ∧ KnS X' v l.length ws) ∧ (knownE c l ≠ 0 → v = .slice none 0 0) ∧ Below X.heap.size X X') := fun X hX => rknown_any c sv l X (hP.below hX) hl hu
  have H15 : Hid (∀ X, Below w.heap.size w X → Calls Tryd.prog 15 #[.agg #[.int .i64 c, sv]] X fun e X' => e = .returned (.int .i64 (knownE c l)) ∧ Below X.heap.size X X') := fun X hX => checkp_any c sv l X (hG.below hX hG.size) (hP.below hX) hl hu
  have HS : Hid (l.length ≤ 300 → ∀ (V : World) (v1 v2 : Value), (knownE c l = 0 → ∃ ws, aheadE l.length c l 0 startW = .ok ws ∧ KnS V v1 l.length ws) → (knownE c l ≠ 0 → v1 = .slice none 0 0) → (knownE c l = 0 → ∃ ws, aheadE l.length c l 0 startW = .ok ws ∧ KnS V v2 l.length ws) → (knownE c l ≠ 0 → v2 = .slice none 0 0) → ∀ X, Below V.heap.size V X →
      Calls Tryd.prog 16 #[v1, v2] X fun e X' => e = .returned (.bool true) ∧ Below X.heap.size X X') := fun hl V v1 v2 h1 h2 h3 h4 X hX => same_both hu hl h1 h2 h3 h4 X hX
  obtain ⟨a, cap, b, o, rfl, h2⟩ := hP
  clear h2 hG hu
  obtain ⟨W0, hW0⟩ : ∃ W0, W0 = w.alloc (.cells #[.int .i64 c, .slice a l.length cap] 24) := ⟨_, rfl⟩
  have hb0 : Has W0 w.heap.size #[.int .i64 c, .slice a l.length cap] 24 := by rw [hW0]; exact has_new _ _ _ _ rfl
  have hB0 : Below w.heap.size w W0 := by rw [hW0]; exact (Below.refl _ _).alloc (Nat.le_refl _) _
  have HB0 : Hid (Below w.heap.size w W0) := hB0
  have c1 : W0.cell? ⟨w.heap.size, 1, none⟩ = some (.slice a l.length cap) := hb0.cell 1
  obtain ⟨E, hE⟩ : ∃ E, E = knownE c l := ⟨_, rfl⟩
  rw [← hE] at H13 H14 H15 HS
  obtain ⟨n, hn⟩ : ∃ n, n = l.length := ⟨_, rfl⟩
  rw [← hn] at hW0 hb0 c1 H13 H14 H15 HS hl hbig ⊢
  generalize aheadE n c l 0 startW = R at *
  clear hE hn hB0
  go_enter Tryd.func3, Tryd.ntmps3
  go_upto_region 1 with fail
  rw [← hW0]
  clear hW0
  have hb' : ¬ (300 : Int) < n := by omega
  have HL3 : Hid (n ≤ 300) := by show _ ≤ _; omega
  clear hl hbig
  go_upto_region 3 with fail
  clear c1 hb'
  first | refine wp_region_lit ?_ | skip
  refine ldA (ld24 hb0) ?_
  refine callA (H13.out W0 HB0.out) ?_
  rintro e V1 ⟨v1, rfl, h1, h2, hB1⟩
  refine ⟨_, rfl, ?_⟩
  have hb1 := hb0.below hB1 hb0.lt
  have hBV := HB0.out.trans (hB1.mono HB0.out.size)
  clear hB1 hb0 HB0 H13
  go_simp
  refine valA (.tuple #[v1, .int .i64 E]) ?_
  refine valA v1 ?_
  refine valA (.int .i64 E) ?_
  go_simp
  refine valA v1 ?_
  refine valA (.int .i64 E) ?_
  go_simp
  go_upto_region 4 with fail
  first | refine wp_region_lit ?_ | skip
  refine ldA (ld24 hb1) ?_
  refine callA (H14.out V1 hBV) ?_
  rintro e V2 ⟨v2, rfl, h3, h4, hB2⟩
  refine ⟨_, rfl, ?_⟩
  have hs := HS.out HL3.out V2 v1 v2 (fun h => by obtain ⟨ws, ha, hk⟩ := h1 h; exact ⟨ws, ha, hk.below hB2⟩) h2 h3 h4
  have hb2 := hb1.below hB2 hb1.lt
  have hBW := hBV.trans (hB2.mono hBV.size)
  clear hB2 hb1 hBV H14 h1 h2 h3 h4 HS
  go_simp
  refine valA (.tuple #[v2, .int .i64 E]) ?_
  refine valA v2 ?_
  refine valA (.int .i64 E) ?_
  go_simp
  refine valA v2 ?_
  refine valA (.int .i64 E) ?_
  go_simp
  go_upto_region 5 with fail
  first | refine wp_region_lit ?_ | skip
  refine valA (.int .i64 E) ?_
  refine valA (.int .i64 E) ?_
  refine valR (v := .bool true) (run_eqlE3 _ _ rfl E (by kernel_rfl) (by kernel_rfl)) ?_
  go_simp
  refine valA (.bool true) ?_
  refine ldA (ld24 hb2) ?_
  refine callA (H15.out V2 hBW) ?_
  rintro e V3 ⟨rfl, hB3⟩
  refine ⟨_, rfl, ?_⟩
  have hB4 := hBW.trans (hB3.mono hBW.size)
  go_simp
  refine wpList_valW (w' := V3) (v := .int .i64 E) (by kernel_rfl) (by kernel_rfl) ?_
  refine wpList_valW (w' := V3) (v := .bool true) (by kernel_rfl) (run_eqlE3 _ _ rfl E (by kernel_rfl) (by kernel_rfl)) ?_
  refine valA (.bool true) ?_
  go_simp
  refine valA (.bool true) ?_
  refine wpList_valW (w' := V3) (v := v1) (by kernel_rfl) (by kernel_rfl) ?_
  refine wpList_valW (w' := V3) (v := v2) (by kernel_rfl) (by kernel_rfl) ?_
  go_simp
  refine callA (hs V3 hB3) ?_
  rintro e V4 ⟨rfl, hB5⟩
  refine ⟨_, rfl, ?_⟩
  have hB6 := hB4.trans (hB5.mono hB4.size)
  clear hs hB3 hB5 hB4 hb2 hBW
  go_simp
  refine valA (.bool true) ?_
  refine valA (.bool true) ?_
  refine callA (HN.out V4 hB6) ?_
  rintro e V5 ⟨rfl, hB7⟩
  refine ⟨_, rfl, ?_⟩
  have hB8 := hB6.trans (hB7.mono hB6.size)
  clear hB6 hB7
  go_simp
  refine valA (.bool true) ?_
  refine valA (.bool true) ?_
  go_simp
  go_wp2_with fail
  go_ret
  exact ⟨rfl, hB8⟩
theorem knownw_any (c : Int) (sv : Value) (l : List Ins) (w : World) (hG : Glob w) (hP : Prg w sv l) (hu : ∀ i, i ∈ l → i.imm < 4294967296) :
    Calls Tryd.prog 3 #[.agg #[.int .i64 c, sv]] w fun e w' => e = .returned (.bool true) ∧ Below w.heap.size w w' := by
  by_cases h : 300 < l.length
  · exact knownw_big c sv l w hG hP h
  · exact knownw_yes c sv l w hG hP hu h
end Go.Proofs.YtodkehpldlmgaaaDoor
