/- CodeBytes: the law's walk, of an extension that may be. -/
import Derived.Test.YtoalchlokcphkaaDoorB1
namespace Go.Proofs.YtoalchlokcphkaaDoor
open Go.RowKit

set_option maxRecDepth 10000 in
set_option maxHeartbeats 2000000 in
theorem bytes_ok (ctx : Nat) (sv : Value) (l : List Ins) (w : World) (hP : Prg w sv l) (hG : Glob w) (hu : ∀ i ∈ l, i.imm < 4294967296) (hE : chkE ctx l = 0) :
    Calls Tryd.prog 3 #[.agg #[.int .i64 ctx, sv]] w fun e w' => e = .returned (.bool true) ∧ Below w.heap.size w w' := by
  obtain ⟨⟨_, hc⟩, hl, hm⟩ := chkE_zero hE
  have hc' : ctx ≤ 256 := by omega
  obtain ⟨W0, hW0⟩ : ∃ W0, W0 = w.alloc (.cells #[.int .i64 ctx, sv] 24) := ⟨_, rfl⟩
  have hB0 : Below w.heap.size w W0 := by rw [hW0]; exact (Below.refl _ _).alloc (Nat.le_refl _) _
  have hX0 : Has W0 w.heap.size #[.int .i64 ctx, sv] 24 := by rw [hW0]; exact has_new _ _ _ _ rfl
  have h1 : ∀ W, Below w.heap.size w W → _ := fun W hB => rcheck_any ctx sv l W (hP.below hB) (by omega)
  have h2 : ∀ W, Below w.heap.size w W → _ := fun W hB => encode_ok ctx sv l W (hP.below hB) (hG.below hB hG.size) hu hE
  have h3 : ∀ W, Below w.heap.size w W → _ := fun W hB => check_any ctx sv l W (hP.below hB) (hG.below hB hG.size) (by omega)
  have h4 : ∀ W, Below w.heap.size w W → _ := fun W hB => rbytes_any ctx sv l W (hP.below hB) hl hc' hm hu
  have h5 : ∀ W v, Below w.heap.size w W → Bytes W v (progL ctx l) → Calls Tryd.prog 15 #[v] W fun e w' => ∃ sv, e = .returned (.tuple #[.agg #[.int .i64 ctx, sv], .int .i64 0]) ∧ Prg w' sv l ∧ Below W.heap.size W w' := fun W v hB hv => by
    obtain ⟨x2, x3, x4, x5, r, e1, e2, e3, e4⟩ := prog_there hc' hl hm hu
    rw [e1] at hv
    have := (decode_yes v x2 x3 x4 x5 r W hv e3 (by have := numL_two x4 x5; omega) (hG.below hB hG.size)).1
    rw [e2, e4] at this
    exact this hE
  have h6 : ∀ W sv', Below w.heap.size w W → Prg W sv' l → _ := fun W sv' hB hP' => rsame_any ctx ctx sv sv' l l W (hP.below hB) hP' (by omega)
  simp only [hE] at h1 h3
  rw [show ((ctx : Int)).toNat = ctx by omega] at h2
  obtain ⟨sa, sc, hsv⟩ := hP.slice
  have hl' : ¬ (300 : Int) < l.length := by omega
  obtain ⟨n, hn⟩ : ∃ n, n = l.length := ⟨_, rfl⟩
  rw [← hn] at hsv hl'
  subst hsv
  generalize progL ctx l = d at *
  clear hP hn hE hm hu hc hc' hl
  go_enter Tryd.func3, Tryd.ntmps3
  go_wp2_with fail
  rw [← hW0]
  clear hW0
  refine (h1 W0 hB0).mono ?_
  rintro e W1 ⟨rfl, hB1⟩
  have hBw1 := hB0.trans (hB1.mono hB0.size)
  have hX1 := hX0.below hB1 hX0.lt
  clear hX0 hB1 hB0 h1
  have y0 := hX1.cell 0
  have y1 := hX1.cell 1
  go_wp2_with fail
  refine (h2 W1 hBw1).mono ?_
  rintro e W2 ⟨v, rfl, hO2, hn2, hB2⟩
  have hBw2 := hBw1.trans (hB2.mono hBw1.size)
  have hX2 := hX1.below hB2 hX1.lt
  have hv2 := hO2.bytes (by have := hX2.lt; omega)
  clear y0 y1 hX1 hBw1 hO2 hn2 hB2 h2
  have y0 := hX2.cell 0
  have y1 := hX2.cell 1
  go_wp2_with fail
  refine (h3 W2 hBw2).mono ?_
  rintro e W3 ⟨rfl, hB3⟩
  have hBw3 := hBw2.trans (hB3.mono hBw2.size)
  have hX3 := hX2.below hB3 hX2.lt
  have hv3 := hv2.below hB3
  clear y0 y1 hX2 hBw2 hv2 hB3 h3
  go_wp2_with fail
  refine (h5 W3 v hBw3 hv3).mono ?_
  rintro e W4 ⟨s4, rfl, hP4, hB4⟩
  obtain ⟨a4, c4, hs4⟩ := hP4.slice
  obtain ⟨n4, hn4⟩ : ∃ n4, n4 = l.length := ⟨_, rfl⟩
  rw [← hn4] at hs4
  subst hs4
  clear hn4
  go_wp2_with fail
  refine named (p := fun X => Code.wp _ _ _ _ X) ?_
  intro W5 hW5
  have hB5 : Below W4.heap.size W4 W5 := by rw [hW5]; exact (Below.refl _ _).alloc (Nat.le_refl _) _
  have hX5 : Has W5 W4.heap.size #[.int .i64 ctx, .slice a4 n4 c4] 24 := by rw [hW5]; exact has_new _ _ _ _ rfl
  clear hW5
  have hBw4 := hBw3.trans (hB4.mono hBw3.size)
  have hBw5 := hBw4.trans (hB5.mono hBw4.size)
  have hY5 := (hX3.below hB4 hX3.lt).below hB5 (Nat.lt_of_lt_of_le hX3.lt hB4.size)
  have hv5 := (hv3.below hB4).below hB5
  have hP5 := hP4.below hB5
  generalize W4.heap.size = b4 at *
  clear hX3 hv3 hP4 hBw3 hBw4 hB4 hB5 h5
  have z0 : ∀ X, Below W5.heap.size W5 X → X.cell? ⟨w.heap.size, 0, none⟩ = some (.int .i64 ctx) := fun X hX => (hX.cell (p := ⟨w.heap.size, 0, none⟩) hY5.lt).trans (hY5.cell 0)
  have z1 : ∀ X, Below W5.heap.size W5 X → X.cell? ⟨w.heap.size, 1, none⟩ = some (.slice sa n sc) := fun X hX => (hX.cell (p := ⟨w.heap.size, 1, none⟩) hY5.lt).trans (hY5.cell 1)
  have z2 : ∀ X, Below W5.heap.size W5 X → X.cell? ⟨b4, 0, none⟩ = some (.int .i64 ctx) := fun X hX => (hX.cell (p := ⟨b4, 0, none⟩) hX5.lt).trans (hX5.cell 0)
  have z3 : ∀ X, Below W5.heap.size W5 X → X.cell? ⟨b4, 1, none⟩ = some (.slice a4 n4 c4) := fun X hX => (hX.cell (p := ⟨b4, 1, none⟩) hX5.lt).trans (hX5.cell 1)
  have hS0 : Below W5.heap.size W5 W5.drew := (Below.refl _ _).drew
  refine wp_region_K (S := fun X => Below W5.heap.size W5 X) (fun _ => true) (by kernel_rfl) ?_
  refine K_take (i := 0) (v := v) rfl (by kernel_rfl) (by kernel_rfl) (by kernel_rfl) (by kernel_rfl) (by kernel_rfl) (by kernel_rfl) (fun w' hS => by go_simp) hS0 ?_
  refine K_take (i := 1) (v := .string ⟨d.toArray⟩) rfl (by kernel_rfl) (by kernel_rfl) (by kernel_rfl) (by kernel_rfl) (by kernel_rfl) (by kernel_rfl) (fun w' hS => conv_run (v := v) (l := d) _ rfl (by kernel_rfl) (hv5.below hS)) hS0 ?_
  refine K_take (i := 2) (v := .agg #[.int .i64 ctx, .slice sa n sc]) rfl (by kernel_rfl) (by kernel_rfl) (by kernel_rfl) (by kernel_rfl) (by kernel_rfl) (by kernel_rfl) (fun w' hS => by have q0 := z0 w' hS; have q1 := z1 w' hS; clear z0 z1 z2 z3; go_simp) hS0 ?_
  refine K_next (i := 3) (by kernel_rfl) rfl (by kernel_rfl) (fun K hK => ?_)
  go_simp
  refine (h4 _ hBw5.drew).mono ?_
  rintro e W6 ⟨v6, rfl, hN6⟩
  have hB6 : Below W5.heap.size W5 W6 := hS0.trans (show Below W5.heap.size W5.drew W6 from hN6.bel)
  have hv6 := hN6.own.bytes (by have := hY5.lt; have := hB6.size; omega)
  refine hK _ _ (fun _ => hB6) ?_
  clear hK hN6 hS0
  refine K_next (i := 4) (by kernel_rfl) rfl (by kernel_rfl) (fun K hK => ?_)
  refine op_run (conv_run (v := v6) (l := d) _ rfl (by kernel_rfl) hv6) ?_
  refine hK _ _ (fun _ => hB6) ?_
  clear hK
  refine K_take (i := 5) (v := .bool true) rfl (by kernel_rfl) (by kernel_rfl) (by kernel_rfl) (by kernel_rfl) (by kernel_rfl) (by kernel_rfl) (fun w' hS => by go_simp) hB6 ?_
  refine K_take (i := 6) (v := .bool true) rfl (by kernel_rfl) (by kernel_rfl) (by kernel_rfl) (by kernel_rfl) (by kernel_rfl) (by kernel_rfl) (fun w' hS => by go_simp) hB6 ?_
  refine K_take (i := 7) (v := .int .i64 0) rfl (by kernel_rfl) (by kernel_rfl) (by kernel_rfl) (by kernel_rfl) (by kernel_rfl) (by kernel_rfl) (fun w' hS => by go_simp) hB6 ?_
  refine K_take (i := 8) (v := .bool true) rfl (by kernel_rfl) (by kernel_rfl) (by kernel_rfl) (by kernel_rfl) (by kernel_rfl) (by kernel_rfl) (fun w' hS => by go_simp) hB6 ?_
  refine K_take (i := 9) (v := .bool true) rfl (by kernel_rfl) (by kernel_rfl) (by kernel_rfl) (by kernel_rfl) (by kernel_rfl) (by kernel_rfl) (fun w' hS => by go_simp) hB6 ?_
  refine K_take (i := 10) (v := .bool true) rfl (by kernel_rfl) (by kernel_rfl) (by kernel_rfl) (by kernel_rfl) (by kernel_rfl) (by kernel_rfl) (fun w' hS => by go_simp) hB6 ?_
  refine K_take (i := 11) (v := .agg #[.int .i64 ctx, .slice sa n sc]) rfl (by kernel_rfl) (by kernel_rfl) (by kernel_rfl) (by kernel_rfl) (by kernel_rfl) (by kernel_rfl) (fun w' hS => by have q0 := z0 w' hS; have q1 := z1 w' hS; clear z0 z1 z2 z3; go_simp) hB6 ?_
  refine K_take (i := 12) (v := .agg #[.int .i64 ctx, .slice a4 n4 c4]) rfl (by kernel_rfl) (by kernel_rfl) (by kernel_rfl) (by kernel_rfl) (by kernel_rfl) (by kernel_rfl) (fun w' hS => by have q0 := z2 w' hS; have q1 := z3 w' hS; clear z0 z1 z2 z3; go_simp) hB6 ?_
  have hBw6 := hBw5.trans (hB6.mono hBw5.size)
  have h7 := h6 W6 _ hBw6 (hP5.below hB6)
  refine K_next (i := 13) (by kernel_rfl) rfl (by kernel_rfl) (fun K hK => ?_)
  go_simp
  refine h7.mono ?_
  rintro e W7 ⟨b7, rfl, hb7, hB7⟩
  obtain rfl : b7 = true := hb7.2 (by simp)
  have hB57 : Below W5.heap.size W5 W7 := hB6.trans (hB7.mono hB6.size)
  refine hK _ _ (fun _ => hB57) ?_
  clear hK h7 hb7
  refine K_take (i := 14) (v := .bool true) rfl (by kernel_rfl) (by kernel_rfl) (by kernel_rfl) (by kernel_rfl) (by kernel_rfl) (by kernel_rfl) (fun w' hS => by go_simp) hB57 ?_
  refine K_take (i := 15) (v := .bool true) rfl (by kernel_rfl) (by kernel_rfl) (by kernel_rfl) (by kernel_rfl) (by kernel_rfl) (by kernel_rfl) (fun w' hS => by go_simp) hB57 ?_
  have hBw7 := hBw5.trans (hB57.mono hBw5.size)
  have hk := known_any W7 (hG.below hBw7 hG.size)
  refine K_next (i := 16) (by kernel_rfl) rfl (by kernel_rfl) (fun K hK => ?_)
  go_simp
  refine hk.mono ?_
  rintro e W8 ⟨rfl, hB8⟩
  have hB58 : Below W5.heap.size W5 W8 := hB57.trans (hB8.mono hB57.size)
  refine hK _ _ (fun _ => hB58) ?_
  clear hK hk
  refine K_take (i := 17) (v := .bool true) rfl (by kernel_rfl) (by kernel_rfl) (by kernel_rfl) (by kernel_rfl) (by kernel_rfl) (by kernel_rfl) (fun w' hS => by go_simp) hB58 ?_
  refine K_take (i := 18) (v := .bool true) rfl (by kernel_rfl) (by kernel_rfl) (by kernel_rfl) (by kernel_rfl) (by kernel_rfl) (by kernel_rfl) (fun w' hS => by go_simp) hB58 ?_
  refine K_done (by kernel_rfl) ?_
  go_simp
  go_wp2_with fail
  go_ret
  exact ⟨rfl, hBw5.trans (hB58.mono hBw5.size)⟩
theorem bytes_walk (ctx : Int) (sv : Value) (l : List Ins) (w : World) (hP : Prg w sv l) (hG : Glob w) (hu : ∀ i ∈ l, i.imm < 4294967296) :
    Calls Tryd.prog 3 #[.agg #[.int .i64 ctx, sv]] w fun e w' => e = .returned (.bool true) ∧ Below w.heap.size w w' := by
  by_cases hl : 300 < l.length
  · exact bytes_long ctx sv l w hP hG hl
  · by_cases hE : chkE ctx l = 0
    · obtain ⟨⟨h1, _⟩, _⟩ := chkE_zero hE
      obtain ⟨c, rfl⟩ : ∃ c : Nat, ctx = c := ⟨ctx.toNat, by omega⟩
      exact bytes_ok c sv l w hP hG hu hE
    · exact bytes_bad ctx sv l w hP hG (by omega) hE
end Go.Proofs.YtoalchlokcphkaaDoor
