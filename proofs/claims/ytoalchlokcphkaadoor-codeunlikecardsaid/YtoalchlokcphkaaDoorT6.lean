/- taken. -/
import Derived.Test.YtoalchlokcphkaaDoorT5
import Derived.Test.YtoalchlokcphkaaDoorT3
namespace Go.Proofs.YtoalchlokcphkaaDoor
open Go.RowKit

set_option maxRecDepth 10000 in
set_option maxHeartbeats 2000000 in
theorem taken_any (v : Value) (x2 x3 x4 x5 : UInt8) (r : List UInt8) (w : World) (hv : Bytes w v (67 :: 88 :: x2 :: x3 :: x4 :: x5 :: r)) (hr : r.length = 8 * numL [x4, x5]) :
    Calls Tryd.prog 27 #[v] w fun e w' => ∃ sv, e = .returned (.agg #[.int .i64 (numL [x2, x3] : Nat), sv]) ∧ Prg w' sv (insesL r) ∧ Below w.heap.size w w' := by
  obtain ⟨a, c, b, o, rfl, hc, ha, hin, hb⟩ := hv
  obtain rfl := ha (by simp)
  obtain ⟨W0, hW0⟩ : ∃ W0, W0 = w.alloc (.cells #[.int .i64 0, .slice none 0 0] 24) := ⟨_, rfl⟩
  have hB0 : Below w.heap.size w W0 := by rw [hW0]; exact (Below.refl _ _).alloc (Nat.le_refl _) _
  have hR0 : Has W0 w.heap.size #[.int .i64 0, .slice none 0 0] 24 := by rw [hW0]; exact has_new _ _ _ _ rfl
  have HZ0 : Hid (W0.heap.size = w.heap.size + 1) := by show _ = _; rw [hW0]; simp
  obtain ⟨n, hn⟩ : ∃ n, n = (67 :: 88 :: x2 :: x3 :: x4 :: x5 :: r).length := ⟨_, rfl⟩
  have HL : Hid (n = r.length + 6) := by show _ = _; rw [hn]; simp
  have h6 : 6 ≤ n := by have := HL.out; omega
  rw [← hn] at hc ⊢
  have HT : Hid (∀ (m c' : Nat) (a : Option Addr), m = n - 2 → n - 2 ≤ c' → a = some ⟨b, o + 2, none⟩ → Bytes W0 (.slice a m c') (x2 :: x3 :: x4 :: x5 :: r)) := fun m c' a hm hc' ha =>
    (bytes_tail (k := 2) hin rfl hb m c' a (by rw [hm]; have := HL.out; simp; omega) (by have := HL.out; simp; omega) (fun _ => ha)).below hB0
  clear hin hn ha
  have n2 := numL_two x2 x3
  have n4 := numL_two x4 x5
  have HQ : Hid (r.length = 8 * numL [x4, x5]) := hr
  obtain ⟨ctx, hctx⟩ : ∃ ctx, numL [x2, x3] = ctx := ⟨_, rfl⟩
  rw [hctx] at n2 ⊢
  have HX : Hid (numL [x2, x3] = ctx) := hctx
  clear hctx
  clear hr
  go_enter Tryd.func27, Tryd.ntmps27
  go_wp2_with fail
  rw [← hW0]
  clear hW0
  refine (takers_any _ _ W0 (HT.out _ _ _ rfl (by omega) rfl)).mono ?_
  rintro e W1 ⟨bp, b1, b2, b4, mb, rfl, hT1, hB1⟩
  rw [HZ0.out] at hT1 hB1
  have hR1 := hR0.below hB1 (by omega)
  have hBw1 : Below w.heap.size w W1 := hB0.trans (hB1.mono (by omega))
  clear HT hB1 hR0 hB0 HZ0
  have l2 := hT1.look.2.1
  unfold tkF at l2
  go_wp2_with fail
  refine (tk2 x2 x3 _ hT1).mono ?_
  rintro e W2 ⟨rfl, hT2, hB2, hE2⟩
  have hR2 : Has W2 w.heap.size #[.int .i64 0, .slice none 0 0] 24 := hR1.below hB2 (by omega)
  have hBw2 : Below w.heap.size w W2 := hBw1.trans (hB2.mono (by omega))
  clear hR1 hBw1 hB2 hE2 hT1 l2
  rw [HX.out]
  obtain ⟨W3, hW3⟩ : ∃ W3, W3 = W2.alloc (.cells #[.int .i64 ctx, .slice none 0 0] 24) := ⟨_, rfl⟩
  have hB3 : Below W2.heap.size W2 W3 := by rw [hW3]; exact (Below.refl _ _).alloc (Nat.le_refl _) _
  have hX3 : Has W3 W2.heap.size #[.int .i64 ctx, .slice none 0 0] 24 := by rw [hW3]; exact has_new _ _ _ _ rfl
  have hT3 := hT2.below hB3
  have hR3 := hR2.below hB3 hR2.lt
  have hI3 : TI w W3 W2.heap.size bp b1 b2 b4 mb ctx (.slice none 0 0) [] (x4 :: x5 :: r) := ⟨hT3, hR3, hX3, OwnI.nil _ _, hBw2.trans (hB3.mono hBw2.size), hR2.lt⟩
  have l3 := hT3.look.2.1
  unfold tkF at l3
  rw [hW3] at l3
  go_wp2_with fail
  rw [← hW3]
  clear hW3 l3 hB3 hX3 hT3 hR3
  generalize W2.heap.size = pb at *
  refine (tk2 x4 x5 r hI3.tk).mono ?_
  rintro e W4 ⟨rfl, hT4, hB4, hE4⟩
  have hI4 := hI3.took hE4 hB4 hT4
  clear hI3 hT2 hR2 hBw2 hT4 hB4 hE4
  generalize numL [x4, x5] = q at *
  go_wp2_with fail
  go_loopw [19] (fun iv wr => ∃ (k : Nat) (sv : Value) (l : List Ins) (r' : List UInt8), k ≤ q ∧ iv = .int .i64 k ∧ r'.length = 8 * (q - k) ∧ l.length = k ∧ TI w wr pb bp b1 b2 b4 mb ctx sv l r' ∧ l ++ insesL r' = insesL r) (fun iv _ => q - (intOf iv).toNat)
  case atStart => exact ⟨0, _, [], r, Nat.zero_le _, rfl, HQ.out, rfl, hI4, rfl⟩
  case round =>
    obtain ⟨k, sv, l, r', hk, rfl, hr', hlk, hI, hcat⟩ := hrel
    have HC : Hid (l ++ insesL r' = insesL r) := hcat
    have HR : Hid (r'.length = 8 * (q - k) ∧ l.length = k) := ⟨hr', hlk⟩
    clear hcat hr' hlk hI4
    obtain ⟨sa, sc, hsv⟩ := hI.own.slice
    by_cases hlt : k < q
    · have hlt' : (k : Int) < q := by omega
      obtain ⟨y0, y1, y2, y3, y4, y5, y6, y7, r2, hy⟩ := eight_of (d := r') (by have := HR.out.1; omega)
      subst hy
      have HR2 : Hid (r2.length = 8 * (q - (k + 1))) := by show _ = _; have := HR.out.1; simp at this; omega
      rw [insesL_cons] at HC
      obtain ⟨i, hi⟩ : ∃ i, i = insOf y0 y1 y2 y3 y4 y5 y6 y7 := ⟨_, rfl⟩
      rw [← hi] at HC
      obtain ⟨sn, hsn⟩ : ∃ sn, sn = l.length := ⟨_, rfl⟩
      have HS : Hid (sn = l.length) := hsn
      rw [← hsn] at hsv
      clear hsn
      subst hsv
      go_wp2_with fail
      have hID := hI.below (W' := wr.drew) (Below.refl _ _).drew
      have hS0 : wr.drew.cell? ⟨pb, 1, none⟩ = some (.slice sa sn sc) := hID.box.cell 1
      refine wp_region_K (S := fun X => X.cell? ⟨pb, 1, none⟩ = some (.slice sa sn sc)) (fun i => decide (i < 7)) (by kernel_rfl) ?_
      refine K_take (i := 0) (v := .pointer (some ⟨pb, 1, none⟩)) rfl (by kernel_rfl) (by kernel_rfl) (by kernel_rfl) (by kernel_rfl) (by kernel_rfl) (by kernel_rfl) (fun w' hS => by go_simp) hS0 ?_
      refine K_take (i := 1) (v := .slice sa sn sc) rfl (by kernel_rfl) (by kernel_rfl) (by kernel_rfl) (by kernel_rfl) (by kernel_rfl) (by kernel_rfl) (fun w' hS => by go_simp) hS0 ?_
      refine K_take (i := 2) (v := .map (some mb)) rfl (by kernel_rfl) (by kernel_rfl) (by kernel_rfl) (by kernel_rfl) (by kernel_rfl) (by kernel_rfl) (fun w' hS => by go_simp) hS0 ?_
      refine K_next (i := 3) (by kernel_rfl) rfl (by kernel_rfl) (fun K hK => ?_)
      go_simp
      refine (ins_any y0 y1 y2 y3 y4 y5 y6 y7 r2 hID.tk).mono ?_
      rintro e W5 ⟨rfl, hT5, hB5, hE5⟩
      have hI5 := hID.took hE5 hB5 hT5
      rw [← hi, show i.cells.toArray = #[.int .i64 i.op, .int .i64 i.dst, .int .i64 i.src, .int .i64 i.off, .int .u32 i.imm] from rfl]
      refine hK _ _ (fun _ => hI5.box.cell 1) ?_
      clear hK hT5 hB5 hE5 hID hS0 hi hI
      refine K_next (i := 4) (by kernel_rfl) rfl (by kernel_rfl) (fun K hK => ?_)
      go_simp
      obtain ⟨W6, hW6⟩ : ∃ W6, W6 = W5.alloc (.cells #[.int .i64 i.op, .int .i64 i.dst, .int .i64 i.src, .int .i64 i.off, .int .u32 i.imm] 43) := ⟨_, rfl⟩
      have hH6 : Has W6 W5.heap.size i.cells.toArray 43 := by rw [hW6]; exact has_new _ _ _ _ rfl
      have hI6 := hI5.below (W' := W6) (by rw [hW6]; exact (Below.refl _ _).alloc (Nat.le_refl _) _)
      rw [← hW6]
      clear hW6
      refine hK _ _ (fun _ => hI6.box.cell 1) ?_
      clear hK hI5
      refine K_next (i := 5) (by kernel_rfl) rfl (by kernel_rfl) (fun K hK => ?_)
      refine wp_append_ins _ _ rfl (w.heap.size + 1) (.slice sa sn sc) l i W5.heap.size rfl rfl hI6.own hH6 (by have := HR.out.2; omega) (by have := hI6.res.lt; omega) ?_
      intro v7 W7 ho7 hg7
      obtain ⟨hX7, hI8⟩ := hI6.app hg7 ho7
      obtain ⟨a7, c7, hv7⟩ := ho7.slice
      obtain ⟨m7, hm7⟩ : ∃ m7, m7 = (l ++ [i]).length := ⟨_, rfl⟩
      rw [← hm7] at hv7
      clear hm7
      subst hv7
      refine hK _ _ (fun _ => hX7.cell 1) ?_
      have c7 := hX7.cell 1
      have f7 := hX7.free 1
      clear hK hI6 ho7 hg7 hX7 hH6
      refine K_next (i := 6) (by kernel_rfl) rfl (by kernel_rfl) (fun K hK => ?_)
      go_simp
      refine hK _ _ (fun _ => c7) ?_
      clear hK
      refine K_next (i := 7) (by kernel_rfl) rfl (by kernel_rfl) (fun K hK => ?_)
      go_simp
      refine hK _ _ (fun h => absurd h (by decide)) (K_done (by kernel_rfl) ?_)
      clear hK c7 f7
      refine named (p := fun X => Exit.inBlock 1 _ _ _ X) ?_
      intro W8 hW8
      rw [← hW8] at hI8
      clear hW8
      go_wp2_with fail
      go_roundw
      case rel =>
        refine ⟨k + 1, _, l ++ [i], r2, by omega, by go_num, HR2.out, by rw [List.length_append, HR.out.2]; rfl, hI8, ?_⟩
        rw [← HC.out]; simp
      case measure => simp [intOf]; omega
    · obtain rfl : k = q := by omega
      have hr0 : r' = [] := List.eq_nil_of_length_eq_zero (by have := HR.out.1; omega)
      subst hr0
      have HP : Hid (insesL r = l) := by show _ = _; rw [← HC.out]; simp [insesL]
      have hX := hI.box
      have hR := hI.res
      have hgt := hI.gt
      have hBw := hI.bel
      obtain ⟨sn, hsn⟩ : ∃ sn, sn = l.length := ⟨_, rfl⟩
      rw [← hsn] at hsv
      clear hsn HC
      subst hsv
      have x0 := hX.cell 0
      have x1 := hX.cell 1
      have r0 := hR.cell 0
      have r1 := hR.cell 1
      have f0 := hR.free 0
      have f1 := hR.free 1
      clear hlt hk
      go_wp2_with fail
      have hE := (Ex.set w.heap.size wr 0 (.int .i64 ctx)).trans (Ex.set w.heap.size (wr.setCell ⟨w.heap.size, 0, none⟩ (.int .i64 ctx)) 1 (.slice sa sn sc))
      have hR2 := (hR.set 0 (.int .i64 ctx)).set 1 (.slice sa sn sc)
      refine bodyPost_ret (results_cell_row rfl _ _ w.heap.size 24 _ (0, 0) _ rfl hR2 Tryd.underlying24 rfl (by kernel_rfl)) rfl ?_
      have ho := hI.own.fr (Fr.of_ex hE) (fun g hg e => by have := (hI.own.blk hg).1; omega)
      refine ⟨_, rfl, ?_, Below.ex hBw hBw.size hE (Nat.le_refl _)⟩
      rw [HP.out]
      exact ho.prg (by have := hE.size; have := hR.lt; omega)
end Go.Proofs.YtoalchlokcphkaaDoor
