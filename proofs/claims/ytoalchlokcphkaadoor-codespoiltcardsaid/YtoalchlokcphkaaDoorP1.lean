/- CodeSpoilt: the law's walk. -/
import Derived.Test.YtoalchlokcphkaaDoorB3
import Derived.Test.YtoalchlokcphkaaDoorG3
namespace Go.Proofs.YtoalchlokcphkaaDoor
open Go.RowKit

theorem Own.set {w : World} {g c : Nat} {d : List UInt8} (h : Own w (.slice (some ⟨g, 0, none⟩) d.length c) d) (j : Nat) (y : UInt8) : Own (w.setCell ⟨g, j, none⟩ (bc y)) (.slice (some ⟨g, 0, none⟩) (d.set j y).length c) (d.set j y) := by
  rcases h.2 with ⟨h0, _⟩ | ⟨g', cap, cur, he, hb, hg, hn, hc, hs, ht⟩
  · cases h0
  · simp only [Value.slice.injEq, Option.some.injEq, Addr.mk.injEq] at he
    obtain ⟨⟨rfl, _⟩, _, rfl⟩ := he
    refine ⟨by simp, .inr ⟨g, c, cur.setIfInBounds j (bc y), rfl, hb, heap_setCell_same w g j cur 5 _ hg, by simpa using hn, hc, by simpa using hs, ?_⟩⟩
    rw [Array.toList_setIfInBounds, List.length_set, List.take_set, ht, List.map_set]
theorem Own.some {w : World} {a : Option Addr} {n c : Nat} {d : List UInt8} (h : Own w (.slice a n c) d) (hd : 0 < d.length) : ∃ g, a = .some ⟨g, 0, none⟩ ∧ n = d.length := by
  rcases h.2 with ⟨h0, h1⟩ | ⟨g', cap, cur, he, _⟩
  · omega
  · simp only [Value.slice.injEq] at he
    exact ⟨g', he.1, he.2.1⟩
theorem Own.row {w : World} {g n c : Nat} {d : List UInt8} (h : Own w (.slice (.some ⟨g, 0, none⟩) n c) d) : ∃ cur, Has w g cur 5 := by
  rcases h.2 with ⟨h0, h1⟩ | ⟨g', cap, cur, he, hb, hg, _⟩
  · cases h0
  · simp only [Value.slice.injEq, Option.some.injEq, Addr.mk.injEq] at he
    obtain ⟨⟨rfl, _⟩, _, rfl⟩ := he
    exact ⟨cur, hg⟩
theorem Own.cut {w : World} {g c : Nat} {d : List UInt8} (h : Own w (.slice (.some ⟨g, 0, none⟩) d.length c) d) (k : Nat) (hk : k ≤ d.length) : Own w (.slice (.some ⟨g, 0, none⟩) k c) (d.take k) := by
  rcases h.2 with ⟨h0, h1⟩ | ⟨g', cap, cur, he, hb, hg, hn, hc, hs, ht⟩
  · cases h0
  · simp only [Value.slice.injEq, Option.some.injEq, Addr.mk.injEq] at he
    obtain ⟨⟨rfl, _⟩, _, rfl⟩ := he
    have e : (d.take k).length = k := by rw [List.length_take]; omega
    refine ⟨by simp, .inr ⟨g, c, cur, by rw [e], hb, hg, by omega, hc, hs, ?_⟩⟩
    rw [e, List.map_take, ← ht, List.take_take]
    congr 1; omega
/-- Bytes of one's own are spoilt, or cut. -/
theorem New.set {w W : World} {g c : Nat} {d : List UInt8} (h : New w W (.slice (some ⟨g, 0, none⟩) d.length c) d) (j : Nat) (y : UInt8) : New w (W.setCell ⟨g, j, none⟩ (bc y)) (.slice (some ⟨g, 0, none⟩) (d.set j y).length c) (d.set j y) :=
  ⟨h.own.set j y, fun k hk => h.new k hk, Below.ex h.bel h.bel.size (Ex.set g W j _) (h.new g rfl)⟩
theorem New.cut {w W : World} {g c : Nat} {d : List UInt8} (h : New w W (.slice (some ⟨g, 0, none⟩) d.length c) d) (k : Nat) (hk : k ≤ d.length) : New w W (.slice (some ⟨g, 0, none⟩) k c) (d.take k) :=
  ⟨h.own.cut k hk, fun i hi => h.new i hi, h.bel⟩
set_option maxRecDepth 10000 in
set_option maxHeartbeats 2000000 in
theorem spoilt_long (ctx : Int) (sv : Value) (l : List Ins) (at_ cut : Int) (xb more : UInt8) (w : World) (hP : Prg w sv l) (hG : Glob w) (hl : 40 < l.length) :
    Calls Tryd.prog 9 #[.agg #[.int .i64 ctx, sv], .int .i64 at_, .agg #[.int .u8 (bv xb), .int .i64 cut, .int .u8 (bv more)]] w fun e w' => e = .returned (.bool true) ∧ Below w.heap.size w w' := by
  obtain ⟨sa, sc, rfl⟩ := hP.slice
  have hB0 : Below w.heap.size w ((w.alloc (.cells #[.int .i64 ctx, .slice sa l.length sc] 24)).alloc (.cells #[.int .u8 (bv xb), .int .i64 cut, .int .u8 (bv more)] 56)) := ((Below.refl _ _).alloc (Nat.le_refl _) _).alloc (by simp) _
  have hk := known_any _ (hG.below hB0 hG.size)
  have hl' : (40 : Int) < l.length := by omega
  generalize l.length = n at *
  clear hP
  go_enter Tryd.func9, Tryd.ntmps9
  go_wp2_with fail
  refine hk.mono ?_
  rintro e W1 ⟨rfl, hB1⟩
  go_wp2_with fail
  go_ret
  exact ⟨rfl, hB0.trans (hB1.mono hB0.size)⟩
set_option maxRecDepth 10000 in
set_option maxHeartbeats 2000000 in
theorem spoilt_bad (ctx : Int) (sv : Value) (l : List Ins) (at_ cut : Int) (xb more : UInt8) (w : World) (hP : Prg w sv l) (hG : Glob w) (hl : l.length ≤ 40) (hE : chkE ctx l ≠ 0) :
    Calls Tryd.prog 9 #[.agg #[.int .i64 ctx, sv], .int .i64 at_, .agg #[.int .u8 (bv xb), .int .i64 cut, .int .u8 (bv more)]] w fun e w' => e = .returned (.bool true) ∧ Below w.heap.size w w' := by
  have hck := fun W (hB : Below w.heap.size w W) => rcheck_any ctx sv l W (hP.below hB) (by omega)
  obtain ⟨sa, sc, hsv⟩ := hP.slice
  obtain ⟨n, hn⟩ : ∃ n, n = l.length := ⟨_, rfl⟩
  rw [← hn] at hsv hl
  subst hsv
  have hl' : ¬ (40 : Int) < n := by omega
  generalize chkE ctx l = E at *
  have hE' : (E != 0) = true := by simpa using hE
  obtain ⟨W0, hW0⟩ : ∃ W0, W0 = (w.alloc (.cells #[.int .i64 ctx, .slice sa n sc] 24)).alloc (.cells #[.int .u8 (bv xb), .int .i64 cut, .int .u8 (bv more)] 56) := ⟨_, rfl⟩
  have hB0 : Below w.heap.size w W0 := by rw [hW0]; exact ((Below.refl _ _).alloc (Nat.le_refl _) _).alloc (by simp) _
  clear hP hn
  go_enter Tryd.func9, Tryd.ntmps9
  go_wp2_with fail
  rw [← hW0]
  clear hW0
  refine (hck W0 hB0).mono ?_
  rintro e W1 ⟨rfl, hB1⟩
  have hBw1 := hB0.trans (hB1.mono hB0.size)
  have hk := known_any _ (hG.below hBw1 hG.size)
  go_wp2_with fail
  refine hk.mono ?_
  rintro e W2 ⟨rfl, hB2⟩
  go_wp2_with fail
  go_ret
  exact ⟨rfl, hBw1.trans (hB2.mono hBw1.size)⟩
set_option maxRecDepth 10000 in
set_option maxHeartbeats 2000000 in
theorem spoilt_pn (ctx : Nat) (sv : Value) (l : List Ins) (at_ cut : Int) (xb more : UInt8) (w : World) (hP : Prg w sv l) (hG : Glob w) (hu : ∀ i ∈ l, i.imm < 4294967296) (hl : l.length ≤ 40) (hE : chkE ctx l = 0) (hat : 0 ≤ at_) (hcut : cut < 0) :
    Calls Tryd.prog 9 #[.agg #[.int .i64 ctx, sv], .int .i64 at_, .agg #[.int .u8 (bv xb), .int .i64 cut, .int .u8 (bv more)]] w fun e w' => e = .returned (.bool true) ∧ Below w.heap.size w w' := by
  obtain ⟨⟨_, hcx⟩, _, hmay⟩ := chkE_zero hE
  have hck := fun W (hB : Below w.heap.size w W) => rcheck_any ctx sv l W (hP.below hB) (by omega)
  have hby := fun W (hB : Below w.heap.size w W) => rbytes_any ctx sv l W (hP.below hB) (by omega) (by omega) hmay hu
  have hdl : (progL ctx l).length = 6 + 8 * l.length := by unfold progL; rw [List.length_append, bodyL_len]; simp [headL, low2L]; omega
  simp only [hE] at hck
  obtain ⟨sa, sc, hsv⟩ := hP.slice
  obtain ⟨n, hn⟩ : ∃ n, n = l.length := ⟨_, rfl⟩
  rw [← hn] at hsv hl hdl
  subst hsv
  generalize progL ctx l = D at *
  have hl' : ¬ (40 : Int) < n := by omega
  obtain ⟨N, hN0⟩ : ∃ N, N = 6 + 8 * n := ⟨_, rfl⟩
  rw [← hN0] at hdl
  have HD : Hid (D.length = N) := hdl
  have hN1 : 6 ≤ N := by omega
  have hN2 : N ≤ 400 := by omega
  obtain ⟨W0, hW0⟩ : ∃ W0, W0 = (w.alloc (.cells #[.int .i64 ctx, .slice sa n sc] 24)).alloc (.cells #[.int .u8 (bv xb), .int .i64 cut, .int .u8 (bv more)] 56) := ⟨_, rfl⟩
  have hB0 : Below w.heap.size w W0 := by rw [hW0]; exact ((Below.refl _ _).alloc (Nat.le_refl _) _).alloc (by simp) _
  have hX0 : Has W0 w.heap.size #[.int .i64 ctx, .slice sa n sc] 24 := by rw [hW0]; exact has_old (has_new _ _ _ _ rfl)
  have hY0 : Has W0 (w.heap.size + 1) #[.int .u8 (bv xb), .int .i64 cut, .int .u8 (bv more)] 56 := by rw [hW0]; exact has_new _ _ _ _ (by simp)
  clear hP hn hE hmay hu hdl hN0 hcx hl
  go_enter Tryd.func9, Tryd.ntmps9
  go_wp2_with fail
  rw [← hW0]
  clear hW0
  refine (hck W0 hB0).mono ?_
  rintro e W1 ⟨rfl, hB1⟩
  have hBw1 := hB0.trans (hB1.mono hB0.size)
  have hX1 := hX0.below hB1 hX0.lt
  have hY1 := hY0.below hB1 hY0.lt
  have x0 := hX1.cell 0
  have x1 := hX1.cell 1
  clear hck hX0 hY0 hB0 hB1
  go_wp2_with fail
  refine (hby W1 hBw1).mono ?_
  rintro e W2 ⟨v, rfl, hN2'⟩
  have hNw : New w W2 v D := ⟨hN2'.own, fun k hk => Nat.le_trans hBw1.size (hN2'.new k hk), hBw1.trans (hN2'.bel.mono hBw1.size)⟩
  have hY := hY1.below hN2'.bel hY1.lt
  clear x0 x1 hX1 hY1 hby hN2' hBw1
  obtain ⟨a2, c2, m2, hv2⟩ := hNw.own.sl
  subst hv2
  obtain ⟨g, rfl, hm2⟩ := hNw.own.some (by have := HD.out; omega)
  rw [HD.out] at hm2
  subst hm2
  obtain ⟨A, rfl⟩ : ∃ A : Nat, at_ = A := ⟨at_.toNat, by omega⟩
  obtain ⟨m, hm⟩ : ∃ m, m = A % m2 := ⟨_, rfl⟩
  have hmlt : m < m2 := by rw [hm]; exact Nat.mod_lt _ (by omega)
  have HA : Hid ((A : Int).tmod (m2 : Int) = (m : Int)) := by show _ = _; rw [Int.tmod_eq_emod_of_nonneg (by omega), hm]; omega
  clear hm
  obtain ⟨cur, hcur⟩ := hNw.own.row
  have hgne := has_ne hcur hY (by decide)
  have hb2 := hNw.own.bytes (by have := hY.lt; omega)
  obtain ⟨z, hz⟩ : ∃ z, W2.cell? ⟨g, m, none⟩ = some (.int .u8 (bv z)) := by
    obtain ⟨a', c', db, o', e1, _, e3, e4, _⟩ := hb2
    simp only [Value.slice.injEq] at e1
    obtain ⟨e1, _, _⟩ := e1
    have := e3 (by intro e; have := HD.out; rw [e] at this; simp at this; omega)
    rw [← e1] at this
    simp only [Option.some.injEq, Addr.mk.injEq, and_true] at this
    obtain ⟨rfl, rfl⟩ := this
    have := e4 m (by have := HD.out; omega)
    rw [Nat.zero_add] at this
    exact ⟨_, this⟩
  have hfz := hcur.free m
  clear hb2
  go_wp2_with fail
  have y0 := hY.cell 0
  have hS0 : W2.drew.cell? ⟨w.heap.size + 1, 0, none⟩ = some (.int .u8 (bv xb)) := y0
  refine wp_region_K (S := fun X => X.cell? ⟨w.heap.size + 1, 0, none⟩ = some (.int .u8 (bv xb))) (fun i => decide (i < 8)) (by kernel_rfl) ?_
  refine K_take (i := 0) (v := .slice (some ⟨g, 0, none⟩) m2 c2) rfl (by kernel_rfl) (by kernel_rfl) (by kernel_rfl) (by kernel_rfl) (by kernel_rfl) (by kernel_rfl) (fun w' hS => by go_simp) hS0 ?_
  refine K_take (i := 1) (v := .int .i64 (A : Int)) rfl (by kernel_rfl) (by kernel_rfl) (by kernel_rfl) (by kernel_rfl) (by kernel_rfl) (by kernel_rfl) (fun w' hS => by go_simp) hS0 ?_
  refine K_take (i := 2) (v := .slice (some ⟨g, 0, none⟩) m2 c2) rfl (by kernel_rfl) (by kernel_rfl) (by kernel_rfl) (by kernel_rfl) (by kernel_rfl) (by kernel_rfl) (fun w' hS => by go_simp) hS0 ?_
  refine K_take (i := 3) (v := .int .i64 (m2 : Int)) rfl (by kernel_rfl) (by kernel_rfl) (by kernel_rfl) (by kernel_rfl) (by kernel_rfl) (by kernel_rfl) (fun w' hS => by go_simp) hS0 ?_
  refine K_take (i := 4) (v := .int .i64 (m : Int)) rfl (by kernel_rfl) (by kernel_rfl) (by kernel_rfl) (by kernel_rfl) (by kernel_rfl) (by kernel_rfl) (fun w' hS => by have q := HA.out; go_simp; omega) hS0 ?_
  refine K_take (i := 5) (v := .pointer (some ⟨w.heap.size + 1, 0, none⟩)) rfl (by kernel_rfl) (by kernel_rfl) (by kernel_rfl) (by kernel_rfl) (by kernel_rfl) (by kernel_rfl) (fun w' hS => by go_simp) hS0 ?_
  refine K_take (i := 6) (v := .int .u8 (bv xb)) rfl (by kernel_rfl) (by kernel_rfl) (by kernel_rfl) (by kernel_rfl) (by kernel_rfl) (by kernel_rfl) (fun w' hS => by go_simp) hS0 ?_
  refine K_take (i := 7) (v := .pointer (some ⟨g, m, none⟩)) rfl (by kernel_rfl) (by kernel_rfl) (by kernel_rfl) (by kernel_rfl) (by kernel_rfl) (by kernel_rfl) (fun w' hS => by go_simp) hS0 ?_
  refine K_next (i := 8) (by kernel_rfl) rfl (by kernel_rfl) (fun K hK => ?_)
  go_simp
  refine hK _ _ (fun h => absurd h (by decide)) (K_done (by kernel_rfl) ?_)
  clear hK hS0 y0
  have hN3 : New w (W2.setCell ⟨g, m, none⟩ (bc xb)) (.slice (some ⟨g, 0, none⟩) m2 c2) (D.set m xb) := by
    have h := hNw
    rw [← HD.out] at h
    have h' := h.set m xb
    rw [List.length_set, HD.out] at h'
    exact h'
  have hY3 := hY.ex (Ex.set g W2 m (bc xb)) (Ne.symm hgne)
  have HD3 : Hid ((D.set m xb).length = m2) := by show _ = _; rw [List.length_set]; exact HD.out
  generalize D.set m xb = D3 at *
  refine named (p := fun X => Exit.then _ _ _ _ X) ?_
  intro W3 hW3
  replace hN3 := hN3.more (Below.refl _ _).drew
  replace hY3 := hY3.below (Below.refl _ _).drew hY3.lt
  rw [show (W2.setCell ⟨g, m, none⟩ (bc xb)).drew = W3 from hW3.symm] at hN3 hY3
  clear hW3 hz hfz hcur hgne hNw hY HA
  have y0 := hY3.cell 0
  have y1 := hY3.cell 1
  have y2 := hY3.cell 2
  have hN4 := hN3
  have HL4 : Hid (D3.length ≤ 1000) := by show _ ≤ _; have := HD3.out; omega
  clear hN3
  have hm1 := bv_nonneg more
  have hm2' := bv_lt more
  go_wp2_with fail
  clear y0 y1 y2
  go_loopw [7, 8] (fun v iv wr => ∃ (i : Nat) (D' : List UInt8), i ≤ 9 ∧ iv = .int .u8 (i : Nat) ∧ New w wr v D' ∧ Has wr (w.heap.size + 1) #[.int .u8 (bv xb), .int .i64 cut, .int .u8 (bv more)] 56 ∧ D'.length ≤ 1000 + i) (fun _ iv _ => 9 - (intOf iv).toNat)
  case atStart => exact ⟨0, _, by omega, rfl, hN4, hY3, by have := HL4.out; omega⟩
  case round =>
    clear hN4 hY3 HL4
    obtain ⟨i, D', hi, rfl, hN5, hY5, hDl⟩ := hrel
    obtain ⟨a5, c5, n5, hv5⟩ := hN5.own.sl
    subst hv5
    have y0 := hY5.cell 0
    have y2 := hY5.cell 2
    have hz5 := hY5.lt
    by_cases hlt : (i : Int) < bv more % 9
    · have hX := hN5.more ((Below.refl wr.heap.size wr).alloc (Nat.le_refl _) (.cells #[.int .u8 (bv xb)] 5))
      have hY6 := hY5.below ((Below.refl wr.heap.size wr).alloc (Nat.le_refl _) (.cells #[.int .u8 (bv xb)] 5)) hY5.lt
      have hby := byte_one wr xb
      have HDl : Hid (D'.length ≤ 1000 + i) := hDl
      have HI : Hid ((i : Int) < bv more % 9) := hlt
      clear hDl hN5 hY5
      go_wp2_with (refine wpList_append_bytes _ rfl _ _ 27 27 rfl info5 Tryd.underlying27 Tryd.underlying27 _ _ D' [xb] rfl rfl hX.own hby (by have := HDl.out; simp; omega) ?_; intro v' w2 hown2 hgr hloc hnil; clear hnil; have hN7 := hX.step hown2 hgr hloc; have hY7 := hX.has hgr hY6 (by decide); obtain ⟨a', c', m', hv'⟩ := hown2.sl; subst hv'; clear hown2 hgr hloc hX hby hY6)
      go_roundw
      case rel => exact ⟨i + 1, _, by have := HI.out; omega, by go_num, hN7, hY7, by have := HDl.out; simp; omega⟩
      case measure => simp [intOf]; have := HI.out; omega
    · have hrd := reads_walk _ D' wr (hN5.own.bytes (by omega)) (hG.below hN5.bel hG.size)
      have hlt' : bv more % 9 ≤ (i : Int) := by omega
      go_wp2_with fail
      refine hrd.mono ?_
      rintro e W9 ⟨rfl, hB9⟩
      go_wp2_with fail
      go_ret
      exact ⟨rfl, hN5.bel.trans (hB9.mono hN5.bel.size)⟩
set_option maxRecDepth 10000 in
set_option maxHeartbeats 2000000 in
theorem spoilt_pg (ctx : Nat) (sv : Value) (l : List Ins) (at_ cut : Int) (xb more : UInt8) (w : World) (hP : Prg w sv l) (hG : Glob w) (hu : ∀ i ∈ l, i.imm < 4294967296) (hl : l.length ≤ 40) (hE : chkE ctx l = 0) (hat : 0 ≤ at_) (hcut : (6 + 8 * l.length : Nat) ≤ cut) :
    Calls Tryd.prog 9 #[.agg #[.int .i64 ctx, sv], .int .i64 at_, .agg #[.int .u8 (bv xb), .int .i64 cut, .int .u8 (bv more)]] w fun e w' => e = .returned (.bool true) ∧ Below w.heap.size w w' := by
  obtain ⟨⟨_, hcx⟩, _, hmay⟩ := chkE_zero hE
  have hck := fun W (hB : Below w.heap.size w W) => rcheck_any ctx sv l W (hP.below hB) (by omega)
  have hby := fun W (hB : Below w.heap.size w W) => rbytes_any ctx sv l W (hP.below hB) (by omega) (by omega) hmay hu
  have hdl : (progL ctx l).length = 6 + 8 * l.length := by unfold progL; rw [List.length_append, bodyL_len]; simp [headL, low2L]; omega
  simp only [hE] at hck
  obtain ⟨sa, sc, hsv⟩ := hP.slice
  obtain ⟨n, hn⟩ : ∃ n, n = l.length := ⟨_, rfl⟩
  rw [← hn] at hsv hl hcut hdl
  subst hsv
  generalize progL ctx l = D at *
  have hl' : ¬ (40 : Int) < n := by omega
  obtain ⟨N, hN0⟩ : ∃ N, N = 6 + 8 * n := ⟨_, rfl⟩
  rw [← hN0] at hcut hdl
  have HD : Hid (D.length = N) := hdl
  have hN1 : 6 ≤ N := by omega
  have hN2 : N ≤ 400 := by omega
  obtain ⟨W0, hW0⟩ : ∃ W0, W0 = (w.alloc (.cells #[.int .i64 ctx, .slice sa n sc] 24)).alloc (.cells #[.int .u8 (bv xb), .int .i64 cut, .int .u8 (bv more)] 56) := ⟨_, rfl⟩
  have hB0 : Below w.heap.size w W0 := by rw [hW0]; exact ((Below.refl _ _).alloc (Nat.le_refl _) _).alloc (by simp) _
  have hX0 : Has W0 w.heap.size #[.int .i64 ctx, .slice sa n sc] 24 := by rw [hW0]; exact has_old (has_new _ _ _ _ rfl)
  have hY0 : Has W0 (w.heap.size + 1) #[.int .u8 (bv xb), .int .i64 cut, .int .u8 (bv more)] 56 := by rw [hW0]; exact has_new _ _ _ _ (by simp)
  clear hP hn hE hmay hu hdl hN0 hcx hl
  go_enter Tryd.func9, Tryd.ntmps9
  go_wp2_with fail
  rw [← hW0]
  clear hW0
  refine (hck W0 hB0).mono ?_
  rintro e W1 ⟨rfl, hB1⟩
  have hBw1 := hB0.trans (hB1.mono hB0.size)
  have hX1 := hX0.below hB1 hX0.lt
  have hY1 := hY0.below hB1 hY0.lt
  have x0 := hX1.cell 0
  have x1 := hX1.cell 1
  clear hck hX0 hY0 hB0 hB1
  go_wp2_with fail
  refine (hby W1 hBw1).mono ?_
  rintro e W2 ⟨v, rfl, hN2'⟩
  have hNw : New w W2 v D := ⟨hN2'.own, fun k hk => Nat.le_trans hBw1.size (hN2'.new k hk), hBw1.trans (hN2'.bel.mono hBw1.size)⟩
  have hY := hY1.below hN2'.bel hY1.lt
  clear x0 x1 hX1 hY1 hby hN2' hBw1
  obtain ⟨a2, c2, m2, hv2⟩ := hNw.own.sl
  subst hv2
  obtain ⟨g, rfl, hm2⟩ := hNw.own.some (by have := HD.out; omega)
  rw [HD.out] at hm2
  subst hm2
  obtain ⟨A, rfl⟩ : ∃ A : Nat, at_ = A := ⟨at_.toNat, by omega⟩
  obtain ⟨m, hm⟩ : ∃ m, m = A % m2 := ⟨_, rfl⟩
  have hmlt : m < m2 := by rw [hm]; exact Nat.mod_lt _ (by omega)
  have HA : Hid ((A : Int).tmod (m2 : Int) = (m : Int)) := by show _ = _; rw [Int.tmod_eq_emod_of_nonneg (by omega), hm]; omega
  clear hm
  obtain ⟨cur, hcur⟩ := hNw.own.row
  have hgne := has_ne hcur hY (by decide)
  have hb2 := hNw.own.bytes (by have := hY.lt; omega)
  obtain ⟨z, hz⟩ : ∃ z, W2.cell? ⟨g, m, none⟩ = some (.int .u8 (bv z)) := by
    obtain ⟨a', c', db, o', e1, _, e3, e4, _⟩ := hb2
    simp only [Value.slice.injEq] at e1
    obtain ⟨e1, _, _⟩ := e1
    have := e3 (by intro e; have := HD.out; rw [e] at this; simp at this; omega)
    rw [← e1] at this
    simp only [Option.some.injEq, Addr.mk.injEq, and_true] at this
    obtain ⟨rfl, rfl⟩ := this
    have := e4 m (by have := HD.out; omega)
    rw [Nat.zero_add] at this
    exact ⟨_, this⟩
  have hfz := hcur.free m
  clear hb2
  go_wp2_with fail
  have y0 := hY.cell 0
  have hS0 : W2.drew.cell? ⟨w.heap.size + 1, 0, none⟩ = some (.int .u8 (bv xb)) := y0
  refine wp_region_K (S := fun X => X.cell? ⟨w.heap.size + 1, 0, none⟩ = some (.int .u8 (bv xb))) (fun i => decide (i < 8)) (by kernel_rfl) ?_
  refine K_take (i := 0) (v := .slice (some ⟨g, 0, none⟩) m2 c2) rfl (by kernel_rfl) (by kernel_rfl) (by kernel_rfl) (by kernel_rfl) (by kernel_rfl) (by kernel_rfl) (fun w' hS => by go_simp) hS0 ?_
  refine K_take (i := 1) (v := .int .i64 (A : Int)) rfl (by kernel_rfl) (by kernel_rfl) (by kernel_rfl) (by kernel_rfl) (by kernel_rfl) (by kernel_rfl) (fun w' hS => by go_simp) hS0 ?_
  refine K_take (i := 2) (v := .slice (some ⟨g, 0, none⟩) m2 c2) rfl (by kernel_rfl) (by kernel_rfl) (by kernel_rfl) (by kernel_rfl) (by kernel_rfl) (by kernel_rfl) (fun w' hS => by go_simp) hS0 ?_
  refine K_take (i := 3) (v := .int .i64 (m2 : Int)) rfl (by kernel_rfl) (by kernel_rfl) (by kernel_rfl) (by kernel_rfl) (by kernel_rfl) (by kernel_rfl) (fun w' hS => by go_simp) hS0 ?_
  refine K_take (i := 4) (v := .int .i64 (m : Int)) rfl (by kernel_rfl) (by kernel_rfl) (by kernel_rfl) (by kernel_rfl) (by kernel_rfl) (by kernel_rfl) (fun w' hS => by have q := HA.out; go_simp; omega) hS0 ?_
  refine K_take (i := 5) (v := .pointer (some ⟨w.heap.size + 1, 0, none⟩)) rfl (by kernel_rfl) (by kernel_rfl) (by kernel_rfl) (by kernel_rfl) (by kernel_rfl) (by kernel_rfl) (fun w' hS => by go_simp) hS0 ?_
  refine K_take (i := 6) (v := .int .u8 (bv xb)) rfl (by kernel_rfl) (by kernel_rfl) (by kernel_rfl) (by kernel_rfl) (by kernel_rfl) (by kernel_rfl) (fun w' hS => by go_simp) hS0 ?_
  refine K_take (i := 7) (v := .pointer (some ⟨g, m, none⟩)) rfl (by kernel_rfl) (by kernel_rfl) (by kernel_rfl) (by kernel_rfl) (by kernel_rfl) (by kernel_rfl) (fun w' hS => by go_simp) hS0 ?_
  refine K_next (i := 8) (by kernel_rfl) rfl (by kernel_rfl) (fun K hK => ?_)
  go_simp
  refine hK _ _ (fun h => absurd h (by decide)) (K_done (by kernel_rfl) ?_)
  clear hK hS0 y0
  have hN3 : New w (W2.setCell ⟨g, m, none⟩ (bc xb)) (.slice (some ⟨g, 0, none⟩) m2 c2) (D.set m xb) := by
    have h := hNw
    rw [← HD.out] at h
    have h' := h.set m xb
    rw [List.length_set, HD.out] at h'
    exact h'
  have hY3 := hY.ex (Ex.set g W2 m (bc xb)) (Ne.symm hgne)
  have HD3 : Hid ((D.set m xb).length = m2) := by show _ = _; rw [List.length_set]; exact HD.out
  generalize D.set m xb = D3 at *
  refine named (p := fun X => Exit.then _ _ _ _ X) ?_
  intro W3 hW3
  replace hN3 := hN3.more (Below.refl _ _).drew
  replace hY3 := hY3.below (Below.refl _ _).drew hY3.lt
  rw [show (W2.setCell ⟨g, m, none⟩ (bc xb)).drew = W3 from hW3.symm] at hN3 hY3
  clear hW3 hz hfz hcur hgne hNw hY HA
  have y0 := hY3.cell 0
  have y1 := hY3.cell 1
  have y2 := hY3.cell 2
  have hN4 := hN3
  have HL4 : Hid (D3.length ≤ 1000) := by show _ ≤ _; have := HD3.out; omega
  clear hN3
  have hm1 := bv_nonneg more
  have hm2' := bv_lt more
  go_wp2_with fail
  clear y0 y1 y2
  go_loopw [7, 8] (fun v iv wr => ∃ (i : Nat) (D' : List UInt8), i ≤ 9 ∧ iv = .int .u8 (i : Nat) ∧ New w wr v D' ∧ Has wr (w.heap.size + 1) #[.int .u8 (bv xb), .int .i64 cut, .int .u8 (bv more)] 56 ∧ D'.length ≤ 1000 + i) (fun _ iv _ => 9 - (intOf iv).toNat)
  case atStart => exact ⟨0, _, by omega, rfl, hN4, hY3, by have := HL4.out; omega⟩
  case round =>
    clear hN4 hY3 HL4
    obtain ⟨i, D', hi, rfl, hN5, hY5, hDl⟩ := hrel
    obtain ⟨a5, c5, n5, hv5⟩ := hN5.own.sl
    subst hv5
    have y0 := hY5.cell 0
    have y2 := hY5.cell 2
    have hz5 := hY5.lt
    by_cases hlt : (i : Int) < bv more % 9
    · have hX := hN5.more ((Below.refl wr.heap.size wr).alloc (Nat.le_refl _) (.cells #[.int .u8 (bv xb)] 5))
      have hY6 := hY5.below ((Below.refl wr.heap.size wr).alloc (Nat.le_refl _) (.cells #[.int .u8 (bv xb)] 5)) hY5.lt
      have hby := byte_one wr xb
      have HDl : Hid (D'.length ≤ 1000 + i) := hDl
      have HI : Hid ((i : Int) < bv more % 9) := hlt
      clear hDl hN5 hY5
      go_wp2_with (refine wpList_append_bytes _ rfl _ _ 27 27 rfl info5 Tryd.underlying27 Tryd.underlying27 _ _ D' [xb] rfl rfl hX.own hby (by have := HDl.out; simp; omega) ?_; intro v' w2 hown2 hgr hloc hnil; clear hnil; have hN7 := hX.step hown2 hgr hloc; have hY7 := hX.has hgr hY6 (by decide); obtain ⟨a', c', m', hv'⟩ := hown2.sl; subst hv'; clear hown2 hgr hloc hX hby hY6)
      go_roundw
      case rel => exact ⟨i + 1, _, by have := HI.out; omega, by go_num, hN7, hY7, by have := HDl.out; simp; omega⟩
      case measure => simp [intOf]; have := HI.out; omega
    · have hrd := reads_walk _ D' wr (hN5.own.bytes (by omega)) (hG.below hN5.bel hG.size)
      have hlt' : bv more % 9 ≤ (i : Int) := by omega
      go_wp2_with fail
      refine hrd.mono ?_
      rintro e W9 ⟨rfl, hB9⟩
      go_wp2_with fail
      go_ret
      exact ⟨rfl, hN5.bel.trans (hB9.mono hN5.bel.size)⟩
set_option maxRecDepth 10000 in
set_option maxHeartbeats 2000000 in
theorem spoilt_pm (ctx : Nat) (sv : Value) (l : List Ins) (at_ cut : Int) (xb more : UInt8) (w : World) (hP : Prg w sv l) (hG : Glob w) (hu : ∀ i ∈ l, i.imm < 4294967296) (hl : l.length ≤ 40) (hE : chkE ctx l = 0) (hat : 0 ≤ at_) (hc0 : 0 ≤ cut) (hcut : cut < (6 + 8 * l.length : Nat)) :
    Calls Tryd.prog 9 #[.agg #[.int .i64 ctx, sv], .int .i64 at_, .agg #[.int .u8 (bv xb), .int .i64 cut, .int .u8 (bv more)]] w fun e w' => e = .returned (.bool true) ∧ Below w.heap.size w w' := by
  obtain ⟨⟨_, hcx⟩, _, hmay⟩ := chkE_zero hE
  have hck := fun W (hB : Below w.heap.size w W) => rcheck_any ctx sv l W (hP.below hB) (by omega)
  have hby := fun W (hB : Below w.heap.size w W) => rbytes_any ctx sv l W (hP.below hB) (by omega) (by omega) hmay hu
  have hdl : (progL ctx l).length = 6 + 8 * l.length := by unfold progL; rw [List.length_append, bodyL_len]; simp [headL, low2L]; omega
  simp only [hE] at hck
  obtain ⟨sa, sc, hsv⟩ := hP.slice
  obtain ⟨n, hn⟩ : ∃ n, n = l.length := ⟨_, rfl⟩
  rw [← hn] at hsv hl hcut hdl
  subst hsv
  generalize progL ctx l = D at *
  have hl' : ¬ (40 : Int) < n := by omega
  obtain ⟨N, hN0⟩ : ∃ N, N = 6 + 8 * n := ⟨_, rfl⟩
  rw [← hN0] at hcut hdl
  have HD : Hid (D.length = N) := hdl
  have hN1 : 6 ≤ N := by omega
  have hN2 : N ≤ 400 := by omega
  obtain ⟨W0, hW0⟩ : ∃ W0, W0 = (w.alloc (.cells #[.int .i64 ctx, .slice sa n sc] 24)).alloc (.cells #[.int .u8 (bv xb), .int .i64 cut, .int .u8 (bv more)] 56) := ⟨_, rfl⟩
  have hB0 : Below w.heap.size w W0 := by rw [hW0]; exact ((Below.refl _ _).alloc (Nat.le_refl _) _).alloc (by simp) _
  have hX0 : Has W0 w.heap.size #[.int .i64 ctx, .slice sa n sc] 24 := by rw [hW0]; exact has_old (has_new _ _ _ _ rfl)
  have hY0 : Has W0 (w.heap.size + 1) #[.int .u8 (bv xb), .int .i64 cut, .int .u8 (bv more)] 56 := by rw [hW0]; exact has_new _ _ _ _ (by simp)
  clear hP hn hE hmay hu hdl hN0 hcx hl
  go_enter Tryd.func9, Tryd.ntmps9
  go_wp2_with fail
  rw [← hW0]
  clear hW0
  refine (hck W0 hB0).mono ?_
  rintro e W1 ⟨rfl, hB1⟩
  have hBw1 := hB0.trans (hB1.mono hB0.size)
  have hX1 := hX0.below hB1 hX0.lt
  have hY1 := hY0.below hB1 hY0.lt
  have x0 := hX1.cell 0
  have x1 := hX1.cell 1
  clear hck hX0 hY0 hB0 hB1
  go_wp2_with fail
  refine (hby W1 hBw1).mono ?_
  rintro e W2 ⟨v, rfl, hN2'⟩
  have hNw : New w W2 v D := ⟨hN2'.own, fun k hk => Nat.le_trans hBw1.size (hN2'.new k hk), hBw1.trans (hN2'.bel.mono hBw1.size)⟩
  have hY := hY1.below hN2'.bel hY1.lt
  clear x0 x1 hX1 hY1 hby hN2' hBw1
  obtain ⟨a2, c2, m2, hv2⟩ := hNw.own.sl
  subst hv2
  obtain ⟨g, rfl, hm2⟩ := hNw.own.some (by have := HD.out; omega)
  rw [HD.out] at hm2
  subst hm2
  obtain ⟨A, rfl⟩ : ∃ A : Nat, at_ = A := ⟨at_.toNat, by omega⟩
  obtain ⟨m, hm⟩ : ∃ m, m = A % m2 := ⟨_, rfl⟩
  have hmlt : m < m2 := by rw [hm]; exact Nat.mod_lt _ (by omega)
  have HA : Hid ((A : Int).tmod (m2 : Int) = (m : Int)) := by show _ = _; rw [Int.tmod_eq_emod_of_nonneg (by omega), hm]; omega
  clear hm
  obtain ⟨cur, hcur⟩ := hNw.own.row
  have hgne := has_ne hcur hY (by decide)
  have hb2 := hNw.own.bytes (by have := hY.lt; omega)
  obtain ⟨z, hz⟩ : ∃ z, W2.cell? ⟨g, m, none⟩ = some (.int .u8 (bv z)) := by
    obtain ⟨a', c', db, o', e1, _, e3, e4, _⟩ := hb2
    simp only [Value.slice.injEq] at e1
    obtain ⟨e1, _, _⟩ := e1
    have := e3 (by intro e; have := HD.out; rw [e] at this; simp at this; omega)
    rw [← e1] at this
    simp only [Option.some.injEq, Addr.mk.injEq, and_true] at this
    obtain ⟨rfl, rfl⟩ := this
    have := e4 m (by have := HD.out; omega)
    rw [Nat.zero_add] at this
    exact ⟨_, this⟩
  have hfz := hcur.free m
  clear hb2
  go_wp2_with fail
  have y0 := hY.cell 0
  have hS0 : W2.drew.cell? ⟨w.heap.size + 1, 0, none⟩ = some (.int .u8 (bv xb)) := y0
  refine wp_region_K (S := fun X => X.cell? ⟨w.heap.size + 1, 0, none⟩ = some (.int .u8 (bv xb))) (fun i => decide (i < 8)) (by kernel_rfl) ?_
  refine K_take (i := 0) (v := .slice (some ⟨g, 0, none⟩) m2 c2) rfl (by kernel_rfl) (by kernel_rfl) (by kernel_rfl) (by kernel_rfl) (by kernel_rfl) (by kernel_rfl) (fun w' hS => by go_simp) hS0 ?_
  refine K_take (i := 1) (v := .int .i64 (A : Int)) rfl (by kernel_rfl) (by kernel_rfl) (by kernel_rfl) (by kernel_rfl) (by kernel_rfl) (by kernel_rfl) (fun w' hS => by go_simp) hS0 ?_
  refine K_take (i := 2) (v := .slice (some ⟨g, 0, none⟩) m2 c2) rfl (by kernel_rfl) (by kernel_rfl) (by kernel_rfl) (by kernel_rfl) (by kernel_rfl) (by kernel_rfl) (fun w' hS => by go_simp) hS0 ?_
  refine K_take (i := 3) (v := .int .i64 (m2 : Int)) rfl (by kernel_rfl) (by kernel_rfl) (by kernel_rfl) (by kernel_rfl) (by kernel_rfl) (by kernel_rfl) (fun w' hS => by go_simp) hS0 ?_
  refine K_take (i := 4) (v := .int .i64 (m : Int)) rfl (by kernel_rfl) (by kernel_rfl) (by kernel_rfl) (by kernel_rfl) (by kernel_rfl) (by kernel_rfl) (fun w' hS => by have q := HA.out; go_simp; omega) hS0 ?_
  refine K_take (i := 5) (v := .pointer (some ⟨w.heap.size + 1, 0, none⟩)) rfl (by kernel_rfl) (by kernel_rfl) (by kernel_rfl) (by kernel_rfl) (by kernel_rfl) (by kernel_rfl) (fun w' hS => by go_simp) hS0 ?_
  refine K_take (i := 6) (v := .int .u8 (bv xb)) rfl (by kernel_rfl) (by kernel_rfl) (by kernel_rfl) (by kernel_rfl) (by kernel_rfl) (by kernel_rfl) (fun w' hS => by go_simp) hS0 ?_
  refine K_take (i := 7) (v := .pointer (some ⟨g, m, none⟩)) rfl (by kernel_rfl) (by kernel_rfl) (by kernel_rfl) (by kernel_rfl) (by kernel_rfl) (by kernel_rfl) (fun w' hS => by go_simp) hS0 ?_
  refine K_next (i := 8) (by kernel_rfl) rfl (by kernel_rfl) (fun K hK => ?_)
  go_simp
  refine hK _ _ (fun h => absurd h (by decide)) (K_done (by kernel_rfl) ?_)
  clear hK hS0 y0
  have hN3 : New w (W2.setCell ⟨g, m, none⟩ (bc xb)) (.slice (some ⟨g, 0, none⟩) m2 c2) (D.set m xb) := by
    have h := hNw
    rw [← HD.out] at h
    have h' := h.set m xb
    rw [List.length_set, HD.out] at h'
    exact h'
  have hY3 := hY.ex (Ex.set g W2 m (bc xb)) (Ne.symm hgne)
  have HD3 : Hid ((D.set m xb).length = m2) := by show _ = _; rw [List.length_set]; exact HD.out
  generalize D.set m xb = D3 at *
  refine named (p := fun X => Exit.then _ _ _ _ X) ?_
  intro W3 hW3
  replace hN3 := hN3.more (Below.refl _ _).drew
  replace hY3 := hY3.below (Below.refl _ _).drew hY3.lt
  rw [show (W2.setCell ⟨g, m, none⟩ (bc xb)).drew = W3 from hW3.symm] at hN3 hY3
  clear hW3 hz hfz hcur hgne hNw hY HA
  have y0 := hY3.cell 0
  have y1 := hY3.cell 1
  have y2 := hY3.cell 2
  obtain ⟨C, rfl⟩ : ∃ C : Nat, cut = C := ⟨cut.toNat, by omega⟩
  have hcm : C < m2 := by omega
  have hcc : Hid (m2 ≤ c2) := by
    obtain ⟨a', c', db, o', e1, e2, _⟩ := hN3.own.bytes (by have := hY3.lt; omega)
    simp only [Value.slice.injEq] at e1
    obtain ⟨_, h1, h2⟩ := e1
    show m2 ≤ c2
    omega
  have hcc' : C ≤ c2 := by have := hcc.out; omega
  have hN4 := New.cut (k := C) (by rw [HD3.out]; exact hN3) (by have := HD3.out; omega)
  have HL4 : Hid ((List.take C D3).length ≤ 1000) := by show _ ≤ _; rw [List.length_take]; omega
  generalize List.take C D3 = D4 at *
  clear hN3
  have hm1 := bv_nonneg more
  have hm2' := bv_lt more
  go_wp2_with fail
  clear y0 y1 y2
  go_loopw [7, 8] (fun v iv wr => ∃ (i : Nat) (D' : List UInt8), i ≤ 9 ∧ iv = .int .u8 (i : Nat) ∧ New w wr v D' ∧ Has wr (w.heap.size + 1) #[.int .u8 (bv xb), .int .i64 (C : Int), .int .u8 (bv more)] 56 ∧ D'.length ≤ 1000 + i) (fun _ iv _ => 9 - (intOf iv).toNat)
  case atStart => exact ⟨0, _, by omega, rfl, hN4, hY3, by have := HL4.out; omega⟩
  case round =>
    clear hN4 hY3 HL4
    obtain ⟨i, D', hi, rfl, hN5, hY5, hDl⟩ := hrel
    obtain ⟨a5, c5, n5, hv5⟩ := hN5.own.sl
    subst hv5
    have y0 := hY5.cell 0
    have y2 := hY5.cell 2
    have hz5 := hY5.lt
    by_cases hlt : (i : Int) < bv more % 9
    · have hX := hN5.more ((Below.refl wr.heap.size wr).alloc (Nat.le_refl _) (.cells #[.int .u8 (bv xb)] 5))
      have hY6 := hY5.below ((Below.refl wr.heap.size wr).alloc (Nat.le_refl _) (.cells #[.int .u8 (bv xb)] 5)) hY5.lt
      have hby := byte_one wr xb
      have HDl : Hid (D'.length ≤ 1000 + i) := hDl
      have HI : Hid ((i : Int) < bv more % 9) := hlt
      clear hDl hN5 hY5
      go_wp2_with (refine wpList_append_bytes _ rfl _ _ 27 27 rfl info5 Tryd.underlying27 Tryd.underlying27 _ _ D' [xb] rfl rfl hX.own hby (by have := HDl.out; simp; omega) ?_; intro v' w2 hown2 hgr hloc hnil; clear hnil; have hN7 := hX.step hown2 hgr hloc; have hY7 := hX.has hgr hY6 (by decide); obtain ⟨a', c', m', hv'⟩ := hown2.sl; subst hv'; clear hown2 hgr hloc hX hby hY6)
      go_roundw
      case rel => exact ⟨i + 1, _, by have := HI.out; omega, by go_num, hN7, hY7, by have := HDl.out; simp; omega⟩
      case measure => simp [intOf]; have := HI.out; omega
    · have hrd := reads_walk _ D' wr (hN5.own.bytes (by omega)) (hG.below hN5.bel hG.size)
      have hlt' : bv more % 9 ≤ (i : Int) := by omega
      go_wp2_with fail
      refine hrd.mono ?_
      rintro e W9 ⟨rfl, hB9⟩
      go_wp2_with fail
      go_ret
      exact ⟨rfl, hN5.bel.trans (hB9.mono hN5.bel.size)⟩
set_option maxRecDepth 10000 in
set_option maxHeartbeats 2000000 in
theorem spoilt_nn (ctx : Nat) (sv : Value) (l : List Ins) (at_ cut : Int) (xb more : UInt8) (w : World) (hP : Prg w sv l) (hG : Glob w) (hu : ∀ i ∈ l, i.imm < 4294967296) (hl : l.length ≤ 40) (hE : chkE ctx l = 0) (hat : at_ < 0) (hcut : cut < 0) :
    Calls Tryd.prog 9 #[.agg #[.int .i64 ctx, sv], .int .i64 at_, .agg #[.int .u8 (bv xb), .int .i64 cut, .int .u8 (bv more)]] w fun e w' => e = .returned (.bool true) ∧ Below w.heap.size w w' := by
  obtain ⟨⟨_, hcx⟩, _, hmay⟩ := chkE_zero hE
  have hck := fun W (hB : Below w.heap.size w W) => rcheck_any ctx sv l W (hP.below hB) (by omega)
  have hby := fun W (hB : Below w.heap.size w W) => rbytes_any ctx sv l W (hP.below hB) (by omega) (by omega) hmay hu
  have hdl : (progL ctx l).length = 6 + 8 * l.length := by unfold progL; rw [List.length_append, bodyL_len]; simp [headL, low2L]; omega
  simp only [hE] at hck
  obtain ⟨sa, sc, hsv⟩ := hP.slice
  obtain ⟨n, hn⟩ : ∃ n, n = l.length := ⟨_, rfl⟩
  rw [← hn] at hsv hl hdl
  subst hsv
  generalize progL ctx l = D at *
  have hl' : ¬ (40 : Int) < n := by omega
  obtain ⟨N, hN0⟩ : ∃ N, N = 6 + 8 * n := ⟨_, rfl⟩
  rw [← hN0] at hdl
  have HD : Hid (D.length = N) := hdl
  have hN1 : 6 ≤ N := by omega
  have hN2 : N ≤ 400 := by omega
  obtain ⟨W0, hW0⟩ : ∃ W0, W0 = (w.alloc (.cells #[.int .i64 ctx, .slice sa n sc] 24)).alloc (.cells #[.int .u8 (bv xb), .int .i64 cut, .int .u8 (bv more)] 56) := ⟨_, rfl⟩
  have hB0 : Below w.heap.size w W0 := by rw [hW0]; exact ((Below.refl _ _).alloc (Nat.le_refl _) _).alloc (by simp) _
  have hX0 : Has W0 w.heap.size #[.int .i64 ctx, .slice sa n sc] 24 := by rw [hW0]; exact has_old (has_new _ _ _ _ rfl)
  have hY0 : Has W0 (w.heap.size + 1) #[.int .u8 (bv xb), .int .i64 cut, .int .u8 (bv more)] 56 := by rw [hW0]; exact has_new _ _ _ _ (by simp)
  clear hP hn hE hmay hu hdl hN0 hcx hl
  go_enter Tryd.func9, Tryd.ntmps9
  go_wp2_with fail
  rw [← hW0]
  clear hW0
  refine (hck W0 hB0).mono ?_
  rintro e W1 ⟨rfl, hB1⟩
  have hBw1 := hB0.trans (hB1.mono hB0.size)
  have hX1 := hX0.below hB1 hX0.lt
  have hY1 := hY0.below hB1 hY0.lt
  have x0 := hX1.cell 0
  have x1 := hX1.cell 1
  clear hck hX0 hY0 hB0 hB1
  go_wp2_with fail
  refine (hby W1 hBw1).mono ?_
  rintro e W2 ⟨v, rfl, hN2'⟩
  have hNw : New w W2 v D := ⟨hN2'.own, fun k hk => Nat.le_trans hBw1.size (hN2'.new k hk), hBw1.trans (hN2'.bel.mono hBw1.size)⟩
  have hY := hY1.below hN2'.bel hY1.lt
  clear x0 x1 hX1 hY1 hby hN2' hBw1
  obtain ⟨a2, c2, m2, hv2⟩ := hNw.own.sl
  subst hv2
  obtain ⟨g, rfl, hm2⟩ := hNw.own.some (by have := HD.out; omega)
  rw [HD.out] at hm2
  subst hm2
  have hN3 := hNw
  have hY3 := hY
  have HD3 := HD
  clear hNw hY
  have y0 := hY3.cell 0
  have y1 := hY3.cell 1
  have y2 := hY3.cell 2
  have hN4 := hN3
  have HL4 : Hid (D.length ≤ 1000) := by show _ ≤ _; have := HD3.out; omega
  clear hN3
  have hm1 := bv_nonneg more
  have hm2' := bv_lt more
  go_wp2_with fail
  clear y0 y1 y2
  go_loopw [7, 8] (fun v iv wr => ∃ (i : Nat) (D' : List UInt8), i ≤ 9 ∧ iv = .int .u8 (i : Nat) ∧ New w wr v D' ∧ Has wr (w.heap.size + 1) #[.int .u8 (bv xb), .int .i64 cut, .int .u8 (bv more)] 56 ∧ D'.length ≤ 1000 + i) (fun _ iv _ => 9 - (intOf iv).toNat)
  case atStart => exact ⟨0, _, by omega, rfl, hN4, hY3, by have := HL4.out; omega⟩
  case round =>
    clear hN4 hY3 HL4
    obtain ⟨i, D', hi, rfl, hN5, hY5, hDl⟩ := hrel
    obtain ⟨a5, c5, n5, hv5⟩ := hN5.own.sl
    subst hv5
    have y0 := hY5.cell 0
    have y2 := hY5.cell 2
    have hz5 := hY5.lt
    by_cases hlt : (i : Int) < bv more % 9
    · have hX := hN5.more ((Below.refl wr.heap.size wr).alloc (Nat.le_refl _) (.cells #[.int .u8 (bv xb)] 5))
      have hY6 := hY5.below ((Below.refl wr.heap.size wr).alloc (Nat.le_refl _) (.cells #[.int .u8 (bv xb)] 5)) hY5.lt
      have hby := byte_one wr xb
      have HDl : Hid (D'.length ≤ 1000 + i) := hDl
      have HI : Hid ((i : Int) < bv more % 9) := hlt
      clear hDl hN5 hY5
      go_wp2_with (refine wpList_append_bytes _ rfl _ _ 27 27 rfl info5 Tryd.underlying27 Tryd.underlying27 _ _ D' [xb] rfl rfl hX.own hby (by have := HDl.out; simp; omega) ?_; intro v' w2 hown2 hgr hloc hnil; clear hnil; have hN7 := hX.step hown2 hgr hloc; have hY7 := hX.has hgr hY6 (by decide); obtain ⟨a', c', m', hv'⟩ := hown2.sl; subst hv'; clear hown2 hgr hloc hX hby hY6)
      go_roundw
      case rel => exact ⟨i + 1, _, by have := HI.out; omega, by go_num, hN7, hY7, by have := HDl.out; simp; omega⟩
      case measure => simp [intOf]; have := HI.out; omega
    · have hrd := reads_walk _ D' wr (hN5.own.bytes (by omega)) (hG.below hN5.bel hG.size)
      have hlt' : bv more % 9 ≤ (i : Int) := by omega
      go_wp2_with fail
      refine hrd.mono ?_
      rintro e W9 ⟨rfl, hB9⟩
      go_wp2_with fail
      go_ret
      exact ⟨rfl, hN5.bel.trans (hB9.mono hN5.bel.size)⟩
set_option maxRecDepth 10000 in
set_option maxHeartbeats 2000000 in
theorem spoilt_ng (ctx : Nat) (sv : Value) (l : List Ins) (at_ cut : Int) (xb more : UInt8) (w : World) (hP : Prg w sv l) (hG : Glob w) (hu : ∀ i ∈ l, i.imm < 4294967296) (hl : l.length ≤ 40) (hE : chkE ctx l = 0) (hat : at_ < 0) (hcut : (6 + 8 * l.length : Nat) ≤ cut) :
    Calls Tryd.prog 9 #[.agg #[.int .i64 ctx, sv], .int .i64 at_, .agg #[.int .u8 (bv xb), .int .i64 cut, .int .u8 (bv more)]] w fun e w' => e = .returned (.bool true) ∧ Below w.heap.size w w' := by
  obtain ⟨⟨_, hcx⟩, _, hmay⟩ := chkE_zero hE
  have hck := fun W (hB : Below w.heap.size w W) => rcheck_any ctx sv l W (hP.below hB) (by omega)
  have hby := fun W (hB : Below w.heap.size w W) => rbytes_any ctx sv l W (hP.below hB) (by omega) (by omega) hmay hu
  have hdl : (progL ctx l).length = 6 + 8 * l.length := by unfold progL; rw [List.length_append, bodyL_len]; simp [headL, low2L]; omega
  simp only [hE] at hck
  obtain ⟨sa, sc, hsv⟩ := hP.slice
  obtain ⟨n, hn⟩ : ∃ n, n = l.length := ⟨_, rfl⟩
  rw [← hn] at hsv hl hcut hdl
  subst hsv
  generalize progL ctx l = D at *
  have hl' : ¬ (40 : Int) < n := by omega
  obtain ⟨N, hN0⟩ : ∃ N, N = 6 + 8 * n := ⟨_, rfl⟩
  rw [← hN0] at hcut hdl
  have HD : Hid (D.length = N) := hdl
  have hN1 : 6 ≤ N := by omega
  have hN2 : N ≤ 400 := by omega
  obtain ⟨W0, hW0⟩ : ∃ W0, W0 = (w.alloc (.cells #[.int .i64 ctx, .slice sa n sc] 24)).alloc (.cells #[.int .u8 (bv xb), .int .i64 cut, .int .u8 (bv more)] 56) := ⟨_, rfl⟩
  have hB0 : Below w.heap.size w W0 := by rw [hW0]; exact ((Below.refl _ _).alloc (Nat.le_refl _) _).alloc (by simp) _
  have hX0 : Has W0 w.heap.size #[.int .i64 ctx, .slice sa n sc] 24 := by rw [hW0]; exact has_old (has_new _ _ _ _ rfl)
  have hY0 : Has W0 (w.heap.size + 1) #[.int .u8 (bv xb), .int .i64 cut, .int .u8 (bv more)] 56 := by rw [hW0]; exact has_new _ _ _ _ (by simp)
  clear hP hn hE hmay hu hdl hN0 hcx hl
  go_enter Tryd.func9, Tryd.ntmps9
  go_wp2_with fail
  rw [← hW0]
  clear hW0
  refine (hck W0 hB0).mono ?_
  rintro e W1 ⟨rfl, hB1⟩
  have hBw1 := hB0.trans (hB1.mono hB0.size)
  have hX1 := hX0.below hB1 hX0.lt
  have hY1 := hY0.below hB1 hY0.lt
  have x0 := hX1.cell 0
  have x1 := hX1.cell 1
  clear hck hX0 hY0 hB0 hB1
  go_wp2_with fail
  refine (hby W1 hBw1).mono ?_
  rintro e W2 ⟨v, rfl, hN2'⟩
  have hNw : New w W2 v D := ⟨hN2'.own, fun k hk => Nat.le_trans hBw1.size (hN2'.new k hk), hBw1.trans (hN2'.bel.mono hBw1.size)⟩
  have hY := hY1.below hN2'.bel hY1.lt
  clear x0 x1 hX1 hY1 hby hN2' hBw1
  obtain ⟨a2, c2, m2, hv2⟩ := hNw.own.sl
  subst hv2
  obtain ⟨g, rfl, hm2⟩ := hNw.own.some (by have := HD.out; omega)
  rw [HD.out] at hm2
  subst hm2
  have hN3 := hNw
  have hY3 := hY
  have HD3 := HD
  clear hNw hY
  have y0 := hY3.cell 0
  have y1 := hY3.cell 1
  have y2 := hY3.cell 2
  have hN4 := hN3
  have HL4 : Hid (D.length ≤ 1000) := by show _ ≤ _; have := HD3.out; omega
  clear hN3
  have hm1 := bv_nonneg more
  have hm2' := bv_lt more
  go_wp2_with fail
  clear y0 y1 y2
  go_loopw [7, 8] (fun v iv wr => ∃ (i : Nat) (D' : List UInt8), i ≤ 9 ∧ iv = .int .u8 (i : Nat) ∧ New w wr v D' ∧ Has wr (w.heap.size + 1) #[.int .u8 (bv xb), .int .i64 cut, .int .u8 (bv more)] 56 ∧ D'.length ≤ 1000 + i) (fun _ iv _ => 9 - (intOf iv).toNat)
  case atStart => exact ⟨0, _, by omega, rfl, hN4, hY3, by have := HL4.out; omega⟩
  case round =>
    clear hN4 hY3 HL4
    obtain ⟨i, D', hi, rfl, hN5, hY5, hDl⟩ := hrel
    obtain ⟨a5, c5, n5, hv5⟩ := hN5.own.sl
    subst hv5
    have y0 := hY5.cell 0
    have y2 := hY5.cell 2
    have hz5 := hY5.lt
    by_cases hlt : (i : Int) < bv more % 9
    · have hX := hN5.more ((Below.refl wr.heap.size wr).alloc (Nat.le_refl _) (.cells #[.int .u8 (bv xb)] 5))
      have hY6 := hY5.below ((Below.refl wr.heap.size wr).alloc (Nat.le_refl _) (.cells #[.int .u8 (bv xb)] 5)) hY5.lt
      have hby := byte_one wr xb
      have HDl : Hid (D'.length ≤ 1000 + i) := hDl
      have HI : Hid ((i : Int) < bv more % 9) := hlt
      clear hDl hN5 hY5
      go_wp2_with (refine wpList_append_bytes _ rfl _ _ 27 27 rfl info5 Tryd.underlying27 Tryd.underlying27 _ _ D' [xb] rfl rfl hX.own hby (by have := HDl.out; simp; omega) ?_; intro v' w2 hown2 hgr hloc hnil; clear hnil; have hN7 := hX.step hown2 hgr hloc; have hY7 := hX.has hgr hY6 (by decide); obtain ⟨a', c', m', hv'⟩ := hown2.sl; subst hv'; clear hown2 hgr hloc hX hby hY6)
      go_roundw
      case rel => exact ⟨i + 1, _, by have := HI.out; omega, by go_num, hN7, hY7, by have := HDl.out; simp; omega⟩
      case measure => simp [intOf]; have := HI.out; omega
    · have hrd := reads_walk _ D' wr (hN5.own.bytes (by omega)) (hG.below hN5.bel hG.size)
      have hlt' : bv more % 9 ≤ (i : Int) := by omega
      go_wp2_with fail
      refine hrd.mono ?_
      rintro e W9 ⟨rfl, hB9⟩
      go_wp2_with fail
      go_ret
      exact ⟨rfl, hN5.bel.trans (hB9.mono hN5.bel.size)⟩
set_option maxRecDepth 10000 in
set_option maxHeartbeats 2000000 in
theorem spoilt_nm (ctx : Nat) (sv : Value) (l : List Ins) (at_ cut : Int) (xb more : UInt8) (w : World) (hP : Prg w sv l) (hG : Glob w) (hu : ∀ i ∈ l, i.imm < 4294967296) (hl : l.length ≤ 40) (hE : chkE ctx l = 0) (hat : at_ < 0) (hc0 : 0 ≤ cut) (hcut : cut < (6 + 8 * l.length : Nat)) :
    Calls Tryd.prog 9 #[.agg #[.int .i64 ctx, sv], .int .i64 at_, .agg #[.int .u8 (bv xb), .int .i64 cut, .int .u8 (bv more)]] w fun e w' => e = .returned (.bool true) ∧ Below w.heap.size w w' := by
  obtain ⟨⟨_, hcx⟩, _, hmay⟩ := chkE_zero hE
  have hck := fun W (hB : Below w.heap.size w W) => rcheck_any ctx sv l W (hP.below hB) (by omega)
  have hby := fun W (hB : Below w.heap.size w W) => rbytes_any ctx sv l W (hP.below hB) (by omega) (by omega) hmay hu
  have hdl : (progL ctx l).length = 6 + 8 * l.length := by unfold progL; rw [List.length_append, bodyL_len]; simp [headL, low2L]; omega
  simp only [hE] at hck
  obtain ⟨sa, sc, hsv⟩ := hP.slice
  obtain ⟨n, hn⟩ : ∃ n, n = l.length := ⟨_, rfl⟩
  rw [← hn] at hsv hl hcut hdl
  subst hsv
  generalize progL ctx l = D at *
  have hl' : ¬ (40 : Int) < n := by omega
  obtain ⟨N, hN0⟩ : ∃ N, N = 6 + 8 * n := ⟨_, rfl⟩
  rw [← hN0] at hcut hdl
  have HD : Hid (D.length = N) := hdl
  have hN1 : 6 ≤ N := by omega
  have hN2 : N ≤ 400 := by omega
  obtain ⟨W0, hW0⟩ : ∃ W0, W0 = (w.alloc (.cells #[.int .i64 ctx, .slice sa n sc] 24)).alloc (.cells #[.int .u8 (bv xb), .int .i64 cut, .int .u8 (bv more)] 56) := ⟨_, rfl⟩
  have hB0 : Below w.heap.size w W0 := by rw [hW0]; exact ((Below.refl _ _).alloc (Nat.le_refl _) _).alloc (by simp) _
  have hX0 : Has W0 w.heap.size #[.int .i64 ctx, .slice sa n sc] 24 := by rw [hW0]; exact has_old (has_new _ _ _ _ rfl)
  have hY0 : Has W0 (w.heap.size + 1) #[.int .u8 (bv xb), .int .i64 cut, .int .u8 (bv more)] 56 := by rw [hW0]; exact has_new _ _ _ _ (by simp)
  clear hP hn hE hmay hu hdl hN0 hcx hl
  go_enter Tryd.func9, Tryd.ntmps9
  go_wp2_with fail
  rw [← hW0]
  clear hW0
  refine (hck W0 hB0).mono ?_
  rintro e W1 ⟨rfl, hB1⟩
  have hBw1 := hB0.trans (hB1.mono hB0.size)
  have hX1 := hX0.below hB1 hX0.lt
  have hY1 := hY0.below hB1 hY0.lt
  have x0 := hX1.cell 0
  have x1 := hX1.cell 1
  clear hck hX0 hY0 hB0 hB1
  go_wp2_with fail
  refine (hby W1 hBw1).mono ?_
  rintro e W2 ⟨v, rfl, hN2'⟩
  have hNw : New w W2 v D := ⟨hN2'.own, fun k hk => Nat.le_trans hBw1.size (hN2'.new k hk), hBw1.trans (hN2'.bel.mono hBw1.size)⟩
  have hY := hY1.below hN2'.bel hY1.lt
  clear x0 x1 hX1 hY1 hby hN2' hBw1
  obtain ⟨a2, c2, m2, hv2⟩ := hNw.own.sl
  subst hv2
  obtain ⟨g, rfl, hm2⟩ := hNw.own.some (by have := HD.out; omega)
  rw [HD.out] at hm2
  subst hm2
  have hN3 := hNw
  have hY3 := hY
  have HD3 := HD
  clear hNw hY
  have y0 := hY3.cell 0
  have y1 := hY3.cell 1
  have y2 := hY3.cell 2
  obtain ⟨C, rfl⟩ : ∃ C : Nat, cut = C := ⟨cut.toNat, by omega⟩
  have hcm : C < m2 := by omega
  have hcc : Hid (m2 ≤ c2) := by
    obtain ⟨a', c', db, o', e1, e2, _⟩ := hN3.own.bytes (by have := hY3.lt; omega)
    simp only [Value.slice.injEq] at e1
    obtain ⟨_, h1, h2⟩ := e1
    show m2 ≤ c2
    omega
  have hcc' : C ≤ c2 := by have := hcc.out; omega
  have hN4 := New.cut (k := C) (by rw [HD3.out]; exact hN3) (by have := HD3.out; omega)
  have HL4 : Hid ((List.take C D).length ≤ 1000) := by show _ ≤ _; rw [List.length_take]; omega
  generalize List.take C D = D4 at *
  clear hN3
  have hm1 := bv_nonneg more
  have hm2' := bv_lt more
  go_wp2_with fail
  clear y0 y1 y2
  go_loopw [7, 8] (fun v iv wr => ∃ (i : Nat) (D' : List UInt8), i ≤ 9 ∧ iv = .int .u8 (i : Nat) ∧ New w wr v D' ∧ Has wr (w.heap.size + 1) #[.int .u8 (bv xb), .int .i64 (C : Int), .int .u8 (bv more)] 56 ∧ D'.length ≤ 1000 + i) (fun _ iv _ => 9 - (intOf iv).toNat)
  case atStart => exact ⟨0, _, by omega, rfl, hN4, hY3, by have := HL4.out; omega⟩
  case round =>
    clear hN4 hY3 HL4
    obtain ⟨i, D', hi, rfl, hN5, hY5, hDl⟩ := hrel
    obtain ⟨a5, c5, n5, hv5⟩ := hN5.own.sl
    subst hv5
    have y0 := hY5.cell 0
    have y2 := hY5.cell 2
    have hz5 := hY5.lt
    by_cases hlt : (i : Int) < bv more % 9
    · have hX := hN5.more ((Below.refl wr.heap.size wr).alloc (Nat.le_refl _) (.cells #[.int .u8 (bv xb)] 5))
      have hY6 := hY5.below ((Below.refl wr.heap.size wr).alloc (Nat.le_refl _) (.cells #[.int .u8 (bv xb)] 5)) hY5.lt
      have hby := byte_one wr xb
      have HDl : Hid (D'.length ≤ 1000 + i) := hDl
      have HI : Hid ((i : Int) < bv more % 9) := hlt
      clear hDl hN5 hY5
      go_wp2_with (refine wpList_append_bytes _ rfl _ _ 27 27 rfl info5 Tryd.underlying27 Tryd.underlying27 _ _ D' [xb] rfl rfl hX.own hby (by have := HDl.out; simp; omega) ?_; intro v' w2 hown2 hgr hloc hnil; clear hnil; have hN7 := hX.step hown2 hgr hloc; have hY7 := hX.has hgr hY6 (by decide); obtain ⟨a', c', m', hv'⟩ := hown2.sl; subst hv'; clear hown2 hgr hloc hX hby hY6)
      go_roundw
      case rel => exact ⟨i + 1, _, by have := HI.out; omega, by go_num, hN7, hY7, by have := HDl.out; simp; omega⟩
      case measure => simp [intOf]; have := HI.out; omega
    · have hrd := reads_walk _ D' wr (hN5.own.bytes (by omega)) (hG.below hN5.bel hG.size)
      have hlt' : bv more % 9 ≤ (i : Int) := by omega
      go_wp2_with fail
      refine hrd.mono ?_
      rintro e W9 ⟨rfl, hB9⟩
      go_wp2_with fail
      go_ret
      exact ⟨rfl, hN5.bel.trans (hB9.mono hN5.bel.size)⟩
theorem spoilt_walk (ctx : Int) (sv : Value) (l : List Ins) (at_ cut : Int) (xb more : UInt8) (w : World) (hP : Prg w sv l) (hG : Glob w) (hu : ∀ i ∈ l, i.imm < 4294967296) :
    Calls Tryd.prog 9 #[.agg #[.int .i64 ctx, sv], .int .i64 at_, .agg #[.int .u8 (bv xb), .int .i64 cut, .int .u8 (bv more)]] w fun e w' => e = .returned (.bool true) ∧ Below w.heap.size w w' := by
  by_cases hl : 40 < l.length
  · exact spoilt_long ctx sv l at_ cut xb more w hP hG hl
  · by_cases hE : chkE ctx l = 0
    · obtain ⟨⟨h1, _⟩, _⟩ := chkE_zero hE
      obtain ⟨c, rfl⟩ : ∃ c : Nat, ctx = c := ⟨ctx.toNat, by omega⟩
      by_cases ha : at_ < 0
      · by_cases h2 : cut < 0
        · exact spoilt_nn c sv l at_ cut xb more w hP hG hu (by omega) hE ha h2
        · by_cases h3 : cut < (6 + 8 * l.length : Nat)
          · exact spoilt_nm c sv l at_ cut xb more w hP hG hu (by omega) hE ha (by omega) h3
          · exact spoilt_ng c sv l at_ cut xb more w hP hG hu (by omega) hE ha (by omega)
      · by_cases h2 : cut < 0
        · exact spoilt_pn c sv l at_ cut xb more w hP hG hu (by omega) hE (by omega) h2
        · by_cases h3 : cut < (6 + 8 * l.length : Nat)
          · exact spoilt_pm c sv l at_ cut xb more w hP hG hu (by omega) hE (by omega) (by omega) h3
          · exact spoilt_pg c sv l at_ cut xb more w hP hG hu (by omega) hE (by omega) (by omega)
    · exact spoilt_bad ctx sv l at_ cut xb more w hP hG (by omega) hE
end Go.Proofs.YtoalchlokcphkaaDoor
