/- ShaOrders: the law's own region, in whatever order. -/
import Derived.Test.YtkcngkkjlnadiaaDoorC1
namespace Go.Proofs.YtkcngkkjlnadiaaDoor
open Go.RowKit

theorem cmpL_le : ∀ (x y : List UInt8), -1 ≤ cmpL x y ∧ cmpL x y ≤ 1
  | [], [] => by simp [cmpL]
  | [], _ :: _ => by simp [cmpL]
  | _ :: _, [] => by simp [cmpL]
  | a :: x, b :: y => by
    unfold cmpL
    split
    · omega
    · split
      · omega
      · exact cmpL_le x y

def ordersΦ (x y : List UInt8) : Nat → Value → World → Prop
  | 0, v, _ => v = .agg (byteCells x)
  | 1, v, _ => v = .agg (byteCells y)
  | 2, v, _ => v = .int .i64 (cmpL x y)
  | 3, v, _ => v = .agg (byteCells x)
  | 4, v, _ => v = .agg (byteCells y)
  | 5, v, _ => v = .int .i64 (cmpL x y)
  | 6, v, _ => v = .bool true
  | 7, v, _ => v = .bool true
  | 8, v, _ => v = .agg (byteCells y)
  | 9, v, _ => v = .agg (byteCells x)
  | 10, v, _ => v = .int .i64 (-cmpL x y)
  | 11, v, _ => v = .agg (byteCells x)
  | 12, v, _ => v = .agg (byteCells y)
  | 13, v, _ => v = .int .i64 (cmpL x y)
  | 14, v, _ => v = .int .i64 (-cmpL x y)
  | 15, v, _ => v = .bool true
  | 16, v, _ => v = .bool true
  | 17, v, _ => v = .bool true
  | 18, v, _ => v = .agg (byteCells x)
  | 19, v, _ => v = .agg (byteCells x)
  | 20, v, _ => v = .int .i64 0
  | 21, v, _ => v = .bool true
  | 22, v, _ => v = .bool true
  | 23, v, _ => v = .bool true
  | 24, v, _ => v = .bool true
  | 25, v, _ => v = .bool true
  | 26, v, _ => v = .bool true
  | _, _, _ => False

set_option maxRecDepth 100000 in
set_option maxHeartbeats 2000000 in
theorem orders_walk (x y : List UInt8) (hx : x.length = 32) (hy : y.length = 32) (w : World) (hg0 : Glob w) :
    Calls Tryd.prog 6 #[.agg (byteCells x), .agg (byteCells y)] w fun e w' => e = .returned (.bool true) ∧ Below w.heap.size w w' := by
  have hgs := hg0.size
  have hcl := cmpL_le x y
  have hw1 : IntKind.i64.wrap (-cmpL x y) = -cmpL x y := by rw [IntKind.wrap_i64]; omega
  have hw2 : IntKind.i64.wrap (0 - cmpL x y) = -cmpL x y := by rw [IntKind.wrap_i64]; omega
  go_enter Tryd.func6, Tryd.ntmps6
  go_wp2_with fail
  refine named (p := Code.wp _ _ _ _) ?_
  intro W0 hW0
  have hB : Below w.heap.size w W0 := by
    rw [hW0]; repeat (first | exact Below.refl _ _ | refine Below.alloc ?_ (by simp) _)
  have bx : Has W0 w.heap.size (byteCells x) 25 := by rw [hW0]; exact has_old (has_new _ _ _ _ rfl)
  have by_ : Has W0 (w.heap.size + 1) (byteCells y) 25 := by rw [hW0]; exact has_new _ _ _ _ (by simp)
  clear hW0
  have hg := hg0.below hB hgs
  obtain ⟨N, hNe⟩ : ∃ N, N = W0.heap.size := ⟨_, rfl⟩
  have hN : N ≤ W0.heap.size := by omega
  have hN2 : 2 ≤ N := by rw [hNe]; exact hg.size
  have hBs := hB.size
  generalize hR : w.heap.size = R at *
  refine wp_region_owes (A := [0, 0, 3, 0, 0, 31, 63, 127, 255, 255, 1023, 255, 255, 8191, 16383, 32767, 65535, 131071, 262143, 262143, 1048575, 2097151, 4194303, 8388607, 16777215, 33554431, 67108863]) (need := [[(2, none)], [(3, none)], [(5, some 0), (6, some 1)], [(2, none)], [(3, none)], [(8, some 3), (9, some 4)], [(7, some 2), (10, some 5)], [(11, some 6)], [(3, none), (12, some 7)], [(2, none), (12, some 7)], [(13, some 8), (14, some 9), (12, some 7)], [(2, none), (12, some 7)], [(3, none), (12, some 7)], [(16, some 11), (17, some 12), (12, some 7)], [(18, some 13), (12, some 7)], [(15, some 10), (19, some 14), (12, some 7)], [(12, some 7), (20, some 15)], [(21, some 16)], [(2, none), (22, some 17)], [(2, none), (22, some 17)], [(23, some 18), (24, some 19), (22, some 17)], [(25, some 20), (22, some 17)], [(22, some 17), (26, some 21)], [(27, some 22)], [(28, some 23)], [(28, some 23), (29, some 24)], [(30, some 25)]]) (ordersΦ x y) N 31 (by kernel_rfl) (by kernel_rfl) (by kernel_rfl) (by kernel_rfl) (by kernel_rfl) (by kernel_rfl) rfl ?stable ?hop ?hend
  case stable =>
    intro i v p q _ h
    unfold ordersΦ at h ⊢
    split at h <;> exact h
  case hop =>
    refine ⟨?_, ?_, ?_, ?_, ?_, ?_, ?_, ?_, ?_, ?_, ?_, ?_, ?_, ?_, ?_, ?_, ?_, ?_, ?_, ?_, ?_, ?_, ?_, ?_, ?_, ?_, ?_, trivial⟩
    · intro a w hle hE
      have h2 : a.tmps.getD 2 undef = .pointer (some ⟨R, 0, none⟩) := hE (2, none) (by simp)
      rw [if_pos (wanted_plain rfl)]
      refine owe_value (v := .agg (byteCells x)) ?_ (Le.refl _ _) rfl
      have e1 : a.eval (.tmp 2) = _ := h2
      unfold execOp
      simp only [e1, load_dig w _ x hx (fun j _ => (hle.cells ⟨_, j, none⟩ bx.lt).trans (bx.cell j)), Sem.run_bind, Sem.run_pure, Result.andThen_ok]
    · intro a w hle hE
      have h3 : a.tmps.getD 3 undef = .pointer (some ⟨R + 1, 0, none⟩) := hE (3, none) (by simp)
      rw [if_pos (wanted_plain rfl)]
      refine owe_value (v := .agg (byteCells y)) ?_ (Le.refl _ _) rfl
      have e1 : a.eval (.tmp 3) = _ := h3
      unfold execOp
      simp only [e1, load_dig w _ y hy (fun j _ => (hle.cells ⟨_, j, none⟩ by_.lt).trans (by_.cell j)), Sem.run_bind, Sem.run_pure, Result.andThen_ok]
    · intro a w hle hE
      have h5 : a.tmps.getD 5 undef = .agg (byteCells x) := hE (5, some 0) (by simp)
      have h6 : a.tmps.getD 6 undef = .agg (byteCells y) := hE (6, some 1) (by simp)
      rw [if_pos (wanted_plain rfl)]
      refine owe_call (f := 24) (args := #[.agg (byteCells x), .agg (byteCells y)]) (by go_simp) ?_
      refine (compare_any x y hx hy w).mono ?_
      rintro e w1 ⟨rfl, hb⟩
      exact ⟨_, rfl, Le.of hb (Nat.le_trans hN hle.size), rfl⟩
    · intro a w hle hE
      have h2 : a.tmps.getD 2 undef = .pointer (some ⟨R, 0, none⟩) := hE (2, none) (by simp)
      rw [if_pos (wanted_plain rfl)]
      refine owe_value (v := .agg (byteCells x)) ?_ (Le.refl _ _) rfl
      have e1 : a.eval (.tmp 2) = _ := h2
      unfold execOp
      simp only [e1, load_dig w _ x hx (fun j _ => (hle.cells ⟨_, j, none⟩ bx.lt).trans (bx.cell j)), Sem.run_bind, Sem.run_pure, Result.andThen_ok]
    · intro a w hle hE
      have h3 : a.tmps.getD 3 undef = .pointer (some ⟨R + 1, 0, none⟩) := hE (3, none) (by simp)
      rw [if_pos (wanted_plain rfl)]
      refine owe_value (v := .agg (byteCells y)) ?_ (Le.refl _ _) rfl
      have e1 : a.eval (.tmp 3) = _ := h3
      unfold execOp
      simp only [e1, load_dig w _ y hy (fun j _ => (hle.cells ⟨_, j, none⟩ by_.lt).trans (by_.cell j)), Sem.run_bind, Sem.run_pure, Result.andThen_ok]
    · intro a w hle hE
      have h8 : a.tmps.getD 8 undef = .agg (byteCells x) := hE (8, some 3) (by simp)
      have h9 : a.tmps.getD 9 undef = .agg (byteCells y) := hE (9, some 4) (by simp)
      rw [if_pos (wanted_plain rfl)]
      refine owe_call (f := 25) (args := #[.agg (byteCells x), .agg (byteCells y)]) (by go_simp) ?_
      refine (refcompare_any x y hx hy w).mono ?_
      rintro e w1 ⟨rfl, hb⟩
      exact ⟨_, rfl, Le.of hb (Nat.le_trans hN hle.size), rfl⟩
    · intro a w hle hE
      have h7 : a.tmps.getD 7 undef = .int .i64 (cmpL x y) := hE (7, some 2) (by simp)
      have h10 : a.tmps.getD 10 undef = .int .i64 (cmpL x y) := hE (10, some 5) (by simp)
      rw [if_pos (wanted_plain rfl)]
      refine owe_value (v := .bool true) ?_ (Le.refl _ _) rfl
      go_simp
    · intro a w hle hE
      have h11 : a.tmps.getD 11 undef = .bool true := hE (11, some 6) (by simp)
      rw [if_pos (wanted_plain rfl)]
      refine owe_value (v := .bool true) ?_ (Le.refl _ _) rfl
      go_simp
    · intro a w hle hE
      have h3 : a.tmps.getD 3 undef = .pointer (some ⟨R + 1, 0, none⟩) := hE (3, none) (by simp)
      have h12 : a.tmps.getD 12 undef = .bool true := hE (12, some 7) (by simp)
      rw [if_pos (wanted_of (j := 7) (b := true) (d := 12) rfl rfl h12)]
      refine owe_value (v := .agg (byteCells y)) ?_ (Le.refl _ _) rfl
      have e1 : a.eval (.tmp 3) = _ := h3
      unfold execOp
      simp only [e1, load_dig w _ y hy (fun j _ => (hle.cells ⟨_, j, none⟩ by_.lt).trans (by_.cell j)), Sem.run_bind, Sem.run_pure, Result.andThen_ok]
    · intro a w hle hE
      have h2 : a.tmps.getD 2 undef = .pointer (some ⟨R, 0, none⟩) := hE (2, none) (by simp)
      have h12 : a.tmps.getD 12 undef = .bool true := hE (12, some 7) (by simp)
      rw [if_pos (wanted_of (j := 7) (b := true) (d := 12) rfl rfl h12)]
      refine owe_value (v := .agg (byteCells x)) ?_ (Le.refl _ _) rfl
      have e1 : a.eval (.tmp 2) = _ := h2
      unfold execOp
      simp only [e1, load_dig w _ x hx (fun j _ => (hle.cells ⟨_, j, none⟩ bx.lt).trans (bx.cell j)), Sem.run_bind, Sem.run_pure, Result.andThen_ok]
    · intro a w hle hE
      have h13 : a.tmps.getD 13 undef = .agg (byteCells y) := hE (13, some 8) (by simp)
      have h14 : a.tmps.getD 14 undef = .agg (byteCells x) := hE (14, some 9) (by simp)
      have h12 : a.tmps.getD 12 undef = .bool true := hE (12, some 7) (by simp)
      rw [if_pos (wanted_of (j := 7) (b := true) (d := 12) rfl rfl h12)]
      refine owe_call (f := 24) (args := #[.agg (byteCells y), .agg (byteCells x)]) (by go_simp) ?_
      refine (compare_any y x hy hx w).mono ?_
      rintro e w1 ⟨rfl, hb⟩
      exact ⟨_, rfl, Le.of hb (Nat.le_trans hN hle.size), by rw [cmpL_neg]; rfl⟩
    · intro a w hle hE
      have h2 : a.tmps.getD 2 undef = .pointer (some ⟨R, 0, none⟩) := hE (2, none) (by simp)
      have h12 : a.tmps.getD 12 undef = .bool true := hE (12, some 7) (by simp)
      rw [if_pos (wanted_of (j := 7) (b := true) (d := 12) rfl rfl h12)]
      refine owe_value (v := .agg (byteCells x)) ?_ (Le.refl _ _) rfl
      have e1 : a.eval (.tmp 2) = _ := h2
      unfold execOp
      simp only [e1, load_dig w _ x hx (fun j _ => (hle.cells ⟨_, j, none⟩ bx.lt).trans (bx.cell j)), Sem.run_bind, Sem.run_pure, Result.andThen_ok]
    · intro a w hle hE
      have h3 : a.tmps.getD 3 undef = .pointer (some ⟨R + 1, 0, none⟩) := hE (3, none) (by simp)
      have h12 : a.tmps.getD 12 undef = .bool true := hE (12, some 7) (by simp)
      rw [if_pos (wanted_of (j := 7) (b := true) (d := 12) rfl rfl h12)]
      refine owe_value (v := .agg (byteCells y)) ?_ (Le.refl _ _) rfl
      have e1 : a.eval (.tmp 3) = _ := h3
      unfold execOp
      simp only [e1, load_dig w _ y hy (fun j _ => (hle.cells ⟨_, j, none⟩ by_.lt).trans (by_.cell j)), Sem.run_bind, Sem.run_pure, Result.andThen_ok]
    · intro a w hle hE
      have h16 : a.tmps.getD 16 undef = .agg (byteCells x) := hE (16, some 11) (by simp)
      have h17 : a.tmps.getD 17 undef = .agg (byteCells y) := hE (17, some 12) (by simp)
      have h12 : a.tmps.getD 12 undef = .bool true := hE (12, some 7) (by simp)
      rw [if_pos (wanted_of (j := 7) (b := true) (d := 12) rfl rfl h12)]
      refine owe_call (f := 25) (args := #[.agg (byteCells x), .agg (byteCells y)]) (by go_simp) ?_
      refine (refcompare_any x y hx hy w).mono ?_
      rintro e w1 ⟨rfl, hb⟩
      exact ⟨_, rfl, Le.of hb (Nat.le_trans hN hle.size), rfl⟩
    · intro a w hle hE
      have h18 : a.tmps.getD 18 undef = .int .i64 (cmpL x y) := hE (18, some 13) (by simp)
      have h12 : a.tmps.getD 12 undef = .bool true := hE (12, some 7) (by simp)
      rw [if_pos (wanted_of (j := 7) (b := true) (d := 12) rfl rfl h12)]
      refine owe_value (v := .int .i64 (-cmpL x y)) ?_ (Le.refl _ _) rfl
      go_simp
    · intro a w hle hE
      have h15 : a.tmps.getD 15 undef = .int .i64 (-cmpL x y) := hE (15, some 10) (by simp)
      have h19 : a.tmps.getD 19 undef = .int .i64 (-cmpL x y) := hE (19, some 14) (by simp)
      have h12 : a.tmps.getD 12 undef = .bool true := hE (12, some 7) (by simp)
      rw [if_pos (wanted_of (j := 7) (b := true) (d := 12) rfl rfl h12)]
      refine owe_value (v := .bool true) ?_ (Le.refl _ _) rfl
      go_simp
    · intro a w hle hE
      have h12 : a.tmps.getD 12 undef = .bool true := hE (12, some 7) (by simp)
      have h20 : a.tmps.getD 20 undef = .bool true := hE (20, some 15) (by simp)
      rw [if_pos (wanted_plain rfl)]
      refine owe_value (v := .bool true) ?_ (Le.refl _ _) rfl
      go_simp
    · intro a w hle hE
      have h21 : a.tmps.getD 21 undef = .bool true := hE (21, some 16) (by simp)
      rw [if_pos (wanted_plain rfl)]
      refine owe_value (v := .bool true) ?_ (Le.refl _ _) rfl
      go_simp
    · intro a w hle hE
      have h2 : a.tmps.getD 2 undef = .pointer (some ⟨R, 0, none⟩) := hE (2, none) (by simp)
      have h22 : a.tmps.getD 22 undef = .bool true := hE (22, some 17) (by simp)
      rw [if_pos (wanted_of (j := 17) (b := true) (d := 22) rfl rfl h22)]
      refine owe_value (v := .agg (byteCells x)) ?_ (Le.refl _ _) rfl
      have e1 : a.eval (.tmp 2) = _ := h2
      unfold execOp
      simp only [e1, load_dig w _ x hx (fun j _ => (hle.cells ⟨_, j, none⟩ bx.lt).trans (bx.cell j)), Sem.run_bind, Sem.run_pure, Result.andThen_ok]
    · intro a w hle hE
      have h2 : a.tmps.getD 2 undef = .pointer (some ⟨R, 0, none⟩) := hE (2, none) (by simp)
      have h22 : a.tmps.getD 22 undef = .bool true := hE (22, some 17) (by simp)
      rw [if_pos (wanted_of (j := 17) (b := true) (d := 22) rfl rfl h22)]
      refine owe_value (v := .agg (byteCells x)) ?_ (Le.refl _ _) rfl
      have e1 : a.eval (.tmp 2) = _ := h2
      unfold execOp
      simp only [e1, load_dig w _ x hx (fun j _ => (hle.cells ⟨_, j, none⟩ bx.lt).trans (bx.cell j)), Sem.run_bind, Sem.run_pure, Result.andThen_ok]
    · intro a w hle hE
      have h23 : a.tmps.getD 23 undef = .agg (byteCells x) := hE (23, some 18) (by simp)
      have h24 : a.tmps.getD 24 undef = .agg (byteCells x) := hE (24, some 19) (by simp)
      have h22 : a.tmps.getD 22 undef = .bool true := hE (22, some 17) (by simp)
      rw [if_pos (wanted_of (j := 17) (b := true) (d := 22) rfl rfl h22)]
      refine owe_call (f := 24) (args := #[.agg (byteCells x), .agg (byteCells x)]) (by go_simp) ?_
      refine (compare_any x x hx hx w).mono ?_
      rintro e w1 ⟨rfl, hb⟩
      exact ⟨_, rfl, Le.of hb (Nat.le_trans hN hle.size), by rw [cmpL_self]; rfl⟩
    · intro a w hle hE
      have h25 : a.tmps.getD 25 undef = .int .i64 0 := hE (25, some 20) (by simp)
      have h22 : a.tmps.getD 22 undef = .bool true := hE (22, some 17) (by simp)
      rw [if_pos (wanted_of (j := 17) (b := true) (d := 22) rfl rfl h22)]
      refine owe_value (v := .bool true) ?_ (Le.refl _ _) rfl
      go_simp
    · intro a w hle hE
      have h22 : a.tmps.getD 22 undef = .bool true := hE (22, some 17) (by simp)
      have h26 : a.tmps.getD 26 undef = .bool true := hE (26, some 21) (by simp)
      rw [if_pos (wanted_plain rfl)]
      refine owe_value (v := .bool true) ?_ (Le.refl _ _) rfl
      go_simp
    · intro a w hle hE
      have h27 : a.tmps.getD 27 undef = .bool true := hE (27, some 22) (by simp)
      rw [if_pos (wanted_plain rfl)]
      refine owe_value (v := .bool true) ?_ (Le.refl _ _) rfl
      go_simp
    · intro a w hle hE
      have h28 : a.tmps.getD 28 undef = .bool true := hE (28, some 23) (by simp)
      rw [if_pos (wanted_of (j := 23) (b := true) (d := 28) rfl rfl h28)]
      refine owe_call (f := 15) (args := #[]) (by go_simp) ?_
      refine (works_any w (hg.le hle hN2)).mono ?_
      rintro e w1 ⟨rfl, hb⟩
      exact ⟨_, rfl, Le.of hb (Nat.le_trans hN hle.size), rfl⟩
    · intro a w hle hE
      have h28 : a.tmps.getD 28 undef = .bool true := hE (28, some 23) (by simp)
      have h29 : a.tmps.getD 29 undef = .bool true := hE (29, some 24) (by simp)
      rw [if_pos (wanted_plain rfl)]
      refine owe_value (v := .bool true) ?_ (Le.refl _ _) rfl
      go_simp
    · intro a w hle hE
      have h30 : a.tmps.getD 30 undef = .bool true := hE (30, some 25) (by simp)
      rw [if_pos (wanted_plain rfl)]
      refine owe_value (v := .bool true) ?_ (Le.refl _ _) rfl
      go_simp
  case hend =>
    intro a w' hle hdef hsz hall hold
    have h0 : a.tmps.getD 4 undef = .bool true := hall 26 _ 4 rfl rfl
    go_wp2_with fail
    refine bodyPost_ret (results_tmp rfl _ _ _) hdef ?_
    exact ⟨by rw [h0], hB.trans (hle.below.mono (by rw [hNe]; exact hBs))⟩
end Go.Proofs.YtkcngkkjlnadiaaDoor
