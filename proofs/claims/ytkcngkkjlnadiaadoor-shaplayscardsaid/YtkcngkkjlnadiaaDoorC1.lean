/- Which of two digests comes first: sha.Compare, the document's Compare. -/
import Derived.Test.YtkcngkkjlnadiaaDoorB5
namespace Go.Proofs.YtkcngkkjlnadiaaDoor
open Go.RowKit

/-- By the first byte that is unlike. -/
def cmpL : List UInt8 → List UInt8 → Int
  | a :: x, b :: y => if a.toNat < b.toNat then -1 else if b.toNat < a.toNat then 1 else cmpL x y
  | _, _ => 0
theorem cmpL_neg : ∀ (x y : List UInt8), cmpL y x = -cmpL x y
  | [], [] => rfl
  | [], _ :: _ => rfl
  | _ :: _, [] => rfl
  | a :: x, b :: y => by
    unfold cmpL
    by_cases h1 : a.toNat < b.toNat
    · rw [if_neg (by omega), if_pos h1, if_pos h1]; rfl
    · by_cases h2 : b.toNat < a.toNat
      · rw [if_pos h2, if_neg h1, if_pos h2]
      · rw [if_neg h2, if_neg h1, if_neg h1, if_neg h2]; exact cmpL_neg x y
theorem cmpL_self : ∀ (x : List UInt8), cmpL x x = 0
  | [] => rfl
  | a :: x => by unfold cmpL; rw [if_neg (by omega), if_neg (by omega)]; exact cmpL_self x
theorem cmpL_drop (x y : List UInt8) (k : Nat) (hx : k < x.length) (hy : k < y.length) : cmpL (x.drop k) (y.drop k) =
    if (x[k]?.getD 0).toNat < (y[k]?.getD 0).toNat then -1 else if (y[k]?.getD 0).toNat < (x[k]?.getD 0).toNat then 1 else cmpL (x.drop (k + 1)) (y.drop (k + 1)) := by
  rw [List.drop_eq_getElem_cons hx, List.drop_eq_getElem_cons hy]
  simp only [cmpL, List.getElem?_eq_getElem hx, List.getElem?_eq_getElem hy, Option.getD_some]

def cmpB (a b : UInt8) : Int := if a.toNat < b.toNat then -1 else if b.toNat < a.toNat then 1 else 0
set_option maxHeartbeats 400000 in
theorem nan_any (a : UInt8) (w : World) : Calls Tryd.prog 45 #[.int .u8 (bv a)] w fun e w' => e = .returned (.bool false) ∧ w' = w := by
  go_enter Tryd.func45, Tryd.ntmps45
  go_wp2
  go_ret
  exact ⟨by simp, rfl⟩

set_option maxHeartbeats 400000 in
theorem cmp_any (a b : UInt8) (w : World) : Calls Tryd.prog 36 #[.int .u8 (bv a), .int .u8 (bv b)] w fun e w' => e = .returned (.int .i64 (cmpB a b)) ∧ w' = w := by
  unfold cmpB
  have ea : bv a = (a.toNat : Int) := rfl
  have eb : bv b = (b.toNat : Int) := rfl
  by_cases h1 : a.toNat < b.toNat
  · have i1 : bv a < bv b := by omega
    rw [if_pos h1]
    clear ea eb
    go_enter Tryd.func36, Tryd.ntmps36
    go_wp2_with (go_at_call 45; refine (nan_any _ _).mono ?_; rintro e w' ⟨rfl, rfl⟩)
    go_ret
    exact ⟨rfl, rfl⟩
  · rw [if_neg h1]
    have i1 : ¬ bv a < bv b := by omega
    by_cases h2 : b.toNat < a.toNat
    · have i2 : bv b < bv a := by omega
      rw [if_pos h2]
      clear ea eb
      go_enter Tryd.func36, Tryd.ntmps36
      go_wp2_with (go_at_call 45; refine (nan_any _ _).mono ?_; rintro e w' ⟨rfl, rfl⟩)
      go_ret
      exact ⟨rfl, rfl⟩
    · have i2 : ¬ bv b < bv a := by omega
      rw [if_neg h2]
      clear ea eb
      go_enter Tryd.func36, Tryd.ntmps36
      go_wp2_with (go_at_call 45; refine (nan_any _ _).mono ?_; rintro e w' ⟨rfl, rfl⟩)
      go_ret
      exact ⟨rfl, rfl⟩

set_option maxRecDepth 100000 in
set_option maxHeartbeats 1000000 in
theorem compare_any (x y : List UInt8) (hx : x.length = 32) (hy : y.length = 32) (w : World) :
    Calls Tryd.prog 24 #[.agg (byteCells x), .agg (byteCells y)] w fun e w' => e = .returned (.int .i64 (cmpL x y)) ∧ Below w.heap.size w w' := by
  have sx : (byteCells x).size = 32 := by rw [byteCells_size, hx]
  go_enter Tryd.func24, Tryd.ntmps24
  go_wp2_with (refine wpList_load_row rfl 25 _ rfl w.heap.size rfl 25 (byteCells x) (0, 0) _ (has_old (has_new _ _ _ _ rfl)) Tryd.underlying25 rfl (by rw [sx]; kernel_rfl) ?_)
  refine named (p := Code.wp _ _ _ _) ?_
  intro W0 hW0
  have hB : Below w.heap.size w W0 := by
    rw [hW0]; repeat (first | exact Below.refl _ _ | refine Below.alloc ?_ (by simp) _)
  have hY : Has W0 (w.heap.size + 1) (byteCells y) 25 := by rw [hW0]; exact has_new _ _ _ _ (by simp)
  clear hW0
  go_loop [8] (fun i => ∃ k : Nat, k ≤ 32 ∧ i = .int .i64 k ∧ Hid (cmpL x y = cmpL (x.drop k) (y.drop k))) (fun i => 32 - (intOf i).toNat)
  case atStart => exact ⟨0, by omega, rfl, rfl⟩
  case round =>
    obtain ⟨k, hk, rfl, hc⟩ := hrel
    by_cases hk32 : k < 32
    · have hidx := run_index32 (byteCells x) k _ hk32 (byteCells_at x k (by omega))
      have cy := (hY.cell k).trans (byteCells_at y k (by omega))
      have i1 : (k : Int) < 32 := by omega
      have hd : Hid (cmpL x y = if (x[k]?.getD 0).toNat < (y[k]?.getD 0).toNat then -1 else if (y[k]?.getD 0).toNat < (x[k]?.getD 0).toNat then 1 else cmpL (x.drop (k + 1)) (y.drop (k + 1))) := by
        show _ = _; rw [hc.out, cmpL_drop x y k (by omega) (by omega)]
      generalize x[k]?.getD 0 = a at *
      generalize y[k]?.getD 0 = b at *
      by_cases hab : a = b
      · subst hab
        have t1 : (bv a != bv a) = false := by simp
        go_wp2_with fail
        go_round
        case rel => exact ⟨k + 1, by omega, by go_num, by show _ = _; rw [hd.out, if_neg (by omega), if_neg (by omega)]⟩
        case measure => simp [intOf]; omega
      · have t1 : (bv a != bv b) = true := by
          rw [bne_iff_ne]; intro h; apply hab; unfold bv at h; exact UInt8.toNat_inj.1 (by omega)
        have hr : Hid (cmpL x y = cmpB a b) := by
          show _ = _
          unfold cmpB
          have : a.toNat ≠ b.toNat := fun h => hab (UInt8.toNat_inj.1 h)
          rw [hd.out]
          by_cases h1 : a.toNat < b.toNat
          · rw [if_pos h1, if_pos h1]
          · rw [if_neg h1, if_neg h1, if_pos (by omega), if_pos (by omega)]
        go_wp2_with (go_at_call 36; refine (cmp_any _ _ _).mono ?_; rintro e w' ⟨rfl, hw⟩; obtain rfl := hw.symm)
        go_ret
        exact ⟨by rw [hr.out]; rfl, hB⟩
    · have e32 : k = 32 := by omega
      subst e32
      go_wp2_with fail
      go_ret
      exact ⟨by rw [hc.out, List.drop_of_length_le (by omega), List.drop_of_length_le (by omega)]; rfl, hB⟩

set_option maxRecDepth 100000 in
set_option maxHeartbeats 1000000 in
theorem refcompare_any (x y : List UInt8) (hx : x.length = 32) (hy : y.length = 32) (w : World) :
    Calls Tryd.prog 25 #[.agg (byteCells x), .agg (byteCells y)] w fun e w' => e = .returned (.int .i64 (cmpL x y)) ∧ Below w.heap.size w w' := by
  go_enter Tryd.func25, Tryd.ntmps25
  go_wp2_with fail
  refine named (p := Code.wp _ _ _ _) ?_
  intro W0 hW0
  have hB : Below w.heap.size w W0 := by
    rw [hW0]; repeat (first | exact Below.refl _ _ | refine Below.alloc ?_ (by simp) _)
  have hX : Has W0 w.heap.size (byteCells x) 25 := by rw [hW0]; exact has_old (has_new _ _ _ _ rfl)
  have hY : Has W0 (w.heap.size + 1) (byteCells y) 25 := by rw [hW0]; exact has_new _ _ _ _ (by simp)
  clear hW0
  go_loopw [5] (fun i wr => ∃ k : Nat, k ≤ 32 ∧ i = .int .i64 k ∧ Hid (cmpL x y = cmpL (x.drop k) (y.drop k)) ∧ Hid (∃ n, wr = W0.drewN n)) (fun i _ => 32 - (intOf i).toNat)
  case atStart => exact ⟨0, by omega, rfl, rfl, ⟨0, rfl⟩⟩
  case round =>
    obtain ⟨k, hk, rfl, hc, hn⟩ := hrel
    have hBr : Below w.heap.size w wr := by obtain ⟨n, e⟩ := hn.out; rw [e]; exact ⟨hB.os, hB.tape, hB.output, hB.size, hB.block⟩
    have hXr : Has wr w.heap.size (byteCells x) 25 := by obtain ⟨n, e⟩ := hn.out; rw [e]; exact hX
    have hYr : Has wr (w.heap.size + 1) (byteCells y) 25 := by obtain ⟨n, e⟩ := hn.out; rw [e]; exact hY
    by_cases hk32 : k < 32
    · have cx := (hXr.cell k).trans (byteCells_at x k (by omega))
      have cy := (hYr.cell k).trans (byteCells_at y k (by omega))
      have i1 : (k : Int) < 32 := by omega
      have hd : Hid (cmpL x y = if (x[k]?.getD 0).toNat < (y[k]?.getD 0).toNat then -1 else if (y[k]?.getD 0).toNat < (x[k]?.getD 0).toNat then 1 else cmpL (x.drop (k + 1)) (y.drop (k + 1))) := by
        show _ = _; rw [hc.out, cmpL_drop x y k (by omega) (by omega)]
      generalize x[k]?.getD 0 = a at *
      generalize y[k]?.getD 0 = b at *
      have ea : Hid (bv a = (a.toNat : Int) ∧ bv b = (b.toNat : Int)) := ⟨rfl, rfl⟩
      by_cases h1 : a.toNat < b.toNat
      · have t1 : bv a < bv b := by have := ea.out; omega
        go_wp2_with fail
        go_quiet (fail)
        go_wp2_with fail
        go_ret
        exact ⟨by rw [hd.out, if_pos h1]; rfl, ⟨hBr.os, hBr.tape, hBr.output, hBr.size, hBr.block⟩⟩
      · have t1 : ¬ bv a < bv b := by have := ea.out; omega
        by_cases h2 : b.toNat < a.toNat
        · have t2 : bv b < bv a := by have := ea.out; omega
          go_wp2_with fail
          go_quiet (fail)
          go_wp2_with fail
          go_quiet (fail)
          go_wp2_with fail
          go_ret
          exact ⟨by rw [hd.out, if_neg h1, if_pos h2]; rfl, ⟨hBr.os, hBr.tape, hBr.output, hBr.size, hBr.block⟩⟩
        · have t2 : ¬ bv b < bv a := by have := ea.out; omega
          go_wp2_with fail
          go_quiet (fail)
          go_wp2_with fail
          go_quiet (fail)
          go_wp2_with fail
          go_roundw
          case rel => exact ⟨k + 1, by omega, by go_num, by show _ = _; rw [hd.out, if_neg h1, if_neg h2], by obtain ⟨n, e⟩ := hn.out; rw [e]; show ∃ m, _ = _; exact ⟨_, by rw [World.drewN_drewN]⟩⟩
          case measure => simp [intOf]; omega
    · have e32 : k = 32 := by omega
      subst e32
      go_wp2_with fail
      go_ret
      exact ⟨by rw [hc.out, List.drop_of_length_le (by omega), List.drop_of_length_le (by omega)]; rfl, hBr⟩
end Go.Proofs.YtkcngkkjlnadiaaDoor
