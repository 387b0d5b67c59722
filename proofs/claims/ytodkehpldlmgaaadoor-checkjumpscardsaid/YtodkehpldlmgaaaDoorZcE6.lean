/- Jumps of two ranges. -/
import Derived.Test.YtodkehpldlmgaaaDoorZcE3
import Derived.Test.YtodkehpldlmgaaaDoorZcE5
import Derived.Test.YtodkehpldlmgaaaDoorZq2
import Derived.Deep.Cut
namespace Go.Proofs.YtodkehpldlmgaaaDoor
open Go.RowKit

set_option maxRecDepth 10000 in
set_option maxHeartbeats 4000000 in
theorem jumps_e0 (ss : Bool) (dl dg sl sg xa xb imm : Nat) (w : World) (hG : Glob w) :
    Calls Tryd.prog 6 #[.agg #[.bool false, .int .u32 (dl : Int), .int .u32 (dg : Int)], .agg #[.bool ss, .int .u32 (sl : Int), .int .u32 (sg : Int)], .agg #[.int .u32 (xa : Int), .int .u32 (xb : Int), .int .u32 (imm : Int)]] w fun e w' => e = .returned (.bool true) ∧ Below w.heap.size w w' := by
  have hB0 : Below w.heap.size w (((w.alloc (.cells #[.bool false, .int .u32 (dl : Int), .int .u32 (dg : Int)] 40)).alloc (.cells #[.bool ss, .int .u32 (sl : Int), .int .u32 (sg : Int)] 40)).alloc (.cells #[.int .u32 (xa : Int), .int .u32 (xb : Int), .int .u32 (imm : Int)] 57)) := (((Below.refl _ _).alloc (Nat.le_refl _) _).alloc (by simp) _).alloc (by simp; omega) _
  have hkn := knownl_any _ (hG.below hB0 hG.size)
  have HB0 := hB0
  clear hG hB0
  go_enter Tryd.func6, Tryd.ntmps6
  go_wp2_with (go_at_call 12; refine hkn.mono ?_; rintro e W1 ⟨rfl, hB1⟩)
  go_ret
  exact ⟨rfl, HB0.trans (hB1.mono HB0.size)⟩
set_option maxRecDepth 10000 in
set_option maxHeartbeats 4000000 in
theorem jumps_e1 (dl dg sl sg xa xb imm : Nat) (w : World) (hG : Glob w) :
    Calls Tryd.prog 6 #[.agg #[.bool true, .int .u32 (dl : Int), .int .u32 (dg : Int)], .agg #[.bool false, .int .u32 (sl : Int), .int .u32 (sg : Int)], .agg #[.int .u32 (xa : Int), .int .u32 (xb : Int), .int .u32 (imm : Int)]] w fun e w' => e = .returned (.bool true) ∧ Below w.heap.size w w' := by
  have hB0 : Below w.heap.size w (((w.alloc (.cells #[.bool true, .int .u32 (dl : Int), .int .u32 (dg : Int)] 40)).alloc (.cells #[.bool false, .int .u32 (sl : Int), .int .u32 (sg : Int)] 40)).alloc (.cells #[.int .u32 (xa : Int), .int .u32 (xb : Int), .int .u32 (imm : Int)] 57)) := (((Below.refl _ _).alloc (Nat.le_refl _) _).alloc (by simp) _).alloc (by simp; omega) _
  have hkn := knownl_any _ (hG.below hB0 hG.size)
  have HB0 := hB0
  clear hG hB0
  go_enter Tryd.func6, Tryd.ntmps6
  go_wp2_with (go_at_call 12; refine hkn.mono ?_; rintro e W1 ⟨rfl, hB1⟩)
  go_ret
  exact ⟨rfl, HB0.trans (hB1.mono HB0.size)⟩
set_option maxRecDepth 10000 in
set_option maxHeartbeats 4000000 in
theorem jumps_e2 (dl dg sl sg xa xb imm : Nat) (w : World) (hG : Glob w) (h1 : (dg : Int) < (dl : Int)) :
    Calls Tryd.prog 6 #[.agg #[.bool true, .int .u32 (dl : Int), .int .u32 (dg : Int)], .agg #[.bool true, .int .u32 (sl : Int), .int .u32 (sg : Int)], .agg #[.int .u32 (xa : Int), .int .u32 (xb : Int), .int .u32 (imm : Int)]] w fun e w' => e = .returned (.bool true) ∧ Below w.heap.size w w' := by
  have hB0 : Below w.heap.size w (((w.alloc (.cells #[.bool true, .int .u32 (dl : Int), .int .u32 (dg : Int)] 40)).alloc (.cells #[.bool true, .int .u32 (sl : Int), .int .u32 (sg : Int)] 40)).alloc (.cells #[.int .u32 (xa : Int), .int .u32 (xb : Int), .int .u32 (imm : Int)] 57)) := (((Below.refl _ _).alloc (Nat.le_refl _) _).alloc (by simp) _).alloc (by simp; omega) _
  have hkn := knownl_any _ (hG.below hB0 hG.size)
  have HB0 := hB0
  clear hG hB0
  go_enter Tryd.func6, Tryd.ntmps6
  go_wp2_with (go_at_call 12; refine hkn.mono ?_; rintro e W1 ⟨rfl, hB1⟩)
  go_ret
  exact ⟨rfl, HB0.trans (hB1.mono HB0.size)⟩
set_option maxRecDepth 10000 in
set_option maxHeartbeats 4000000 in
theorem jumps_e3 (dl dg sl sg xa xb imm : Nat) (w : World) (hG : Glob w) (h1 : ¬ (dg : Int) < (dl : Int)) (h2 : (sg : Int) < (sl : Int)) :
    Calls Tryd.prog 6 #[.agg #[.bool true, .int .u32 (dl : Int), .int .u32 (dg : Int)], .agg #[.bool true, .int .u32 (sl : Int), .int .u32 (sg : Int)], .agg #[.int .u32 (xa : Int), .int .u32 (xb : Int), .int .u32 (imm : Int)]] w fun e w' => e = .returned (.bool true) ∧ Below w.heap.size w w' := by
  have hB0 : Below w.heap.size w (((w.alloc (.cells #[.bool true, .int .u32 (dl : Int), .int .u32 (dg : Int)] 40)).alloc (.cells #[.bool true, .int .u32 (sl : Int), .int .u32 (sg : Int)] 40)).alloc (.cells #[.int .u32 (xa : Int), .int .u32 (xb : Int), .int .u32 (imm : Int)] 57)) := (((Below.refl _ _).alloc (Nat.le_refl _) _).alloc (by simp) _).alloc (by simp; omega) _
  have hkn := knownl_any _ (hG.below hB0 hG.size)
  have HB0 := hB0
  clear hG hB0
  go_enter Tryd.func6, Tryd.ntmps6
  go_wp2_with (go_at_call 12; refine hkn.mono ?_; rintro e W1 ⟨rfl, hB1⟩)
  go_ret
  exact ⟨rfl, HB0.trans (hB1.mono HB0.size)⟩
/-- The world of two ranges and three words, and what is known. -/
structure JB (w : World) (dl dg sl sg xa xb imm b9 : Nat) (k : Kn) (X : World) : Prop where
  d : Has X w.heap.size #[.bool true, .int .u32 (dl : Int), .int .u32 (dg : Int)] 40
  s : Has X (w.heap.size + 1) #[.bool true, .int .u32 (sl : Int), .int .u32 (sg : Int)] 40
  x : Has X (w.heap.size + 2) #[.int .u32 (xa : Int), .int .u32 (xb : Int), .int .u32 (imm : Int)] 57
  k : Has X b9 k.a 43
  below : Below w.heap.size w X
  lt : w.heap.size + 2 < b9
theorem JB.grow {w : World} {dl dg sl sg xa xb imm b9 : Nat} {k : Kn} {X X' : World} (h : JB w dl dg sl sg xa xb imm b9 k X) (g : Below X.heap.size X X') : JB w dl dg sl sg xa xb imm b9 k X' :=
  ⟨h.d.below g h.d.lt, h.s.below g h.s.lt, h.x.below g h.x.lt, h.k.below g h.k.lt, h.below.trans (g.mono h.below.size), h.lt⟩
theorem JB.set {w : World} {dl dg sl sg xa xb imm b9 : Nat} {k : Kn} {X : World} (h : JB w dl dg sl sg xa xb imm b9 k X) (n : Nat) (hn : n < 10) (r : Rg) : JB w dl dg sl sg xa xb imm b9 (k.set n r) (X.setCells b9 (1 + n * 3) r.cells) := by
  obtain ⟨g1, g2⟩ := setReg h.k n hn r
  have := h.lt
  exact ⟨h.d.ex g2 (by omega), h.s.ex g2 (by omega), h.x.ex g2 (by omega), g1, Below.ex h.below h.below.size g2 (by omega), h.lt⟩
theorem two_range {X : World} {b : Nat} {k : Kn} (h : Has X b k.a 43) (n : Nat) (hn : n < 10) : X.rangeAt b (1 + n * 3) (k.r n).cells := kn_reg h n hn
theorem both_below {B ty : Nat} {x y : Array Value} {W : World} {u v : Value} {X : World} (h : Both B ty x y W u v X) : Below B W X := by
  obtain ⟨b, c, _, _, _, _, _, _, _, h⟩ := h
  exact h
theorem jmp_row (imm : Nat) (X : World) (b : Nat) (h : Has X b #[.int .i64 20, .int .i64 3, .int .i64 0, .int .i64 1, .int .u32 (imm : Int), .int .i64 21, .int .i64 3, .int .i64 0, .int .i64 1, .int .u32 (imm : Int), .int .i64 22, .int .i64 3, .int .i64 4, .int .i64 1, .int .u32 0, .int .i64 22, .int .i64 3, .int .i64 3, .int .i64 1, .int .u32 0] 38) (j : Nat) (hj : j < 4) : X.rangeAt b (j * 5) (jmpI imm j).cells := by
  obtain rfl | rfl | rfl | rfl : j = 0 ∨ j = 1 ∨ j = 2 ∨ j = 3 := by omega
  all_goals
    refine has_range h _ _ fun q hq => ?_
    have hq5 : q < 5 := hq
    obtain rfl | rfl | rfl | rfl | rfl : q = 0 ∨ q = 1 ∨ q = 2 ∨ q = 3 ∨ q = 4 := by omega
    all_goals rfl
theorem jmp_take (a b imm : Nat) (X : World) (c : Nat) (h : Has X c #[.bool ((a : Int) == (imm : Int)), .bool (decide (a < imm)), .bool (decide (a < b)), .bool false] 4) (j : Nat) (hj : j < 4) : X.cell? ⟨c, j, none⟩ = some (.bool (jmpT a b imm j)) := by
  obtain rfl | rfl | rfl | rfl : j = 0 ∨ j = 1 ∨ j = 2 ∨ j = 3 := by omega
  · rw [h.cell, show jmpT a b imm 0 = ((a : Int) == (imm : Int)) by
      show decide (a = imm) = _
      rw [Bool.eq_iff_iff]; simp; omega]
    rfl
  · rw [h.cell]; rfl
  · rw [h.cell]; rfl
  · rw [h.cell]; rfl
set_option maxRecDepth 10000 in
set_option maxHeartbeats 4000000 in
theorem jumps_main (dl dg sl sg xa xb imm : Nat) (w : World) (hG : Glob w) (hd : dg < 4294967296) (hs : sg < 4294967296) (hxa : xa < 4294967296) (hxb : xb < 4294967296) (him : imm < 4294967296) (h1 : ¬ (dg : Int) < (dl : Int)) (h2 : ¬ (sg : Int) < (sl : Int)) :
    Calls Tryd.prog 6 #[.agg #[.bool true, .int .u32 (dl : Int), .int .u32 (dg : Int)], .agg #[.bool true, .int .u32 (sl : Int), .int .u32 (sg : Int)], .agg #[.int .u32 (xa : Int), .int .u32 (xb : Int), .int .u32 (imm : Int)]] w fun e w' => e = .returned (.bool true) ∧ Below w.heap.size w w' := by
  have hda := word_in (show dl ≤ dg by omega) xa
  have hdb := word_in (show sl ≤ sg by omega) xb
  have HBEH : Hid (∀ j, ∃ n m, behV (jmpI imm j) 0 (twoK ⟨true, dl, dg⟩ ⟨true, sl, sg⟩) = (n, m, 0) ∧ goneBy (wordN dl dg xa) (wordN sl sg xb) (if jmpT (wordN dl dg xa) (wordN sl sg xb) imm j then m else n)) := fun j => jmp_beh hda.1 hda.2 hd hdb.1 hdb.2 hs him j
  have HOK : Hid (KOk (twoK ⟨true, dl, dg⟩ ⟨true, sl, sg⟩)) := (twoK_right (d := ⟨true, dl, dg⟩) (s := ⟨true, sl, sg⟩) (good_from (l := dl) (g := dg) (by omega) hd) (good_from (l := sl) (g := sg) (by omega) hs)).ok
  have HIM : Hid (imm < 4294967296) := him
  have hwa := fun W => word_any true dl dg xa W (by omega) hd hxa
  have hwb := fun W => word_any true sl sg xb W (by omega) hs hxb
  clear hda hdb him
  obtain ⟨W0, hW0⟩ : ∃ W0, W0 = ((w.alloc (.cells #[.bool true, .int .u32 (dl : Int), .int .u32 (dg : Int)] 40)).alloc (.cells #[.bool true, .int .u32 (sl : Int), .int .u32 (sg : Int)] 40)).alloc (.cells #[.int .u32 (xa : Int), .int .u32 (xb : Int), .int .u32 (imm : Int)] 57) := ⟨_, rfl⟩
  have hd0 : Has W0 w.heap.size #[.bool true, .int .u32 (dl : Int), .int .u32 (dg : Int)] 40 := by rw [hW0]; exact has_old (has_old (has_new _ _ _ _ rfl))
  have hs0 : Has W0 (w.heap.size + 1) #[.bool true, .int .u32 (sl : Int), .int .u32 (sg : Int)] 40 := by rw [hW0]; exact has_old (has_new _ _ _ _ (by simp))
  have hx0 : Has W0 (w.heap.size + 2) #[.int .u32 (xa : Int), .int .u32 (xb : Int), .int .u32 (imm : Int)] 57 := by rw [hW0]; exact has_new _ _ _ _ (by simp)
  have hB0 : Below w.heap.size w W0 := by rw [hW0]; exact (((Below.refl _ _).alloc (Nat.le_refl _) _).alloc (by simp) _).alloc (by simp; omega) _
  go_enter Tryd.func6, Tryd.ntmps6
  go_upto_region 3 with fail
  rw [← hW0]
  clear hW0
  have c0 : W0.cell? ⟨w.heap.size + 2, 0, none⟩ = some (.int .u32 (xa : Int)) := hx0.cell 0
  go_upto_region 4 with (first | refine wpList_load_row_if rfl 40 _ rfl w.heap.size (by kernel_rfl) 40 #[.bool true, .int .u32 (dl : Int), .int .u32 (dg : Int)] (0, 0) _ hd0 Tryd.underlying40 rfl (by kernel_rfl) ?_ | (go_at_call 21; refine (hwa _).mono ?_; rintro e W1 ⟨rfl, hB1⟩; clear c0))
  have hd1 := hd0.below hB1 hd0.lt
  have hs1 := hs0.below hB1 hs0.lt
  have hx1 := hx0.below hB1 hx0.lt
  have hBw1 := hB0.trans (hB1.mono hB0.size)
  clear hd0 hs0 hx0 hB0 hB1 hwa
  have c0 : W1.cell? ⟨w.heap.size + 2, 1, none⟩ = some (.int .u32 (xb : Int)) := hx1.cell 1
  go_upto_region 5 with (first | refine wpList_load_row_if rfl 40 _ rfl (w.heap.size + 1) (by kernel_rfl) 40 #[.bool true, .int .u32 (sl : Int), .int .u32 (sg : Int)] (0, 0) _ hs1 Tryd.underlying40 rfl (by kernel_rfl) ?_ | (go_at_call 21; refine (hwb _).mono ?_; rintro e W2 ⟨rfl, hB2⟩; clear c0))
  have hd2 := hd1.below hB2 hd1.lt
  have hs2 := hs1.below hB2 hs1.lt
  have hx2 := hx1.below hB2 hx1.lt
  have hBw2 := hBw1.trans (hB2.mono hBw1.size)
  clear hd1 hs1 hx1 hBw1 hB2 hwb
  generalize hwna : wordN dl dg xa = a at *
  generalize hwnb : wordN sl sg xb = b at *
  clear hwna hwnb
  obtain ⟨b9, hb9⟩ : ∃ b9, b9 = W2.heap.size := ⟨_, rfl⟩
  have hz0 : Has (W2.alloc (.cells #[.bool false, .bool false, .int .u32 0, .int .u32 0, .bool false, .int .u32 0, .int .u32 0, .bool false, .int .u32 0, .int .u32 0, .bool false, .int .u32 0, .int .u32 0, .bool false, .int .u32 0, .int .u32 0, .bool false, .int .u32 0, .int .u32 0, .bool false, .int .u32 0, .int .u32 0, .bool false, .int .u32 0, .int .u32 0, .bool false, .int .u32 0, .int .u32 0, .bool false, .int .u32 0, .int .u32 0] 43)) b9 #[.bool false, .bool false, .int .u32 0, .int .u32 0, .bool false, .int .u32 0, .int .u32 0, .bool false, .int .u32 0, .int .u32 0, .bool false, .int .u32 0, .int .u32 0, .bool false, .int .u32 0, .int .u32 0, .bool false, .int .u32 0, .int .u32 0, .bool false, .int .u32 0, .int .u32 0, .bool false, .int .u32 0, .int .u32 0, .bool false, .int .u32 0, .int .u32 0, .bool false, .int .u32 0, .int .u32 0] 43 := has_new _ _ _ _ hb9
  have hlt9 : w.heap.size + 2 < b9 := by rw [hb9]; exact hx2.lt
  have hJ : JB w dl dg sl sg xa xb imm b9 comeK ((W2.alloc (.cells #[.bool false, .bool false, .int .u32 0, .int .u32 0, .bool false, .int .u32 0, .int .u32 0, .bool false, .int .u32 0, .int .u32 0, .bool false, .int .u32 0, .int .u32 0, .bool false, .int .u32 0, .int .u32 0, .bool false, .int .u32 0, .int .u32 0, .bool false, .int .u32 0, .int .u32 0, .bool false, .int .u32 0, .int .u32 0, .bool false, .int .u32 0, .int .u32 0, .bool false, .int .u32 0, .int .u32 0] 43)).setRow b9 #[.bool true, .bool false, .int .u32 0, .int .u32 0, .bool false, .int .u32 0, .int .u32 0, .bool false, .int .u32 0, .int .u32 0, .bool false, .int .u32 0, .int .u32 0, .bool false, .int .u32 0, .int .u32 0, .bool false, .int .u32 0, .int .u32 0, .bool false, .int .u32 0, .int .u32 0, .bool false, .int .u32 0, .int .u32 0, .bool false, .int .u32 0, .int .u32 0, .bool false, .int .u32 0, .int .u32 0]) := by
    have g1 : Below W2.heap.size W2 (W2.alloc (.cells #[.bool false, .bool false, .int .u32 0, .int .u32 0, .bool false, .int .u32 0, .int .u32 0, .bool false, .int .u32 0, .int .u32 0, .bool false, .int .u32 0, .int .u32 0, .bool false, .int .u32 0, .int .u32 0, .bool false, .int .u32 0, .int .u32 0, .bool false, .int .u32 0, .int .u32 0, .bool false, .int .u32 0, .int .u32 0, .bool false, .int .u32 0, .int .u32 0, .bool false, .int .u32 0, .int .u32 0] 43)) := (Below.refl _ _).alloc (Nat.le_refl _) _
    have g2 := setRow_ex (W2.alloc (.cells #[.bool false, .bool false, .int .u32 0, .int .u32 0, .bool false, .int .u32 0, .int .u32 0, .bool false, .int .u32 0, .int .u32 0, .bool false, .int .u32 0, .int .u32 0, .bool false, .int .u32 0, .int .u32 0, .bool false, .int .u32 0, .int .u32 0, .bool false, .int .u32 0, .int .u32 0, .bool false, .int .u32 0, .int .u32 0, .bool false, .int .u32 0, .int .u32 0, .bool false, .int .u32 0, .int .u32 0] 43)) b9 #[.bool true, .bool false, .int .u32 0, .int .u32 0, .bool false, .int .u32 0, .int .u32 0, .bool false, .int .u32 0, .int .u32 0, .bool false, .int .u32 0, .int .u32 0, .bool false, .int .u32 0, .int .u32 0, .bool false, .int .u32 0, .int .u32 0, .bool false, .int .u32 0, .int .u32 0, .bool false, .int .u32 0, .int .u32 0, .bool false, .int .u32 0, .int .u32 0, .bool false, .int .u32 0, .int .u32 0]
    exact ⟨(hd2.below g1 hd2.lt).ex g2 (by omega), (hs2.below g1 hs2.lt).ex g2 (by omega), (hx2.below g1 hx2.lt).ex g2 (by omega), setRow_has hz0 _, Below.ex (hBw2.trans (g1.mono hBw2.size)) (Nat.le_trans hBw2.size g1.size) g2 (by omega), hlt9⟩
  have HJ : Hid (JB w dl dg sl sg xa xb imm b9 comeK ((W2.alloc (.cells #[.bool false, .bool false, .int .u32 0, .int .u32 0, .bool false, .int .u32 0, .int .u32 0, .bool false, .int .u32 0, .int .u32 0, .bool false, .int .u32 0, .int .u32 0, .bool false, .int .u32 0, .int .u32 0, .bool false, .int .u32 0, .int .u32 0, .bool false, .int .u32 0, .int .u32 0, .bool false, .int .u32 0, .int .u32 0, .bool false, .int .u32 0, .int .u32 0, .bool false, .int .u32 0, .int .u32 0] 43)).setRow b9 #[.bool true, .bool false, .int .u32 0, .int .u32 0, .bool false, .int .u32 0, .int .u32 0, .bool false, .int .u32 0, .int .u32 0, .bool false, .int .u32 0, .int .u32 0, .bool false, .int .u32 0, .int .u32 0, .bool false, .int .u32 0, .int .u32 0, .bool false, .int .u32 0, .int .u32 0, .bool false, .int .u32 0, .int .u32 0, .bool false, .int .u32 0, .int .u32 0, .bool false, .int .u32 0, .int .u32 0])) := hJ
  clear hJ hd2 hs2 hx2 hBw2 hlt9
  go_upto_region 6 with (refine wpList_store_row rfl 43 _ _ rfl b9 #[.bool true, .bool false, .int .u32 0, .int .u32 0, .bool false, .int .u32 0, .int .u32 0, .bool false, .int .u32 0, .int .u32 0, .bool false, .int .u32 0, .int .u32 0, .bool false, .int .u32 0, .int .u32 0, .bool false, .int .u32 0, .int .u32 0, .bool false, .int .u32 0, .int .u32 0, .bool false, .int .u32 0, .int .u32 0, .bool false, .int .u32 0, .int .u32 0, .bool false, .int .u32 0, .int .u32 0] (by rw [hb9]; kernel_rfl) (by kernel_rfl) 43 #[.bool false, .bool false, .int .u32 0, .int .u32 0, .bool false, .int .u32 0, .int .u32 0, .bool false, .int .u32 0, .int .u32 0, .bool false, .int .u32 0, .int .u32 0, .bool false, .int .u32 0, .int .u32 0, .bool false, .int .u32 0, .int .u32 0, .bool false, .int .u32 0, .int .u32 0, .bool false, .int .u32 0, .int .u32 0, .bool false, .int .u32 0, .int .u32 0, .bool false, .int .u32 0, .int .u32 0] hz0 (by kernel_rfl) (by kernel_rfl) (by kernel_rfl) ?_)
  rw [← hb9]
  clear hz0 hb9
  generalize ((W2.alloc (.cells #[.bool false, .bool false, .int .u32 0, .int .u32 0, .bool false, .int .u32 0, .int .u32 0, .bool false, .int .u32 0, .int .u32 0, .bool false, .int .u32 0, .int .u32 0, .bool false, .int .u32 0, .int .u32 0, .bool false, .int .u32 0, .int .u32 0, .bool false, .int .u32 0, .int .u32 0, .bool false, .int .u32 0, .int .u32 0, .bool false, .int .u32 0, .int .u32 0, .bool false, .int .u32 0, .int .u32 0] 43)).setRow b9 #[.bool true, .bool false, .int .u32 0, .int .u32 0, .bool false, .int .u32 0, .int .u32 0, .bool false, .int .u32 0, .int .u32 0, .bool false, .int .u32 0, .int .u32 0, .bool false, .int .u32 0, .int .u32 0, .bool false, .int .u32 0, .int .u32 0, .bool false, .int .u32 0, .int .u32 0, .bool false, .int .u32 0, .int .u32 0, .bool false, .int .u32 0, .int .u32 0, .bool false, .int .u32 0, .int .u32 0]) = W4 at *
  generalize (Value.agg #[.bool true, .bool false, .int .u32 0, .int .u32 0, .bool false, .int .u32 0, .int .u32 0, .bool false, .int .u32 0, .int .u32 0, .bool false, .int .u32 0, .int .u32 0, .bool false, .int .u32 0, .int .u32 0, .bool false, .int .u32 0, .int .u32 0, .bool false, .int .u32 0, .int .u32 0, .bool false, .int .u32 0, .int .u32 0, .bool false, .int .u32 0, .int .u32 0, .bool false, .int .u32 0, .int .u32 0]) = u49
  go_simp
  refine wp_region_inv (Φ := fun l vs X => Vals (fun q => match q with | 0 => some (.agg #[.bool true, .int .u32 (dl : Int), .int .u32 (dg : Int)]) | 1 => some (.agg #[.bool true, .int .u32 (sl : Int), .int .u32 (sg : Int)]) | 2 => some (.pointer (some ⟨b9, 1, none⟩)) | 3 => some (.pointer (some ⟨b9, 10, none⟩)) | 5 => some (.pointer (some ⟨b9, 1, none⟩)) | 6 => some (.pointer (some ⟨b9, 13, none⟩)) | _ => none) l vs ∧ Pre2 4 7 (Below W4.heap.size W4) (JB w dl dg sl sg xa xb imm b9 (comeK.set 3 ⟨true, dl, dg⟩)) (JB w dl dg sl sg xa xb imm b9 (twoK ⟨true, dl, dg⟩ ⟨true, sl, sg⟩)) l X) (PQ := fun _ _ => False)
    (by kernel_rfl) (by kernel_rfl) (by kernel_rfl) (by kernel_rfl) ⟨Vals.none _ _, Pre2.start ((Below.refl _ _).drew)⟩ ?hop ?hend (fun _ _ _ _ h => h.elim)
  case hop =>
    refine ⟨?_, ?_, ?_, ?_, ?_, ?_, ?_, ?_, trivial⟩
    · intro l vs X A hA ⟨hV, hS⟩ hl hd hcl
      have hj := notYet (k := 4) hcl (by kernel_rfl) hl
      have hk := notYet (k := 7) hcl (by kernel_rfl) hl
      have hX := hS.1 hj
      have hB := hX
      have a3 := eval_old hA 3 (by kernel_rfl) rfl
      refine show_value (v := .agg #[.bool true, .int .u32 (dl : Int), .int .u32 (dg : Int)]) (X' := X) (run_ld 40 _ rfl _ a3 (ld_row (l := Rg.cells ⟨true, dl, dg⟩) (has_whole ((HJ.out.grow hB).d)) (by kernel_rfl))) ⟨hV.upd (fun _ h => Option.some.inj h), Pre2.keep hj hk (by decide) (by decide) (hX)⟩
    · intro l vs X A hA ⟨hV, hS⟩ hl hd hcl
      have hk := notYet (k := 7) hcl (by kernel_rfl) hl
      have a4 := eval_old hA 4 (by kernel_rfl) rfl
      cases hj : l 4 with
      | true =>
        have hX := hS.2.1 hj hk
        exact show_value (v := .agg #[.bool true, .int .u32 (sl : Int), .int .u32 (sg : Int)]) (X' := X) (run_ld 40 _ rfl _ a4 (ld_row (l := Rg.cells ⟨true, sl, sg⟩) (has_whole hX.s) (by kernel_rfl))) ⟨hV.upd (fun _ h => Option.some.inj h), Pre2.keepMid hj hk (by decide) (by decide) hX⟩
      | false =>
        have hX := hS.1 hj
        have hB := hX
        exact show_value (v := .agg #[.bool true, .int .u32 (sl : Int), .int .u32 (sg : Int)]) (X' := X) (run_ld 40 _ rfl _ a4 (ld_row (l := Rg.cells ⟨true, sl, sg⟩) (has_whole ((HJ.out.grow hB).s)) (by kernel_rfl))) ⟨hV.upd (fun _ h => Option.some.inj h), Pre2.keep hj hk (by decide) (by decide) hX⟩
    · intro l vs X A hA ⟨hV, hS⟩ hl hd hcl
      have hj := notYet (k := 4) hcl (by kernel_rfl) hl
      have hk := notYet (k := 7) hcl (by kernel_rfl) hl
      have hX := hS.1 hj
      have hB := hX
      have a9 := eval_old hA 9 (by kernel_rfl) rfl
      refine show_value (v := .pointer (some ⟨b9, 1, none⟩)) (X' := X) ?_ ⟨hV.upd (fun _ h => Option.some.inj h), Pre2.keep hj hk (by decide) (by decide) (hX)⟩
      generalize A.eval = ρ at *
      clear hA hl hd hcl hV hS
      go_simp
    · intro l vs X A hA ⟨hV, hS⟩ hl hd hcl
      have hj := notYet (k := 4) hcl (by kernel_rfl) hl
      have hk := notYet (k := 7) hcl (by kernel_rfl) hl
      have hX := hS.1 hj
      have hB := hX
      have a52 := eval_new hA 52 2 (by kernel_rfl) (by kernel_rfl) (by kernel_rfl) (hd 2 (by kernel_rfl)) (hV 2 _ (hd 2 (by kernel_rfl)) rfl)
      have aC0 : A.eval (.const (.int .i64 3)) = (.int .i64 3) := rfl
      refine show_value (v := .pointer (some ⟨b9, 10, none⟩)) (X' := X) ?_ ⟨hV.upd (fun _ h => Option.some.inj h), Pre2.keep hj hk (by decide) (by decide) (hX)⟩
      generalize A.eval = ρ at *
      clear hA hl hd hcl hV hS
      go_simp
    · intro l vs X A hA ⟨hV, hS⟩ hl hd hcl
      have hk := notYet (k := 7) hcl (by kernel_rfl) hl
      have hX := hS.1 hl
      have a50 := eval_new hA 50 0 (by kernel_rfl) (by kernel_rfl) (by kernel_rfl) (hd 0 (by kernel_rfl)) (hV 0 _ (hd 0 (by kernel_rfl)) rfl)
      have a53 := eval_new hA 53 3 (by kernel_rfl) (by kernel_rfl) (by kernel_rfl) (hd 3 (by kernel_rfl)) (hV 3 _ (hd 3 (by kernel_rfl)) rfl)
      have hg := HJ.out.grow hX
      exact show_skip (X' := X.setCells b9 (1 + 3 * 3) (Rg.cells ⟨true, dl, dg⟩)) (run_st_reg _ _ rfl b9 3 43 comeK ⟨true, dl, dg⟩ a53 a50 hg.k (by decide)) ⟨hV.upd (fun _ h => by cases h), Pre2.mid hk (by decide) (hg.set 3 (by decide) ⟨true, dl, dg⟩)⟩
    · intro l vs X A hA ⟨hV, hS⟩ hl hd hcl
      have hk := notYet (k := 7) hcl (by kernel_rfl) hl
      have a9 := eval_old hA 9 (by kernel_rfl) rfl
      cases hj : l 4 with
      | true =>
        have hX := hS.2.1 hj hk
        exact show_value (v := .pointer (some ⟨b9, 1, none⟩)) (X' := X) (by generalize A.eval = ρ at *; clear hA hl hd hcl hV hS; go_simp) ⟨hV.upd (fun _ h => Option.some.inj h), Pre2.keepMid hj hk (by decide) (by decide) hX⟩
      | false =>
        have hX := hS.1 hj
        have hB := hX
        exact show_value (v := .pointer (some ⟨b9, 1, none⟩)) (X' := X) (by generalize A.eval = ρ at *; clear hA hl hd hcl hV hS; go_simp) ⟨hV.upd (fun _ h => Option.some.inj h), Pre2.keep hj hk (by decide) (by decide) hX⟩
    · intro l vs X A hA ⟨hV, hS⟩ hl hd hcl
      have hk := notYet (k := 7) hcl (by kernel_rfl) hl
      have a54 := eval_new hA 54 5 (by kernel_rfl) (by kernel_rfl) (by kernel_rfl) (hd 5 (by kernel_rfl)) (hV 5 _ (hd 5 (by kernel_rfl)) rfl)
      have aC0 : A.eval (.const (.int .i64 4)) = (.int .i64 4) := rfl
      cases hj : l 4 with
      | true =>
        have hX := hS.2.1 hj hk
        exact show_value (v := .pointer (some ⟨b9, 13, none⟩)) (X' := X) (by generalize A.eval = ρ at *; clear hA hl hd hcl hV hS; go_simp) ⟨hV.upd (fun _ h => Option.some.inj h), Pre2.keepMid hj hk (by decide) (by decide) hX⟩
      | false =>
        have hX := hS.1 hj
        have hB := hX
        exact show_value (v := .pointer (some ⟨b9, 13, none⟩)) (X' := X) (by generalize A.eval = ρ at *; clear hA hl hd hcl hV hS; go_simp) ⟨hV.upd (fun _ h => Option.some.inj h), Pre2.keep hj hk (by decide) (by decide) hX⟩
    · intro l vs X A hA ⟨hV, hS⟩ hl hd hcl
      have hX := hS.2.1 (hd 4 (by kernel_rfl)) hl
      have a51 := eval_new hA 51 1 (by kernel_rfl) (by kernel_rfl) (by kernel_rfl) (hd 1 (by kernel_rfl)) (hV 1 _ (hd 1 (by kernel_rfl)) rfl)
      have a55 := eval_new hA 55 6 (by kernel_rfl) (by kernel_rfl) (by kernel_rfl) (hd 6 (by kernel_rfl)) (hV 6 _ (hd 6 (by kernel_rfl)) rfl)
      exact show_skip (X' := X.setCells b9 (1 + 4 * 3) (Rg.cells ⟨true, sl, sg⟩)) (run_st_reg _ _ rfl b9 4 43 (comeK.set 3 ⟨true, dl, dg⟩) ⟨true, sl, sg⟩ a55 a51 hX.k (by decide)) ⟨hV.upd (fun _ h => by cases h), Pre2.last (hd 4 (by kernel_rfl)) (hX.set 4 (by decide) ⟨true, sl, sg⟩)⟩
  case hend =>
    intro l vs X hl ⟨hV, hS⟩
    have hX := hS.2.2 (hl 7 (by decide))
    have v0 := hV 0 _ (hl 0 (by decide)) rfl
    have v1 := hV 1 _ (hl 1 (by decide)) rfl
    have v2 := hV 2 _ (hl 2 (by decide)) rfl
    have v3 := hV 3 _ (hl 3 (by decide)) rfl
    have v5 := hV 5 _ (hl 5 (by decide)) rfl
    have v6 := hV 6 _ (hl 6 (by decide)) rfl
    clear hV hS hl
    simp only [canonL, if_true, v0, v1, v2, v3, v5, v6]
    clear v0 v1 v2 v3 v5 v6
    go_simp
    obtain ⟨X2, hren⟩ : ∃ Z, Z = X := ⟨_, rfl⟩
    subst hren
    clear HJ
    have c0 : X2.cell? ⟨w.heap.size + 2, 2, none⟩ = some (.int .u32 (imm : Int)) := hX.x.cell 2
    have hbx := hX.x.lt
    have HX2 : Hid (JB w dl dg sl sg xa xb imm b9 (twoK ⟨true, dl, dg⟩ ⟨true, sl, sg⟩) X2) := hX
    clear hX
    obtain ⟨X3, hX3⟩ : ∃ X3, X3 = (X2.alloc (.cells #[.int .i64 20, .int .i64 3, .int .i64 0, .int .i64 1, .int .u32 (imm : Int), .int .i64 21, .int .i64 3, .int .i64 0, .int .i64 1, .int .u32 (imm : Int), .int .i64 22, .int .i64 3, .int .i64 4, .int .i64 1, .int .u32 0, .int .i64 22, .int .i64 3, .int .i64 3, .int .i64 1, .int .u32 0] 38)).alloc (.cells #[.bool ((a : Int) == (imm : Int)), .bool (decide (a < imm)), .bool (decide (a < b)), .bool false] 4) := ⟨_, rfl⟩
    have HI : Hid (∀ j, j < 4 → X3.rangeAt X2.heap.size (j * 5) (jmpI imm j).cells) := jmp_row imm X3 X2.heap.size (by rw [hX3]; exact has_old (has_new _ _ _ _ rfl))
    have HT : Hid (∀ j, j < 4 → X3.cell? ⟨X2.heap.size + 1, j, none⟩ = some (.bool (jmpT a b imm j))) := jmp_take a b imm X3 (X2.heap.size + 1) (by rw [hX3]; exact has_new _ _ _ _ (by simp))
    have HL : Hid (X2.heap.size + 1 < X3.heap.size) := by rw [hX3]; show _ < _; simp
    have hB23 : Below X2.heap.size X2 X3 := by rw [hX3]; exact ((Below.refl _ _).alloc (Nat.le_refl _) _).alloc (by simp) _
    have HX3 : Hid (JB w dl dg sl sg xa xb imm b9 (twoK ⟨true, dl, dg⟩ ⟨true, sl, sg⟩) X3) := HX2.out.grow hB23
    have HG : Hid (Glob w) := hG
    go_upto_region 10 with fail
    rw [← hX3]
    clear hX3 hB23 HX2 c0 hbx hG
    generalize X2.heap.size = b10 at *
    go_loopw [12] (fun v wr => ∃ j : Nat, j ≤ 4 ∧ v = .int .i64 (j : Int) ∧ Below X3.heap.size X3 wr) (fun v _ => 4 - (intOf v).toNat)
    case atStart => exact ⟨0, by omega, rfl, Below.refl _ _⟩
    case round =>
      obtain ⟨j, hj, rfl, hBr⟩ := hrel
      have HBr : Hid (Below X3.heap.size X3 wr) := hBr
      clear hBr
      by_cases hlt : j < 4
      · have hlt' : (j : Int) < 4 := by omega
        have HJr : Hid (JB w dl dg sl sg xa xb imm b9 (twoK ⟨true, dl, dg⟩ ⟨true, sl, sg⟩) wr) := HX3.out.grow HBr.out
        have hgw : Glob wr := HG.out.below HJr.out.below HG.out.size
        obtain ⟨n2, j2, hbe, hgo⟩ := HBEH.out j
        have HBH : Hid (∀ X, Below wr.heap.size wr X → Calls Tryd.prog 17 #[.agg (jmpI imm j).a, .int .i64 0, .agg (twoK ⟨true, dl, dg⟩ ⟨true, sl, sg⟩).a] X fun e X' => e = .returned (.tuple #[.agg n2.a, .agg j2.a, .int .i64 0]) ∧ Below X.heap.size X X') := fun X hX => by
          have h := behind_any (jmpI imm j) 0 (twoK ⟨true, dl, dg⟩ ⟨true, sl, sg⟩) X (hgw.below hX hgw.size) (jmpI_may HIM.out j).2 HOK.out
          rw [hbe] at h
          exact h
        have HGO : Hid (goneBy a b (if jmpT a b imm j then j2 else n2)) := hgo
        have HIJ : Hid (wr.rangeAt b10 (j * 5) (jmpI imm j).cells ∧ b10 < wr.heap.size) := ⟨range_eq (HI.out j hlt) (HBr.out.block b10 (by have := HL.out; omega)), by have := HL.out; have := HBr.out.size; omega⟩
        have HTJ : Hid (wr.cell? ⟨b10 + 1, j, none⟩ = some (.bool (jmpT a b imm j)) ∧ b10 + 1 < wr.heap.size) := ⟨(HBr.out.cell (p := ⟨b10 + 1, j, none⟩) HL.out).trans (HT.out j hlt), by have := HL.out; have := HBr.out.size; omega⟩
        clear hgw hbe hgo
        generalize jmpT a b imm j = tk at *
        obtain ⟨K, hK⟩ : ∃ K, K = twoK ⟨true, dl, dg⟩ ⟨true, sl, sg⟩ := ⟨_, rfl⟩
        have HKK : Hid (K = twoK ⟨true, dl, dg⟩ ⟨true, sl, sg⟩) := hK
        rw [← hK] at HBH HJr
        clear hK
        go_upto_region 12 with fail
        refine wp_region_inv (Φ := fun l vs X => Vals (fun q => match q with | 0 => some (.slice (some ⟨b10, 0, none⟩) 4 4) | 1 => some (.int .i64 (j : Int)) | 2 => some (.pointer (some ⟨b10, j * 5, none⟩)) | 3 => some (.agg (jmpI imm j).a) | 4 => some (.agg K.a) | 5 => some (.tuple #[.agg n2.a, .agg j2.a, .int .i64 0]) | 6 => some (.tuple #[.agg n2.a, .agg j2.a, .int .i64 0]) | 7 => some (.agg n2.a) | 8 => some (.agg j2.a) | 9 => some (.int .i64 0) | 14 => some (.int .i64 0) | _ => none) l vs ∧ Ph2 12 13 (Two wr.heap.size 43 noK.a wr 10 11) (fun vs X => Both wr.heap.size 43 n2.a noK.a wr (vs 10) (vs 11) X) (fun vs X => Both wr.heap.size 43 n2.a j2.a wr (vs 10) (vs 11) X) l vs X) (PQ := fun _ _ => False)
          (by kernel_rfl) (by kernel_rfl) (by kernel_rfl) (by kernel_rfl) ⟨Vals.none _ _, Ph2.start (Two.start ((Below.refl _ _).drew) (Nat.le_refl _))⟩ ?hop ?hend (fun _ _ _ _ h => h.elim)
        case hop =>
          refine ⟨?_, ?_, ?_, ?_, ?_, ?_, ?_, ?_, ?_, ?_, ?_, ?_, ?_, ?_, ?_, trivial⟩
          · intro l vs X A hA ⟨hV, hS⟩ hl hd hcl
            have hj := notYet (k := 12) hcl (by kernel_rfl) hl
            have hk := notYet (k := 13) hcl (by kernel_rfl) hl
            have hX := hS.1 hj
            have hB := hX.below
            have a10 := eval_old hA 10 (by kernel_rfl) rfl
            refine show_value (v := .slice (some ⟨b10, 0, none⟩) 4 4) (X' := X) ?_ ⟨hV.upd (fun _ h => Option.some.inj h), Ph2.keep hj hk (by decide) (by decide) (hX.grow (Below.refl _ _) (by decide) (by decide) _)⟩
            generalize A.eval = ρ at *
            clear hA hl hd hcl hV hS
            go_simp
          · intro l vs X A hA ⟨hV, hS⟩ hl hd hcl
            have hj := notYet (k := 12) hcl (by kernel_rfl) hl
            have hk := notYet (k := 13) hcl (by kernel_rfl) hl
            have hX := hS.1 hj
            have hB := hX.below
            have a12 := eval_old hA 12 (by kernel_rfl) rfl
            refine show_value (v := .int .i64 (j : Int)) (X' := X) ?_ ⟨hV.upd (fun _ h => Option.some.inj h), Ph2.keep hj hk (by decide) (by decide) (hX.grow (Below.refl _ _) (by decide) (by decide) _)⟩
            generalize A.eval = ρ at *
            clear hA hl hd hcl hV hS
            go_simp
          · intro l vs X A hA ⟨hV, hS⟩ hl hd hcl
            have hj := notYet (k := 12) hcl (by kernel_rfl) hl
            have hk := notYet (k := 13) hcl (by kernel_rfl) hl
            have hX := hS.1 hj
            have hB := hX.below
            have a84 := eval_new hA 84 0 (by kernel_rfl) (by kernel_rfl) (by kernel_rfl) (hd 0 (by kernel_rfl)) (hV 0 _ (hd 0 (by kernel_rfl)) rfl)
            have a85 := eval_new hA 85 1 (by kernel_rfl) (by kernel_rfl) (by kernel_rfl) (hd 1 (by kernel_rfl)) (hV 1 _ (hd 1 (by kernel_rfl)) rfl)
            refine show_value (v := .pointer (some ⟨b10, j * 5, none⟩)) (X' := X) ?_ ⟨hV.upd (fun _ h => Option.some.inj h), Ph2.keep hj hk (by decide) (by decide) (hX.grow (Below.refl _ _) (by decide) (by decide) _)⟩
            generalize A.eval = ρ at *
            clear hA hl hd hcl hV hS
            go_simp
          · intro l vs X A hA ⟨hV, hS⟩ hl hd hcl
            have hj := notYet (k := 12) hcl (by kernel_rfl) hl
            have hk := notYet (k := 13) hcl (by kernel_rfl) hl
            have hX := hS.1 hj
            have hB := hX.below
            have a86 := eval_new hA 86 2 (by kernel_rfl) (by kernel_rfl) (by kernel_rfl) (hd 2 (by kernel_rfl)) (hV 2 _ (hd 2 (by kernel_rfl)) rfl)
            refine show_value (v := .agg (jmpI imm j).a) (X' := X) (run_ld 38 _ rfl _ a86 (ld_row (l := (jmpI imm j).cells) (range_eq HIJ.out.1 (hB.block b10 HIJ.out.2)) (by kernel_rfl))) ⟨hV.upd (fun _ h => Option.some.inj h), Ph2.keep hj hk (by decide) (by decide) (hX.grow (Below.refl _ _) (by decide) (by decide) _)⟩
          · intro l vs X A hA ⟨hV, hS⟩ hl hd hcl
            have hj := notYet (k := 12) hcl (by kernel_rfl) hl
            have hk := notYet (k := 13) hcl (by kernel_rfl) hl
            have hX := hS.1 hj
            have hB := hX.below
            have a9 := eval_old hA 9 (by kernel_rfl) rfl
            refine show_value (v := .agg K.a) (X' := X) (run_ld 43 _ rfl _ a9 (ld_row (l := K.cells) (has_whole (HJr.out.k.below hB HJr.out.k.lt)) (by kernel_rfl))) ⟨hV.upd (fun _ h => Option.some.inj h), Ph2.keep hj hk (by decide) (by decide) (hX.grow (Below.refl _ _) (by decide) (by decide) _)⟩
          · intro l vs X A hA ⟨hV, hS⟩ hl hd hcl
            have hj := notYet (k := 12) hcl (by kernel_rfl) hl
            have hk := notYet (k := 13) hcl (by kernel_rfl) hl
            have hX := hS.1 hj
            have hB := hX.below
            have a87 := eval_new hA 87 3 (by kernel_rfl) (by kernel_rfl) (by kernel_rfl) (hd 3 (by kernel_rfl)) (hV 3 _ (hd 3 (by kernel_rfl)) rfl)
            have a88 := eval_new hA 88 4 (by kernel_rfl) (by kernel_rfl) (by kernel_rfl) (hd 4 (by kernel_rfl)) (hV 4 _ (hd 4 (by kernel_rfl)) rfl)
            have aF0 : A.eval (.func 17) = .func (.func 17) #[] #[] := rfl
            have aC0 : A.eval (.const (.int .i64 0)) = (.int .i64 0) := rfl
            refine show_call (f := 17) (args := #[.agg (jmpI imm j).a, .int .i64 0, .agg K.a]) ?_ (HBH.out X hB) ?_
            · generalize A.eval = ρ at *
              clear hA hl hd hcl hV hS
              go_simp
            · rintro e X' ⟨rfl, hB1⟩
              exact .inl ⟨_, rfl, hV.upd (fun _ h => Option.some.inj h), Ph2.keep hj hk (by decide) (by decide) (hX.grow hB1 (by decide) (by decide) _)⟩
          · intro l vs X A hA ⟨hV, hS⟩ hl hd hcl
            have hj := notYet (k := 12) hcl (by kernel_rfl) hl
            have hk := notYet (k := 13) hcl (by kernel_rfl) hl
            have hX := hS.1 hj
            have hB := hX.below
            have a89 := eval_new hA 89 5 (by kernel_rfl) (by kernel_rfl) (by kernel_rfl) (hd 5 (by kernel_rfl)) (hV 5 _ (hd 5 (by kernel_rfl)) rfl)
            refine show_value (v := .tuple #[.agg n2.a, .agg j2.a, .int .i64 0]) (X' := X) ?_ ⟨hV.upd (fun _ h => Option.some.inj h), Ph2.keep hj hk (by decide) (by decide) (hX.grow (Below.refl _ _) (by decide) (by decide) _)⟩
            generalize A.eval = ρ at *
            clear hA hl hd hcl hV hS
            go_simp
          · intro l vs X A hA ⟨hV, hS⟩ hl hd hcl
            have hj := notYet (k := 12) hcl (by kernel_rfl) hl
            have hk := notYet (k := 13) hcl (by kernel_rfl) hl
            have hX := hS.1 hj
            have hB := hX.below
            have a83 := eval_new hA 83 6 (by kernel_rfl) (by kernel_rfl) (by kernel_rfl) (hd 6 (by kernel_rfl)) (hV 6 _ (hd 6 (by kernel_rfl)) rfl)
            refine show_value (v := .agg n2.a) (X' := X) ?_ ⟨hV.upd (fun _ h => Option.some.inj h), Ph2.keep hj hk (by decide) (by decide) (hX.grow (Below.refl _ _) (by decide) (by decide) _)⟩
            generalize A.eval = ρ at *
            clear hA hl hd hcl hV hS
            go_simp
          · intro l vs X A hA ⟨hV, hS⟩ hl hd hcl
            have hk := notYet (k := 13) hcl (by kernel_rfl) hl
            have a83 := eval_new hA 83 6 (by kernel_rfl) (by kernel_rfl) (by kernel_rfl) (hd 6 (by kernel_rfl)) (hV 6 _ (hd 6 (by kernel_rfl)) rfl)
            cases hj : l 12 with
            | true =>
              have hX := hS.2.1 hj hk
              exact show_value (v := .agg j2.a) (X' := X) (by generalize A.eval = ρ at *; clear hA hl hd hcl hV hS; go_simp) ⟨hV.upd (fun _ h => Option.some.inj h), Ph2.keepMid hj hk (by decide) (by decide) hX⟩
            | false =>
              have hX := hS.1 hj
              have hB := hX.below
              exact show_value (v := .agg j2.a) (X' := X) (by generalize A.eval = ρ at *; clear hA hl hd hcl hV hS; go_simp) ⟨hV.upd (fun _ h => Option.some.inj h), Ph2.keep hj hk (by decide) (by decide) (hX.grow (Below.refl _ _) (by decide) (by decide) _)⟩
          · intro l vs X A hA ⟨hV, hS⟩ hl hd hcl
            have a83 := eval_new hA 83 6 (by kernel_rfl) (by kernel_rfl) (by kernel_rfl) (hd 6 (by kernel_rfl)) (hV 6 _ (hd 6 (by kernel_rfl)) rfl)
            cases hk : l 13 with
            | true =>
              have hj : l 12 = true := hcl 13 12 (by kernel_rfl) hk
              have hX := hS.2.2 hk
              exact show_value (v := .int .i64 0) (X' := X) (by generalize A.eval = ρ at *; clear hA hl hd hcl hV hS; go_simp) ⟨hV.upd (fun _ h => Option.some.inj h), Ph2.keepEnd hj hk (by decide) (by decide) hX⟩
            | false =>
              cases hj : l 12 with
              | true =>
                have hX := hS.2.1 hj hk
                exact show_value (v := .int .i64 0) (X' := X) (by generalize A.eval = ρ at *; clear hA hl hd hcl hV hS; go_simp) ⟨hV.upd (fun _ h => Option.some.inj h), Ph2.keepMid hj hk (by decide) (by decide) hX⟩
              | false =>
                have hX := hS.1 hj
                have hB := hX.below
                exact show_value (v := .int .i64 0) (X' := X) (by generalize A.eval = ρ at *; clear hA hl hd hcl hV hS; go_simp) ⟨hV.upd (fun _ h => Option.some.inj h), Ph2.keep hj hk (by decide) (by decide) (hX.grow (Below.refl _ _) (by decide) (by decide) _)⟩
          · intro l vs X A hA ⟨hV, hS⟩ hl hd hcl
            have hj := notYet (k := 12) hcl (by kernel_rfl) hl
            have hk := notYet (k := 13) hcl (by kernel_rfl) hl
            have hX := hS.1 hj
            have hB := hX.below
            refine show_value (v := .pointer (some ⟨X.heap.size, 0, none⟩)) (X' := X.alloc (.cells noK.a 43)) ?_ ⟨hV.upd (fun _ h => by cases h), Ph2.keep hj hk (by decide) (by decide) (hX.mkFst (by decide))⟩
            generalize A.eval = ρ at *
            clear hA hl hd hcl hV hS
            rfl
          · intro l vs X A hA ⟨hV, hS⟩ hl hd hcl
            have hj := notYet (k := 12) hcl (by kernel_rfl) hl
            have hk := notYet (k := 13) hcl (by kernel_rfl) hl
            have hX := hS.1 hj
            have hB := hX.below
            refine show_value (v := .pointer (some ⟨X.heap.size, 0, none⟩)) (X' := X.alloc (.cells noK.a 43)) ?_ ⟨hV.upd (fun _ h => by cases h), Ph2.keep hj hk (by decide) (by decide) (hX.mkSnd (by decide))⟩
            generalize A.eval = ρ at *
            clear hA hl hd hcl hV hS
            rfl
          · intro l vs X A hA ⟨hV, hS⟩ hl hd hcl
            have hk := notYet (k := 13) hcl (by kernel_rfl) hl
            have hX := hS.1 hl
            have a13 := eval_new hA 13 10 (by kernel_rfl) (by kernel_rfl) (by kernel_rfl) (hd 10 (by kernel_rfl)) (rfl : vs 10 = vs 10)
            have a90 := eval_new hA 90 7 (by kernel_rfl) (by kernel_rfl) (by kernel_rfl) (hd 7 (by kernel_rfl)) (hV 7 _ (hd 7 (by kernel_rfl)) rfl)
            obtain ⟨b, hb, hH, hT⟩ := (hX.both (hd 10 (by kernel_rfl)) (hd 11 (by kernel_rfl))).setFst (x' := n2.a)
            rw [hb] at a13
            refine show_skip (run_st_row 43 _ _ rfl b _ _ _ a13 a90 hH (by kernel_rfl) (by kernel_rfl) (Kn.a_one _)) ⟨hV.upd (fun _ h => by cases h), Ph2.mid hk (by decide) ?_⟩
            exact hT
          · intro l vs X A hA ⟨hV, hS⟩ hl hd hcl
            have hX := hS.2.1 (hd 12 (by kernel_rfl)) hl
            have a14 := eval_new hA 14 11 (by kernel_rfl) (by kernel_rfl) (by kernel_rfl) (hd 11 (by kernel_rfl)) (rfl : vs 11 = vs 11)
            have a91 := eval_new hA 91 8 (by kernel_rfl) (by kernel_rfl) (by kernel_rfl) (hd 8 (by kernel_rfl)) (hV 8 _ (hd 8 (by kernel_rfl)) rfl)
            obtain ⟨b, hb, hH, hT⟩ := hX.setSnd (y' := j2.a)
            rw [hb] at a14
            refine show_skip (run_st_row 43 _ _ rfl b _ _ _ a14 a91 hH (by kernel_rfl) (by kernel_rfl) (Kn.a_one _)) ⟨hV.upd (fun _ h => by cases h), Ph2.last (hd 12 (by kernel_rfl)) ?_⟩
            exact hT
          · intro l vs X A hA ⟨hV, hS⟩ hl hd hcl
            have hk : l 13 = true := hd 13 (by kernel_rfl)
            have hj : l 12 = true := hcl 13 12 (by kernel_rfl) hk
            have hX := hS.2.2 hk
            have a92 := eval_new hA 92 9 (by kernel_rfl) (by kernel_rfl) (by kernel_rfl) (hd 9 (by kernel_rfl)) (hV 9 _ (hd 9 (by kernel_rfl)) rfl)
            refine show_value (v := .int .i64 0) (X' := X) ?_ ⟨hV.upd (fun _ h => Option.some.inj h), Ph2.keepEnd hj hk (by decide) (by decide) hX⟩
            generalize A.eval = ρ at *
            clear hA hl hd hcl hV hS hX
            go_simp
        case hend =>
          intro l vs X hl ⟨hV, hS⟩
          have hX := hS.2.2 (hl 13 (by decide))
          have v0 := hV 0 _ (hl 0 (by decide)) rfl
          have v1 := hV 1 _ (hl 1 (by decide)) rfl
          have v2 := hV 2 _ (hl 2 (by decide)) rfl
          have v3 := hV 3 _ (hl 3 (by decide)) rfl
          have v4 := hV 4 _ (hl 4 (by decide)) rfl
          have v5 := hV 5 _ (hl 5 (by decide)) rfl
          have v6 := hV 6 _ (hl 6 (by decide)) rfl
          have v7 := hV 7 _ (hl 7 (by decide)) rfl
          have v8 := hV 8 _ (hl 8 (by decide)) rfl
          have v9 := hV 9 _ (hl 9 (by decide)) rfl
          have v14 := hV 14 _ (hl 14 (by decide)) rfl
          clear hV hS hl
          obtain ⟨b6, b7, u6, u7, g6, g7, hne, hb6, hb7, hB9⟩ := hX
          simp only [canonL, if_true, v0, v1, v2, v3, v4, v5, v6, v7, v8, v9, v14, u6, u7]
          clear v0 v1 v2 v3 v4 v5 v6 v7 v8 v9 v14 u6 u7
          go_simp
          have hbx : Below X3.heap.size X3 X := HBr.out.trans (hB9.mono HBr.out.size)
          have HBX : Hid (Below X3.heap.size X3 X) := hbx
          have htk : X.cell? ⟨b10 + 1, j, none⟩ = some (.bool tk) := (hB9.cell (p := ⟨b10 + 1, j, none⟩) HTJ.out.2).trans HTJ.out.1
          have h13 := hb6
          have h14 := hb7
          clear hb6 hb7 hbx HBH HIJ HTJ HKK HJr hB9
          generalize b6 = c13 at *
          generalize b7 = c14 at *
          cases tk with
          | true =>
            obtain ⟨kq, hq⟩ : ∃ kq, kq = j2 := ⟨_, rfl⟩
            go_upto_region 15 with (first | refine wpList_load_row_if rfl 43 _ rfl c14 (by kernel_rfl) 43 j2.a (0, 0) _ h14 Tryd.underlying43 rfl (by kernel_rfl) ?_ | refine wpList_store_row rfl 43 _ _ rfl c13 j2.a (by kernel_rfl) (by kernel_rfl) 43 n2.a h13 (by kernel_rfl) (by kernel_rfl) (Kn.a_one _) ?_)
            have hE := setRow_ex X c13 j2.a
            have hq5 := setRow_has h13 j2.a
            have hBX5 := Below.ex HBX.out HBX.out.size hE (by have := HBr.out.size; omega)
            clear hE h13 h14 HBX
            generalize X.setRow c13 j2.a = W5 at *
            have h13 := hq5
            clear hq5
            have HBX : Hid (Below X3.heap.size X3 W5) := hBX5
            clear hBX5
            rw [← hq] at h13
            have hgq : goneBy a b kq := by rw [hq]; exact HGO.out
            have HGQ : Hid (goneBy a b kq) := hgq
            clear hgq hq HGO
            refine wp_region_inv (Φ := fun l vs X => Vals (fun q => match q with | 0 => some (.pointer (some ⟨c13, 1, none⟩)) | 1 => some (.pointer (some ⟨c13, 10, none⟩)) | 2 => some (.agg (kq.r 3).a) | 3 => some (.pointer (some ⟨c13, 1, none⟩)) | 4 => some (.pointer (some ⟨c13, 13, none⟩)) | 5 => some (.agg (kq.r 4).a) | _ => none) l vs ∧ Ph2 8 9 (Two W5.heap.size 40 noR.a W5 6 7) (fun vs X => Both W5.heap.size 40 (kq.r 3).a noR.a W5 (vs 6) (vs 7) X) (fun vs X => Both W5.heap.size 40 (kq.r 3).a (kq.r 4).a W5 (vs 6) (vs 7) X) l vs X) (PQ := fun _ _ => False)
              (by kernel_rfl) (by kernel_rfl) (by kernel_rfl) (by kernel_rfl) ⟨Vals.none _ _, Ph2.start (Two.start ((Below.refl _ _).drew) (Nat.le_refl _))⟩ ?hop ?hend (fun _ _ _ _ h => h.elim)
            case hop =>
              refine ⟨?_, ?_, ?_, ?_, ?_, ?_, ?_, ?_, ?_, ?_, trivial⟩
              · intro l vs X A hA ⟨hV, hS⟩ hl hd hcl
                have hj := notYet (k := 8) hcl (by kernel_rfl) hl
                have hk := notYet (k := 9) hcl (by kernel_rfl) hl
                have hX := hS.1 hj
                have hB := hX.below
                have a13 := eval_old hA 13 (by kernel_rfl) rfl
                refine show_value (v := .pointer (some ⟨c13, 1, none⟩)) (X' := X) ?_ ⟨hV.upd (fun _ h => Option.some.inj h), Ph2.keep hj hk (by decide) (by decide) (hX.grow (Below.refl _ _) (by decide) (by decide) _)⟩
                generalize A.eval = ρ at *
                clear hA hl hd hcl hV hS
                go_simp
              · intro l vs X A hA ⟨hV, hS⟩ hl hd hcl
                have hj := notYet (k := 8) hcl (by kernel_rfl) hl
                have hk := notYet (k := 9) hcl (by kernel_rfl) hl
                have hX := hS.1 hj
                have hB := hX.below
                have a98 := eval_new hA 98 0 (by kernel_rfl) (by kernel_rfl) (by kernel_rfl) (hd 0 (by kernel_rfl)) (hV 0 _ (hd 0 (by kernel_rfl)) rfl)
                have aC0 : A.eval (.const (.int .i64 3)) = (.int .i64 3) := rfl
                refine show_value (v := .pointer (some ⟨c13, 10, none⟩)) (X' := X) ?_ ⟨hV.upd (fun _ h => Option.some.inj h), Ph2.keep hj hk (by decide) (by decide) (hX.grow (Below.refl _ _) (by decide) (by decide) _)⟩
                generalize A.eval = ρ at *
                clear hA hl hd hcl hV hS
                go_simp
              · intro l vs X A hA ⟨hV, hS⟩ hl hd hcl
                have hj := notYet (k := 8) hcl (by kernel_rfl) hl
                have hk := notYet (k := 9) hcl (by kernel_rfl) hl
                have hX := hS.1 hj
                have hB := hX.below
                have a99 := eval_new hA 99 1 (by kernel_rfl) (by kernel_rfl) (by kernel_rfl) (hd 1 (by kernel_rfl)) (hV 1 _ (hd 1 (by kernel_rfl)) rfl)
                refine show_value (v := .agg (kq.r 3).a) (X' := X) (run_ld 40 _ rfl _ a99 (ld_row (l := (kq.r 3).cells) (kn_reg (h13.below hB h13.lt) 3 (by decide)) (by kernel_rfl))) ⟨hV.upd (fun _ h => Option.some.inj h), Ph2.keep hj hk (by decide) (by decide) (hX.grow (Below.refl _ _) (by decide) (by decide) _)⟩
              · intro l vs X A hA ⟨hV, hS⟩ hl hd hcl
                have hk := notYet (k := 9) hcl (by kernel_rfl) hl
                have a13 := eval_old hA 13 (by kernel_rfl) rfl
                cases hj : l 8 with
                | true =>
                  have hX := hS.2.1 hj hk
                  exact show_value (v := .pointer (some ⟨c13, 1, none⟩)) (X' := X) (by generalize A.eval = ρ at *; clear hA hl hd hcl hV hS; go_simp) ⟨hV.upd (fun _ h => Option.some.inj h), Ph2.keepMid hj hk (by decide) (by decide) hX⟩
                | false =>
                  have hX := hS.1 hj
                  have hB := hX.below
                  exact show_value (v := .pointer (some ⟨c13, 1, none⟩)) (X' := X) (by generalize A.eval = ρ at *; clear hA hl hd hcl hV hS; go_simp) ⟨hV.upd (fun _ h => Option.some.inj h), Ph2.keep hj hk (by decide) (by decide) (hX.grow (Below.refl _ _) (by decide) (by decide) _)⟩
              · intro l vs X A hA ⟨hV, hS⟩ hl hd hcl
                have hk := notYet (k := 9) hcl (by kernel_rfl) hl
                have a101 := eval_new hA 101 3 (by kernel_rfl) (by kernel_rfl) (by kernel_rfl) (hd 3 (by kernel_rfl)) (hV 3 _ (hd 3 (by kernel_rfl)) rfl)
                have aC0 : A.eval (.const (.int .i64 4)) = (.int .i64 4) := rfl
                cases hj : l 8 with
                | true =>
                  have hX := hS.2.1 hj hk
                  exact show_value (v := .pointer (some ⟨c13, 13, none⟩)) (X' := X) (by generalize A.eval = ρ at *; clear hA hl hd hcl hV hS; go_simp) ⟨hV.upd (fun _ h => Option.some.inj h), Ph2.keepMid hj hk (by decide) (by decide) hX⟩
                | false =>
                  have hX := hS.1 hj
                  have hB := hX.below
                  exact show_value (v := .pointer (some ⟨c13, 13, none⟩)) (X' := X) (by generalize A.eval = ρ at *; clear hA hl hd hcl hV hS; go_simp) ⟨hV.upd (fun _ h => Option.some.inj h), Ph2.keep hj hk (by decide) (by decide) (hX.grow (Below.refl _ _) (by decide) (by decide) _)⟩
              · intro l vs X A hA ⟨hV, hS⟩ hl hd hcl
                have hk := notYet (k := 9) hcl (by kernel_rfl) hl
                have a102 := eval_new hA 102 4 (by kernel_rfl) (by kernel_rfl) (by kernel_rfl) (hd 4 (by kernel_rfl)) (hV 4 _ (hd 4 (by kernel_rfl)) rfl)
                cases hj : l 8 with
                | true =>
                  have hX := hS.2.1 hj hk
                  exact show_value (v := .agg (kq.r 4).a) (X' := X) (run_ld 40 _ rfl _ a102 (ld_row (l := (kq.r 4).cells) (kn_reg (h13.below (both_below hX) h13.lt) 4 (by decide)) (by kernel_rfl))) ⟨hV.upd (fun _ h => Option.some.inj h), Ph2.keepMid hj hk (by decide) (by decide) hX⟩
                | false =>
                  have hX := hS.1 hj
                  have hB := hX.below
                  exact show_value (v := .agg (kq.r 4).a) (X' := X) (run_ld 40 _ rfl _ a102 (ld_row (l := (kq.r 4).cells) (kn_reg (h13.below hB h13.lt) 4 (by decide)) (by kernel_rfl))) ⟨hV.upd (fun _ h => Option.some.inj h), Ph2.keep hj hk (by decide) (by decide) (hX.grow (Below.refl _ _) (by decide) (by decide) _)⟩
              · intro l vs X A hA ⟨hV, hS⟩ hl hd hcl
                have hj := notYet (k := 8) hcl (by kernel_rfl) hl
                have hk := notYet (k := 9) hcl (by kernel_rfl) hl
                have hX := hS.1 hj
                have hB := hX.below
                refine show_value (v := .pointer (some ⟨X.heap.size, 0, none⟩)) (X' := X.alloc (.cells noR.a 40)) ?_ ⟨hV.upd (fun _ h => by cases h), Ph2.keep hj hk (by decide) (by decide) (hX.mkFst (by decide))⟩
                generalize A.eval = ρ at *
                clear hA hl hd hcl hV hS
                rfl
              · intro l vs X A hA ⟨hV, hS⟩ hl hd hcl
                have hj := notYet (k := 8) hcl (by kernel_rfl) hl
                have hk := notYet (k := 9) hcl (by kernel_rfl) hl
                have hX := hS.1 hj
                have hB := hX.below
                refine show_value (v := .pointer (some ⟨X.heap.size, 0, none⟩)) (X' := X.alloc (.cells noR.a 40)) ?_ ⟨hV.upd (fun _ h => by cases h), Ph2.keep hj hk (by decide) (by decide) (hX.mkSnd (by decide))⟩
                generalize A.eval = ρ at *
                clear hA hl hd hcl hV hS
                rfl
              · intro l vs X A hA ⟨hV, hS⟩ hl hd hcl
                have hk := notYet (k := 9) hcl (by kernel_rfl) hl
                have hX := hS.1 hl
                have a16 := eval_new hA 16 6 (by kernel_rfl) (by kernel_rfl) (by kernel_rfl) (hd 6 (by kernel_rfl)) (rfl : vs 6 = vs 6)
                have a100 := eval_new hA 100 2 (by kernel_rfl) (by kernel_rfl) (by kernel_rfl) (hd 2 (by kernel_rfl)) (hV 2 _ (hd 2 (by kernel_rfl)) rfl)
                obtain ⟨b, hb, hH, hT⟩ := (hX.both (hd 6 (by kernel_rfl)) (hd 7 (by kernel_rfl))).setFst (x' := (kq.r 3).a)
                rw [hb] at a16
                refine show_skip (run_st_row 40 _ _ rfl b _ _ _ a16 a100 hH (by kernel_rfl) (by kernel_rfl) (Rg.a_one _)) ⟨hV.upd (fun _ h => by cases h), Ph2.mid hk (by decide) ?_⟩
                exact hT
              · intro l vs X A hA ⟨hV, hS⟩ hl hd hcl
                have hX := hS.2.1 (hd 8 (by kernel_rfl)) hl
                have a17 := eval_new hA 17 7 (by kernel_rfl) (by kernel_rfl) (by kernel_rfl) (hd 7 (by kernel_rfl)) (rfl : vs 7 = vs 7)
                have a103 := eval_new hA 103 5 (by kernel_rfl) (by kernel_rfl) (by kernel_rfl) (hd 5 (by kernel_rfl)) (hV 5 _ (hd 5 (by kernel_rfl)) rfl)
                obtain ⟨b, hb, hH, hT⟩ := hX.setSnd (y' := (kq.r 4).a)
                rw [hb] at a17
                refine show_skip (run_st_row 40 _ _ rfl b _ _ _ a17 a103 hH (by kernel_rfl) (by kernel_rfl) (Rg.a_one _)) ⟨hV.upd (fun _ h => by cases h), Ph2.last (hd 8 (by kernel_rfl)) ?_⟩
                exact hT
            case hend =>
              intro l vs X hl ⟨hV, hS⟩
              have hX := hS.2.2 (hl 9 (by decide))
              have v0 := hV 0 _ (hl 0 (by decide)) rfl
              have v1 := hV 1 _ (hl 1 (by decide)) rfl
              have v2 := hV 2 _ (hl 2 (by decide)) rfl
              have v3 := hV 3 _ (hl 3 (by decide)) rfl
              have v4 := hV 4 _ (hl 4 (by decide)) rfl
              have v5 := hV 5 _ (hl 5 (by decide)) rfl
              clear hV hS hl
              obtain ⟨b6, b7, u6, u7, g6, g7, hne, hb6, hb7, hB9⟩ := hX
              simp only [canonL, if_true, v0, v1, v2, v3, v4, v5, u6, u7]
              clear v0 v1 v2 v3 v4 v5 u6 u7
              go_simp
              have c13a := h13.below hB9 h13.lt
              have hbx : Below X3.heap.size X3 X := HBX.out.trans (hB9.mono HBX.out.size)
              have HBX9 : Hid (Below X3.heap.size X3 X) := hbx
              have d0 : X.cell? ⟨c13, 0, none⟩ = some (.bool kq.come) := c13a.cell 0
              have e1 : X.cell? ⟨b6, 1, none⟩ = some (.int .u32 ((kq.r 3).least : Int)) := hb6.cell 1
              have e2 : X.cell? ⟨b6, 2, none⟩ = some (.int .u32 ((kq.r 3).great : Int)) := hb6.cell 2
              have e3 : X.cell? ⟨b7, 1, none⟩ = some (.int .u32 ((kq.r 4).least : Int)) := hb7.cell 1
              have e4 : X.cell? ⟨b7, 2, none⟩ = some (.int .u32 ((kq.r 4).great : Int)) := hb7.cell 2
              rw [HGQ.out.1] at d0
              have p1 : ¬ (a : Int) < ((kq.r 3).least : Int) := by have := HGQ.out.2.1; omega
              have p2 : ¬ ((kq.r 3).great : Int) < (a : Int) := by have := HGQ.out.2.2.1; omega
              have p3 : ¬ (b : Int) < ((kq.r 4).least : Int) := by have := HGQ.out.2.2.2.1; omega
              have p4 : ¬ ((kq.r 4).great : Int) < (b : Int) := by have := HGQ.out.2.2.2.2; omega
              clear hb6 hb7 hB9 hne g6 g7 c13a hbx h13 HBX
              generalize (kq.r 3).a = ra3 at *
              generalize (kq.r 4).a = ra4 at *
              generalize (kq.r 3).least = l3 at *
              generalize (kq.r 3).great = g3 at *
              generalize (kq.r 4).least = l4 at *
              generalize (kq.r 4).great = g4 at *
              obtain ⟨W9, hren⟩ : ∃ Z, Z = X := ⟨_, rfl⟩
              subst hren
              go_wp2_with fail
              go_roundw
              case rel => exact ⟨j + 1, by omega, by simp, HBX9.out⟩
              case measure => simp [intOf]; omega
          | false =>
            obtain ⟨kq, hq⟩ : ∃ kq, kq = n2 := ⟨_, rfl⟩
            go_upto_region 15 with fail
            obtain ⟨W5, hren⟩ : ∃ Z, Z = X := ⟨_, rfl⟩
            subst hren
            clear h14
            rw [← hq] at h13
            have hgq : goneBy a b kq := by rw [hq]; exact HGO.out
            have HGQ : Hid (goneBy a b kq) := hgq
            clear hgq hq HGO
            refine wp_region_inv (Φ := fun l vs X => Vals (fun q => match q with | 0 => some (.pointer (some ⟨c13, 1, none⟩)) | 1 => some (.pointer (some ⟨c13, 10, none⟩)) | 2 => some (.agg (kq.r 3).a) | 3 => some (.pointer (some ⟨c13, 1, none⟩)) | 4 => some (.pointer (some ⟨c13, 13, none⟩)) | 5 => some (.agg (kq.r 4).a) | _ => none) l vs ∧ Ph2 8 9 (Two W5.heap.size 40 noR.a W5 6 7) (fun vs X => Both W5.heap.size 40 (kq.r 3).a noR.a W5 (vs 6) (vs 7) X) (fun vs X => Both W5.heap.size 40 (kq.r 3).a (kq.r 4).a W5 (vs 6) (vs 7) X) l vs X) (PQ := fun _ _ => False)
              (by kernel_rfl) (by kernel_rfl) (by kernel_rfl) (by kernel_rfl) ⟨Vals.none _ _, Ph2.start (Two.start ((Below.refl _ _).drew) (Nat.le_refl _))⟩ ?hop ?hend (fun _ _ _ _ h => h.elim)
            case hop =>
              refine ⟨?_, ?_, ?_, ?_, ?_, ?_, ?_, ?_, ?_, ?_, trivial⟩
              · intro l vs X A hA ⟨hV, hS⟩ hl hd hcl
                have hj := notYet (k := 8) hcl (by kernel_rfl) hl
                have hk := notYet (k := 9) hcl (by kernel_rfl) hl
                have hX := hS.1 hj
                have hB := hX.below
                have a13 := eval_old hA 13 (by kernel_rfl) rfl
                refine show_value (v := .pointer (some ⟨c13, 1, none⟩)) (X' := X) ?_ ⟨hV.upd (fun _ h => Option.some.inj h), Ph2.keep hj hk (by decide) (by decide) (hX.grow (Below.refl _ _) (by decide) (by decide) _)⟩
                generalize A.eval = ρ at *
                clear hA hl hd hcl hV hS
                go_simp
              · intro l vs X A hA ⟨hV, hS⟩ hl hd hcl
                have hj := notYet (k := 8) hcl (by kernel_rfl) hl
                have hk := notYet (k := 9) hcl (by kernel_rfl) hl
                have hX := hS.1 hj
                have hB := hX.below
                have a98 := eval_new hA 98 0 (by kernel_rfl) (by kernel_rfl) (by kernel_rfl) (hd 0 (by kernel_rfl)) (hV 0 _ (hd 0 (by kernel_rfl)) rfl)
                have aC0 : A.eval (.const (.int .i64 3)) = (.int .i64 3) := rfl
                refine show_value (v := .pointer (some ⟨c13, 10, none⟩)) (X' := X) ?_ ⟨hV.upd (fun _ h => Option.some.inj h), Ph2.keep hj hk (by decide) (by decide) (hX.grow (Below.refl _ _) (by decide) (by decide) _)⟩
                generalize A.eval = ρ at *
                clear hA hl hd hcl hV hS
                go_simp
              · intro l vs X A hA ⟨hV, hS⟩ hl hd hcl
                have hj := notYet (k := 8) hcl (by kernel_rfl) hl
                have hk := notYet (k := 9) hcl (by kernel_rfl) hl
                have hX := hS.1 hj
                have hB := hX.below
                have a99 := eval_new hA 99 1 (by kernel_rfl) (by kernel_rfl) (by kernel_rfl) (hd 1 (by kernel_rfl)) (hV 1 _ (hd 1 (by kernel_rfl)) rfl)
                refine show_value (v := .agg (kq.r 3).a) (X' := X) (run_ld 40 _ rfl _ a99 (ld_row (l := (kq.r 3).cells) (kn_reg (h13.below hB h13.lt) 3 (by decide)) (by kernel_rfl))) ⟨hV.upd (fun _ h => Option.some.inj h), Ph2.keep hj hk (by decide) (by decide) (hX.grow (Below.refl _ _) (by decide) (by decide) _)⟩
              · intro l vs X A hA ⟨hV, hS⟩ hl hd hcl
                have hk := notYet (k := 9) hcl (by kernel_rfl) hl
                have a13 := eval_old hA 13 (by kernel_rfl) rfl
                cases hj : l 8 with
                | true =>
                  have hX := hS.2.1 hj hk
                  exact show_value (v := .pointer (some ⟨c13, 1, none⟩)) (X' := X) (by generalize A.eval = ρ at *; clear hA hl hd hcl hV hS; go_simp) ⟨hV.upd (fun _ h => Option.some.inj h), Ph2.keepMid hj hk (by decide) (by decide) hX⟩
                | false =>
                  have hX := hS.1 hj
                  have hB := hX.below
                  exact show_value (v := .pointer (some ⟨c13, 1, none⟩)) (X' := X) (by generalize A.eval = ρ at *; clear hA hl hd hcl hV hS; go_simp) ⟨hV.upd (fun _ h => Option.some.inj h), Ph2.keep hj hk (by decide) (by decide) (hX.grow (Below.refl _ _) (by decide) (by decide) _)⟩
              · intro l vs X A hA ⟨hV, hS⟩ hl hd hcl
                have hk := notYet (k := 9) hcl (by kernel_rfl) hl
                have a101 := eval_new hA 101 3 (by kernel_rfl) (by kernel_rfl) (by kernel_rfl) (hd 3 (by kernel_rfl)) (hV 3 _ (hd 3 (by kernel_rfl)) rfl)
                have aC0 : A.eval (.const (.int .i64 4)) = (.int .i64 4) := rfl
                cases hj : l 8 with
                | true =>
                  have hX := hS.2.1 hj hk
                  exact show_value (v := .pointer (some ⟨c13, 13, none⟩)) (X' := X) (by generalize A.eval = ρ at *; clear hA hl hd hcl hV hS; go_simp) ⟨hV.upd (fun _ h => Option.some.inj h), Ph2.keepMid hj hk (by decide) (by decide) hX⟩
                | false =>
                  have hX := hS.1 hj
                  have hB := hX.below
                  exact show_value (v := .pointer (some ⟨c13, 13, none⟩)) (X' := X) (by generalize A.eval = ρ at *; clear hA hl hd hcl hV hS; go_simp) ⟨hV.upd (fun _ h => Option.some.inj h), Ph2.keep hj hk (by decide) (by decide) (hX.grow (Below.refl _ _) (by decide) (by decide) _)⟩
              · intro l vs X A hA ⟨hV, hS⟩ hl hd hcl
                have hk := notYet (k := 9) hcl (by kernel_rfl) hl
                have a102 := eval_new hA 102 4 (by kernel_rfl) (by kernel_rfl) (by kernel_rfl) (hd 4 (by kernel_rfl)) (hV 4 _ (hd 4 (by kernel_rfl)) rfl)
                cases hj : l 8 with
                | true =>
                  have hX := hS.2.1 hj hk
                  exact show_value (v := .agg (kq.r 4).a) (X' := X) (run_ld 40 _ rfl _ a102 (ld_row (l := (kq.r 4).cells) (kn_reg (h13.below (both_below hX) h13.lt) 4 (by decide)) (by kernel_rfl))) ⟨hV.upd (fun _ h => Option.some.inj h), Ph2.keepMid hj hk (by decide) (by decide) hX⟩
                | false =>
                  have hX := hS.1 hj
                  have hB := hX.below
                  exact show_value (v := .agg (kq.r 4).a) (X' := X) (run_ld 40 _ rfl _ a102 (ld_row (l := (kq.r 4).cells) (kn_reg (h13.below hB h13.lt) 4 (by decide)) (by kernel_rfl))) ⟨hV.upd (fun _ h => Option.some.inj h), Ph2.keep hj hk (by decide) (by decide) (hX.grow (Below.refl _ _) (by decide) (by decide) _)⟩
              · intro l vs X A hA ⟨hV, hS⟩ hl hd hcl
                have hj := notYet (k := 8) hcl (by kernel_rfl) hl
                have hk := notYet (k := 9) hcl (by kernel_rfl) hl
                have hX := hS.1 hj
                have hB := hX.below
                refine show_value (v := .pointer (some ⟨X.heap.size, 0, none⟩)) (X' := X.alloc (.cells noR.a 40)) ?_ ⟨hV.upd (fun _ h => by cases h), Ph2.keep hj hk (by decide) (by decide) (hX.mkFst (by decide))⟩
                generalize A.eval = ρ at *
                clear hA hl hd hcl hV hS
                rfl
              · intro l vs X A hA ⟨hV, hS⟩ hl hd hcl
                have hj := notYet (k := 8) hcl (by kernel_rfl) hl
                have hk := notYet (k := 9) hcl (by kernel_rfl) hl
                have hX := hS.1 hj
                have hB := hX.below
                refine show_value (v := .pointer (some ⟨X.heap.size, 0, none⟩)) (X' := X.alloc (.cells noR.a 40)) ?_ ⟨hV.upd (fun _ h => by cases h), Ph2.keep hj hk (by decide) (by decide) (hX.mkSnd (by decide))⟩
                generalize A.eval = ρ at *
                clear hA hl hd hcl hV hS
                rfl
              · intro l vs X A hA ⟨hV, hS⟩ hl hd hcl
                have hk := notYet (k := 9) hcl (by kernel_rfl) hl
                have hX := hS.1 hl
                have a16 := eval_new hA 16 6 (by kernel_rfl) (by kernel_rfl) (by kernel_rfl) (hd 6 (by kernel_rfl)) (rfl : vs 6 = vs 6)
                have a100 := eval_new hA 100 2 (by kernel_rfl) (by kernel_rfl) (by kernel_rfl) (hd 2 (by kernel_rfl)) (hV 2 _ (hd 2 (by kernel_rfl)) rfl)
                obtain ⟨b, hb, hH, hT⟩ := (hX.both (hd 6 (by kernel_rfl)) (hd 7 (by kernel_rfl))).setFst (x' := (kq.r 3).a)
                rw [hb] at a16
                refine show_skip (run_st_row 40 _ _ rfl b _ _ _ a16 a100 hH (by kernel_rfl) (by kernel_rfl) (Rg.a_one _)) ⟨hV.upd (fun _ h => by cases h), Ph2.mid hk (by decide) ?_⟩
                exact hT
              · intro l vs X A hA ⟨hV, hS⟩ hl hd hcl
                have hX := hS.2.1 (hd 8 (by kernel_rfl)) hl
                have a17 := eval_new hA 17 7 (by kernel_rfl) (by kernel_rfl) (by kernel_rfl) (hd 7 (by kernel_rfl)) (rfl : vs 7 = vs 7)
                have a103 := eval_new hA 103 5 (by kernel_rfl) (by kernel_rfl) (by kernel_rfl) (hd 5 (by kernel_rfl)) (hV 5 _ (hd 5 (by kernel_rfl)) rfl)
                obtain ⟨b, hb, hH, hT⟩ := hX.setSnd (y' := (kq.r 4).a)
                rw [hb] at a17
                refine show_skip (run_st_row 40 _ _ rfl b _ _ _ a17 a103 hH (by kernel_rfl) (by kernel_rfl) (Rg.a_one _)) ⟨hV.upd (fun _ h => by cases h), Ph2.last (hd 8 (by kernel_rfl)) ?_⟩
                exact hT
            case hend =>
              intro l vs X hl ⟨hV, hS⟩
              have hX := hS.2.2 (hl 9 (by decide))
              have v0 := hV 0 _ (hl 0 (by decide)) rfl
              have v1 := hV 1 _ (hl 1 (by decide)) rfl
              have v2 := hV 2 _ (hl 2 (by decide)) rfl
              have v3 := hV 3 _ (hl 3 (by decide)) rfl
              have v4 := hV 4 _ (hl 4 (by decide)) rfl
              have v5 := hV 5 _ (hl 5 (by decide)) rfl
              clear hV hS hl
              obtain ⟨b6, b7, u6, u7, g6, g7, hne, hb6, hb7, hB9⟩ := hX
              simp only [canonL, if_true, v0, v1, v2, v3, v4, v5, u6, u7]
              clear v0 v1 v2 v3 v4 v5 u6 u7
              go_simp
              have c13a := h13.below hB9 h13.lt
              have hbx : Below X3.heap.size X3 X := HBX.out.trans (hB9.mono HBX.out.size)
              have HBX9 : Hid (Below X3.heap.size X3 X) := hbx
              have d0 : X.cell? ⟨c13, 0, none⟩ = some (.bool kq.come) := c13a.cell 0
              have e1 : X.cell? ⟨b6, 1, none⟩ = some (.int .u32 ((kq.r 3).least : Int)) := hb6.cell 1
              have e2 : X.cell? ⟨b6, 2, none⟩ = some (.int .u32 ((kq.r 3).great : Int)) := hb6.cell 2
              have e3 : X.cell? ⟨b7, 1, none⟩ = some (.int .u32 ((kq.r 4).least : Int)) := hb7.cell 1
              have e4 : X.cell? ⟨b7, 2, none⟩ = some (.int .u32 ((kq.r 4).great : Int)) := hb7.cell 2
              rw [HGQ.out.1] at d0
              have p1 : ¬ (a : Int) < ((kq.r 3).least : Int) := by have := HGQ.out.2.1; omega
              have p2 : ¬ ((kq.r 3).great : Int) < (a : Int) := by have := HGQ.out.2.2.1; omega
              have p3 : ¬ (b : Int) < ((kq.r 4).least : Int) := by have := HGQ.out.2.2.2.1; omega
              have p4 : ¬ ((kq.r 4).great : Int) < (b : Int) := by have := HGQ.out.2.2.2.2; omega
              clear hb6 hb7 hB9 hne g6 g7 c13a hbx h13 HBX
              generalize (kq.r 3).a = ra3 at *
              generalize (kq.r 4).a = ra4 at *
              generalize (kq.r 3).least = l3 at *
              generalize (kq.r 3).great = g3 at *
              generalize (kq.r 4).least = l4 at *
              generalize (kq.r 4).great = g4 at *
              obtain ⟨W9, hren⟩ : ∃ Z, Z = X := ⟨_, rfl⟩
              subst hren
              go_wp2_with fail
              go_roundw
              case rel => exact ⟨j + 1, by omega, by simp, HBX9.out⟩
              case measure => simp [intOf]; omega
      · obtain rfl : j = 4 := by omega
        have HJr : Hid (JB w dl dg sl sg xa xb imm b9 (twoK ⟨true, dl, dg⟩ ⟨true, sl, sg⟩) wr) := HX3.out.grow HBr.out
        have hkn := knownl_any wr (HG.out.below HJr.out.below HG.out.size)
        go_wp2_with (go_at_call 12; refine hkn.mono ?_; rintro e W9 ⟨rfl, hB9⟩)
        go_ret
        exact ⟨rfl, HJr.out.below.trans (hB9.mono HJr.out.below.size)⟩
theorem jumps_walk (d s : Rg) (hd : d.Ok) (hs : s.Ok) (xa xb imm : Nat) (w : World) (hG : Glob w) (h1 : xa < 4294967296) (h2 : xb < 4294967296) (h3 : imm < 4294967296) :
    Calls Tryd.prog 6 #[d.v, s.v, .agg #[.int .u32 (xa : Int), .int .u32 (xb : Int), .int .u32 (imm : Int)]] w fun e w' => e = .returned (.bool true) ∧ Below w.heap.size w w' := by
  obtain ⟨ds, dl, dg⟩ := d
  obtain ⟨ss, sl, sg⟩ := s
  have hdg : dg < 4294967296 := hd.great
  have hsg : sg < 4294967296 := hs.great
  cases ds with
  | false => exact jumps_e0 ss dl dg sl sg xa xb imm w hG
  | true =>
    cases ss with
    | false => exact jumps_e1 dl dg sl sg xa xb imm w hG
    | true =>
      by_cases c1 : (dg : Int) < (dl : Int)
      · exact jumps_e2 dl dg sl sg xa xb imm w hG c1
      by_cases c2 : (sg : Int) < (sl : Int)
      · exact jumps_e3 dl dg sl sg xa xb imm w hG c1 c2
      exact jumps_main dl dg sl sg xa xb imm w hG hdg hsg h1 h2 h3 c1 c2
end Go.Proofs.YtodkehpldlmgaaaDoor
