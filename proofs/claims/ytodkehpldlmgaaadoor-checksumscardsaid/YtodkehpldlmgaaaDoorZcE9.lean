/- Sums of two ranges. -/
import Derived.Test.YtodkehpldlmgaaaDoorZcE3
import Derived.Test.YtodkehpldlmgaaaDoorZcE8
import Derived.Test.YtodkehpldlmgaaaDoorZcK6
import Derived.Test.YtodkehpldlmgaaaDoorZq2
import Derived.Deep.Cut
namespace Go.Proofs.YtodkehpldlmgaaaDoor
open Go.RowKit

set_option maxRecDepth 10000 in
set_option maxHeartbeats 4000000 in
theorem sums_e0 (ss : Bool) (dl dg sl sg xa xb : Nat) (w : World) (hG : Glob w) :
    Calls Tryd.prog 5 #[.agg #[.bool false, .int .u32 (dl : Int), .int .u32 (dg : Int)], .agg #[.bool ss, .int .u32 (sl : Int), .int .u32 (sg : Int)], .agg #[.int .u32 (xa : Int), .int .u32 (xb : Int)]] w fun e w' => e = .returned (.bool true) ∧ Below w.heap.size w w' := by
  have hB0 : Below w.heap.size w (((w.alloc (.cells #[.bool false, .int .u32 (dl : Int), .int .u32 (dg : Int)] 40)).alloc (.cells #[.bool ss, .int .u32 (sl : Int), .int .u32 (sg : Int)] 40)).alloc (.cells #[.int .u32 (xa : Int), .int .u32 (xb : Int)] 52)) := (((Below.refl _ _).alloc (Nat.le_refl _) _).alloc (by simp) _).alloc (by simp; omega) _
  have hkn := knownl_any _ (hG.below hB0 hG.size)
  have HB0 := hB0
  clear hG hB0
  go_enter Tryd.func5, Tryd.ntmps5
  go_wp2_with (go_at_call 12; refine hkn.mono ?_; rintro e W1 ⟨rfl, hB1⟩)
  go_ret
  exact ⟨rfl, HB0.trans (hB1.mono HB0.size)⟩
set_option maxRecDepth 10000 in
set_option maxHeartbeats 4000000 in
theorem sums_e1 (dl dg sl sg xa xb : Nat) (w : World) (hG : Glob w) :
    Calls Tryd.prog 5 #[.agg #[.bool true, .int .u32 (dl : Int), .int .u32 (dg : Int)], .agg #[.bool false, .int .u32 (sl : Int), .int .u32 (sg : Int)], .agg #[.int .u32 (xa : Int), .int .u32 (xb : Int)]] w fun e w' => e = .returned (.bool true) ∧ Below w.heap.size w w' := by
  have hB0 : Below w.heap.size w (((w.alloc (.cells #[.bool true, .int .u32 (dl : Int), .int .u32 (dg : Int)] 40)).alloc (.cells #[.bool false, .int .u32 (sl : Int), .int .u32 (sg : Int)] 40)).alloc (.cells #[.int .u32 (xa : Int), .int .u32 (xb : Int)] 52)) := (((Below.refl _ _).alloc (Nat.le_refl _) _).alloc (by simp) _).alloc (by simp; omega) _
  have hkn := knownl_any _ (hG.below hB0 hG.size)
  have HB0 := hB0
  clear hG hB0
  go_enter Tryd.func5, Tryd.ntmps5
  go_wp2_with (go_at_call 12; refine hkn.mono ?_; rintro e W1 ⟨rfl, hB1⟩)
  go_ret
  exact ⟨rfl, HB0.trans (hB1.mono HB0.size)⟩
set_option maxRecDepth 10000 in
set_option maxHeartbeats 4000000 in
theorem sums_e2 (dl dg sl sg xa xb : Nat) (w : World) (hG : Glob w) (h1 : (dg : Int) < (dl : Int)) :
    Calls Tryd.prog 5 #[.agg #[.bool true, .int .u32 (dl : Int), .int .u32 (dg : Int)], .agg #[.bool true, .int .u32 (sl : Int), .int .u32 (sg : Int)], .agg #[.int .u32 (xa : Int), .int .u32 (xb : Int)]] w fun e w' => e = .returned (.bool true) ∧ Below w.heap.size w w' := by
  have hB0 : Below w.heap.size w (((w.alloc (.cells #[.bool true, .int .u32 (dl : Int), .int .u32 (dg : Int)] 40)).alloc (.cells #[.bool true, .int .u32 (sl : Int), .int .u32 (sg : Int)] 40)).alloc (.cells #[.int .u32 (xa : Int), .int .u32 (xb : Int)] 52)) := (((Below.refl _ _).alloc (Nat.le_refl _) _).alloc (by simp) _).alloc (by simp; omega) _
  have hkn := knownl_any _ (hG.below hB0 hG.size)
  have HB0 := hB0
  clear hG hB0
  go_enter Tryd.func5, Tryd.ntmps5
  go_wp2_with (go_at_call 12; refine hkn.mono ?_; rintro e W1 ⟨rfl, hB1⟩)
  go_ret
  exact ⟨rfl, HB0.trans (hB1.mono HB0.size)⟩
set_option maxRecDepth 10000 in
set_option maxHeartbeats 4000000 in
theorem sums_e3 (dl dg sl sg xa xb : Nat) (w : World) (hG : Glob w) (h1 : ¬ (dg : Int) < (dl : Int)) (h2 : (sg : Int) < (sl : Int)) :
    Calls Tryd.prog 5 #[.agg #[.bool true, .int .u32 (dl : Int), .int .u32 (dg : Int)], .agg #[.bool true, .int .u32 (sl : Int), .int .u32 (sg : Int)], .agg #[.int .u32 (xa : Int), .int .u32 (xb : Int)]] w fun e w' => e = .returned (.bool true) ∧ Below w.heap.size w w' := by
  have hB0 : Below w.heap.size w (((w.alloc (.cells #[.bool true, .int .u32 (dl : Int), .int .u32 (dg : Int)] 40)).alloc (.cells #[.bool true, .int .u32 (sl : Int), .int .u32 (sg : Int)] 40)).alloc (.cells #[.int .u32 (xa : Int), .int .u32 (xb : Int)] 52)) := (((Below.refl _ _).alloc (Nat.le_refl _) _).alloc (by simp) _).alloc (by simp; omega) _
  have hkn := knownl_any _ (hG.below hB0 hG.size)
  have HB0 := hB0
  clear hG hB0
  go_enter Tryd.func5, Tryd.ntmps5
  go_wp2_with (go_at_call 12; refine hkn.mono ?_; rintro e W1 ⟨rfl, hB1⟩)
  go_ret
  exact ⟨rfl, HB0.trans (hB1.mono HB0.size)⟩
/-- The world of two ranges and two words, and what is known. -/
structure SB (w : World) (dl dg sl sg xa xb b9 : Nat) (k : Kn) (X : World) : Prop where
  d : Has X w.heap.size #[.bool true, .int .u32 (dl : Int), .int .u32 (dg : Int)] 40
  s : Has X (w.heap.size + 1) #[.bool true, .int .u32 (sl : Int), .int .u32 (sg : Int)] 40
  x : Has X (w.heap.size + 2) #[.int .u32 (xa : Int), .int .u32 (xb : Int)] 52
  k : Has X b9 k.a 43
  below : Below w.heap.size w X
  lt : w.heap.size + 2 < b9
theorem SB.grow {w : World} {dl dg sl sg xa xb b9 : Nat} {k : Kn} {X X' : World} (h : SB w dl dg sl sg xa xb b9 k X) (g : Below X.heap.size X X') : SB w dl dg sl sg xa xb b9 k X' :=
  ⟨h.d.below g h.d.lt, h.s.below g h.s.lt, h.x.below g h.x.lt, h.k.below g h.k.lt, h.below.trans (g.mono h.below.size), h.lt⟩
theorem SB.exc {w : World} {dl dg sl sg xa xb b9 : Nat} {k : Kn} {X X' : World} {c : Nat} (h : SB w dl dg sl sg xa xb b9 k X) (g : Ex c X X') (hc : b9 < c) : SB w dl dg sl sg xa xb b9 k X' := by
  have := h.lt
  exact ⟨h.d.ex g (by omega), h.s.ex g (by omega), h.x.ex g (by omega), h.k.ex g (by omega), Below.ex h.below h.below.size g (by omega), h.lt⟩
theorem SB.set {w : World} {dl dg sl sg xa xb b9 : Nat} {k : Kn} {X : World} (h : SB w dl dg sl sg xa xb b9 k X) (n : Nat) (hn : n < 10) (r : Rg) : SB w dl dg sl sg xa xb b9 (k.set n r) (X.setCells b9 (1 + n * 3) r.cells) := by
  obtain ⟨g1, g2⟩ := setReg h.k n hn r
  have := h.lt
  exact ⟨h.d.ex g2 (by omega), h.s.ex g2 (by omega), h.x.ex g2 (by omega), g1, Below.ex h.below h.below.size g2 (by omega), h.lt⟩
set_option maxRecDepth 10000 in
set_option maxHeartbeats 4000000 in
theorem sums_main (dl dg sl sg xa xb : Nat) (w : World) (hG : Glob w) (hd : dg < 4294967296) (hs : sg < 4294967296) (hxa : xa < 4294967296) (hxb : xb < 4294967296) (h1 : ¬ (dg : Int) < (dl : Int)) (h2 : ¬ (sg : Int) < (sl : Int)) :
    Calls Tryd.prog 5 #[.agg #[.bool true, .int .u32 (dl : Int), .int .u32 (dg : Int)], .agg #[.bool true, .int .u32 (sl : Int), .int .u32 (sg : Int)], .agg #[.int .u32 (xa : Int), .int .u32 (xb : Int)]] w fun e w' => e = .returned (.bool true) ∧ Below w.heap.size w w' := by
  have hda := word_in (show dl ≤ dg by omega) xa
  have hdb := word_in (show sl ≤ sg by omega) xb
  have HBEH : Hid (∀ n, isTwo n = true → 2 ≤ n → n ≤ 15 → ((n = 14 ∨ n = 15) ∧ sl = 0 → (behV (sumI n) 0 (twoK ⟨true, dl, dg⟩ ⟨true, sl, sg⟩)).2.2 = 162) ∧ (¬ ((n = 14 ∨ n = 15) ∧ sl = 0) → ∃ q m, behV (sumI n) 0 (twoK ⟨true, dl, dg⟩ ⟨true, sl, sg⟩) = (q, m, 0) ∧ madeIn (madeN n (wordN dl dg xa) (wordN sl sg xb)) q ⟨true, sl, sg⟩)) := fun n a1 a2 a3 => sum_beh hda.1 hda.2 hd hdb.1 hdb.2 hs a1 a2 a3
  have HOK : Hid (KOk (twoK ⟨true, dl, dg⟩ ⟨true, sl, sg⟩)) := (twoK_right (d := ⟨true, dl, dg⟩) (s := ⟨true, sl, sg⟩) (good_from (l := dl) (g := dg) (by omega) hd) (good_from (l := sl) (g := sg) (by omega) hs)).ok
  have HAB : Hid (wordN dl dg xa < 4294967296 ∧ wordN sl sg xb < 4294967296 ∧ sl ≤ wordN sl sg xb) := ⟨by omega, by omega, hdb.1⟩
  have HSG : Hid (sg < 4294967296) := hs
  have hwa := fun W => word_any true dl dg xa W (by omega) hd hxa
  have hwb := fun W => word_any true sl sg xb W (by omega) hs hxb
  clear hda hdb
  obtain ⟨W0, hW0⟩ : ∃ W0, W0 = ((w.alloc (.cells #[.bool true, .int .u32 (dl : Int), .int .u32 (dg : Int)] 40)).alloc (.cells #[.bool true, .int .u32 (sl : Int), .int .u32 (sg : Int)] 40)).alloc (.cells #[.int .u32 (xa : Int), .int .u32 (xb : Int)] 52) := ⟨_, rfl⟩
  have hd0 : Has W0 w.heap.size #[.bool true, .int .u32 (dl : Int), .int .u32 (dg : Int)] 40 := by rw [hW0]; exact has_old (has_old (has_new _ _ _ _ rfl))
  have hs0 : Has W0 (w.heap.size + 1) #[.bool true, .int .u32 (sl : Int), .int .u32 (sg : Int)] 40 := by rw [hW0]; exact has_old (has_new _ _ _ _ (by simp))
  have hx0 : Has W0 (w.heap.size + 2) #[.int .u32 (xa : Int), .int .u32 (xb : Int)] 52 := by rw [hW0]; exact has_new _ _ _ _ (by simp)
  have hB0 : Below w.heap.size w W0 := by rw [hW0]; exact (((Below.refl _ _).alloc (Nat.le_refl _) _).alloc (by simp) _).alloc (by simp; omega) _
  go_enter Tryd.func5, Tryd.ntmps5
  go_upto_region 3 with fail
  rw [← hW0]
  clear hW0
  have c0 : W0.cell? ⟨w.heap.size + 2, 0, none⟩ = some (.int .u32 (xa : Int)) := hx0.cell 0
  go_upto_region 4 with (first | refine wpList_load_row_if rfl 40 _ rfl w.heap.size (by kernel_rfl) 40 #[.bool true, .int .u32 (dl : Int), .int .u32 (dg : Int)] (0, 0) _ hd0 Tryd.underlying40 rfl (by kernel_rfl) ?_ | (go_at_call 21; refine (hwa _).mono ?_; rintro e W1 ⟨rfl, hB1⟩; clear c0))
  have hd1 := hd0.below hB1 hd0.lt
  have hs1 := hs0.below hB1 hs0.lt
  have hx1 := hx0.below hB1 hx0.lt
  have hBw1 := hB0.trans (hB1.mono hB0.size)
  clear hd0 hs0 hx0 hB0 hB1 hwa
  have c0 : W1.cell? ⟨w.heap.size + 2, 1, none⟩ = some (.int .u32 (xb : Int)) := hx1.cell 1
  go_upto_region 5 with (first | refine wpList_load_row_if rfl 40 _ rfl (w.heap.size + 1) (by kernel_rfl) 40 #[.bool true, .int .u32 (sl : Int), .int .u32 (sg : Int)] (0, 0) _ hs1 Tryd.underlying40 rfl (by kernel_rfl) ?_ | (go_at_call 21; refine (hwb _).mono ?_; rintro e W2 ⟨rfl, hB2⟩; clear c0))
  have hd2 := hd1.below hB2 hd1.lt
  have hs2 := hs1.below hB2 hs1.lt
  have hx2 := hx1.below hB2 hx1.lt
  have hBw2 := hBw1.trans (hB2.mono hBw1.size)
  clear hd1 hs1 hx1 hBw1 hB2 hwb
  generalize hwna : wordN dl dg xa = a at *
  generalize hwnb : wordN sl sg xb = b at *
  clear hwna hwnb
  obtain ⟨b9, hb9⟩ : ∃ b9, b9 = W2.heap.size := ⟨_, rfl⟩
  have hz0 : Has (W2.alloc (.cells #[.bool false, .bool false, .int .u32 0, .int .u32 0, .bool false, .int .u32 0, .int .u32 0, .bool false, .int .u32 0, .int .u32 0, .bool false, .int .u32 0, .int .u32 0, .bool false, .int .u32 0, .int .u32 0, .bool false, .int .u32 0, .int .u32 0, .bool false, .int .u32 0, .int .u32 0, .bool false, .int .u32 0, .int .u32 0, .bool false, .int .u32 0, .int .u32 0, .bool false, .int .u32 0, .int .u32 0] 43)) b9 #[.bool false, .bool false, .int .u32 0, .int .u32 0, .bool false, .int .u32 0, .int .u32 0, .bool false, .int .u32 0, .int .u32 0, .bool false, .int .u32 0, .int .u32 0, .bool false, .int .u32 0, .int .u32 0, .bool false, .int .u32 0, .int .u32 0, .bool false, .int .u32 0, .int .u32 0, .bool false, .int .u32 0, .int .u32 0, .bool false, .int .u32 0, .int .u32 0, .bool false, .int .u32 0, .int .u32 0] 43 := has_new _ _ _ _ hb9
  have hlt9 : w.heap.size + 2 < b9 := by rw [hb9]; exact hx2.lt
  have hJ : SB w dl dg sl sg xa xb b9 comeK ((W2.alloc (.cells #[.bool false, .bool false, .int .u32 0, .int .u32 0, .bool false, .int .u32 0, .int .u32 0, .bool false, .int .u32 0, .int .u32 0, .bool false, .int .u32 0, .int .u32 0, .bool false, .int .u32 0, .int .u32 0, .bool false, .int .u32 0, .int .u32 0, .bool false, .int .u32 0, .int .u32 0, .bool false, .int .u32 0, .int .u32 0, .bool false, .int .u32 0, .int .u32 0, .bool false, .int .u32 0, .int .u32 0] 43)).setRow b9 #[.bool true, .bool false, .int .u32 0, .int .u32 0, .bool false, .int .u32 0, .int .u32 0, .bool false, .int .u32 0, .int .u32 0, .bool false, .int .u32 0, .int .u32 0, .bool false, .int .u32 0, .int .u32 0, .bool false, .int .u32 0, .int .u32 0, .bool false, .int .u32 0, .int .u32 0, .bool false, .int .u32 0, .int .u32 0, .bool false, .int .u32 0, .int .u32 0, .bool false, .int .u32 0, .int .u32 0]) := by
    have g1 : Below W2.heap.size W2 (W2.alloc (.cells #[.bool false, .bool false, .int .u32 0, .int .u32 0, .bool false, .int .u32 0, .int .u32 0, .bool false, .int .u32 0, .int .u32 0, .bool false, .int .u32 0, .int .u32 0, .bool false, .int .u32 0, .int .u32 0, .bool false, .int .u32 0, .int .u32 0, .bool false, .int .u32 0, .int .u32 0, .bool false, .int .u32 0, .int .u32 0, .bool false, .int .u32 0, .int .u32 0, .bool false, .int .u32 0, .int .u32 0] 43)) := (Below.refl _ _).alloc (Nat.le_refl _) _
    have g2 := setRow_ex (W2.alloc (.cells #[.bool false, .bool false, .int .u32 0, .int .u32 0, .bool false, .int .u32 0, .int .u32 0, .bool false, .int .u32 0, .int .u32 0, .bool false, .int .u32 0, .int .u32 0, .bool false, .int .u32 0, .int .u32 0, .bool false, .int .u32 0, .int .u32 0, .bool false, .int .u32 0, .int .u32 0, .bool false, .int .u32 0, .int .u32 0, .bool false, .int .u32 0, .int .u32 0, .bool false, .int .u32 0, .int .u32 0] 43)) b9 #[.bool true, .bool false, .int .u32 0, .int .u32 0, .bool false, .int .u32 0, .int .u32 0, .bool false, .int .u32 0, .int .u32 0, .bool false, .int .u32 0, .int .u32 0, .bool false, .int .u32 0, .int .u32 0, .bool false, .int .u32 0, .int .u32 0, .bool false, .int .u32 0, .int .u32 0, .bool false, .int .u32 0, .int .u32 0, .bool false, .int .u32 0, .int .u32 0, .bool false, .int .u32 0, .int .u32 0]
    exact ⟨(hd2.below g1 hd2.lt).ex g2 (by omega), (hs2.below g1 hs2.lt).ex g2 (by omega), (hx2.below g1 hx2.lt).ex g2 (by omega), setRow_has hz0 _, Below.ex (hBw2.trans (g1.mono hBw2.size)) (Nat.le_trans hBw2.size g1.size) g2 (by omega), hlt9⟩
  have HJ : Hid (SB w dl dg sl sg xa xb b9 comeK ((W2.alloc (.cells #[.bool false, .bool false, .int .u32 0, .int .u32 0, .bool false, .int .u32 0, .int .u32 0, .bool false, .int .u32 0, .int .u32 0, .bool false, .int .u32 0, .int .u32 0, .bool false, .int .u32 0, .int .u32 0, .bool false, .int .u32 0, .int .u32 0, .bool false, .int .u32 0, .int .u32 0, .bool false, .int .u32 0, .int .u32 0, .bool false, .int .u32 0, .int .u32 0, .bool false, .int .u32 0, .int .u32 0] 43)).setRow b9 #[.bool true, .bool false, .int .u32 0, .int .u32 0, .bool false, .int .u32 0, .int .u32 0, .bool false, .int .u32 0, .int .u32 0, .bool false, .int .u32 0, .int .u32 0, .bool false, .int .u32 0, .int .u32 0, .bool false, .int .u32 0, .int .u32 0, .bool false, .int .u32 0, .int .u32 0, .bool false, .int .u32 0, .int .u32 0, .bool false, .int .u32 0, .int .u32 0, .bool false, .int .u32 0, .int .u32 0])) := hJ
  clear hJ hd2 hs2 hx2 hBw2 hlt9
  go_upto_region 6 with (refine wpList_store_row rfl 43 _ _ rfl b9 #[.bool true, .bool false, .int .u32 0, .int .u32 0, .bool false, .int .u32 0, .int .u32 0, .bool false, .int .u32 0, .int .u32 0, .bool false, .int .u32 0, .int .u32 0, .bool false, .int .u32 0, .int .u32 0, .bool false, .int .u32 0, .int .u32 0, .bool false, .int .u32 0, .int .u32 0, .bool false, .int .u32 0, .int .u32 0, .bool false, .int .u32 0, .int .u32 0, .bool false, .int .u32 0, .int .u32 0] (by rw [hb9]; kernel_rfl) (by kernel_rfl) 43 #[.bool false, .bool false, .int .u32 0, .int .u32 0, .bool false, .int .u32 0, .int .u32 0, .bool false, .int .u32 0, .int .u32 0, .bool false, .int .u32 0, .int .u32 0, .bool false, .int .u32 0, .int .u32 0, .bool false, .int .u32 0, .int .u32 0, .bool false, .int .u32 0, .int .u32 0, .bool false, .int .u32 0, .int .u32 0, .bool false, .int .u32 0, .int .u32 0, .bool false, .int .u32 0, .int .u32 0] hz0 (by kernel_rfl) (by kernel_rfl) (by kernel_rfl) ?_)
  rw [← hb9]
  clear hz0 hb9
  generalize ((W2.alloc (.cells #[.bool false, .bool false, .int .u32 0, .int .u32 0, .bool false, .int .u32 0, .int .u32 0, .bool false, .int .u32 0, .int .u32 0, .bool false, .int .u32 0, .int .u32 0, .bool false, .int .u32 0, .int .u32 0, .bool false, .int .u32 0, .int .u32 0, .bool false, .int .u32 0, .int .u32 0, .bool false, .int .u32 0, .int .u32 0, .bool false, .int .u32 0, .int .u32 0, .bool false, .int .u32 0, .int .u32 0] 43)).setRow b9 #[.bool true, .bool false, .int .u32 0, .int .u32 0, .bool false, .int .u32 0, .int .u32 0, .bool false, .int .u32 0, .int .u32 0, .bool false, .int .u32 0, .int .u32 0, .bool false, .int .u32 0, .int .u32 0, .bool false, .int .u32 0, .int .u32 0, .bool false, .int .u32 0, .int .u32 0, .bool false, .int .u32 0, .int .u32 0, .bool false, .int .u32 0, .int .u32 0, .bool false, .int .u32 0, .int .u32 0]) = W4 at *
  generalize (Value.agg #[.bool true, .bool false, .int .u32 0, .int .u32 0, .bool false, .int .u32 0, .int .u32 0, .bool false, .int .u32 0, .int .u32 0, .bool false, .int .u32 0, .int .u32 0, .bool false, .int .u32 0, .int .u32 0, .bool false, .int .u32 0, .int .u32 0, .bool false, .int .u32 0, .int .u32 0, .bool false, .int .u32 0, .int .u32 0, .bool false, .int .u32 0, .int .u32 0, .bool false, .int .u32 0, .int .u32 0]) = u49
  go_simp
  refine wp_region_inv (Φ := fun l vs X => Vals (fun q => match q with | 0 => some (.agg #[.bool true, .int .u32 (dl : Int), .int .u32 (dg : Int)]) | 1 => some (.agg #[.bool true, .int .u32 (sl : Int), .int .u32 (sg : Int)]) | 2 => some (.pointer (some ⟨b9, 1, none⟩)) | 3 => some (.pointer (some ⟨b9, 10, none⟩)) | 5 => some (.pointer (some ⟨b9, 1, none⟩)) | 6 => some (.pointer (some ⟨b9, 13, none⟩)) | _ => none) l vs ∧ Pre2 4 7 (Below W4.heap.size W4) (SB w dl dg sl sg xa xb b9 (comeK.set 3 ⟨true, dl, dg⟩)) (SB w dl dg sl sg xa xb b9 (twoK ⟨true, dl, dg⟩ ⟨true, sl, sg⟩)) l X) (PQ := fun _ _ => False)
    (by kernel_rfl) (by kernel_rfl) (by kernel_rfl) (by kernel_rfl) ⟨Vals.none _ _, Pre2.start ((Below.refl _ _).drew)⟩ ?hop ?hend (fun _ _ _ _ h => h.elim)
  case hop =>
    refine ⟨?_, ?_, ?_, ?_, ?_, ?_, ?_, ?_, trivial⟩
    · intro l vs X A hA ⟨hV, hS⟩ hl hd hcl
      have hj := notYet (k := 4) hcl (by kernel_rfl) hl
      have hk := notYet (k := 7) hcl (by kernel_rfl) hl
      have hX := hS.1 hj
      have hB := hX
      have a3 := eval_old hA 3 (by kernel_rfl) rfl
      refine show_value (v := .agg #[.bool true, .int .u32 (dl : Int), .int .u32 (dg : Int)]) (X' := X) (run_ld 40 _ rfl _ a3 (ld_row (l := Rg.cells ⟨true, dl, dg⟩) (has_whole ((HJ.out.grow hB).d)) (by kernel_rfl))) ⟨hV.upd (fun _ h => Option.some.inj h), Pre2.keep hj hk (by decide) (by decide) (hX)⟩
    · intro l vs X A hA ⟨hV, hS⟩ hl hd hcl
      have hk := notYet (k := 7) hcl (by kernel_rfl) hl
      have a4 := eval_old hA 4 (by kernel_rfl) rfl
      cases hj : l 4 with
      | true =>
        have hX := hS.2.1 hj hk
        exact show_value (v := .agg #[.bool true, .int .u32 (sl : Int), .int .u32 (sg : Int)]) (X' := X) (run_ld 40 _ rfl _ a4 (ld_row (l := Rg.cells ⟨true, sl, sg⟩) (has_whole hX.s) (by kernel_rfl))) ⟨hV.upd (fun _ h => Option.some.inj h), Pre2.keepMid hj hk (by decide) (by decide) hX⟩
      | false =>
        have hX := hS.1 hj
        have hB := hX
        exact show_value (v := .agg #[.bool true, .int .u32 (sl : Int), .int .u32 (sg : Int)]) (X' := X) (run_ld 40 _ rfl _ a4 (ld_row (l := Rg.cells ⟨true, sl, sg⟩) (has_whole ((HJ.out.grow hB).s)) (by kernel_rfl))) ⟨hV.upd (fun _ h => Option.some.inj h), Pre2.keep hj hk (by decide) (by decide) hX⟩
    · intro l vs X A hA ⟨hV, hS⟩ hl hd hcl
      have hj := notYet (k := 4) hcl (by kernel_rfl) hl
      have hk := notYet (k := 7) hcl (by kernel_rfl) hl
      have hX := hS.1 hj
      have hB := hX
      have a9 := eval_old hA 9 (by kernel_rfl) rfl
      refine show_value (v := .pointer (some ⟨b9, 1, none⟩)) (X' := X) ?_ ⟨hV.upd (fun _ h => Option.some.inj h), Pre2.keep hj hk (by decide) (by decide) (hX)⟩
      generalize A.eval = ρ at *
      clear hA hl hd hcl hV hS
      go_simp
    · intro l vs X A hA ⟨hV, hS⟩ hl hd hcl
      have hj := notYet (k := 4) hcl (by kernel_rfl) hl
      have hk := notYet (k := 7) hcl (by kernel_rfl) hl
      have hX := hS.1 hj
      have hB := hX
      have a50 := eval_new hA 50 2 (by kernel_rfl) (by kernel_rfl) (by kernel_rfl) (hd 2 (by kernel_rfl)) (hV 2 _ (hd 2 (by kernel_rfl)) rfl)
      have aC0 : A.eval (.const (.int .i64 3)) = (.int .i64 3) := rfl
      refine show_value (v := .pointer (some ⟨b9, 10, none⟩)) (X' := X) ?_ ⟨hV.upd (fun _ h => Option.some.inj h), Pre2.keep hj hk (by decide) (by decide) (hX)⟩
      generalize A.eval = ρ at *
      clear hA hl hd hcl hV hS
      go_simp
    · intro l vs X A hA ⟨hV, hS⟩ hl hd hcl
      have hk := notYet (k := 7) hcl (by kernel_rfl) hl
      have hX := hS.1 hl
      have a48 := eval_new hA 48 0 (by kernel_rfl) (by kernel_rfl) (by kernel_rfl) (hd 0 (by kernel_rfl)) (hV 0 _ (hd 0 (by kernel_rfl)) rfl)
      have a51 := eval_new hA 51 3 (by kernel_rfl) (by kernel_rfl) (by kernel_rfl) (hd 3 (by kernel_rfl)) (hV 3 _ (hd 3 (by kernel_rfl)) rfl)
      have hg := HJ.out.grow hX
      exact show_skip (X' := X.setCells b9 (1 + 3 * 3) (Rg.cells ⟨true, dl, dg⟩)) (run_st_reg _ _ rfl b9 3 43 comeK ⟨true, dl, dg⟩ a51 a48 hg.k (by decide)) ⟨hV.upd (fun _ h => by cases h), Pre2.mid hk (by decide) (hg.set 3 (by decide) ⟨true, dl, dg⟩)⟩
    · intro l vs X A hA ⟨hV, hS⟩ hl hd hcl
      have hk := notYet (k := 7) hcl (by kernel_rfl) hl
      have a9 := eval_old hA 9 (by kernel_rfl) rfl
      cases hj : l 4 with
      | true =>
        have hX := hS.2.1 hj hk
        exact show_value (v := .pointer (some ⟨b9, 1, none⟩)) (X' := X) (by generalize A.eval = ρ at *; clear hA hl hd hcl hV hS; go_simp) ⟨hV.upd (fun _ h => Option.some.inj h), Pre2.keepMid hj hk (by decide) (by decide) hX⟩
      | false =>
        have hX := hS.1 hj
        have hB := hX
        exact show_value (v := .pointer (some ⟨b9, 1, none⟩)) (X' := X) (by generalize A.eval = ρ at *; clear hA hl hd hcl hV hS; go_simp) ⟨hV.upd (fun _ h => Option.some.inj h), Pre2.keep hj hk (by decide) (by decide) hX⟩
    · intro l vs X A hA ⟨hV, hS⟩ hl hd hcl
      have hk := notYet (k := 7) hcl (by kernel_rfl) hl
      have a52 := eval_new hA 52 5 (by kernel_rfl) (by kernel_rfl) (by kernel_rfl) (hd 5 (by kernel_rfl)) (hV 5 _ (hd 5 (by kernel_rfl)) rfl)
      have aC0 : A.eval (.const (.int .i64 4)) = (.int .i64 4) := rfl
      cases hj : l 4 with
      | true =>
        have hX := hS.2.1 hj hk
        exact show_value (v := .pointer (some ⟨b9, 13, none⟩)) (X' := X) (by generalize A.eval = ρ at *; clear hA hl hd hcl hV hS; go_simp) ⟨hV.upd (fun _ h => Option.some.inj h), Pre2.keepMid hj hk (by decide) (by decide) hX⟩
      | false =>
        have hX := hS.1 hj
        have hB := hX
        exact show_value (v := .pointer (some ⟨b9, 13, none⟩)) (X' := X) (by generalize A.eval = ρ at *; clear hA hl hd hcl hV hS; go_simp) ⟨hV.upd (fun _ h => Option.some.inj h), Pre2.keep hj hk (by decide) (by decide) hX⟩
    · intro l vs X A hA ⟨hV, hS⟩ hl hd hcl
      have hX := hS.2.1 (hd 4 (by kernel_rfl)) hl
      have a49 := eval_new hA 49 1 (by kernel_rfl) (by kernel_rfl) (by kernel_rfl) (hd 1 (by kernel_rfl)) (hV 1 _ (hd 1 (by kernel_rfl)) rfl)
      have a53 := eval_new hA 53 6 (by kernel_rfl) (by kernel_rfl) (by kernel_rfl) (hd 6 (by kernel_rfl)) (hV 6 _ (hd 6 (by kernel_rfl)) rfl)
      exact show_skip (X' := X.setCells b9 (1 + 4 * 3) (Rg.cells ⟨true, sl, sg⟩)) (run_st_reg _ _ rfl b9 4 43 (comeK.set 3 ⟨true, dl, dg⟩) ⟨true, sl, sg⟩ a53 a49 hX.k (by decide)) ⟨hV.upd (fun _ h => by cases h), Pre2.last (hd 4 (by kernel_rfl)) (hX.set 4 (by decide) ⟨true, sl, sg⟩)⟩
  case hend =>
    intro l vs X hl ⟨hV, hS⟩
    have hX := hS.2.2 (hl 7 (by decide))
    have v0 := hV 0 _ (hl 0 (by decide)) rfl
    have v1 := hV 1 _ (hl 1 (by decide)) rfl
    have v2 := hV 2 _ (hl 2 (by decide)) rfl
    have v3 := hV 3 _ (hl 3 (by decide)) rfl
    have v5 := hV 5 _ (hl 5 (by decide)) rfl
    have v6 := hV 6 _ (hl 6 (by decide)) rfl
    clear hV hS hl
    simp only [canonL, if_true, v0, v1, v2, v3, v5, v6]
    clear v0 v1 v2 v3 v5 v6
    go_simp
    obtain ⟨X2, hren⟩ : ∃ Z, Z = X := ⟨_, rfl⟩
    subst hren
    clear HJ
    have HX2 : Hid (SB w dl dg sl sg xa xb b9 (twoK ⟨true, dl, dg⟩ ⟨true, sl, sg⟩) X2) := hX
    have HG : Hid (Glob w) := hG
    clear hX hG
    go_upto_region 8 with fail
    go_loopw [10] (fun v wr => ∃ n : Nat, 2 ≤ n ∧ n ≤ 16 ∧ v = .int .i64 (n : Int) ∧ Below X2.heap.size X2 wr) (fun v _ => 16 - (intOf v).toNat)
    case atStart => exact ⟨2, by omega, by omega, rfl, Below.refl _ _⟩
    case round =>
      obtain ⟨n, hn2, hn16, rfl, hBr⟩ := hrel
      have HBr : Hid (Below X2.heap.size X2 wr) := hBr
      clear hBr
      by_cases hlt : n ≤ 15
      · have hlt' : (n : Int) ≤ 15 := by omega
        have HJr : Hid (SB w dl dg sl sg xa xb b9 (twoK ⟨true, dl, dg⟩ ⟨true, sl, sg⟩) wr) := HX2.out.grow HBr.out
        go_upto_region 11 with fail
        refine named2 (p := fun X => Code.wp _ _ _ _ X) ?_
        intro W1 hW1
        have h11 : Has W1 wr.heap.size #[.int .i64 (n : Int), .int .i64 3, .int .i64 4, .int .i64 0, .int .u32 0] 38 := by rw [hW1]; exact has_new _ _ _ _ rfl
        have hBr1 : Below wr.heap.size wr W1 := by rw [hW1]; exact (Below.refl _ _).alloc (Nat.le_refl _) _
        have HJ1 : Hid (SB w dl dg sl sg xa xb b9 (twoK ⟨true, dl, dg⟩ ⟨true, sl, sg⟩) W1) := HJr.out.grow hBr1
        have HB1 : Hid (Below X2.heap.size X2 W1) := HBr.out.trans (hBr1.mono HBr.out.size)
        clear hW1 hBr1 HJr HBr
        generalize wr.heap.size = bi at *
        have hmay := rmay_any (n : Int) 3 4 0 0 W1 (by decide)
        rw [sumI_may hn2 hlt] at hmay
        obtain ⟨tb, htb⟩ : ∃ tb, tb = isTwo n := ⟨_, rfl⟩
        have HTB : Hid (tb = isTwo n) := htb
        rw [← htb] at hmay
        clear htb
        cases tb with
        | false =>
          go_wp2_with (first | refine wpList_load_row_if rfl 38 _ rfl bi (by kernel_rfl) 38 #[.int .i64 (n : Int), .int .i64 3, .int .i64 4, .int .i64 0, .int .u32 0] (0, 0) _ h11 Tryd.underlying38 rfl (by kernel_rfl) ?_ | (go_at_call 18; refine hmay.mono ?_; rintro e W2 ⟨rfl, hB2⟩; clear hmay))
          go_roundw
          case rel => exact ⟨n + 1, by omega, by omega, by simp, HB1.out.trans (hB2.mono HB1.out.size)⟩
          case measure => simp [intOf]; omega
        | true =>
          go_upto_region 12 with (first | refine wpList_load_row_if rfl 38 _ rfl bi (by kernel_rfl) 38 #[.int .i64 (n : Int), .int .i64 3, .int .i64 4, .int .i64 0, .int .u32 0] (0, 0) _ h11 Tryd.underlying38 rfl (by kernel_rfl) ?_ | (go_at_call 18; refine hmay.mono ?_; rintro e W2 ⟨rfl, hB2⟩; clear hmay))
          have h21 := h11.below hB2 h11.lt
          have HJ2 : Hid (SB w dl dg sl sg xa xb b9 (twoK ⟨true, dl, dg⟩ ⟨true, sl, sg⟩) W2) := HJ1.out.grow hB2
          have HB2 : Hid (Below X2.heap.size X2 W2) := HB1.out.trans (hB2.mono HB1.out.size)
          clear h11 HJ1 HB1 hB2
          have hcall : Calls Tryd.prog 17 #[.agg #[.int .i64 (n : Int), .int .i64 3, .int .i64 4, .int .i64 0, .int .u32 0], .int .i64 0, .agg (twoK ⟨true, dl, dg⟩ ⟨true, sl, sg⟩).a] W2 fun e X' => e = .returned (.tuple #[.agg (behV (sumI n) 0 (twoK ⟨true, dl, dg⟩ ⟨true, sl, sg⟩)).1.a, .agg (behV (sumI n) 0 (twoK ⟨true, dl, dg⟩ ⟨true, sl, sg⟩)).2.1.a, .int .i64 (behV (sumI n) 0 (twoK ⟨true, dl, dg⟩ ⟨true, sl, sg⟩)).2.2]) ∧ Below W2.heap.size W2 X' := behind_any (sumI n) 0 (twoK ⟨true, dl, dg⟩ ⟨true, sl, sg⟩) W2 (HG.out.below HJ2.out.below HG.out.size) (by show 0 < 4294967296; decide) HOK.out
          have HBE : Hid (((n = 14 ∨ n = 15) ∧ sl = 0 → (behV (sumI n) 0 (twoK ⟨true, dl, dg⟩ ⟨true, sl, sg⟩)).2.2 = 162) ∧ (¬ ((n = 14 ∨ n = 15) ∧ sl = 0) → ∃ q m, behV (sumI n) 0 (twoK ⟨true, dl, dg⟩ ⟨true, sl, sg⟩) = (q, m, 0) ∧ madeIn (madeN n a b) q ⟨true, sl, sg⟩)) := HBEH.out n HTB.out.symm hn2 hlt
          generalize behV (sumI n) 0 (twoK ⟨true, dl, dg⟩ ⟨true, sl, sg⟩) = B at *
          obtain ⟨n2, j2, E⟩ := B
          obtain ⟨K, hK⟩ : ∃ K, K = twoK ⟨true, dl, dg⟩ ⟨true, sl, sg⟩ := ⟨_, rfl⟩
          rw [← hK] at hcall HJ2
          clear hK
          have hk9 := HJ2.out.k
          go_upto_region 13 with (first | refine wpList_load_row_if rfl 38 _ rfl bi (by kernel_rfl) 38 #[.int .i64 (n : Int), .int .i64 3, .int .i64 4, .int .i64 0, .int .u32 0] (0, 0) _ h21 Tryd.underlying38 rfl (by kernel_rfl) ?_ | refine wpList_load_row_if rfl 43 _ rfl b9 (by kernel_rfl) 43 K.a (0, 0) _ hk9 Tryd.underlying43 rfl (by kernel_rfl) ?_ | (go_at_call 17; refine hcall.mono ?_; rintro e W3 ⟨rfl, hB3⟩; clear hcall h21 hk9; have hz12 : Has ((W3.alloc (.cells #[.bool false, .bool false, .int .u32 0, .int .u32 0, .bool false, .int .u32 0, .int .u32 0, .bool false, .int .u32 0, .int .u32 0, .bool false, .int .u32 0, .int .u32 0, .bool false, .int .u32 0, .int .u32 0, .bool false, .int .u32 0, .int .u32 0, .bool false, .int .u32 0, .int .u32 0, .bool false, .int .u32 0, .int .u32 0, .bool false, .int .u32 0, .int .u32 0, .bool false, .int .u32 0, .int .u32 0] 43)).alloc (.cells #[.bool false, .bool false, .int .u32 0, .int .u32 0, .bool false, .int .u32 0, .int .u32 0, .bool false, .int .u32 0, .int .u32 0, .bool false, .int .u32 0, .int .u32 0, .bool false, .int .u32 0, .int .u32 0, .bool false, .int .u32 0, .int .u32 0, .bool false, .int .u32 0, .int .u32 0, .bool false, .int .u32 0, .int .u32 0, .bool false, .int .u32 0, .int .u32 0, .bool false, .int .u32 0, .int .u32 0] 43)) W3.heap.size #[.bool false, .bool false, .int .u32 0, .int .u32 0, .bool false, .int .u32 0, .int .u32 0, .bool false, .int .u32 0, .int .u32 0, .bool false, .int .u32 0, .int .u32 0, .bool false, .int .u32 0, .int .u32 0, .bool false, .int .u32 0, .int .u32 0, .bool false, .int .u32 0, .int .u32 0, .bool false, .int .u32 0, .int .u32 0, .bool false, .int .u32 0, .int .u32 0, .bool false, .int .u32 0, .int .u32 0] 43 := has_old (has_new _ _ _ _ rfl); have hz13 : Has (((W3.alloc (.cells #[.bool false, .bool false, .int .u32 0, .int .u32 0, .bool false, .int .u32 0, .int .u32 0, .bool false, .int .u32 0, .int .u32 0, .bool false, .int .u32 0, .int .u32 0, .bool false, .int .u32 0, .int .u32 0, .bool false, .int .u32 0, .int .u32 0, .bool false, .int .u32 0, .int .u32 0, .bool false, .int .u32 0, .int .u32 0, .bool false, .int .u32 0, .int .u32 0, .bool false, .int .u32 0, .int .u32 0] 43)).alloc (.cells #[.bool false, .bool false, .int .u32 0, .int .u32 0, .bool false, .int .u32 0, .int .u32 0, .bool false, .int .u32 0, .int .u32 0, .bool false, .int .u32 0, .int .u32 0, .bool false, .int .u32 0, .int .u32 0, .bool false, .int .u32 0, .int .u32 0, .bool false, .int .u32 0, .int .u32 0, .bool false, .int .u32 0, .int .u32 0, .bool false, .int .u32 0, .int .u32 0, .bool false, .int .u32 0, .int .u32 0] 43)).setRow W3.heap.size n2.a) (W3.heap.size + 1) #[.bool false, .bool false, .int .u32 0, .int .u32 0, .bool false, .int .u32 0, .int .u32 0, .bool false, .int .u32 0, .int .u32 0, .bool false, .int .u32 0, .int .u32 0, .bool false, .int .u32 0, .int .u32 0, .bool false, .int .u32 0, .int .u32 0, .bool false, .int .u32 0, .int .u32 0, .bool false, .int .u32 0, .int .u32 0, .bool false, .int .u32 0, .int .u32 0, .bool false, .int .u32 0, .int .u32 0] 43 := (has_new _ _ _ _ (by simp)).ex (setRow_ex _ _ _) (by omega)) | refine wpList_store_row rfl 43 _ _ rfl W3.heap.size n2.a (by kernel_rfl) (by kernel_rfl) 43 #[.bool false, .bool false, .int .u32 0, .int .u32 0, .bool false, .int .u32 0, .int .u32 0, .bool false, .int .u32 0, .int .u32 0, .bool false, .int .u32 0, .int .u32 0, .bool false, .int .u32 0, .int .u32 0, .bool false, .int .u32 0, .int .u32 0, .bool false, .int .u32 0, .int .u32 0, .bool false, .int .u32 0, .int .u32 0, .bool false, .int .u32 0, .int .u32 0, .bool false, .int .u32 0, .int .u32 0] hz12 (by kernel_rfl) (by kernel_rfl) (Kn.a_one _) ?_ | refine wpList_store_row rfl 43 _ _ rfl (W3.heap.size + 1) j2.a (by kernel_rfl) (by kernel_rfl) 43 #[.bool false, .bool false, .int .u32 0, .int .u32 0, .bool false, .int .u32 0, .int .u32 0, .bool false, .int .u32 0, .int .u32 0, .bool false, .int .u32 0, .int .u32 0, .bool false, .int .u32 0, .int .u32 0, .bool false, .int .u32 0, .int .u32 0, .bool false, .int .u32 0, .int .u32 0, .bool false, .int .u32 0, .int .u32 0, .bool false, .int .u32 0, .int .u32 0, .bool false, .int .u32 0, .int .u32 0] hz13 (by kernel_rfl) (by kernel_rfl) (Kn.a_one _) ?_)
          have h12 := (setRow_has hz12 n2.a).ex (setRow_ex _ (W3.heap.size + 1) j2.a) (by omega)
          have hgA : Below W2.heap.size W2 ((W3.alloc (.cells #[.bool false, .bool false, .int .u32 0, .int .u32 0, .bool false, .int .u32 0, .int .u32 0, .bool false, .int .u32 0, .int .u32 0, .bool false, .int .u32 0, .int .u32 0, .bool false, .int .u32 0, .int .u32 0, .bool false, .int .u32 0, .int .u32 0, .bool false, .int .u32 0, .int .u32 0, .bool false, .int .u32 0, .int .u32 0, .bool false, .int .u32 0, .int .u32 0, .bool false, .int .u32 0, .int .u32 0] 43)).alloc (.cells #[.bool false, .bool false, .int .u32 0, .int .u32 0, .bool false, .int .u32 0, .int .u32 0, .bool false, .int .u32 0, .int .u32 0, .bool false, .int .u32 0, .int .u32 0, .bool false, .int .u32 0, .int .u32 0, .bool false, .int .u32 0, .int .u32 0, .bool false, .int .u32 0, .int .u32 0, .bool false, .int .u32 0, .int .u32 0, .bool false, .int .u32 0, .int .u32 0, .bool false, .int .u32 0, .int .u32 0] 43)) := (hB3.alloc hB3.size _).alloc (by have := hB3.size; simp; omega) _
          have hl3 : W2.heap.size ≤ W3.heap.size := hB3.size
          have hl9 := HJ2.out.k.lt
          have HJ5 : Hid (SB w dl dg sl sg xa xb b9 K ((((W3.alloc (.cells #[.bool false, .bool false, .int .u32 0, .int .u32 0, .bool false, .int .u32 0, .int .u32 0, .bool false, .int .u32 0, .int .u32 0, .bool false, .int .u32 0, .int .u32 0, .bool false, .int .u32 0, .int .u32 0, .bool false, .int .u32 0, .int .u32 0, .bool false, .int .u32 0, .int .u32 0, .bool false, .int .u32 0, .int .u32 0, .bool false, .int .u32 0, .int .u32 0, .bool false, .int .u32 0, .int .u32 0] 43)).alloc (.cells #[.bool false, .bool false, .int .u32 0, .int .u32 0, .bool false, .int .u32 0, .int .u32 0, .bool false, .int .u32 0, .int .u32 0, .bool false, .int .u32 0, .int .u32 0, .bool false, .int .u32 0, .int .u32 0, .bool false, .int .u32 0, .int .u32 0, .bool false, .int .u32 0, .int .u32 0, .bool false, .int .u32 0, .int .u32 0, .bool false, .int .u32 0, .int .u32 0, .bool false, .int .u32 0, .int .u32 0] 43)).setRow W3.heap.size n2.a).setRow (W3.heap.size + 1) j2.a)) := ((HJ2.out.grow hgA).exc (setRow_ex _ W3.heap.size n2.a) (by omega)).exc (setRow_ex _ (W3.heap.size + 1) j2.a) (by omega)
          have hx5 : Below X2.heap.size X2 ((W3.alloc (.cells #[.bool false, .bool false, .int .u32 0, .int .u32 0, .bool false, .int .u32 0, .int .u32 0, .bool false, .int .u32 0, .int .u32 0, .bool false, .int .u32 0, .int .u32 0, .bool false, .int .u32 0, .int .u32 0, .bool false, .int .u32 0, .int .u32 0, .bool false, .int .u32 0, .int .u32 0, .bool false, .int .u32 0, .int .u32 0, .bool false, .int .u32 0, .int .u32 0, .bool false, .int .u32 0, .int .u32 0] 43)).alloc (.cells #[.bool false, .bool false, .int .u32 0, .int .u32 0, .bool false, .int .u32 0, .int .u32 0, .bool false, .int .u32 0, .int .u32 0, .bool false, .int .u32 0, .int .u32 0, .bool false, .int .u32 0, .int .u32 0, .bool false, .int .u32 0, .int .u32 0, .bool false, .int .u32 0, .int .u32 0, .bool false, .int .u32 0, .int .u32 0, .bool false, .int .u32 0, .int .u32 0, .bool false, .int .u32 0, .int .u32 0] 43)) := HB2.out.trans (hgA.mono HB2.out.size)
          have hxl := HB2.out.size
          have HB5 : Hid (Below X2.heap.size X2 ((((W3.alloc (.cells #[.bool false, .bool false, .int .u32 0, .int .u32 0, .bool false, .int .u32 0, .int .u32 0, .bool false, .int .u32 0, .int .u32 0, .bool false, .int .u32 0, .int .u32 0, .bool false, .int .u32 0, .int .u32 0, .bool false, .int .u32 0, .int .u32 0, .bool false, .int .u32 0, .int .u32 0, .bool false, .int .u32 0, .int .u32 0, .bool false, .int .u32 0, .int .u32 0, .bool false, .int .u32 0, .int .u32 0] 43)).alloc (.cells #[.bool false, .bool false, .int .u32 0, .int .u32 0, .bool false, .int .u32 0, .int .u32 0, .bool false, .int .u32 0, .int .u32 0, .bool false, .int .u32 0, .int .u32 0, .bool false, .int .u32 0, .int .u32 0, .bool false, .int .u32 0, .int .u32 0, .bool false, .int .u32 0, .int .u32 0, .bool false, .int .u32 0, .int .u32 0, .bool false, .int .u32 0, .int .u32 0, .bool false, .int .u32 0, .int .u32 0] 43)).setRow W3.heap.size n2.a).setRow (W3.heap.size + 1) j2.a)) := setRow_below (setRow_below hx5 (by omega) n2.a) (by omega) j2.a
          clear hz12 hz13 hgA hl9 hx5 hxl hl3 hB3 HJ2 HB2
          generalize W3.heap.size = b12 at *
          generalize ((((W3.alloc (.cells #[.bool false, .bool false, .int .u32 0, .int .u32 0, .bool false, .int .u32 0, .int .u32 0, .bool false, .int .u32 0, .int .u32 0, .bool false, .int .u32 0, .int .u32 0, .bool false, .int .u32 0, .int .u32 0, .bool false, .int .u32 0, .int .u32 0, .bool false, .int .u32 0, .int .u32 0, .bool false, .int .u32 0, .int .u32 0, .bool false, .int .u32 0, .int .u32 0, .bool false, .int .u32 0, .int .u32 0] 43)).alloc (.cells #[.bool false, .bool false, .int .u32 0, .int .u32 0, .bool false, .int .u32 0, .int .u32 0, .bool false, .int .u32 0, .int .u32 0, .bool false, .int .u32 0, .int .u32 0, .bool false, .int .u32 0, .int .u32 0, .bool false, .int .u32 0, .int .u32 0, .bool false, .int .u32 0, .int .u32 0, .bool false, .int .u32 0, .int .u32 0, .bool false, .int .u32 0, .int .u32 0, .bool false, .int .u32 0, .int .u32 0] 43)).setRow b12 n2.a).setRow (b12 + 1) j2.a) = W5 at *
          have c1 : W5.cell? ⟨w.heap.size + 1, 1, none⟩ = some (.int .u32 (sl : Int)) := HJ5.out.s.cell 1
          by_cases hz : (n = 14 ∨ n = 15) ∧ sl = 0
          · obtain rfl : E = 162 := HBE.out.1 hz
            have s0 : ((sl : Int) == 0) = true := by simp; omega
            rcases hz.1 with h14 | h15
            · have f14 : ((n : Int) == 14) = true := by simp; omega
              clear hz h14 HBE
              go_wp2_with fail
              go_roundw
              case rel => exact ⟨n + 1, by omega, by omega, by simp, HB5.out⟩
              case measure => simp [intOf]; omega
            · have f14 : ((n : Int) == 14) = false := by simp; omega
              have f15 : ((n : Int) == 15) = true := by simp; omega
              clear hz h15 HBE
              go_wp2_with fail
              go_roundw
              case rel => exact ⟨n + 1, by omega, by omega, by simp, HB5.out⟩
              case measure => simp [intOf]; omega
          · obtain ⟨q, m, hqm, hmi⟩ := HBE.out.2 hz
            simp only [Prod.mk.injEq] at hqm
            obtain ⟨rfl, rfl, rfl⟩ := hqm
            have hmade := made_any HTB.out.symm a b W5 HAB.out.1 HAB.out.2.1 (fun h => by have := HAB.out.2.2; have : sl ≠ 0 := fun e => hz ⟨h, e⟩; omega)
            have hvl := madeN_lt (n := n) HAB.out.1 HAB.out.2.1 HTB.out.symm
            obtain ⟨m1, m2, m3, m4⟩ := hmi
            have c4 : n2.r 4 = ⟨true, sl, sg⟩ := m3
            generalize madeN n a b = v at *
            have ev : IntKind.i64.wrap (v : Int) = (v : Int) := by rw [IntKind.wrap_i64]; omega
            have g0 : W5.cell? ⟨b12, 0, none⟩ = some (.bool n2.come) := h12.cell 0
            have hr3 := kn_reg h12 3 (by decide)
            have hr4 := kn_reg h12 4 (by decide)
            have g1 : W5.cell? ⟨b12, 10, none⟩ = some (.bool (n2.r 3).set) := hr3 0 _ rfl
            have g2 : W5.cell? ⟨b12, 11, none⟩ = some (.int .u32 ((n2.r 3).least : Int)) := hr3 1 _ rfl
            have g3 : W5.cell? ⟨b12, 12, none⟩ = some (.int .u32 ((n2.r 3).great : Int)) := hr3 2 _ rfl
            have g4 : W5.cell? ⟨b12, 13, none⟩ = some (.bool (n2.r 4).set) := hr4 0 _ rfl
            have g5 : W5.cell? ⟨b12, 14, none⟩ = some (.int .u32 ((n2.r 4).least : Int)) := hr4 1 _ rfl
            have g6 : W5.cell? ⟨b12, 15, none⟩ = some (.int .u32 ((n2.r 4).great : Int)) := hr4 2 _ rfl
            rw [m1] at g0
            rw [m2.1] at g1
            rw [c4] at g4 g5 g6
            have k0 : W5.cell? ⟨w.heap.size + 1, 0, none⟩ = some (.bool true) := HJ5.out.s.cell 0
            have k2 : W5.cell? ⟨w.heap.size + 1, 2, none⟩ = some (.int .u32 (sg : Int)) := HJ5.out.s.cell 2
            have u1 : ¬ (v : Int) < ((n2.r 3).least : Int) := by have := m2.2.1; omega
            have u2 : ¬ ((n2.r 3).great : Int) < (v : Int) := by have := m2.2.2; omega
            have ew1 : IntKind.i64.wrap ((n2.r 3).least : Int) = ((n2.r 3).least : Int) := by rw [IntKind.wrap_i64]; have := m2.2.1; omega
            have ew2 : IntKind.i64.wrap ((n2.r 3).great : Int) = ((n2.r 3).great : Int) := by rw [IntKind.wrap_i64]; omega
            clear hr3 hr4 m1 m2 m3 m4 c4 h12 HBE HTB
            generalize (n2.r 3).least = l3 at *
            generalize (n2.r 3).great = g3' at *
            by_cases h14 : n = 14
            · have f14 : ((n : Int) == 14) = true := by simp; omega
              have s0 : ((sl : Int) == 0) = false := by have : sl ≠ 0 := fun e => hz ⟨.inl h14, e⟩; simp; omega
              clear hz h14
              go_wp2_with (go_at_call 22; refine hmade.mono ?_; rintro e W6 ⟨rfl, rfl⟩; clear hmade)
              go_roundw
              case rel => exact ⟨n + 1, by omega, by omega, by simp, HB5.out⟩
              case measure => simp [intOf]; omega
            · by_cases h15 : n = 15
              · have f14 : ((n : Int) == 14) = false := by simp; omega
                have f15 : ((n : Int) == 15) = true := by simp; omega
                have s0 : ((sl : Int) == 0) = false := by have : sl ≠ 0 := fun e => hz ⟨.inr h15, e⟩; simp; omega
                clear hz h14 h15
                go_wp2_with (go_at_call 22; refine hmade.mono ?_; rintro e W6 ⟨rfl, rfl⟩; clear hmade)
                go_roundw
                case rel => exact ⟨n + 1, by omega, by omega, by simp, HB5.out⟩
                case measure => simp [intOf]; omega
              · have f14 : ((n : Int) == 14) = false := by simp; omega
                have f15 : ((n : Int) == 15) = false := by simp; omega
                clear hz h14 h15
                go_wp2_with (go_at_call 22; refine hmade.mono ?_; rintro e W6 ⟨rfl, rfl⟩; clear hmade)
                go_roundw
                case rel => exact ⟨n + 1, by omega, by omega, by simp, HB5.out⟩
                case measure => simp [intOf]; omega
      · obtain rfl : n = 16 := by omega
        have HJr : Hid (SB w dl dg sl sg xa xb b9 (twoK ⟨true, dl, dg⟩ ⟨true, sl, sg⟩) wr) := HX2.out.grow HBr.out
        have hkn := knownl_any wr (HG.out.below HJr.out.below HG.out.size)
        go_wp2_with (go_at_call 12; refine hkn.mono ?_; rintro e W9 ⟨rfl, hB9⟩)
        go_ret
        exact ⟨rfl, HJr.out.below.trans (hB9.mono HJr.out.below.size)⟩
theorem sums_walk (d s : Rg) (hd : d.Ok) (hs : s.Ok) (xa xb : Nat) (w : World) (hG : Glob w) (h1 : xa < 4294967296) (h2 : xb < 4294967296) :
    Calls Tryd.prog 5 #[d.v, s.v, .agg #[.int .u32 (xa : Int), .int .u32 (xb : Int)]] w fun e w' => e = .returned (.bool true) ∧ Below w.heap.size w w' := by
  obtain ⟨ds, dl, dg⟩ := d
  obtain ⟨ss, sl, sg⟩ := s
  have hdg : dg < 4294967296 := hd.great
  have hsg : sg < 4294967296 := hs.great
  cases ds with
  | false => exact sums_e0 ss dl dg sl sg xa xb w hG
  | true =>
    cases ss with
    | false => exact sums_e1 dl dg sl sg xa xb w hG
    | true =>
      by_cases c1 : (dg : Int) < (dl : Int)
      · exact sums_e2 dl dg sl sg xa xb w hG c1
      by_cases c2 : (sg : Int) < (sl : Int)
      · exact sums_e3 dl dg sl sg xa xb w hG c1 c2
      exact sums_main dl dg sl sg xa xb w hG hdg hsg h1 h2 c1 c2
end Go.Proofs.YtodkehpldlmgaaaDoor
