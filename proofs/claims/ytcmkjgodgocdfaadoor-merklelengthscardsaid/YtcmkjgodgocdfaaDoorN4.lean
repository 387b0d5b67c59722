/- merkle: all rows of leaves. -/
import Derived.Test.YtcmkjgodgocdfaaDoorN3
import Derived.Test.YtcmkjgodgocdfaaDoorD5
namespace Go.Proofs.YtcmkjgodgocdfaaDoor
open Go.RowKit

set_option maxRecDepth 100000 in
set_option maxHeartbeats 2000000 in
theorem rows_any (v : Value) (ds : List Dig) (w : World) (hv : Digs w v ds) (hn : ds.length ≤ 16) (hne : 0 < ds.length) (hg : Glob w) :
    Calls Tryd.prog 33 #[v] w fun e w' => ∃ v' xs, e = .returned v' ∧ RowsAt w.heap.size w.heap.size w' v' (rowsL (ds.map markL)) xs ∧ Below w.heap.size w w' := by
  obtain ⟨h32, a, cap, g, o, rfl, hcap, hmx, ha, hin, hgl⟩ := hv
  obtain rfl := ha (by intro e; simp [e] at hne)
  clear ha
  unfold maxLen at hmx
  have hgs := hg.size
  go_enter Tryd.func33, Tryd.ntmps33
  go_wp2_with (first
    | (go_at_call 40; refine (behind_any 0 _).mono ?_; rintro e w' ⟨rfl, hw⟩; obtain rfl := hw.symm)
    | (go_at_call 40; refine (behind_any 1 _).mono ?_; rintro e w' ⟨rfl, hw⟩; obtain rfl := hw.symm))
  refine named (p := Code.wp _ _ _ _) ?_
  intro W0 hW0
  have hz : w.heap.size + 2 ≤ W0.heap.size := by rw [hW0]; simp
  have hB0 : Below w.heap.size w W0 := by
    rw [hW0]
    repeat (first | exact Below.refl _ _ | refine Below.alloc ?_ (by simp <;> omega) _)
  have x0 : Has W0 w.heap.size #[.int .u8 (bv 0)] 5 := by
    rw [hW0]; repeat (first | (refine has_new _ _ _ _ ?_; simp; done) | refine has_old ?_)
  have x1 : Has W0 (w.heap.size + 1) #[.int .u8 (bv 1)] 5 := by
    rw [hW0]; repeat (first | (refine has_new _ _ _ _ ?_; simp; done) | refine has_old ?_)
  clear hW0
  go_loopw [5, 12] (fun mv i wr => ∃ k : Nat, k ≤ ds.length ∧ i = .int .i64 k ∧ OwnD w.heap.size wr mv ((ds.map markL).take k) ∧ Has wr w.heap.size #[.int .u8 (bv 0)] 5 ∧ Has wr (w.heap.size + 1) #[.int .u8 (bv 1)] 5 ∧ Below w.heap.size w wr ∧ w.heap.size + 2 ≤ wr.heap.size) (fun _ i _ => ds.length - (intOf i).toNat)
  case atStart => exact ⟨0, Nat.zero_le _, rfl, by rw [List.take_zero]; exact OwnD.nil _ _, x0, x1, hB0, hz⟩
  case round =>
    clear x0 x1 hB0 hz
    obtain ⟨k, hk, rfl, ho, x0, x1, hBw, hsz⟩ := hrel
    have hgw := hg.below hBw hg.size
    by_cases hlt : k < ds.length
    · have hd := h32.at_ hlt
      have hrg := rangeAt_block (hin k hlt) (hBw.block g hgl)
      obtain ⟨d, hdd⟩ : ∃ d, ds[k]?.getD [] = d := ⟨_, rfl⟩
      rw [hdd] at hd hrg
      have hbs : (byteCells d).size = 32 := by rw [byteCells_size, hd]
      have hn1 := has_new wr (zeroCells 32) 30 wr.heap.size rfl
      go_upto_region 6 with (first
        | refine wpList_load_mid rfl 30 _ rfl g (o + k * 32) rfl (byteCells d).toList _ hrg Tryd.underlying30 rfl (by rw [byteCells_len, hd]; kernel_rfl) ?_
        | refine wpList_store_row rfl 30 _ _ rfl wr.heap.size (byteCells d) rfl rfl 30 _ hn1 (by rw [hbs]; kernel_rfl) (by rw [hbs, zeroCells_size]) (byteCells_one _) ?_)
      refine named (p := Code.wp _ _ _ _) ?_
      intro W1 hW1
      have hz1' : wr.heap.size < W1.heap.size := by rw [hW1]; simp
      have hB1 : Below wr.heap.size wr W1 := by
        rw [hW1]; exact ((Below.refl _ _).alloc (Nat.le_refl _) _).trans ⟨rfl, rfl, rfl, by simp, fun j hj => setRow_other _ _ _ _ (by omega)⟩
      have hk1 : Has W1 wr.heap.size (byteCells d) 30 := by rw [hW1]; exact setRow_heap _ _ _ _ _ _ hn1
      clear hW1 hn1 hrg
      have hdg := digs_one W1 d hd
      have hBa := (Below.refl W1.heap.size W1).alloc (Nat.le_refl _) (.cells (byteCells d) 30)
      have hB2 : Below wr.heap.size wr (W1.alloc (.cells (byteCells d) 30)) := hB1.trans (hBa.mono (by omega))
      have hg2 := hgw.below hB2 hgw.size
      have hx2 := x0.below hB2 x0.lt
      have ho2 := ho.below hB2
      have hmk : markL d = shaL (0 :: [d].flatten) := by simp [markL]
      obtain ⟨x, hx⟩ : ∃ x, markL d = x := ⟨_, rfl⟩
      rw [hx] at hmk
      have hx32 : x.length = 32 := by rw [hmk]; exact shaL_length _
      go_wp2_with (first
        | refine wpList_load_row rfl 30 _ rfl wr.heap.size rfl 30 (byteCells d) (0, 0) _ hk1 Tryd.underlying30 rfl (by rw [hbs]; kernel_rfl) ?_
        | refine wpList_build_one rfl _ rfl d rfl hd ?_)
      refine (behind1_any 0 w.heap.size _ [d] _ hx2.one hx2.lt hdg (by simp) hg2).mono ?_
      rintro e W3 ⟨rfl, hB3⟩
      rw [← hmk]
      have HX : Hid (markL d = x) := hx
      clear hmk hx hdg
      have hB4 : Below wr.heap.size wr W3 := hB2.trans (hB3.mono (by have := hB2.size; omega))
      have ho4 := ho.below hB4
      have hdx := digs_one W3 x hx32
      have hlen4 : ((ds.map markL).take k).length + 1 ≤ 1000 := by rw [List.length_take]; omega
      have hs4 := hB4.size
      go_wp2_with (first
        | refine wpList_build_one rfl _ rfl x rfl hx32 ?_
        | (refine wpList_append_digs rfl _ _ rfl w.heap.size _ _ _ [x] rfl rfl (ho4.alloc _) hdx hlen4 (by simp; omega) ?_; intro v5 W5 ho5 hg5))
      have hBb := (Below.refl W3.heap.size W3).alloc (Nat.le_refl _) (.cells (byteCells x) 30)
      have hlow := grown_low2 (ho4.alloc (.cells (byteCells x) 30)).2 hg5 (by simp; omega)
      have htk : (ds.map markL).take (k + 1) = (ds.map markL).take k ++ [x] := by
        rw [List.take_add_one, List.getElem?_map, ← HX.out, ← hdd]
        simp [hlt]
      have y0 := (x0.below hB4 x0.lt).below hBb (Nat.lt_of_lt_of_le x0.lt hs4)
      have y1 := (x1.below hB4 x1.lt).below hBb (Nat.lt_of_lt_of_le x1.lt hs4)
      have hs5 := hg5.size
      rw [World.size_alloc] at hs5
      go_roundw
      case rel => exact ⟨k + 1, by omega, by go_num, by rw [htk]; exact ho5, grown_has (ho4.alloc _).2 hg5 y0 (by decide), grown_has (ho4.alloc _).2 hg5 y1 (by decide), ((hBw.trans (hB4.mono (by omega))).trans (hBb.mono (by omega))).trans hlow, by omega⟩
      case measure => simp [intOf]; omega
    · obtain rfl : k = ds.length := by omega
      rw [List.take_of_length_le (by simp)] at ho
      obtain ⟨am, nm, cm, rfl⟩ : ∃ a n c, u5 = Value.slice a n c := by obtain ⟨a, c, e⟩ := ho.slice; exact ⟨a, _, c, e⟩
      have hcall := rowsFrom_any w.heap.size (.slice am nm cm) (ds.map markL) (w.heap.size + 1) wr ho (by omega) (by simpa using hn) (by simpa using hne) x1.one x1.lt hgw
      unfold joinV at hcall
      go_wp2_with (go_at_call 42; refine hcall.mono ?_; rintro e w' ⟨v', xs, rfl, hR, hB'⟩)
      go_ret
      exact ⟨_, xs, rfl, ⟨ownsRow_mono hR.own (by omega), hR.each, hR.apart⟩, hBw.trans (hB'.mono (by omega))⟩
end Go.Proofs.YtcmkjgodgocdfaaDoor
