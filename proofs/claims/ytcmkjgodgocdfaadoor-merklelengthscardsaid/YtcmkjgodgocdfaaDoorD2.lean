/- merkle.behind: what puts digests together behind a byte. -/
import Derived.Test.YtcmkjgodgocdfaaDoorD1
namespace Go.Proofs.YtcmkjgodgocdfaaDoor
open Go.RowKit

set_option maxHeartbeats 400000 in
theorem behind_any (f : UInt8) (w : World) : Calls Tryd.prog 40 #[.int .u8 (bv f)] w fun e w' =>
    e = .returned (.func (.func 44) #[] #[.pointer (some ⟨w.heap.size, 0, none⟩)]) ∧ w' = w.alloc (.cells #[.int .u8 (bv f)] 5) := by
  go_enter Tryd.func40, Tryd.ntmps40
  go_wp2
  go_ret
  exact ⟨rfl, rfl⟩

set_option maxRecDepth 100000 in
set_option maxHeartbeats 2000000 in
theorem behind1_any (f : UInt8) (fb : Nat) (v : Value) (ds : List Dig) (w : World) (hf : w.cell? ⟨fb, 0, none⟩ = some (.int .u8 (bv f))) (hfl : fb < w.heap.size) (hv : Digs w v ds) (hn : ds.length ≤ 16) (hg : Glob w) :
    Calls Tryd.prog 44 #[v, .pointer (some ⟨fb, 0, none⟩)] w fun e w' => e = .returned (.agg (byteCells (shaL (f :: ds.flatten)))) ∧ Below w.heap.size w w' := by
  obtain ⟨h32, a, cap, g, o, rfl, hcap, hmax, ha, hin, hgl⟩ := hv
  have hgs := hg.size
  obtain ⟨j0, hi, hz0, hz1, hz2⟩ := info_parts info77
  have cf : (w.alloc (.cells (zeroCells 32) 30)).cell? ⟨fb, 0, none⟩ = some (.int .u8 (bv f)) := by
    rw [World.cell?_of_block (w := w) (Below.heap_alloc w _ fb hfl)]; exact hf
  go_enter Tryd.func44, Tryd.ntmps44
  go_wp2_with fail
  refine named (p := Code.wp _ _ _ _) ?_
  intro W0 hW0
  have hz : W0.heap.size = w.heap.size + 3 := by rw [hW0]; simp
  have hB : Below w.heap.size w W0 := by
    rw [hW0]
    repeat (first | exact Below.refl _ _ | refine Below.alloc ?_ (by simp <;> omega) _)
  have x0 : Has W0 w.heap.size (zeroCells 32) 30 := by
    rw [hW0]; repeat (first | (refine has_new _ _ _ _ ?_; simp; done) | refine has_old ?_)
  have x1 : Has W0 (w.heap.size + 1) (byteCells [f]) 5 := by
    rw [hW0]; repeat (first | (refine has_new _ _ _ _ ?_; simp; done) | refine has_old ?_)
  have x2 : Has W0 (w.heap.size + 2) #[.slice (some ⟨w.heap.size + 1, 0, none⟩) 1 1] 77 := by
    rw [hW0]; repeat (first | (refine has_new _ _ _ _ ?_; simp; done) | refine has_old ?_)
  have hP0 : Pts w.heap.size W0 (.slice (some ⟨w.heap.size + 2, 0, none⟩) 1 1) [[f]] [.slice (some ⟨w.heap.size + 1, 0, none⟩) 1 1] := by
    refine ⟨⟨rfl, .inr ⟨_, 1, _, rfl, by omega, x2, Nat.le_refl _, by simp only [maxLen]; omega, rfl, rfl⟩⟩, fun j hj => ?_⟩
    obtain rfl : j = 0 := by simp at hj; omega
    exact ⟨_, rfl, _, 5, rfl, x1, by decide⟩
  clear hW0 x1 x2 cf
  go_loopw [4, 12] (fun pv i wr => ∃ k : Nat, ∃ xs, k ≤ ds.length ∧ i = .int .i64 k ∧ Pts w.heap.size wr pv ([f] :: ds.take k) xs ∧ Has wr w.heap.size (zeroCells 32) 30 ∧ Below w.heap.size w wr ∧ w.heap.size + 3 ≤ wr.heap.size) (fun _ i _ => ds.length - (intOf i).toNat)
  case atStart => exact ⟨0, _, Nat.zero_le _, rfl, by simpa [Nat.add_assoc] using hP0, x0, hB, by omega⟩
  case round =>
    obtain ⟨k, xs, hk, rfl, hP, hr, hBw, hsz⟩ := hrel
    by_cases hlt : k < ds.length
    · obtain rfl := ha (by intro e; simp [e] at hlt)
      have hd := h32.at_ hlt
      have hrg := rangeAt_block (hin k hlt) (hBw.block g hgl)
      obtain ⟨d, hdd⟩ : ∃ d, ds[k]?.getD [] = d := ⟨_, rfl⟩
      rw [hdd] at hd hrg
      have hbs : (byteCells d).size = 32 := by rw [byteCells_size, hd]
      have hn1 := has_new wr (zeroCells 32) 30 wr.heap.size rfl
      go_upto_region 5 with (first
        | refine wpList_load_mid rfl 30 _ rfl g (o + k * 32) rfl (byteCells d).toList _ hrg Tryd.underlying30 rfl (by rw [byteCells_len, hd]; kernel_rfl) ?_
        | refine wpList_store_row rfl 30 _ _ rfl wr.heap.size (byteCells d) rfl rfl 30 _ hn1 (by rw [hbs]; kernel_rfl) (by rw [hbs, zeroCells_size]) (byteCells_one _) ?_)
      refine named (p := Code.wp _ _ _ _) ?_
      intro W1 hW1
      have hz1' : wr.heap.size < W1.heap.size := by rw [hW1]; simp
      have hB1 : Below wr.heap.size wr W1 := by
        rw [hW1]; exact ((Below.refl _ _).alloc (Nat.le_refl _) _).trans ⟨rfl, rfl, rfl, by simp, fun j hj => setRow_other _ _ _ _ (by omega)⟩
      have hk1 : Has W1 wr.heap.size (byteCells d) 30 := by rw [hW1]; exact setRow_heap _ _ _ _ _ _ hn1
      clear hW1 hn1 hrg ha
      have hP1 := hP.below hB1
      have hn2 := has_new W1 #[Value.slice (some ⟨wr.heap.size, 0, none⟩) 32 32] 77 W1.heap.size rfl
      have HK : Hid (k < ds.length ∧ ds.length ≤ 16) := ⟨hlt, hn⟩
      have hpl : ([f] :: ds.take k).length = k + 1 := by simp; omega
      have ho1 := hP1.own
      rw [hpl] at ho1
      have hk16 : k < 16 := by omega
      clear hk
      go_wp2_with (refine wpList_append_own _ rfl _ _ 78 rfl w.heap.size 77 j0 (.slice none 0 0) 1 24 Tryd.underlying78 hi hz0 hz1 hz2 rfl (by omega) _ (k + 1) xs rfl (ho1.alloc _) ⟨W1.heap.size, 0, none⟩ 1 1 [Value.slice (some ⟨wr.heap.size, 0, none⟩) 32 32] rfl rfl (fun j u hu => by rw [Addr.add_mid, Nat.zero_add]; refine (hn2.cell j).trans ?_; rw [← hu]; simp) (fun u hu => by simp at hu; subst hu; rfl) (by have := HK.out; simp only [maxLen]; omega) (by have := HK.out; omega) (by simp; omega) ?_; intro v4 w4 hown4 hg4 hnil; clear hnil)
      have hd2 : [f] :: ds.take (k + 1) = ([f] :: ds.take k) ++ [d] := by
        rw [List.take_succ_eq_append_getElem (by have := HK.out; omega), List.cons_append, ← hdd]; simp [HK.out.1]
      have hBa := (Below.refl W1.heap.size W1).alloc (Nat.le_refl _) (.cells #[Value.slice (some ⟨wr.heap.size, 0, none⟩) 32 32] 77)
      have hBl : Blk (W1.alloc (.cells #[Value.slice (some ⟨wr.heap.size, 0, none⟩) 32 32] 77)) (.slice (some ⟨wr.heap.size, 0, none⟩) 32 32) d :=
        ⟨wr.heap.size, 30, by rw [hd], hk1.below hBa hz1', by decide⟩
      have hPn := hP1.snoc hBa hBl (by rw [hpl]; exact ho1.alloc _) (by rw [hpl]; exact hown4) hg4
      have hlow := grown_low2 (ho1.alloc _) hg4 (by simp; omega)
      have hrow := grown_has (ho1.alloc _) hg4 ((hr.below hB1 hr.lt).below hBa (Nat.lt_trans hr.lt hz1')) (by decide)
      have hs4 := hg4.size
      rw [World.size_alloc] at hs4
      go_roundw
      case rel => exact ⟨k + 1, _, by omega, by go_num, by rw [hd2]; exact hPn, hrow, ((hBw.trans (hB1.mono (by omega))).trans (hBa.mono (by omega))).trans hlow, by omega⟩
      case measure => simp [intOf]; omega
    · obtain rfl : k = ds.length := by omega
      rw [List.take_length] at hP
      have hgw := hg.below hBw hg.size
      have hfl' : ([f] :: ds).flatten = f :: ds.flatten := rfl
      have hpt := hP.parts (by omega) (by rw [hfl', List.length_cons, flat_len h32]; omega) (by simp; omega)
      have hb32 : (byteCells (shaL (f :: ds.flatten))).size = 32 := by rw [byteCells_size, shaL_length]
      clear hP
      go_wp2_with (first
        | (go_at_call 45; refine (of_any _ ([f] :: ds) _ hpt hgw).mono ?_; rintro e w' ⟨rfl, hBo⟩; rw [hfl']; have hr4 := hr.below hBo hr.lt)
        | refine wpList_store_row rfl 30 _ _ rfl w.heap.size _ rfl rfl 30 _ hr4 (by rw [hb32]; kernel_rfl) (by rw [hb32, zeroCells_size]) (byteCells_one _) ?_)
      refine bodyPost_ret (results_cell_row rfl _ _ w.heap.size 30 _ (0, 0) _ rfl (setRow_heap _ _ _ _ _ _ hr4) Tryd.underlying30 rfl (by rw [hb32]; kernel_rfl)) rfl ?_
      exact ⟨rfl, (hBw.trans (hBo.mono (by omega))).trans ⟨rfl, rfl, rfl, by simp, fun j hj => setRow_other _ _ _ _ (by omega)⟩⟩
end Go.Proofs.YtcmkjgodgocdfaaDoor
