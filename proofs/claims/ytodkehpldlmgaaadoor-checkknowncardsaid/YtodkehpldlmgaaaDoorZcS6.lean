/- What the document makes of two spans; what is known, with another range of a register. -/
import Derived.Test.YtodkehpldlmgaaaDoorZcS5
import Derived.Deep.MidRow
import Derived.Test.YtodkehpldlmgaaaDoorZq3
namespace Go.Proofs.YtodkehpldlmgaaaDoor
open Go.RowKit

def makeR (n : Nat) (d s : Rg) : Rg := match n with
  | 1 => s
  | 2 => s
  | 3 => sumR d s
  | 4 => sumR d s
  | 5 => diffR d s
  | 6 => prodR d s
  | 7 => prodR d s
  | 8 => comR d s
  | 9 => comR d s
  | 10 => eitR d s
  | 11 => apaR d s
  | 12 => prodR d ⟨true, 2 ^ s.least, 2 ^ s.least⟩
  | 13 => quoR d ⟨true, 2 ^ s.least, 2 ^ s.least⟩
  | 14 => quoR d s
  | _ => restR d s
theorem rmake_any (n : Nat) (hn : 1 ≤ n ∧ n ≤ 15) (dl dg sl sg : Nat) (w : World) (hb : dl ≤ dg ∧ dg < 4294967296 ∧ sl ≤ sg ∧ sg < 4294967296) (hp : n = 12 ∨ n = 13 → sl ≤ 31) (hq : n = 14 ∨ n = 15 → 1 ≤ sl) :
    Calls Tryd.prog 37 #[.int .i64 (n : Int), spV dl dg, spV sl sg] w fun e w' => e = .returned (spV ((makeR n ⟨true, dl, dg⟩ ⟨true, sl, sg⟩).least : Int) ((makeR n ⟨true, dl, dg⟩ ⟨true, sl, sg⟩).great : Int)) ∧ Below w.heap.size w w' := by
  obtain rfl | rfl | rfl | rfl | rfl | rfl | rfl | rfl | rfl | rfl | rfl | rfl | rfl | rfl | rfl : n = 1 ∨ n = 2 ∨ n = 3 ∨ n = 4 ∨ n = 5 ∨ n = 6 ∨ n = 7 ∨ n = 8 ∨ n = 9 ∨ n = 10 ∨ n = 11 ∨ n = 12 ∨ n = 13 ∨ n = 14 ∨ n = 15 := by omega
  · exact rmake_1 dl dg sl sg w hb
  · exact rmake_2 dl dg sl sg w hb
  · by_cases hc : 4294967295 < dg + sg
    · exact rmake_3a dl dg sl sg w hb hc
    · exact rmake_3b dl dg sl sg w hb hc
  · by_cases hc : 4294967295 < dg + sg
    · exact rmake_4a dl dg sl sg w hb hc
    · exact rmake_4b dl dg sl sg w hb hc
  · by_cases hc : dl < sg
    · exact rmake_5a dl dg sl sg w hb hc
    · exact rmake_5b dl dg sl sg w hb hc
  · exact rmake_6 dl dg sl sg w hb
  · exact rmake_7 dl dg sl sg w hb
  · by_cases hc : sg < dg
    · exact rmake_8a dl dg sl sg w hb hc
    · exact rmake_8b dl dg sl sg w hb hc
  · by_cases hc : sg < dg
    · exact rmake_9a dl dg sl sg w hb hc
    · exact rmake_9b dl dg sl sg w hb hc
  · exact rmake_10 dl dg sl sg w hb
  · exact rmake_11 dl dg sl sg w hb
  · exact rmake_12 dl dg sl sg w hb (hp (.inl rfl))
  · exact rmake_13 dl dg sl sg w hb (hp (.inr rfl))
  · exact rmake_14 dl dg sl sg w hb (hq (.inl rfl))
  · by_cases hc : sg - 1 < dg
    · exact rmake_15a dl dg sl sg w hb (hq (.inr rfl)) hc
    · exact rmake_15b dl dg sl sg w hb (hq (.inr rfl)) hc
set_option maxRecDepth 10000 in
set_option maxHeartbeats 4000000 in
theorem rwith_any (k : Kn) (n : Nat) (hn : n < 10) (l g : Nat) (hl : l < 4294967296) (hg : g < 4294967296) (w : World) :
    Calls Tryd.prog 36 #[.agg k.a, .int .i64 (n : Int), spV l g] w fun e w' => e = .returned (.agg (k.set n (fromR l g)).a) ∧ Below w.heap.size w w' := by
  obtain ⟨W0, hW0⟩ : ∃ W0, W0 = ((w.alloc (.cells k.a 43)).alloc (.cells #[.int .i64 (l : Int), .int .i64 (g : Int)] 86)).alloc (.cells #[.bool false, .bool false, .int .u32 0, .int .u32 0, .bool false, .int .u32 0, .int .u32 0, .bool false, .int .u32 0, .int .u32 0, .bool false, .int .u32 0, .int .u32 0, .bool false, .int .u32 0, .int .u32 0, .bool false, .int .u32 0, .int .u32 0, .bool false, .int .u32 0, .int .u32 0, .bool false, .int .u32 0, .int .u32 0, .bool false, .int .u32 0, .int .u32 0, .bool false, .int .u32 0, .int .u32 0] 43) := ⟨_, rfl⟩
  have hk0 : Has W0 w.heap.size k.a 43 := by rw [hW0]; exact has_old (has_old (has_new _ _ _ _ rfl))
  have hs0 : Has W0 (w.heap.size + 1) #[.int .i64 (l : Int), .int .i64 (g : Int)] 86 := by rw [hW0]; exact has_old (has_new _ _ _ _ (by simp))
  have hr0 : Has W0 (w.heap.size + 2) #[.bool false, .bool false, .int .u32 0, .int .u32 0, .bool false, .int .u32 0, .int .u32 0, .bool false, .int .u32 0, .int .u32 0, .bool false, .int .u32 0, .int .u32 0, .bool false, .int .u32 0, .int .u32 0, .bool false, .int .u32 0, .int .u32 0, .bool false, .int .u32 0, .int .u32 0, .bool false, .int .u32 0, .int .u32 0, .bool false, .int .u32 0, .int .u32 0, .bool false, .int .u32 0, .int .u32 0] 43 := by rw [hW0]; exact has_new _ _ _ _ (by simp)
  have hB0 : Below w.heap.size w W0 := by rw [hW0]; exact (((Below.refl _ _).alloc (Nat.le_refl _) _).alloc (by simp) _).alloc (by simp; omega) _
  have hra := rrange_any l g hl hg W0
  have hn' : (n : Int) < 10 := by omega
  have HN : Hid (n < 10) := hn
  clear hl hg hn
  go_enter Tryd.func36, Tryd.ntmps36
  go_upto_region 1 with fail
  refine named2 (p := fun X => Code.wp _ _ _ _ X) ?_
  intro W9 hW9
  have hW : W0 = W9 := hW0.trans hW9.symm
  subst hW
  clear hW9 hW0
  refine wp_region_lit ?_
  refine wpList_valG (w' := W0) (v := .int .i64 (n : Int)) rfl (by kernel_rfl) ?_
  refine wpList_load_row_if rfl 86 _ rfl (w.heap.size + 1) (by kernel_rfl) 86 #[.int .i64 (l : Int), .int .i64 (g : Int)] (0, 0) _ hs0 Tryd.underlying86 rfl (by kernel_rfl) ?_
  refine wpList_callG (f := 66) (args := #[spV l g]) rfl (by kernel_rfl) hra ?_
  rintro e W1 ⟨rfl, hB1⟩
  refine ⟨_, rfl, ?_⟩
  have hk1 := hk0.below hB1 hk0.lt
  have hr1 := hr0.below hB1 hr0.lt
  have hB2 := hB0.trans (hB1.mono hB0.size)
  clear hk0 hs0 hr0 hB0 hB1 hra
  go_simp
  refine wpList_valG (w' := W1) (v := .pointer (some ⟨w.heap.size, 1, none⟩)) rfl (by kernel_rfl) ?_
  refine wpList_valG (w' := W1) (v := .pointer (some ⟨w.heap.size, 1 + n * 3, none⟩)) rfl (by clear hk1 hr1 hB2; go_simp) ?_
  have ht := there_of (o := 1 + n * 3) (n := 3) hk1 (by rw [Kn.a_size]; have := HN.out; omega)
  refine wpList_store_mid rfl 40 _ _ rfl w.heap.size (1 + n * 3) (Rg.a (fromR l g)) (by kernel_rfl) (by kernel_rfl) ht (by kernel_rfl) (Rg.a_one _) ?_
  obtain ⟨hk2, hE⟩ := setReg hk1 n HN.out (fromR l g)
  have hr2 := hr1.ex hE (by omega)
  have hB3 := Below.ex hB2 hB2.size hE (Nat.le_refl _)
  obtain ⟨W2, hW2⟩ : ∃ W2, W2 = W1.setCells w.heap.size (1 + n * 3) (fromR l g).cells := ⟨_, rfl⟩
  have hW2' : W2 = W1.setCells w.heap.size (1 + n * 3) (Rg.a (fromR l g)).toList := hW2
  rw [← hW2'] 
  rw [← hW2] at hk2 hr2 hB3
  clear hW2 hW2' hE ht hk1 hr1 hB2
  go_simp
  go_upto_region 2 with fail
  refine wp_region_lit ?_
  refine wpList_load_row_if rfl 43 _ rfl w.heap.size (by kernel_rfl) 43 (k.set n (fromR l g)).a (0, 0) _ hk2 Tryd.underlying43 rfl (by kernel_rfl) ?_
  refine wpList_store_row rfl 43 _ _ rfl (w.heap.size + 2) (k.set n (fromR l g)).a (by kernel_rfl) (by kernel_rfl) 43 #[.bool false, .bool false, .int .u32 0, .int .u32 0, .bool false, .int .u32 0, .int .u32 0, .bool false, .int .u32 0, .int .u32 0, .bool false, .int .u32 0, .int .u32 0, .bool false, .int .u32 0, .int .u32 0, .bool false, .int .u32 0, .int .u32 0, .bool false, .int .u32 0, .int .u32 0, .bool false, .int .u32 0, .int .u32 0, .bool false, .int .u32 0, .int .u32 0, .bool false, .int .u32 0, .int .u32 0] hr2 (by kernel_rfl) (by kernel_rfl) (Kn.a_one _) ?_
  have hrow : Has (W2.setRow (w.heap.size + 2) (k.set n (fromR l g)).a) (w.heap.size + 2) (k.set n (fromR l g)).a 43 := setRow_has hr2 _
  have hBx : Below w.heap.size w (W2.setRow (w.heap.size + 2) (k.set n (fromR l g)).a) := setRow_below hB3 (by omega) _
  generalize W2.setRow (w.heap.size + 2) (k.set n (fromR l g)).a = W3 at *
  clear hk2 hr2 hB3
  go_simp
  go_wp2_with fail
  exact bodyPost_ret (results_cell_row rfl _ _ (w.heap.size + 2) 43 _ (0, 0) _ rfl hrow Tryd.underlying43 rfl (by kernel_rfl)) rfl ⟨rfl, hBx⟩
end Go.Proofs.YtodkehpldlmgaaaDoor
