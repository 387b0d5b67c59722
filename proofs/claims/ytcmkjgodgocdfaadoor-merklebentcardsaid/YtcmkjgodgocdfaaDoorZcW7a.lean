/- MerkleBent: the law's walk, where the byte is of the path. -/
import Derived.Test.YtcmkjgodgocdfaaDoorZcW6
import Derived.Test.YtcmkjgodgocdfaaDoorZq6
import Derived.Test.YtcmkjgodgocdfaaDoorZcW3
namespace Go.Proofs.YtcmkjgodgocdfaaDoor
open Go.RowKit

set_option maxRecDepth 100000 in
set_option maxHeartbeats 2000000 in
theorem bent_in (v : Value) (ds : List Dig) (I J : Nat) (which : Int) (by_ : UInt8) (w : World) (hv : Digs w v ds) (h16 : ds.length ≤ 16) (hi : I < ds.length) (hJ : J < 32) (hg : Glob w) (hw : 0 ≤ which ∧ which < ((pathOf ds I).length : Int)) :
    Calls Tryd.prog 10 #[v, .int .i64 (I : Int), .int .i64 which, .int .i64 (J : Int), .int .u8 (bv by_)] w fun e w' => e = .returned (.bool true) ∧ Below w.heap.size w w' := by
  have h0 : 0 < ds.length := by omega
  have hgs := hg.size
  have hPl := pathOf_le ds I h16
  have hrp := refpath_any v ds I w hv h16 hi hg
  have hE0 := upE_path hi h16
  obtain ⟨g0, o0, c0, rfl, hrg0, hg0l⟩ := hv.at_ hi
  have hl32 := hv.1.at_ hi
  obtain ⟨leaf, hleaf⟩ : ∃ leaf, ds[I]?.getD [] = leaf := ⟨_, rfl⟩
  rw [hleaf] at hrg0 hl32
  clear hleaf
  have hroot := fun W hv hg => refroot_any (.slice (some ⟨g0, o0, none⟩) ds.length c0) ds W hv h16 h0 hg
  have hR32 := (rootOf_spec (ds := ds) h0).2.1
  obtain ⟨R, hR⟩ : ∃ R, rootOf ds = R := ⟨_, rfl⟩
  simp only [hR] at hroot hR32
  clear hR
  obtain ⟨P, hP⟩ : ∃ P, pathOf ds I = P := ⟨_, rfl⟩
  rw [hP] at hrp hPl hE0 hw
  clear hP
  obtain ⟨n, hn⟩ : ∃ n, ds.length = n := ⟨_, rfl⟩
  simp only [hn] at h16 hi h0 hv hroot hE0 hrp ⊢
  clear hn
  have hdn1 : decide ((n : Int) < 1) = false := by simp; omega
  have hdn2 : decide (16 < (n : Int)) = false := by simp; omega
  have hdi1 : decide ((I : Int) < 0) = false := by simp
  have hdi2 : decide ((n : Int) ≤ (I : Int)) = false := by simp; omega
  have hdj1 : decide ((J : Int) < 0) = false := by simp
  have hdj2 : decide (31 < (J : Int)) = false := by simp; omega
  go_enter Tryd.func10, Tryd.ntmps10
  go_wp2_with fail
  refine hrp.mono ?_
  clear hrp
  rintro e W1 ⟨v1, rfl, ho1, hB1⟩
  obtain ⟨a1, c1, hv1⟩ := ho1.slice
  obtain ⟨m, hm⟩ : ∃ m, P.length = m := ⟨_, rfl⟩
  rw [hm] at hv1 hPl hE0 hw
  subst hv1
  have HM : Hid (P.length = m) := hm
  clear hm
  have hs1 := hB1.size
  obtain ⟨hw1, hw2⟩ := hw
  obtain ⟨kw, rfl⟩ := Int.eq_ofNat_of_zero_le hw1
  have hkm : kw < m := by omega
  have hKm : kw < P.length := by have := HM.out; omega
  obtain ⟨g, c, eg, hgb, hgl⟩ := ho1.blk (by have := HM.out; omega)
  simp only [Value.slice.injEq] at eg
  obtain ⟨rfl, hx, rfl⟩ := eg
  clear hx
  have hd32 := ho1.1.at_ hKm
  obtain ⟨g', o', c', e', hrg, _⟩ := (ho1.digs (by omega)).at_ hKm
  simp only [Value.slice.injEq, Option.some.injEq, Addr.mk.injEq, and_true] at e'
  obtain ⟨⟨rfl, rfl⟩, hx, rfl⟩ := e'
  clear hx
  obtain ⟨b0, hb0⟩ : ∃ b0, (P[kw]?.getD [])[J]?.getD 0 = b0 := ⟨_, rfl⟩
  have hc0 : W1.cell? ⟨g, kw * 32 + J, none⟩ = some (.int .u8 (bv b0)) := by
    have := hrg J (.int .u8 (bv b0)) (by rw [Array.getElem?_toList, byteCells_at _ J (by omega), hb0])
    simpa using this
  have hset := ho1.setB kw J (b0 ^^^ by_) hKm hJ
  have hfr : W1.frozen? ⟨g, kw * 32 + J, none⟩ = false := by
    rcases ho1.2.2 with ⟨e, _⟩ | ⟨g1, cap1, cur1, e, _, hg1', _⟩
    · cases e
    · simp only [Value.slice.injEq, Option.some.injEq, Addr.mk.injEq, and_true] at e
      obtain ⟨rfl, _, _⟩ := e
      exact (show Has W1 g cur1 30 from hg1').free _
  clear hb0 hrg hw1 hw2
  have hPPl0 : (setB P kw J (b0 ^^^ by_)).length = m := by rw [setB_len]; exact HM.out
  obtain ⟨PP, hPP⟩ : ∃ PP, setB P kw J (b0 ^^^ by_) = PP := ⟨_, rfl⟩
  rw [hPP] at hset hPPl0
  clear hPP
  have HQ : Hid (PP.length = m) := hPPl0
  clear hPPl0
  go_wp2_with fail
  refine wp_region_K (S := fun X => X.cell? ⟨g, kw * 32 + J, none⟩ = some (.int .u8 (bv b0))) (fun i => decide (i < 13)) (by kernel_rfl) ?_
  refine K_take (i := 0) (v := .slice (some ⟨g, 0, none⟩) m c1) rfl (by kernel_rfl) (by kernel_rfl) (by kernel_rfl) (by kernel_rfl) (by kernel_rfl) (by kernel_rfl) (fun w' hS => by go_simp) hc0 ?_
  refine K_take (i := 1) (v := .int .i64 ((kw : Nat) : Int)) rfl (by kernel_rfl) (by kernel_rfl) (by kernel_rfl) (by kernel_rfl) (by kernel_rfl) (by kernel_rfl) (fun w' hS => by go_simp) hc0 ?_
  refine K_take (i := 2) (v := .int .i64 ((J : Nat) : Int)) rfl (by kernel_rfl) (by kernel_rfl) (by kernel_rfl) (by kernel_rfl) (by kernel_rfl) (by kernel_rfl) (fun w' hS => by go_simp) hc0 ?_
  refine K_take (i := 3) (v := .slice (some ⟨g, 0, none⟩) m c1) rfl (by kernel_rfl) (by kernel_rfl) (by kernel_rfl) (by kernel_rfl) (by kernel_rfl) (by kernel_rfl) (fun w' hS => by go_simp) hc0 ?_
  refine K_take (i := 4) (v := .int .i64 ((kw : Nat) : Int)) rfl (by kernel_rfl) (by kernel_rfl) (by kernel_rfl) (by kernel_rfl) (by kernel_rfl) (by kernel_rfl) (fun w' hS => by go_simp) hc0 ?_
  refine K_take (i := 5) (v := .int .i64 ((J : Nat) : Int)) rfl (by kernel_rfl) (by kernel_rfl) (by kernel_rfl) (by kernel_rfl) (by kernel_rfl) (by kernel_rfl) (fun w' hS => by go_simp) hc0 ?_
  refine K_take (i := 6) (v := .pointer (some ⟨g, kw * 32, none⟩)) rfl (by kernel_rfl) (by kernel_rfl) (by kernel_rfl) (by kernel_rfl) (by kernel_rfl) (by kernel_rfl) (fun w' hS => by go_simp) hc0 ?_
  refine K_take (i := 7) (v := .pointer (some ⟨g, kw * 32 + J, none⟩)) rfl (by kernel_rfl) (by kernel_rfl) (by kernel_rfl) (by kernel_rfl) (by kernel_rfl) (by kernel_rfl) (fun w' hS => by go_simp; intro h; exact absurd h (by omega)) hc0 ?_
  refine K_take (i := 8) (v := .int .u8 (bv b0)) rfl (by kernel_rfl) (by kernel_rfl) (by kernel_rfl) (by kernel_rfl) (by kernel_rfl) (by kernel_rfl) (fun w' hS => by go_simp) hc0 ?_
  refine K_take (i := 9) (v := .int .u8 (bv by_)) rfl (by kernel_rfl) (by kernel_rfl) (by kernel_rfl) (by kernel_rfl) (by kernel_rfl) (by kernel_rfl) (fun w' hS => by go_simp) hc0 ?_
  refine K_take (i := 10) (v := .int .u8 (bv (b0 ^^^ by_))) rfl (by kernel_rfl) (by kernel_rfl) (by kernel_rfl) (by kernel_rfl) (by kernel_rfl) (by kernel_rfl) (fun w' hS => by go_simp; exact bv_xor b0 by_) hc0 ?_
  refine K_take (i := 11) (v := .pointer (some ⟨g, kw * 32, none⟩)) rfl (by kernel_rfl) (by kernel_rfl) (by kernel_rfl) (by kernel_rfl) (by kernel_rfl) (by kernel_rfl) (fun w' hS => by go_simp) hc0 ?_
  refine K_take (i := 12) (v := .pointer (some ⟨g, kw * 32 + J, none⟩)) rfl (by kernel_rfl) (by kernel_rfl) (by kernel_rfl) (by kernel_rfl) (by kernel_rfl) (by kernel_rfl) (fun w' hS => by go_simp; intro h; exact absurd h (by omega)) hc0 ?_
  refine K_next (i := 13) (by kernel_rfl) rfl (by kernel_rfl) (fun K hK => ?_)
  go_simp
  refine hK _ _ (fun h => absurd h (by decide)) (K_done (by kernel_rfl) ?_)
  clear hK
  refine named (p := fun X => Exit.then _ _ _ _ X) ?_
  intro W5 hW5
  have hX : Ex g W1 W5 := by rw [hW5]; first | exact Ex.set g W1 (kw * 32 + J) _ | exact (show Ex g W1 W1.drew from ⟨rfl, rfl, rfl, Nat.le_refl _, fun _ _ _ => rfl⟩).trans (Ex.set g W1.drew (kw * 32 + J) _) | exact (Ex.set g W1 (kw * 32 + J) _).trans ⟨rfl, rfl, rfl, Nat.le_refl _, fun _ _ _ => rfl⟩
  have hoP : OwnD w.heap.size W5 (.slice (some ⟨g, 0, none⟩) m c1) PP := by rw [hW5]; first | exact hset | exact hset.below (Below.refl _ _).drew
  have hBw5 : Below w.heap.size w W5 := hB1.trans (hX.low hgb hB1.size)
  have hPPl := HQ.out
  obtain ⟨a1, ha1⟩ : ∃ a1, (some (⟨g, 0, none⟩ : Addr)) = a1 := ⟨_, rfl⟩
  rw [ha1] at hoP ⊢
  clear ha1 hW5 hX hset hc0 hfr ho1 hB1 hdi1 hdi2 hdj1 hdj2 hkm
  clear hdn1 hdn2
  have hg5 := hg.below hBw5 hg.size
  have hv5 := hv.below hBw5
  have hp5 := hoP.digs (by have := hg5.size; omega)
  have hE : upE (I : Int) (n : Int) PP.length = 0 := by rw [hPPl]; exact hE0
  have hup := fun W hp hg => up_any leaf (I : Int) (n : Int) (.slice a1 m c1) PP W hl32 hp hg
  have hrf := fun W hp hg => refup_any leaf (I : Int) (n : Int) (.slice a1 m c1) PP W hl32 hp hg
  have hck := fun W hp hg => check_any R leaf (I : Int) (n : Int) (.slice a1 m c1) PP W hR32 hl32 hp hg
  have hD32 := upV_len leaf (I : Int) (n : Int) PP
  obtain ⟨D, hD⟩ : ∃ D, upV leaf (I : Int) (n : Int) PP = D := ⟨_, rfl⟩
  simp only [hE, hD] at hup hrf hck hD32
  clear hD hE
  have hDs : (byteCells D).size = 32 := by rw [byteCells_size, hD32]
  have hrg5 := rangeAt_block hrg0 (hBw5.block g0 hg0l)
  have hu5 := hup W5 hp5 hg5
  go_wp2_with (refine wpList_load_mid rfl 30 _ rfl g0 (o0 + I * 32) rfl (byteCells leaf).toList _ hrg5 Tryd.underlying30 rfl (by rw [byteCells_len, hl32]; kernel_rfl) ?_)
  refine hu5.mono ?_
  clear hu5
  rintro e W6 ⟨rfl, hB6⟩
  have hn6 := has_new W6 (zeroCells 32) 30 W6.heap.size rfl
  go_upto_region 7 with (refine wpList_store_row rfl 30 _ _ rfl W6.heap.size (byteCells D) rfl rfl 30 _ hn6 (by rw [hDs]; kernel_rfl) (by rw [hDs, zeroCells_size]) (byteCells_one _) ?_)
  refine named (p := Code.wp _ _ _ _) ?_
  intro W7 hW7
  have hB67 : Below W6.heap.size W6 W7 := by
    rw [hW7]; exact ((Below.refl _ _).alloc (Nat.le_refl _) _).trans ⟨rfl, rfl, rfl, by simp, fun j hj => setRow_other _ _ _ _ (by omega)⟩
  have z12 : Has W7 W6.heap.size (byteCells D) 30 := by rw [hW7]; exact setRow_heap _ _ _ _ _ _ hn6
  clear hW7 hn6
  have hB57 : Below W5.heap.size W5 W7 := hB6.trans (hB67.mono hB6.size)
  have hBw7 : Below w.heap.size w W7 := hBw5.trans (hB57.mono hBw5.size)
  have hg7 := hg.below hBw7 hg.size
  have hp7 := hp5.below hB57
  have hrg7 := rangeAt_block hrg0 (hBw7.block g0 hg0l)
  have hr7 := hrf W7 hp7 hg7
  clear hB6 hB67 hup hrf
  go_wp2_with (refine wpList_load_mid rfl 30 _ rfl g0 (o0 + I * 32) rfl (byteCells leaf).toList _ hrg7 Tryd.underlying30 rfl (by rw [byteCells_len, hl32]; kernel_rfl) ?_)
  refine hr7.mono ?_
  clear hr7
  rintro e Wa ⟨rfl, hBa⟩
  have hna := has_new Wa (zeroCells 32) 30 Wa.heap.size rfl
  go_upto_region 8 with (refine wpList_store_row rfl 30 _ _ rfl Wa.heap.size (byteCells D) rfl rfl 30 _ hna (by rw [hDs]; kernel_rfl) (by rw [hDs, zeroCells_size]) (byteCells_one _) ?_)
  refine named (p := Code.wp _ _ _ _) ?_
  intro W8 hW8
  have hBa8 : Below Wa.heap.size Wa W8 := by
    rw [hW8]; exact ((Below.refl _ _).alloc (Nat.le_refl _) _).trans ⟨rfl, rfl, rfl, by simp, fun j hj => setRow_other _ _ _ _ (by omega)⟩
  have z14 : Has W8 Wa.heap.size (byteCells D) 30 := by rw [hW8]; exact setRow_heap _ _ _ _ _ _ hna
  clear hW8 hna
  have hB78 : Below W7.heap.size W7 W8 := hBa.trans (hBa8.mono hBa.size)
  have z12 := z12.below hB78 z12.lt
  have hBw8 : Below w.heap.size w W8 := hBw7.trans (hB78.mono hBw7.size)
  have hg8 := hg.below hBw8 hg.size
  have hp8 := hp7.below hB78
  have hv8 := hv.below hBw8
  have hrg8 := rangeAt_block hrg0 (hBw8.block g0 hg0l)
  have hg0l8 : g0 < W8.heap.size := Nat.lt_of_lt_of_le hg0l hBw8.size
  obtain ⟨b12, hb12⟩ : ∃ b, W6.heap.size = b := ⟨_, rfl⟩
  obtain ⟨b14, hb14⟩ : ∃ b, Wa.heap.size = b := ⟨_, rfl⟩
  rw [hb12] at z12 ⊢
  rw [hb14] at z14 ⊢
  clear hb12 hb14 hBa hBa8 hB78 hBw7 hg7 hp7 hrg7 hB57 hrg5 hp5 hv5 hg5 hBw5 hoP
  have hS8 : Below W8.heap.size W8 W8.drew := (Below.refl _ _).drew
  have hchk : ∀ W, Digs W (.slice a1 m c1) PP → Glob W → Calls Tryd.prog 27 #[.agg (byteCells R), .agg (byteCells leaf), .int .i64 (I : Int), .int .i64 (n : Int), .slice a1 m c1] W fun e w' => e = .returned (.int .i64 (checkE 0 (D == R))) ∧ Below W.heap.size W w' := hck
  obtain ⟨cE, hcE⟩ : ∃ c, checkE 0 (D == R) = c := ⟨_, rfl⟩
  rw [hcE] at hchk
  clear hck
  refine wp_region_K (S := fun X => Below W8.heap.size W8 X) (fun _ => true) (by kernel_rfl) ?_
  refine K_take (i := 0) (v := .slice (some ⟨g0, o0, none⟩) n c0) rfl (by kernel_rfl) (by kernel_rfl) (by kernel_rfl) (by kernel_rfl) (by kernel_rfl) (by kernel_rfl) (fun w' hS => by go_simp) hS8 ?_
  refine K_take (i := 2) (v := .slice (some ⟨g0, o0, none⟩) n c0) rfl (by kernel_rfl) (by kernel_rfl) (by kernel_rfl) (by kernel_rfl) (by kernel_rfl) (by kernel_rfl) (fun w' hS => by go_simp) hS8 ?_
  refine K_take (i := 3) (v := .int .i64 ((I : Nat) : Int)) rfl (by kernel_rfl) (by kernel_rfl) (by kernel_rfl) (by kernel_rfl) (by kernel_rfl) (by kernel_rfl) (fun w' hS => by go_simp) hS8 ?_
  refine K_take (i := 4) (v := .pointer (some ⟨g0, o0 + I * 32, none⟩)) rfl (by kernel_rfl) (by kernel_rfl) (by kernel_rfl) (by kernel_rfl) (by kernel_rfl) (by kernel_rfl) (fun w' hS => by go_simp) hS8 ?_
  refine K_take (i := 5) (v := .agg (byteCells leaf)) rfl (by kernel_rfl) (by kernel_rfl) (by kernel_rfl) (by kernel_rfl) (by kernel_rfl) (by kernel_rfl) (fun w' hS => run_load_mid _ rfl g0 (o0 + I * 32) (by kernel_rfl) leaf hl32 (rangeAt_block hrg8 (hS.block g0 hg0l8))) hS8 ?_
  refine K_take (i := 6) (v := .int .i64 ((I : Nat) : Int)) rfl (by kernel_rfl) (by kernel_rfl) (by kernel_rfl) (by kernel_rfl) (by kernel_rfl) (by kernel_rfl) (fun w' hS => by go_simp) hS8 ?_
  refine K_take (i := 7) (v := .slice (some ⟨g0, o0, none⟩) n c0) rfl (by kernel_rfl) (by kernel_rfl) (by kernel_rfl) (by kernel_rfl) (by kernel_rfl) (by kernel_rfl) (fun w' hS => by go_simp) hS8 ?_
  refine K_take (i := 8) (v := .int .i64 ((n : Nat) : Int)) rfl (by kernel_rfl) (by kernel_rfl) (by kernel_rfl) (by kernel_rfl) (by kernel_rfl) (by kernel_rfl) (fun w' hS => by go_simp) hS8 ?_
  refine K_take (i := 9) (v := .slice a1 m c1) rfl (by kernel_rfl) (by kernel_rfl) (by kernel_rfl) (by kernel_rfl) (by kernel_rfl) (by kernel_rfl) (fun w' hS => by go_simp) hS8 ?_
  refine K_next (i := 1) (by kernel_rfl) rfl (by kernel_rfl) (fun K hK => ?_)
  go_simp
  refine (hroot _ (hv8.below hS8) (hg8.below hS8 hg8.size)).mono ?_
  rintro e X1001 ⟨rfl, hb1002⟩
  have hB1003 : Below W8.heap.size W8 X1001 := hS8.trans (hb1002.mono hS8.size)
  refine hK _ _ (fun _ => hB1003) ?_
  clear hK
  refine K_next (i := 10) (by kernel_rfl) rfl (by kernel_rfl) (fun K hK => ?_)
  go_simp
  refine (hchk _ (hp8.below hB1003) (hg8.below hB1003 hg8.size)).mono ?_
  rintro e X1004 ⟨rfl, hb1005⟩
  have hB1006 : Below W8.heap.size W8 X1004 := hB1003.trans (hb1005.mono hB1003.size)
  refine hK _ _ (fun _ => hB1006) ?_
  clear hK
  refine K_take (i := 11) (v := .int .i64 cE) rfl (by kernel_rfl) (by kernel_rfl) (by kernel_rfl) (by kernel_rfl) (by kernel_rfl) (by kernel_rfl) (fun w' hS => by go_simp) hB1006 ?_
  refine K_done (by kernel_rfl) ?_
  refine named (p := fun X => Exit.then _ _ _ _ X) ?_
  intro W9 hW9
  have hB89 : Below W8.heap.size W8 W9 := by rw [hW9]; exact hB1006
  clear hW9
  go_simp
  have hBw9 : Below w.heap.size w W9 := hBw8.trans (hB89.mono hBw8.size)
  have hg9 := hg.below hBw9 hg.size
  have hv9 := hv.below hBw9
  have z12 := z12.below hB89 z12.lt
  have z14 := z14.below hB89 z14.lt
  have hS9 : Below W9.heap.size W9 W9.drew := (Below.refl _ _).drew
  have hq : ∀ w, (Op.equalIn 10000 30 (.agg (byteCells D)) (.agg (byteCells D))).run Tryd.prog w = .ok true w := fun w => by have := eq_dig D D hD32 hD32 w; rwa [show (D == D) = true by simp] at this
  have hq2 : ∀ w, (Op.equalIn 10000 30 (.agg (byteCells D)) (.agg (byteCells R))).run Tryd.prog w = .ok (D == R) w := fun w => eq_dig D R hD32 hR32 w
  obtain ⟨sm, hsm⟩ : ∃ sm, (D == R) = sm := ⟨_, rfl⟩
  simp only [hsm] at hq2 hcE
  clear hsm hchk hS8 hg8 hv8 hp8 hrg8
  go_wp2_with fail
  cases sm with
  | true =>
    obtain rfl : cE = 0 := hcE.symm
    refine wp_region_K (S := fun X => Below W9.heap.size W9 X) (fun _ => true) (by kernel_rfl) ?_
    refine K_take (i := 0) (v := .agg (byteCells D)) rfl (by kernel_rfl) (by kernel_rfl) (by kernel_rfl) (by kernel_rfl) (by kernel_rfl) (by kernel_rfl) (fun w' hS => run_load_row _ rfl b12 (by kernel_rfl) D hD32 (z12.below hS z12.lt)) hS9 ?_
    refine K_take (i := 1) (v := .agg (byteCells D)) rfl (by kernel_rfl) (by kernel_rfl) (by kernel_rfl) (by kernel_rfl) (by kernel_rfl) (by kernel_rfl) (fun w' hS => run_load_row _ rfl b14 (by kernel_rfl) D hD32 (z14.below hS z14.lt)) hS9 ?_
    refine K_take (i := 2) (v := .bool true) rfl (by kernel_rfl) (by kernel_rfl) (by kernel_rfl) (by kernel_rfl) (by kernel_rfl) (by kernel_rfl) (fun w' hS => by go_simp) hS9 ?_
    refine K_take (i := 3) (v := .bool true) rfl (by kernel_rfl) (by kernel_rfl) (by kernel_rfl) (by kernel_rfl) (by kernel_rfl) (by kernel_rfl) (fun w' hS => by go_simp) hS9 ?_
    refine K_take (i := 4) (v := .int .i64 0) rfl (by kernel_rfl) (by kernel_rfl) (by kernel_rfl) (by kernel_rfl) (by kernel_rfl) (by kernel_rfl) (fun w' hS => by go_simp) hS9 ?_
    refine K_take (i := 6) (v := .int .i64 0) rfl (by kernel_rfl) (by kernel_rfl) (by kernel_rfl) (by kernel_rfl) (by kernel_rfl) (by kernel_rfl) (fun w' hS => by go_simp) hS9 ?_
    refine K_next (i := 5) (by kernel_rfl) rfl (by kernel_rfl) (fun K hK => ?_)
    go_simp
    refine (num_any _ _).mono ?_
    rintro e w' ⟨rfl, rfl⟩
    refine hK _ _ (fun _ => hS9) ?_
    clear hK
    refine K_take (i := 7) (v := .bool true) rfl (by kernel_rfl) (by kernel_rfl) (by kernel_rfl) (by kernel_rfl) (by kernel_rfl) (by kernel_rfl) (fun w' hS => by go_simp) hS9 ?_
    refine K_take (i := 8) (v := .bool true) rfl (by kernel_rfl) (by kernel_rfl) (by kernel_rfl) (by kernel_rfl) (by kernel_rfl) (by kernel_rfl) (fun w' hS => by go_simp) hS9 ?_
    refine K_take (i := 9) (v := .bool true) rfl (by kernel_rfl) (by kernel_rfl) (by kernel_rfl) (by kernel_rfl) (by kernel_rfl) (by kernel_rfl) (fun w' hS => by go_simp) hS9 ?_
    refine K_take (i := 10) (v := .int .i64 0) rfl (by kernel_rfl) (by kernel_rfl) (by kernel_rfl) (by kernel_rfl) (by kernel_rfl) (by kernel_rfl) (fun w' hS => by go_simp) hS9 ?_
    refine K_take (i := 13) (v := .agg (byteCells D)) rfl (by kernel_rfl) (by kernel_rfl) (by kernel_rfl) (by kernel_rfl) (by kernel_rfl) (by kernel_rfl) (fun w' hS => run_load_row _ rfl b14 (by kernel_rfl) D hD32 (z14.below hS z14.lt)) hS9 ?_
    refine K_take (i := 14) (v := .slice (some ⟨g0, o0, none⟩) n c0) rfl (by kernel_rfl) (by kernel_rfl) (by kernel_rfl) (by kernel_rfl) (by kernel_rfl) (by kernel_rfl) (fun w' hS => by go_simp) hS9 ?_
    refine K_next (i := 11) (by kernel_rfl) rfl (by kernel_rfl) (fun K hK => ?_)
    go_simp
    refine (num_any _ _).mono ?_
    rintro e w' ⟨rfl, rfl⟩
    refine hK _ _ (fun _ => hS9) ?_
    clear hK
    refine K_take (i := 12) (v := .bool true) rfl (by kernel_rfl) (by kernel_rfl) (by kernel_rfl) (by kernel_rfl) (by kernel_rfl) (by kernel_rfl) (fun w' hS => by go_simp) hS9 ?_
    refine K_next (i := 15) (by kernel_rfl) rfl (by kernel_rfl) (fun K hK => ?_)
    go_simp
    refine (hroot _ (hv9.below hS9) (hg9.below hS9 hg9.size)).mono ?_
    rintro e X1007 ⟨rfl, hb1008⟩
    have hB1009 : Below W9.heap.size W9 X1007 := hS9.trans (hb1008.mono hS9.size)
    refine hK _ _ (fun _ => hB1009) ?_
    clear hK
    refine K_take (i := 16) (v := .bool true) rfl (by kernel_rfl) (by kernel_rfl) (by kernel_rfl) (by kernel_rfl) (by kernel_rfl) (by kernel_rfl) (fun w' hS => by go_simp) hB1009 ?_
    refine K_take (i := 17) (v := .bool true) rfl (by kernel_rfl) (by kernel_rfl) (by kernel_rfl) (by kernel_rfl) (by kernel_rfl) (by kernel_rfl) (fun w' hS => by go_simp) hB1009 ?_
    refine K_take (i := 18) (v := .bool true) rfl (by kernel_rfl) (by kernel_rfl) (by kernel_rfl) (by kernel_rfl) (by kernel_rfl) (by kernel_rfl) (fun w' hS => by go_simp) hB1009 ?_
    refine K_take (i := 19) (v := .bool true) rfl (by kernel_rfl) (by kernel_rfl) (by kernel_rfl) (by kernel_rfl) (by kernel_rfl) (by kernel_rfl) (fun w' hS => by go_simp) hB1009 ?_
    refine K_take (i := 20) (v := .int .i64 0) rfl (by kernel_rfl) (by kernel_rfl) (by kernel_rfl) (by kernel_rfl) (by kernel_rfl) (by kernel_rfl) (fun w' hS => by go_simp) hB1009 ?_
    refine K_next (i := 21) (by kernel_rfl) rfl (by kernel_rfl) (fun K hK => ?_)
    go_simp
    refine (num_any _ _).mono ?_
    rintro e w' ⟨rfl, rfl⟩
    refine hK _ _ (fun _ => hB1009) ?_
    clear hK
    refine K_take (i := 22) (v := .bool true) rfl (by kernel_rfl) (by kernel_rfl) (by kernel_rfl) (by kernel_rfl) (by kernel_rfl) (by kernel_rfl) (fun w' hS => by go_simp) hB1009 ?_
    refine K_take (i := 23) (v := .bool true) rfl (by kernel_rfl) (by kernel_rfl) (by kernel_rfl) (by kernel_rfl) (by kernel_rfl) (by kernel_rfl) (fun w' hS => by go_simp) hB1009 ?_
    refine K_skip (i := 24) rfl (by kernel_rfl) (by kernel_rfl) (by kernel_rfl) (by kernel_rfl) (by kernel_rfl) (by kernel_rfl) hB1009 ?_
    refine K_skip (i := 25) rfl (by kernel_rfl) (by kernel_rfl) (by kernel_rfl) (by kernel_rfl) (by kernel_rfl) (by kernel_rfl) hB1009 ?_
    refine K_skip (i := 26) rfl (by kernel_rfl) (by kernel_rfl) (by kernel_rfl) (by kernel_rfl) (by kernel_rfl) (by kernel_rfl) hB1009 ?_
    refine K_take (i := 27) (v := .bool true) rfl (by kernel_rfl) (by kernel_rfl) (by kernel_rfl) (by kernel_rfl) (by kernel_rfl) (by kernel_rfl) (fun w' hS => by go_simp) hB1009 ?_
    refine K_take (i := 28) (v := .bool true) rfl (by kernel_rfl) (by kernel_rfl) (by kernel_rfl) (by kernel_rfl) (by kernel_rfl) (by kernel_rfl) (fun w' hS => by go_simp) hB1009 ?_
    refine K_take (i := 29) (v := .bool true) rfl (by kernel_rfl) (by kernel_rfl) (by kernel_rfl) (by kernel_rfl) (by kernel_rfl) (by kernel_rfl) (fun w' hS => by go_simp) hB1009 ?_
    refine K_next (i := 30) (by kernel_rfl) rfl (by kernel_rfl) (fun K hK => ?_)
    go_simp
    refine (works_any _ (hg9.below hB1009 hg9.size)).mono ?_
    rintro e X1010 ⟨rfl, hb1011⟩
    have hB1012 : Below W9.heap.size W9 X1010 := hB1009.trans (hb1011.mono hB1009.size)
    refine hK _ _ (fun _ => hB1012) ?_
    clear hK
    refine K_take (i := 31) (v := .bool true) rfl (by kernel_rfl) (by kernel_rfl) (by kernel_rfl) (by kernel_rfl) (by kernel_rfl) (by kernel_rfl) (fun w' hS => by go_simp) hB1012 ?_
    refine K_take (i := 32) (v := .bool true) rfl (by kernel_rfl) (by kernel_rfl) (by kernel_rfl) (by kernel_rfl) (by kernel_rfl) (by kernel_rfl) (fun w' hS => by go_simp) hB1012 ?_
    refine K_done (by kernel_rfl) ?_
    go_simp
    go_wp2
    go_ret
    exact ⟨rfl, hBw9.trans (hB1012.mono hBw9.size)⟩
  | false =>
    obtain rfl : cE = 140 := hcE.symm
    refine wp_region_K (S := fun X => Below W9.heap.size W9 X) (fun _ => true) (by kernel_rfl) ?_
    refine K_take (i := 0) (v := .agg (byteCells D)) rfl (by kernel_rfl) (by kernel_rfl) (by kernel_rfl) (by kernel_rfl) (by kernel_rfl) (by kernel_rfl) (fun w' hS => run_load_row _ rfl b12 (by kernel_rfl) D hD32 (z12.below hS z12.lt)) hS9 ?_
    refine K_take (i := 1) (v := .agg (byteCells D)) rfl (by kernel_rfl) (by kernel_rfl) (by kernel_rfl) (by kernel_rfl) (by kernel_rfl) (by kernel_rfl) (fun w' hS => run_load_row _ rfl b14 (by kernel_rfl) D hD32 (z14.below hS z14.lt)) hS9 ?_
    refine K_take (i := 2) (v := .bool true) rfl (by kernel_rfl) (by kernel_rfl) (by kernel_rfl) (by kernel_rfl) (by kernel_rfl) (by kernel_rfl) (fun w' hS => by go_simp) hS9 ?_
    refine K_take (i := 3) (v := .bool true) rfl (by kernel_rfl) (by kernel_rfl) (by kernel_rfl) (by kernel_rfl) (by kernel_rfl) (by kernel_rfl) (fun w' hS => by go_simp) hS9 ?_
    refine K_take (i := 4) (v := .int .i64 0) rfl (by kernel_rfl) (by kernel_rfl) (by kernel_rfl) (by kernel_rfl) (by kernel_rfl) (by kernel_rfl) (fun w' hS => by go_simp) hS9 ?_
    refine K_take (i := 6) (v := .int .i64 0) rfl (by kernel_rfl) (by kernel_rfl) (by kernel_rfl) (by kernel_rfl) (by kernel_rfl) (by kernel_rfl) (fun w' hS => by go_simp) hS9 ?_
    refine K_next (i := 5) (by kernel_rfl) rfl (by kernel_rfl) (fun K hK => ?_)
    go_simp
    refine (num_any _ _).mono ?_
    rintro e w' ⟨rfl, rfl⟩
    refine hK _ _ (fun _ => hS9) ?_
    clear hK
    refine K_take (i := 7) (v := .bool true) rfl (by kernel_rfl) (by kernel_rfl) (by kernel_rfl) (by kernel_rfl) (by kernel_rfl) (by kernel_rfl) (fun w' hS => by go_simp) hS9 ?_
    refine K_take (i := 8) (v := .bool true) rfl (by kernel_rfl) (by kernel_rfl) (by kernel_rfl) (by kernel_rfl) (by kernel_rfl) (by kernel_rfl) (fun w' hS => by go_simp) hS9 ?_
    refine K_take (i := 9) (v := .bool true) rfl (by kernel_rfl) (by kernel_rfl) (by kernel_rfl) (by kernel_rfl) (by kernel_rfl) (by kernel_rfl) (fun w' hS => by go_simp) hS9 ?_
    refine K_take (i := 10) (v := .int .i64 140) rfl (by kernel_rfl) (by kernel_rfl) (by kernel_rfl) (by kernel_rfl) (by kernel_rfl) (by kernel_rfl) (fun w' hS => by go_simp) hS9 ?_
    refine K_take (i := 13) (v := .agg (byteCells D)) rfl (by kernel_rfl) (by kernel_rfl) (by kernel_rfl) (by kernel_rfl) (by kernel_rfl) (by kernel_rfl) (fun w' hS => run_load_row _ rfl b14 (by kernel_rfl) D hD32 (z14.below hS z14.lt)) hS9 ?_
    refine K_take (i := 14) (v := .slice (some ⟨g0, o0, none⟩) n c0) rfl (by kernel_rfl) (by kernel_rfl) (by kernel_rfl) (by kernel_rfl) (by kernel_rfl) (by kernel_rfl) (fun w' hS => by go_simp) hS9 ?_
    refine K_next (i := 11) (by kernel_rfl) rfl (by kernel_rfl) (fun K hK => ?_)
    go_simp
    refine (num_any _ _).mono ?_
    rintro e w' ⟨rfl, rfl⟩
    refine hK _ _ (fun _ => hS9) ?_
    clear hK
    refine K_take (i := 12) (v := .bool false) rfl (by kernel_rfl) (by kernel_rfl) (by kernel_rfl) (by kernel_rfl) (by kernel_rfl) (by kernel_rfl) (fun w' hS => by go_simp) hS9 ?_
    refine K_next (i := 15) (by kernel_rfl) rfl (by kernel_rfl) (fun K hK => ?_)
    go_simp
    refine (hroot _ (hv9.below hS9) (hg9.below hS9 hg9.size)).mono ?_
    rintro e X1013 ⟨rfl, hb1014⟩
    have hB1015 : Below W9.heap.size W9 X1013 := hS9.trans (hb1014.mono hS9.size)
    refine hK _ _ (fun _ => hB1015) ?_
    clear hK
    refine K_take (i := 16) (v := .bool false) rfl (by kernel_rfl) (by kernel_rfl) (by kernel_rfl) (by kernel_rfl) (by kernel_rfl) (by kernel_rfl) (fun w' hS => by go_simp) hB1015 ?_
    refine K_take (i := 17) (v := .bool true) rfl (by kernel_rfl) (by kernel_rfl) (by kernel_rfl) (by kernel_rfl) (by kernel_rfl) (by kernel_rfl) (fun w' hS => by go_simp) hB1015 ?_
    refine K_take (i := 18) (v := .bool true) rfl (by kernel_rfl) (by kernel_rfl) (by kernel_rfl) (by kernel_rfl) (by kernel_rfl) (by kernel_rfl) (fun w' hS => by go_simp) hB1015 ?_
    refine K_take (i := 19) (v := .bool true) rfl (by kernel_rfl) (by kernel_rfl) (by kernel_rfl) (by kernel_rfl) (by kernel_rfl) (by kernel_rfl) (fun w' hS => by go_simp) hB1015 ?_
    refine K_take (i := 20) (v := .int .i64 140) rfl (by kernel_rfl) (by kernel_rfl) (by kernel_rfl) (by kernel_rfl) (by kernel_rfl) (by kernel_rfl) (fun w' hS => by go_simp) hB1015 ?_
    refine K_next (i := 21) (by kernel_rfl) rfl (by kernel_rfl) (fun K hK => ?_)
    go_simp
    refine (num_any _ _).mono ?_
    rintro e w' ⟨rfl, rfl⟩
    refine hK _ _ (fun _ => hB1015) ?_
    clear hK
    refine K_take (i := 22) (v := .bool false) rfl (by kernel_rfl) (by kernel_rfl) (by kernel_rfl) (by kernel_rfl) (by kernel_rfl) (by kernel_rfl) (fun w' hS => by go_simp) hB1015 ?_
    refine K_take (i := 23) (v := .bool false) rfl (by kernel_rfl) (by kernel_rfl) (by kernel_rfl) (by kernel_rfl) (by kernel_rfl) (by kernel_rfl) (fun w' hS => by go_simp) hB1015 ?_
    refine K_take (i := 24) (v := .int .i64 140) rfl (by kernel_rfl) (by kernel_rfl) (by kernel_rfl) (by kernel_rfl) (by kernel_rfl) (by kernel_rfl) (fun w' hS => by go_simp) hB1015 ?_
    refine K_next (i := 25) (by kernel_rfl) rfl (by kernel_rfl) (fun K hK => ?_)
    go_simp
    refine (num_any _ _).mono ?_
    rintro e w' ⟨rfl, rfl⟩
    refine hK _ _ (fun _ => hB1015) ?_
    clear hK
    refine K_take (i := 26) (v := .bool true) rfl (by kernel_rfl) (by kernel_rfl) (by kernel_rfl) (by kernel_rfl) (by kernel_rfl) (by kernel_rfl) (fun w' hS => by go_simp) hB1015 ?_
    refine K_take (i := 27) (v := .bool true) rfl (by kernel_rfl) (by kernel_rfl) (by kernel_rfl) (by kernel_rfl) (by kernel_rfl) (by kernel_rfl) (fun w' hS => by go_simp) hB1015 ?_
    refine K_take (i := 28) (v := .bool true) rfl (by kernel_rfl) (by kernel_rfl) (by kernel_rfl) (by kernel_rfl) (by kernel_rfl) (by kernel_rfl) (fun w' hS => by go_simp) hB1015 ?_
    refine K_take (i := 29) (v := .bool true) rfl (by kernel_rfl) (by kernel_rfl) (by kernel_rfl) (by kernel_rfl) (by kernel_rfl) (by kernel_rfl) (fun w' hS => by go_simp) hB1015 ?_
    refine K_next (i := 30) (by kernel_rfl) rfl (by kernel_rfl) (fun K hK => ?_)
    go_simp
    refine (works_any _ (hg9.below hB1015 hg9.size)).mono ?_
    rintro e X1016 ⟨rfl, hb1017⟩
    have hB1018 : Below W9.heap.size W9 X1016 := hB1015.trans (hb1017.mono hB1015.size)
    refine hK _ _ (fun _ => hB1018) ?_
    clear hK
    refine K_take (i := 31) (v := .bool true) rfl (by kernel_rfl) (by kernel_rfl) (by kernel_rfl) (by kernel_rfl) (by kernel_rfl) (by kernel_rfl) (fun w' hS => by go_simp) hB1018 ?_
    refine K_take (i := 32) (v := .bool true) rfl (by kernel_rfl) (by kernel_rfl) (by kernel_rfl) (by kernel_rfl) (by kernel_rfl) (by kernel_rfl) (fun w' hS => by go_simp) hB1018 ?_
    refine K_done (by kernel_rfl) ?_
    go_simp
    go_wp2
    go_ret
    exact ⟨rfl, hBw9.trans (hB1018.mono hBw9.size)⟩
end Go.Proofs.YtcmkjgodgocdfaaDoor
