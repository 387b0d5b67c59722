/- MerkleBent: the law's walk, where the path has no such digest. -/
import Derived.Test.YtcmkjgodgocdfaaDoorZcW6
import Derived.Test.YtcmkjgodgocdfaaDoorZq6
import Derived.Test.YtcmkjgodgocdfaaDoorZcW3
namespace Go.Proofs.YtcmkjgodgocdfaaDoor
open Go.RowKit

set_option maxRecDepth 100000 in
set_option maxHeartbeats 2000000 in
theorem bent_over (v : Value) (ds : List Dig) (I J : Nat) (which : Int) (by_ : UInt8) (w : World) (hv : Digs w v ds) (h16 : ds.length ≤ 16) (hi : I < ds.length) (hJ : J < 32) (hg : Glob w) (hw : ¬ (0 ≤ which ∧ which < ((pathOf ds I).length : Int))) (hw1 : 0 ≤ which) :
    Calls Tryd.prog 10 #[v, .int .i64 (I : Int), .int .i64 which, .int .i64 (J : Int), .int .u8 (bv by_)] w fun e w' => e = .returned (.bool true) ∧ Below w.heap.size w w' := by
  have h0 : 0 < ds.length := by omega
  have hgs := hg.size
  have hPl := pathOf_le ds I h16
  have hrp := refpath_any v ds I w hv h16 hi hg
  have hE0 := upE_path hi h16
  obtain ⟨g0, o0, c0, rfl, hrg0, hg0l⟩ := hv.at_ hi
  have hl32 := hv.1.at_ hi
  obtain ⟨leaf, hleaf⟩ : ∃ leaf, ds[I]?.getD [] = leaf := ⟨_, rfl⟩
  rw [hleaf] at hrg0 hl32
  clear hleaf
  have hroot := fun W hv hg => refroot_any (.slice (some ⟨g0, o0, none⟩) ds.length c0) ds W hv h16 h0 hg
  have hR32 := (rootOf_spec (ds := ds) h0).2.1
  obtain ⟨R, hR⟩ : ∃ R, rootOf ds = R := ⟨_, rfl⟩
  simp only [hR] at hroot hR32
  clear hR
  obtain ⟨P, hP⟩ : ∃ P, pathOf ds I = P := ⟨_, rfl⟩
  rw [hP] at hrp hPl hE0 hw
  clear hP
  obtain ⟨n, hn⟩ : ∃ n, ds.length = n := ⟨_, rfl⟩
  simp only [hn] at h16 hi h0 hv hroot hE0 hrp ⊢
  clear hn
  have hdn1 : decide ((n : Int) < 1) = false := by simp; omega
  have hdn2 : decide (16 < (n : Int)) = false := by simp; omega
  have hdi1 : decide ((I : Int) < 0) = false := by simp
  have hdi2 : decide ((n : Int) ≤ (I : Int)) = false := by simp; omega
  have hdj1 : decide ((J : Int) < 0) = false := by simp
  have hdj2 : decide (31 < (J : Int)) = false := by simp; omega
  go_enter Tryd.func10, Tryd.ntmps10
  go_wp2_with fail
  refine hrp.mono ?_
  clear hrp
  rintro e W1 ⟨v1, rfl, ho1, hB1⟩
  obtain ⟨a1, c1, hv1⟩ := ho1.slice
  obtain ⟨m, hm⟩ : ∃ m, P.length = m := ⟨_, rfl⟩
  rw [hm] at hv1 hPl hE0 hw
  subst hv1
  have HM : Hid (P.length = m) := hm
  clear hm
  have hs1 := hB1.size
  have hoP := ho1
  have hBw5 : Below w.heap.size w W1 := hB1
  have hPPl := HM.out
  obtain ⟨W5, hW5⟩ : ∃ W, W1 = W := ⟨_, rfl⟩
  obtain ⟨PP, hPP⟩ : ∃ PP, P = PP := ⟨_, rfl⟩
  rw [hW5] at hoP hBw5 ⊢
  rw [hPP] at hoP hPPl
  clear hPP HM hW5 hB1 ho1
  have hw2 : ¬ which < (m : Int) := by omega
  clear hw
  have hg5 := hg.below hBw5 hg.size
  have hv5 := hv.below hBw5
  have hp5 := hoP.digs (by have := hg5.size; omega)
  have hE : upE (I : Int) (n : Int) PP.length = 0 := by rw [hPPl]; exact hE0
  have hup := fun W hp hg => up_any leaf (I : Int) (n : Int) (.slice a1 m c1) PP W hl32 hp hg
  have hrf := fun W hp hg => refup_any leaf (I : Int) (n : Int) (.slice a1 m c1) PP W hl32 hp hg
  have hck := fun W hp hg => check_any R leaf (I : Int) (n : Int) (.slice a1 m c1) PP W hR32 hl32 hp hg
  have hD32 := upV_len leaf (I : Int) (n : Int) PP
  obtain ⟨D, hD⟩ : ∃ D, upV leaf (I : Int) (n : Int) PP = D := ⟨_, rfl⟩
  simp only [hE, hD] at hup hrf hck hD32
  clear hD hE
  have hDs : (byteCells D).size = 32 := by rw [byteCells_size, hD32]
  have hrg5 := rangeAt_block hrg0 (hBw5.block g0 hg0l)
  have hu5 := hup W5 hp5 hg5
  go_wp2_with (refine wpList_load_mid rfl 30 _ rfl g0 (o0 + I * 32) rfl (byteCells leaf).toList _ hrg5 Tryd.underlying30 rfl (by rw [byteCells_len, hl32]; kernel_rfl) ?_)
  refine hu5.mono ?_
  clear hu5
  rintro e W6 ⟨rfl, hB6⟩
  have hn6 := has_new W6 (zeroCells 32) 30 W6.heap.size rfl
  go_upto_region 7 with (refine wpList_store_row rfl 30 _ _ rfl W6.heap.size (byteCells D) rfl rfl 30 _ hn6 (by rw [hDs]; kernel_rfl) (by rw [hDs, zeroCells_size]) (byteCells_one _) ?_)
  refine named (p := Code.wp _ _ _ _) ?_
  intro W7 hW7
  have hB67 : Below W6.heap.size W6 W7 := by
    rw [hW7]; exact ((Below.refl _ _).alloc (Nat.le_refl _) _).trans ⟨rfl, rfl, rfl, by simp, fun j hj => setRow_other _ _ _ _ (by omega)⟩
  have z12 : Has W7 W6.heap.size (byteCells D) 30 := by rw [hW7]; exact setRow_heap _ _ _ _ _ _ hn6
  clear hW7 hn6
  have hB57 : Below W5.heap.size W5 W7 := hB6.trans (hB67.mono hB6.size)
  have hBw7 : Below w.heap.size w W7 := hBw5.trans (hB57.mono hBw5.size)
  have hg7 := hg.below hBw7 hg.size
  have hp7 := hp5.below hB57
  have hrg7 := rangeAt_block hrg0 (hBw7.block g0 hg0l)
  have hr7 := hrf W7 hp7 hg7
  clear hB6 hB67 hup hrf
  go_wp2_with (refine wpList_load_mid rfl 30 _ rfl g0 (o0 + I * 32) rfl (byteCells leaf).toList _ hrg7 Tryd.underlying30 rfl (by rw [byteCells_len, hl32]; kernel_rfl) ?_)
  refine hr7.mono ?_
  clear hr7
  rintro e Wa ⟨rfl, hBa⟩
  have hna := has_new Wa (zeroCells 32) 30 Wa.heap.size rfl
  go_upto_region 8 with (refine wpList_store_row rfl 30 _ _ rfl Wa.heap.size (byteCells D) rfl rfl 30 _ hna (by rw [hDs]; kernel_rfl) (by rw [hDs, zeroCells_size]) (byteCells_one _) ?_)
  refine named (p := Code.wp _ _ _ _) ?_
  intro W8 hW8
  have hBa8 : Below Wa.heap.size Wa W8 := by
    rw [hW8]; exact ((Below.refl _ _).alloc (Nat.le_refl _) _).trans ⟨rfl, rfl, rfl, by simp, fun j hj => setRow_other _ _ _ _ (by omega)⟩
  have z14 : Has W8 Wa.heap.size (byteCells D) 30 := by rw [hW8]; exact setRow_heap _ _ _ _ _ _ hna
  clear hW8 hna
  have hB78 : Below W7.heap.size W7 W8 := hBa.trans (hBa8.mono hBa.size)
  have z12 := z12.below hB78 z12.lt
  have hBw8 : Below w.heap.size w W8 := hBw7.trans (hB78.mono hBw7.size)
  have hg8 := hg.below hBw8 hg.size
  have hp8 := hp7.below hB78
  have hv8 := hv.below hBw8
  have hrg8 := rangeAt_block hrg0 (hBw8.block g0 hg0l)
  have hg0l8 : g0 < W8.heap.size := Nat.lt_of_lt_of_le hg0l hBw8.size
  obtain ⟨b12, hb12⟩ : ∃ b, W6.heap.size = b := ⟨_, rfl⟩
  obtain ⟨b14, hb14⟩ : ∃ b, Wa.heap.size = b := ⟨_, rfl⟩
  rw [hb12] at z12 ⊢
  rw [hb14] at z14 ⊢
  clear hb12 hb14 hBa hBa8 hB78 hBw7 hg7 hp7 hrg7 hB57 hrg5 hp5 hv5 hg5 hBw5 hoP
  have hS8 : Below W8.heap.size W8 W8.drew := (Below.refl _ _).drew
  have hchk : ∀ W, Digs W (.slice a1 m c1) PP → Glob W → Calls Tryd.prog 27 #[.agg (byteCells R), .agg (byteCells leaf), .int .i64 (I : Int), .int .i64 (n : Int), .slice a1 m c1] W fun e w' => e = .returned (.int .i64 (checkE 0 (D == R))) ∧ Below W.heap.size W w' := hck
  obtain ⟨cE, hcE⟩ : ∃ c, checkE 0 (D == R) = c := ⟨_, rfl⟩
  rw [hcE] at hchk
  clear hck
  refine wp_region_K (S := fun X => Below W8.heap.size W8 X) (fun _ => true) (by kernel_rfl) ?_
  refine K_take (i := 0) (v := .slice (some ⟨g0, o0, none⟩) n c0) rfl (by kernel_rfl) (by kernel_rfl) (by kernel_rfl) (by kernel_rfl) (by kernel_rfl) (by kernel_rfl) (fun w' hS => by go_simp) hS8 ?_
  refine K_take (i := 2) (v := .slice (some ⟨g0, o0, none⟩) n c0) rfl (by kernel_rfl) (by kernel_rfl) (by kernel_rfl) (by kernel_rfl) (by kernel_rfl) (by kernel_rfl) (fun w' hS => by go_simp) hS8 ?_
  refine K_take (i := 3) (v := .int .i64 ((I : Nat) : Int)) rfl (by kernel_rfl) (by kernel_rfl) (by kernel_rfl) (by kernel_rfl) (by kernel_rfl) (by kernel_rfl) (fun w' hS => by go_simp) hS8 ?_
  refine K_take (i := 4) (v := .pointer (some ⟨g0, o0 + I * 32, none⟩)) rfl (by kernel_rfl) (by kernel_rfl) (by kernel_rfl) (by kernel_rfl) (by kernel_rfl) (by kernel_rfl) (fun w' hS => by go_simp) hS8 ?_
  refine K_take (i := 5) (v := .agg (byteCells leaf)) rfl (by kernel_rfl) (by kernel_rfl) (by kernel_rfl) (by kernel_rfl) (by kernel_rfl) (by kernel_rfl) (fun w' hS => run_load_mid _ rfl g0 (o0 + I * 32) (by kernel_rfl) leaf hl32 (rangeAt_block hrg8 (hS.block g0 hg0l8))) hS8 ?_
  refine K_take (i := 6) (v := .int .i64 ((I : Nat) : Int)) rfl (by kernel_rfl) (by kernel_rfl) (by kernel_rfl) (by kernel_rfl) (by kernel_rfl) (by kernel_rfl) (fun w' hS => by go_simp) hS8 ?_
  refine K_take (i := 7) (v := .slice (some ⟨g0, o0, none⟩) n c0) rfl (by kernel_rfl) (by kernel_rfl) (by kernel_rfl) (by kernel_rfl) (by kernel_rfl) (by kernel_rfl) (fun w' hS => by go_simp) hS8 ?_
  refine K_take (i := 8) (v := .int .i64 ((n : Nat) : Int)) rfl (by kernel_rfl) (by kernel_rfl) (by kernel_rfl) (by kernel_rfl) (by kernel_rfl) (by kernel_rfl) (fun w' hS => by go_simp) hS8 ?_
  refine K_take (i := 9) (v := .slice a1 m c1) rfl (by kernel_rfl) (by kernel_rfl) (by kernel_rfl) (by kernel_rfl) (by kernel_rfl) (by kernel_rfl) (fun w' hS => by go_simp) hS8 ?_
  refine K_next (i := 1) (by kernel_rfl) rfl (by kernel_rfl) (fun K hK => ?_)
  go_simp
  refine (hroot _ (hv8.below hS8) (hg8.below hS8 hg8.size)).mono ?_
  rintro e X1019 ⟨rfl, hb1020⟩
  have hB1021 : Below W8.heap.size W8 X1019 := hS8.trans (hb1020.mono hS8.size)
  refine hK _ _ (fun _ => hB1021) ?_
  clear hK
  refine K_next (i := 10) (by kernel_rfl) rfl (by kernel_rfl) (fun K hK => ?_)
  go_simp
  refine (hchk _ (hp8.below hB1021) (hg8.below hB1021 hg8.size)).mono ?_
  rintro e X1022 ⟨rfl, hb1023⟩
  have hB1024 : Below W8.heap.size W8 X1022 := hB1021.trans (hb1023.mono hB1021.size)
  refine hK _ _ (fun _ => hB1024) ?_
  clear hK
  refine K_take (i := 11) (v := .int .i64 cE) rfl (by kernel_rfl) (by kernel_rfl) (by kernel_rfl) (by kernel_rfl) (by kernel_rfl) (by kernel_rfl) (fun w' hS => by go_simp) hB1024 ?_
  refine K_done (by kernel_rfl) ?_
  refine named (p := fun X => Exit.then _ _ _ _ X) ?_
  intro W9 hW9
  have hB89 : Below W8.heap.size W8 W9 := by rw [hW9]; exact hB1024
  clear hW9
  go_simp
  have hBw9 : Below w.heap.size w W9 := hBw8.trans (hB89.mono hBw8.size)
  have hg9 := hg.below hBw9 hg.size
  have hv9 := hv.below hBw9
  have z12 := z12.below hB89 z12.lt
  have z14 := z14.below hB89 z14.lt
  have hS9 : Below W9.heap.size W9 W9.drew := (Below.refl _ _).drew
  have hq : ∀ w, (Op.equalIn 10000 30 (.agg (byteCells D)) (.agg (byteCells D))).run Tryd.prog w = .ok true w := fun w => by have := eq_dig D D hD32 hD32 w; rwa [show (D == D) = true by simp] at this
  have hq2 : ∀ w, (Op.equalIn 10000 30 (.agg (byteCells D)) (.agg (byteCells R))).run Tryd.prog w = .ok (D == R) w := fun w => eq_dig D R hD32 hR32 w
  obtain ⟨sm, hsm⟩ : ∃ sm, (D == R) = sm := ⟨_, rfl⟩
  simp only [hsm] at hq2 hcE
  clear hsm hchk hS8 hg8 hv8 hp8 hrg8
  go_wp2_with fail
  cases sm with
  | true =>
    obtain rfl : cE = 0 := hcE.symm
    refine wp_region_K (S := fun X => Below W9.heap.size W9 X) (fun _ => true) (by kernel_rfl) ?_
    refine K_take (i := 0) (v := .agg (byteCells D)) rfl (by kernel_rfl) (by kernel_rfl) (by kernel_rfl) (by kernel_rfl) (by kernel_rfl) (by kernel_rfl) (fun w' hS => run_load_row _ rfl b12 (by kernel_rfl) D hD32 (z12.below hS z12.lt)) hS9 ?_
    refine K_take (i := 1) (v := .agg (byteCells D)) rfl (by kernel_rfl) (by kernel_rfl) (by kernel_rfl) (by kernel_rfl) (by kernel_rfl) (by kernel_rfl) (fun w' hS => run_load_row _ rfl b14 (by kernel_rfl) D hD32 (z14.below hS z14.lt)) hS9 ?_
    refine K_take (i := 2) (v := .bool true) rfl (by kernel_rfl) (by kernel_rfl) (by kernel_rfl) (by kernel_rfl) (by kernel_rfl) (by kernel_rfl) (fun w' hS => by go_simp) hS9 ?_
    refine K_take (i := 3) (v := .bool true) rfl (by kernel_rfl) (by kernel_rfl) (by kernel_rfl) (by kernel_rfl) (by kernel_rfl) (by kernel_rfl) (fun w' hS => by go_simp) hS9 ?_
    refine K_take (i := 4) (v := .int .i64 0) rfl (by kernel_rfl) (by kernel_rfl) (by kernel_rfl) (by kernel_rfl) (by kernel_rfl) (by kernel_rfl) (fun w' hS => by go_simp) hS9 ?_
    refine K_take (i := 6) (v := .int .i64 0) rfl (by kernel_rfl) (by kernel_rfl) (by kernel_rfl) (by kernel_rfl) (by kernel_rfl) (by kernel_rfl) (fun w' hS => by go_simp) hS9 ?_
    refine K_next (i := 5) (by kernel_rfl) rfl (by kernel_rfl) (fun K hK => ?_)
    go_simp
    refine (num_any _ _).mono ?_
    rintro e w' ⟨rfl, rfl⟩
    refine hK _ _ (fun _ => hS9) ?_
    clear hK
    refine K_take (i := 7) (v := .bool true) rfl (by kernel_rfl) (by kernel_rfl) (by kernel_rfl) (by kernel_rfl) (by kernel_rfl) (by kernel_rfl) (fun w' hS => by go_simp) hS9 ?_
    refine K_take (i := 8) (v := .bool true) rfl (by kernel_rfl) (by kernel_rfl) (by kernel_rfl) (by kernel_rfl) (by kernel_rfl) (by kernel_rfl) (fun w' hS => by go_simp) hS9 ?_
    refine K_take (i := 9) (v := .bool true) rfl (by kernel_rfl) (by kernel_rfl) (by kernel_rfl) (by kernel_rfl) (by kernel_rfl) (by kernel_rfl) (fun w' hS => by go_simp) hS9 ?_
    refine K_take (i := 10) (v := .int .i64 0) rfl (by kernel_rfl) (by kernel_rfl) (by kernel_rfl) (by kernel_rfl) (by kernel_rfl) (by kernel_rfl) (fun w' hS => by go_simp) hS9 ?_
    refine K_take (i := 13) (v := .agg (byteCells D)) rfl (by kernel_rfl) (by kernel_rfl) (by kernel_rfl) (by kernel_rfl) (by kernel_rfl) (by kernel_rfl) (fun w' hS => run_load_row _ rfl b14 (by kernel_rfl) D hD32 (z14.below hS z14.lt)) hS9 ?_
    refine K_take (i := 14) (v := .slice (some ⟨g0, o0, none⟩) n c0) rfl (by kernel_rfl) (by kernel_rfl) (by kernel_rfl) (by kernel_rfl) (by kernel_rfl) (by kernel_rfl) (fun w' hS => by go_simp) hS9 ?_
    refine K_next (i := 11) (by kernel_rfl) rfl (by kernel_rfl) (fun K hK => ?_)
    go_simp
    refine (num_any _ _).mono ?_
    rintro e w' ⟨rfl, rfl⟩
    refine hK _ _ (fun _ => hS9) ?_
    clear hK
    refine K_take (i := 12) (v := .bool true) rfl (by kernel_rfl) (by kernel_rfl) (by kernel_rfl) (by kernel_rfl) (by kernel_rfl) (by kernel_rfl) (fun w' hS => by go_simp) hS9 ?_
    refine K_next (i := 15) (by kernel_rfl) rfl (by kernel_rfl) (fun K hK => ?_)
    go_simp
    refine (hroot _ (hv9.below hS9) (hg9.below hS9 hg9.size)).mono ?_
    rintro e X1025 ⟨rfl, hb1026⟩
    have hB1027 : Below W9.heap.size W9 X1025 := hS9.trans (hb1026.mono hS9.size)
    refine hK _ _ (fun _ => hB1027) ?_
    clear hK
    refine K_take (i := 16) (v := .bool true) rfl (by kernel_rfl) (by kernel_rfl) (by kernel_rfl) (by kernel_rfl) (by kernel_rfl) (by kernel_rfl) (fun w' hS => by go_simp) hB1027 ?_
    refine K_take (i := 17) (v := .bool true) rfl (by kernel_rfl) (by kernel_rfl) (by kernel_rfl) (by kernel_rfl) (by kernel_rfl) (by kernel_rfl) (fun w' hS => by go_simp) hB1027 ?_
    refine K_take (i := 18) (v := .bool true) rfl (by kernel_rfl) (by kernel_rfl) (by kernel_rfl) (by kernel_rfl) (by kernel_rfl) (by kernel_rfl) (fun w' hS => by go_simp) hB1027 ?_
    refine K_take (i := 19) (v := .bool true) rfl (by kernel_rfl) (by kernel_rfl) (by kernel_rfl) (by kernel_rfl) (by kernel_rfl) (by kernel_rfl) (fun w' hS => by go_simp) hB1027 ?_
    refine K_take (i := 20) (v := .int .i64 0) rfl (by kernel_rfl) (by kernel_rfl) (by kernel_rfl) (by kernel_rfl) (by kernel_rfl) (by kernel_rfl) (fun w' hS => by go_simp) hB1027 ?_
    refine K_next (i := 21) (by kernel_rfl) rfl (by kernel_rfl) (fun K hK => ?_)
    go_simp
    refine (num_any _ _).mono ?_
    rintro e w' ⟨rfl, rfl⟩
    refine hK _ _ (fun _ => hB1027) ?_
    clear hK
    refine K_take (i := 22) (v := .bool true) rfl (by kernel_rfl) (by kernel_rfl) (by kernel_rfl) (by kernel_rfl) (by kernel_rfl) (by kernel_rfl) (fun w' hS => by go_simp) hB1027 ?_
    refine K_take (i := 23) (v := .bool true) rfl (by kernel_rfl) (by kernel_rfl) (by kernel_rfl) (by kernel_rfl) (by kernel_rfl) (by kernel_rfl) (fun w' hS => by go_simp) hB1027 ?_
    refine K_skip (i := 24) rfl (by kernel_rfl) (by kernel_rfl) (by kernel_rfl) (by kernel_rfl) (by kernel_rfl) (by kernel_rfl) hB1027 ?_
    refine K_skip (i := 25) rfl (by kernel_rfl) (by kernel_rfl) (by kernel_rfl) (by kernel_rfl) (by kernel_rfl) (by kernel_rfl) hB1027 ?_
    refine K_skip (i := 26) rfl (by kernel_rfl) (by kernel_rfl) (by kernel_rfl) (by kernel_rfl) (by kernel_rfl) (by kernel_rfl) hB1027 ?_
    refine K_take (i := 27) (v := .bool true) rfl (by kernel_rfl) (by kernel_rfl) (by kernel_rfl) (by kernel_rfl) (by kernel_rfl) (by kernel_rfl) (fun w' hS => by go_simp) hB1027 ?_
    refine K_take (i := 28) (v := .bool true) rfl (by kernel_rfl) (by kernel_rfl) (by kernel_rfl) (by kernel_rfl) (by kernel_rfl) (by kernel_rfl) (fun w' hS => by go_simp) hB1027 ?_
    refine K_take (i := 29) (v := .bool true) rfl (by kernel_rfl) (by kernel_rfl) (by kernel_rfl) (by kernel_rfl) (by kernel_rfl) (by kernel_rfl) (fun w' hS => by go_simp) hB1027 ?_
    refine K_next (i := 30) (by kernel_rfl) rfl (by kernel_rfl) (fun K hK => ?_)
    go_simp
    refine (works_any _ (hg9.below hB1027 hg9.size)).mono ?_
    rintro e X1028 ⟨rfl, hb1029⟩
    have hB1030 : Below W9.heap.size W9 X1028 := hB1027.trans (hb1029.mono hB1027.size)
    refine hK _ _ (fun _ => hB1030) ?_
    clear hK
    refine K_take (i := 31) (v := .bool true) rfl (by kernel_rfl) (by kernel_rfl) (by kernel_rfl) (by kernel_rfl) (by kernel_rfl) (by kernel_rfl) (fun w' hS => by go_simp) hB1030 ?_
    refine K_take (i := 32) (v := .bool true) rfl (by kernel_rfl) (by kernel_rfl) (by kernel_rfl) (by kernel_rfl) (by kernel_rfl) (by kernel_rfl) (fun w' hS => by go_simp) hB1030 ?_
    refine K_done (by kernel_rfl) ?_
    go_simp
    go_wp2
    go_ret
    exact ⟨rfl, hBw9.trans (hB1030.mono hBw9.size)⟩
  | false =>
    obtain rfl : cE = 140 := hcE.symm
    refine wp_region_K (S := fun X => Below W9.heap.size W9 X) (fun _ => true) (by kernel_rfl) ?_
    refine K_take (i := 0) (v := .agg (byteCells D)) rfl (by kernel_rfl) (by kernel_rfl) (by kernel_rfl) (by kernel_rfl) (by kernel_rfl) (by kernel_rfl) (fun w' hS => run_load_row _ rfl b12 (by kernel_rfl) D hD32 (z12.below hS z12.lt)) hS9 ?_
    refine K_take (i := 1) (v := .agg (byteCells D)) rfl (by kernel_rfl) (by kernel_rfl) (by kernel_rfl) (by kernel_rfl) (by kernel_rfl) (by kernel_rfl) (fun w' hS => run_load_row _ rfl b14 (by kernel_rfl) D hD32 (z14.below hS z14.lt)) hS9 ?_
    refine K_take (i := 2) (v := .bool true) rfl (by kernel_rfl) (by kernel_rfl) (by kernel_rfl) (by kernel_rfl) (by kernel_rfl) (by kernel_rfl) (fun w' hS => by go_simp) hS9 ?_
    refine K_take (i := 3) (v := .bool true) rfl (by kernel_rfl) (by kernel_rfl) (by kernel_rfl) (by kernel_rfl) (by kernel_rfl) (by kernel_rfl) (fun w' hS => by go_simp) hS9 ?_
    refine K_take (i := 4) (v := .int .i64 0) rfl (by kernel_rfl) (by kernel_rfl) (by kernel_rfl) (by kernel_rfl) (by kernel_rfl) (by kernel_rfl) (fun w' hS => by go_simp) hS9 ?_
    refine K_take (i := 6) (v := .int .i64 0) rfl (by kernel_rfl) (by kernel_rfl) (by kernel_rfl) (by kernel_rfl) (by kernel_rfl) (by kernel_rfl) (fun w' hS => by go_simp) hS9 ?_
    refine K_next (i := 5) (by kernel_rfl) rfl (by kernel_rfl) (fun K hK => ?_)
    go_simp
    refine (num_any _ _).mono ?_
    rintro e w' ⟨rfl, rfl⟩
    refine hK _ _ (fun _ => hS9) ?_
    clear hK
    refine K_take (i := 7) (v := .bool true) rfl (by kernel_rfl) (by kernel_rfl) (by kernel_rfl) (by kernel_rfl) (by kernel_rfl) (by kernel_rfl) (fun w' hS => by go_simp) hS9 ?_
    refine K_take (i := 8) (v := .bool true) rfl (by kernel_rfl) (by kernel_rfl) (by kernel_rfl) (by kernel_rfl) (by kernel_rfl) (by kernel_rfl) (fun w' hS => by go_simp) hS9 ?_
    refine K_take (i := 9) (v := .bool true) rfl (by kernel_rfl) (by kernel_rfl) (by kernel_rfl) (by kernel_rfl) (by kernel_rfl) (by kernel_rfl) (fun w' hS => by go_simp) hS9 ?_
    refine K_take (i := 10) (v := .int .i64 140) rfl (by kernel_rfl) (by kernel_rfl) (by kernel_rfl) (by kernel_rfl) (by kernel_rfl) (by kernel_rfl) (fun w' hS => by go_simp) hS9 ?_
    refine K_take (i := 13) (v := .agg (byteCells D)) rfl (by kernel_rfl) (by kernel_rfl) (by kernel_rfl) (by kernel_rfl) (by kernel_rfl) (by kernel_rfl) (fun w' hS => run_load_row _ rfl b14 (by kernel_rfl) D hD32 (z14.below hS z14.lt)) hS9 ?_
    refine K_take (i := 14) (v := .slice (some ⟨g0, o0, none⟩) n c0) rfl (by kernel_rfl) (by kernel_rfl) (by kernel_rfl) (by kernel_rfl) (by kernel_rfl) (by kernel_rfl) (fun w' hS => by go_simp) hS9 ?_
    refine K_next (i := 11) (by kernel_rfl) rfl (by kernel_rfl) (fun K hK => ?_)
    go_simp
    refine (num_any _ _).mono ?_
    rintro e w' ⟨rfl, rfl⟩
    refine hK _ _ (fun _ => hS9) ?_
    clear hK
    refine K_take (i := 12) (v := .bool false) rfl (by kernel_rfl) (by kernel_rfl) (by kernel_rfl) (by kernel_rfl) (by kernel_rfl) (by kernel_rfl) (fun w' hS => by go_simp) hS9 ?_
    refine K_next (i := 15) (by kernel_rfl) rfl (by kernel_rfl) (fun K hK => ?_)
    go_simp
    refine (hroot _ (hv9.below hS9) (hg9.below hS9 hg9.size)).mono ?_
    rintro e X1031 ⟨rfl, hb1032⟩
    have hB1033 : Below W9.heap.size W9 X1031 := hS9.trans (hb1032.mono hS9.size)
    refine hK _ _ (fun _ => hB1033) ?_
    clear hK
    refine K_take (i := 16) (v := .bool false) rfl (by kernel_rfl) (by kernel_rfl) (by kernel_rfl) (by kernel_rfl) (by kernel_rfl) (by kernel_rfl) (fun w' hS => by go_simp) hB1033 ?_
    refine K_take (i := 17) (v := .bool true) rfl (by kernel_rfl) (by kernel_rfl) (by kernel_rfl) (by kernel_rfl) (by kernel_rfl) (by kernel_rfl) (fun w' hS => by go_simp) hB1033 ?_
    refine K_take (i := 18) (v := .bool true) rfl (by kernel_rfl) (by kernel_rfl) (by kernel_rfl) (by kernel_rfl) (by kernel_rfl) (by kernel_rfl) (fun w' hS => by go_simp) hB1033 ?_
    refine K_take (i := 19) (v := .bool true) rfl (by kernel_rfl) (by kernel_rfl) (by kernel_rfl) (by kernel_rfl) (by kernel_rfl) (by kernel_rfl) (fun w' hS => by go_simp) hB1033 ?_
    refine K_take (i := 20) (v := .int .i64 140) rfl (by kernel_rfl) (by kernel_rfl) (by kernel_rfl) (by kernel_rfl) (by kernel_rfl) (by kernel_rfl) (fun w' hS => by go_simp) hB1033 ?_
    refine K_next (i := 21) (by kernel_rfl) rfl (by kernel_rfl) (fun K hK => ?_)
    go_simp
    refine (num_any _ _).mono ?_
    rintro e w' ⟨rfl, rfl⟩
    refine hK _ _ (fun _ => hB1033) ?_
    clear hK
    refine K_take (i := 22) (v := .bool false) rfl (by kernel_rfl) (by kernel_rfl) (by kernel_rfl) (by kernel_rfl) (by kernel_rfl) (by kernel_rfl) (fun w' hS => by go_simp) hB1033 ?_
    refine K_take (i := 23) (v := .bool false) rfl (by kernel_rfl) (by kernel_rfl) (by kernel_rfl) (by kernel_rfl) (by kernel_rfl) (by kernel_rfl) (fun w' hS => by go_simp) hB1033 ?_
    refine K_take (i := 24) (v := .int .i64 140) rfl (by kernel_rfl) (by kernel_rfl) (by kernel_rfl) (by kernel_rfl) (by kernel_rfl) (by kernel_rfl) (fun w' hS => by go_simp) hB1033 ?_
    refine K_next (i := 25) (by kernel_rfl) rfl (by kernel_rfl) (fun K hK => ?_)
    go_simp
    refine (num_any _ _).mono ?_
    rintro e w' ⟨rfl, rfl⟩
    refine hK _ _ (fun _ => hB1033) ?_
    clear hK
    refine K_take (i := 26) (v := .bool true) rfl (by kernel_rfl) (by kernel_rfl) (by kernel_rfl) (by kernel_rfl) (by kernel_rfl) (by kernel_rfl) (fun w' hS => by go_simp) hB1033 ?_
    refine K_take (i := 27) (v := .bool true) rfl (by kernel_rfl) (by kernel_rfl) (by kernel_rfl) (by kernel_rfl) (by kernel_rfl) (by kernel_rfl) (fun w' hS => by go_simp) hB1033 ?_
    refine K_take (i := 28) (v := .bool true) rfl (by kernel_rfl) (by kernel_rfl) (by kernel_rfl) (by kernel_rfl) (by kernel_rfl) (by kernel_rfl) (fun w' hS => by go_simp) hB1033 ?_
    refine K_take (i := 29) (v := .bool true) rfl (by kernel_rfl) (by kernel_rfl) (by kernel_rfl) (by kernel_rfl) (by kernel_rfl) (by kernel_rfl) (fun w' hS => by go_simp) hB1033 ?_
    refine K_next (i := 30) (by kernel_rfl) rfl (by kernel_rfl) (fun K hK => ?_)
    go_simp
    refine (works_any _ (hg9.below hB1033 hg9.size)).mono ?_
    rintro e X1034 ⟨rfl, hb1035⟩
    have hB1036 : Below W9.heap.size W9 X1034 := hB1033.trans (hb1035.mono hB1033.size)
    refine hK _ _ (fun _ => hB1036) ?_
    clear hK
    refine K_take (i := 31) (v := .bool true) rfl (by kernel_rfl) (by kernel_rfl) (by kernel_rfl) (by kernel_rfl) (by kernel_rfl) (by kernel_rfl) (fun w' hS => by go_simp) hB1036 ?_
    refine K_take (i := 32) (v := .bool true) rfl (by kernel_rfl) (by kernel_rfl) (by kernel_rfl) (by kernel_rfl) (by kernel_rfl) (by kernel_rfl) (fun w' hS => by go_simp) hB1036 ?_
    refine K_done (by kernel_rfl) ?_
    go_simp
    go_wp2
    go_ret
    exact ⟨rfl, hBw9.trans (hB1036.mono hBw9.size)⟩
end Go.Proofs.YtcmkjgodgocdfaaDoor
