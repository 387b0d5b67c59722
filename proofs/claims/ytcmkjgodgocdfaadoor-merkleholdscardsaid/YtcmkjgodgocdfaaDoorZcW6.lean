/- MerkleEach: the law's walk. -/
import Derived.Test.YtcmkjgodgocdfaaDoorZq5
import Derived.Test.YtcmkjgodgocdfaaDoorZq6
namespace Go.Proofs.YtcmkjgodgocdfaaDoor
open Go.RowKit

theorem upE_path {ds : List Dig} {i : Nat} (hi : i < ds.length) (h16 : ds.length ≤ 16) : upE (i : Int) (ds.length : Int) (pathOf ds i).length = 0 := by
  have hE : stepsE (i : Int) (ds.length : Int) = 0 := by
    unfold stepsE
    rw [show mayB (ds.length : Int) = true by simp [mayB]; omega, show thereB (i : Int) (ds.length : Int) = true by simp [thereB]; omega]
    rfl
  have hV : stepsV (i : Int) (ds.length : Int) = ((sidesL i ds.length).length : Int) := by
    unfold stepsV
    rw [show mayB (ds.length : Int) = true by simp [mayB]; omega, show thereB (i : Int) (ds.length : Int) = true by simp [thereB]; omega]
    rfl
  unfold upE
  rw [if_pos hE, hV, pathOf_len, if_pos rfl]
set_option maxRecDepth 100000 in
set_option maxHeartbeats 2000000 in
theorem each_ok (v : Value) (ds : List Dig) (other : Dig) (w : World) (hv : Digs w v ds) (ho32 : other.length = 32) (h0 : 0 < ds.length) (h16 : ds.length ≤ 16) (hg : Glob w) :
    Calls Tryd.prog 8 #[v, .agg (byteCells other)] w fun e w' => e = .returned (.bool true) ∧ Below w.heap.size w w' := by
  have hos : (byteCells other).size = 32 := by rw [byteCells_size, ho32]
  have hgs := hg.size
  have hB0 := (Below.refl w.heap.size w).alloc (Nat.le_refl _) (.cells (byteCells other) 30)
  have hg0 := hg.below hB0 hg.size
  have hnew := tnew_any v ds _ (hv.below hB0) h0 h16
  have hPl : ∀ k, (pathOf ds k).length ≤ 17 := fun k => pathOf_le ds k h16
  have hrp := fun (k : Nat) (hk : k < ds.length) W (hv : Digs W v ds) hg => refpath_any v ds k W hv h16 hk hg
  have hpt := fun (k : Nat) (hk : k < ds.length) (B tb : Nat) (W : World) (h : TreeAt B W tb ds) (hg : Glob W) => path_ok h hg k hk
  have hup := fun (k : Nat) (hk : k < ds.length) pv W (hp : Digs W pv (pathOf ds k)) (hg : Glob W) => up_any other (k : Int) (ds.length : Int) pv (pathOf ds k) W ho32 hp hg
  have hrf := fun (k : Nat) (hk : k < ds.length) pv W (hp : Digs W pv (pathOf ds k)) (hg : Glob W) => refup_any other (k : Int) (ds.length : Int) pv (pathOf ds k) W ho32 hp hg
  have hE : ∀ k : Nat, k < ds.length → upE (k : Int) (ds.length : Int) (pathOf ds k).length = 0 := fun k hk => upE_path hk h16
  have hV32 : ∀ k : Nat, (upV other (k : Int) (ds.length : Int) (pathOf ds k)).length = 32 := fun k => upV_len _ _ _ _
  obtain ⟨a0, c0, rfl⟩ := hv.slice
  obtain ⟨n, hn⟩ : ∃ n, ds.length = n := ⟨_, rfl⟩
  obtain ⟨DV, hDV⟩ : ∃ DV : Nat → Dig, ∀ k : Nat, upV other (k : Int) (n : Int) (pathOf ds k) = DV k := ⟨_, fun _ => rfl⟩
  simp only [hn] at h16 h0 hv hnew hrp hpt hup hrf hE hV32 ⊢
  simp only [hDV] at hup hrf hV32
  have hup2 : ∀ (k : Nat) (hk : k < n) pv W (hp : Digs W pv (pathOf ds k)) (hg : Glob W), Calls Tryd.prog 25 #[.agg (byteCells other), .int .i64 (k : Int), .int .i64 (n : Int), pv] W fun e w' => e = .returned (.tuple #[.agg (byteCells (DV k)), .int .i64 0]) ∧ Below W.heap.size W w' := fun k hk pv W hp hg => by
    have := hup k hk pv W hp hg
    rwa [hE k hk] at this
  have hrf2 : ∀ (k : Nat) (hk : k < n) pv W (hp : Digs W pv (pathOf ds k)) (hg : Glob W), Calls Tryd.prog 26 #[.agg (byteCells other), .int .i64 (k : Int), .int .i64 (n : Int), pv] W fun e w' => e = .returned (.tuple #[.agg (byteCells (DV k)), .int .i64 0]) ∧ Below W.heap.size W w' := fun k hk pv W hp hg => by
    have := hrf k hk pv W hp hg
    rwa [hE k hk] at this
  clear hup hrf hE hDV
  have HN : Hid (ds.length = n) := hn
  clear hn
  have hdn1 : decide ((n : Int) < 1) = false := by simp; omega
  have hdn2 : decide (16 < (n : Int)) = false := by simp; omega
  have x0 := has_new w (byteCells other) 30 w.heap.size rfl
  go_enter Tryd.func8, Tryd.ntmps8
  go_wp2_with fail
  refine hnew.mono ?_
  clear hnew
  rintro e W1 ⟨tb, rfl, hT1, hB1⟩
  have hBw1 : Below w.heap.size w W1 := hB0.trans (hB1.mono hB0.size)
  have x1 := x0.below hB1 x0.lt
  clear x0
  have hs1 := hBw1.size
  have hg1 := hg.below hBw1 hg.size
  clear hB0 hB1 hg0
  go_wp2_with fail
  go_loopw [7] (fun iv wr => ∃ k : Nat, k ≤ n ∧ iv = .int .i64 k ∧ Below W1.heap.size W1 wr) (fun iv _ => n - (intOf iv).toNat)
  case atStart => exact ⟨0, Nat.zero_le _, rfl, Below.refl _ _⟩
  case round =>
    obtain ⟨k, hk, rfl, hBr⟩ := hrel
    have hBw : Below w.heap.size w wr := hBw1.trans (hBr.mono hs1)
    have hgr := hg.below hBw hg.size
    by_cases hlt : k < n
    · have hp3 := hpt k hlt _ tb wr (hT1.below hBr) hgr
      have hPk := hPl k
      have hD32 := hV32 k
      have hup := hup2 k hlt
      have hrf := fun pv W (hp : Digs W pv (pathOf ds k)) (hg : Glob W) => hrf2 k hlt pv W hp hg
      obtain ⟨D, hD⟩ : ∃ D, DV k = D := ⟨_, rfl⟩
      simp only [hD] at hD32 hup hrf
      clear hD
      have hDs : (byteCells D).size = 32 := by rw [byteCells_size, hD32]
      go_wp2_with fail
      refine hp3.mono ?_
      clear hp3
      rintro e W3 ⟨v3, rfl, ho3, hB3⟩
      have hBw3 : Below w.heap.size w W3 := hBw.trans (hB3.mono hBw.size)
      have hg3 := hg.below hBw3 hg.size
      have x3 := (x1.below hBr x1.lt).below hB3 (by have := x1.lt; have := hBr.size; omega)
      have hu3 := hup v3 W3 (ho3.digs (by have := x3.lt; omega)) hg3
      obtain ⟨a3, c3, hv3⟩ := ho3.slice
      obtain ⟨m, hm⟩ : ∃ m, (pathOf ds k).length = m := ⟨_, rfl⟩
      rw [hm] at hv3 hPk
      subst hv3
      have HM : Hid ((pathOf ds k).length = m) := hm
      clear hm
      go_wp2_with (refine wpList_load_row rfl 30 _ rfl w.heap.size rfl 30 (byteCells other) (0, 0) _ x3 Tryd.underlying30 rfl (by rw [hos]; kernel_rfl) ?_)
      refine hu3.mono ?_
      clear hu3
      rintro e W4 ⟨rfl, hB4⟩
      have hn4 := has_new W4 (zeroCells 32) 30 W4.heap.size rfl
      go_upto_region 9 with (refine wpList_store_row rfl 30 _ _ rfl W4.heap.size (byteCells D) rfl rfl 30 _ hn4 (by rw [hDs]; kernel_rfl) (by rw [hDs, zeroCells_size]) (byteCells_one _) ?_)
      refine named (p := Code.wp _ _ _ _) ?_
      intro W6 hW6
      have hB46 : Below W4.heap.size W4 W6 := by
        rw [hW6]; exact ((Below.refl _ _).alloc (Nat.le_refl _) _).trans ⟨rfl, rfl, rfl, by simp, fun j hj => setRow_other _ _ _ _ (by omega)⟩
      have y6 : Has W6 W4.heap.size (byteCells D) 30 := by rw [hW6]; exact setRow_heap _ _ _ _ _ _ hn4
      clear hW6 hn4
      have hB36 : Below W3.heap.size W3 W6 := hB4.trans (hB46.mono hB4.size)
      have hBw6 : Below w.heap.size w W6 := hBw3.trans (hB36.mono hBw3.size)
      have hBr6 : Below W1.heap.size W1 W6 := (hBr.trans (hB3.mono hBr.size)).trans (hB36.mono (by have := hBr.size; have := hB3.size; omega))
      have hS6 := x3.below hB36 x3.lt
      have ho6 := ho3.below hB36
      have hB60 : Below W6.heap.size W6 W6.drew := (Below.refl _ _).drew
      clear ho3 x3 hB3 hB4 hB46 hB36 hup hg3 hBw3
      refine wp_region_via (fun X => Has X w.heap.size (byteCells other) 30) (fun _ => true) (fun A A' X => ∃ b v, A' = ((((((((((((A.put (some 50) (.agg (byteCells other))).put (some 51) (.int .i64 (k : Int))).put (some 52) (.slice a0 n c0)).put (some 53) (.int .i64 (n : Int))).put (some 54) (.slice a0 n c0)).put (some 55) (.int .i64 (k : Int))).put (some 56) v).put (some 57) (.tuple #[.agg (byteCells D), .int .i64 0])).put (some 49) (.tuple #[.agg (byteCells D), .int .i64 0])).put (some 58) (.agg (byteCells D))).put (some 59) (.int .i64 0)).put (some 12) (.pointer (some ⟨b, 0, none⟩))).put (some 13) (.int .i64 0) ∧ Has X b (byteCells D) 30 ∧ Below W6.heap.size W6 X) (by kernel_rfl) ?_ ?_
      · refine K_take (i := 0) (v := .agg (byteCells other)) rfl (by kernel_rfl) (by kernel_rfl) (by kernel_rfl) (by kernel_rfl) (by kernel_rfl) (by kernel_rfl) (fun w' hS => by exact run_load_row _ rfl w.heap.size (by kernel_rfl) other ho32 hS) hS6 ?_
        refine K_take (i := 1) (v := .int .i64 (k : Int)) rfl (by kernel_rfl) (by kernel_rfl) (by kernel_rfl) (by kernel_rfl) (by kernel_rfl) (by kernel_rfl) (fun w' hS => by go_simp) hS6 ?_
        refine K_take (i := 2) (v := .slice a0 n c0) rfl (by kernel_rfl) (by kernel_rfl) (by kernel_rfl) (by kernel_rfl) (by kernel_rfl) (by kernel_rfl) (fun w' hS => by go_simp) hS6 ?_
        refine K_take (i := 3) (v := .int .i64 (n : Int)) rfl (by kernel_rfl) (by kernel_rfl) (by kernel_rfl) (by kernel_rfl) (by kernel_rfl) (by kernel_rfl) (fun w' hS => by go_simp) hS6 ?_
        refine K_take (i := 4) (v := .slice a0 n c0) rfl (by kernel_rfl) (by kernel_rfl) (by kernel_rfl) (by kernel_rfl) (by kernel_rfl) (by kernel_rfl) (fun w' hS => by go_simp) hS6 ?_
        refine K_take (i := 5) (v := .int .i64 (k : Int)) rfl (by kernel_rfl) (by kernel_rfl) (by kernel_rfl) (by kernel_rfl) (by kernel_rfl) (by kernel_rfl) (fun w' hS => by go_simp) hS6 ?_
        refine K_fork (i := 6) (j := 11) (by kernel_rfl) rfl rfl (by kernel_rfl) (by kernel_rfl) (fun K hK => ?_) (fun K hK => ?_)
        · go_simp
          refine (hrp k hlt W6.drew (hv.below (hBw6.trans (hB60.mono hBw6.size))) (hg.below (hBw6.trans (hB60.mono hBw6.size)) hg.size)).mono ?_
          rintro e X101 ⟨_, rfl, ho104, hbx102⟩
          obtain ⟨a7, c7, rfl⟩ := ho104.slice
          have hB103 : Below W6.heap.size W6 X101 := hB60.trans (hbx102.mono hB60.size)
          refine hK _ _ (fun _ => hS6.below hB103 hS6.lt) ?_
          clear hK
          refine K_fork (i := 7) (j := 11) (by kernel_rfl) rfl rfl (by kernel_rfl) (by kernel_rfl) (fun K hK => ?_) (fun K hK => ?_)
          · go_simp
            refine (hrf _ X101 (ho104.digs (by have := hS6.lt; have := hB103.size; omega)) (hg.below (hBw6.trans (hB103.mono hBw6.size)) hg.size)).mono ?_
            rintro e X105 ⟨rfl, hbx106⟩
            have ho108 := ho104.below hbx106
            have hB107 : Below W6.heap.size W6 X105 := hB103.trans (hbx106.mono hB103.size)
            refine hK _ _ (fun _ => hS6.below hB107 hS6.lt) ?_
            clear hK
            refine K_take (i := 8) (v := .tuple #[.agg (byteCells D), .int .i64 0]) rfl (by kernel_rfl) (by kernel_rfl) (by kernel_rfl) (by kernel_rfl) (by kernel_rfl) (by kernel_rfl) (fun w' hS => by go_simp) (hS6.below hB107 hS6.lt) ?_
            refine K_take (i := 9) (v := .agg (byteCells D)) rfl (by kernel_rfl) (by kernel_rfl) (by kernel_rfl) (by kernel_rfl) (by kernel_rfl) (by kernel_rfl) (fun w' hS => by go_simp) (hS6.below hB107 hS6.lt) ?_
            refine K_take (i := 10) (v := .int .i64 0) rfl (by kernel_rfl) (by kernel_rfl) (by kernel_rfl) (by kernel_rfl) (by kernel_rfl) (by kernel_rfl) (fun w' hS => by go_simp) (hS6.below hB107 hS6.lt) ?_
            refine K_next (i := 11) (by kernel_rfl) rfl (by kernel_rfl) (fun K hK => ?_)
            go_simp
            have hbx111 : Below X105.heap.size X105 (X105.alloc (.cells (zeroCells 32) 30)) := (Below.refl _ _).alloc (Nat.le_refl _) _
            have hB109 : Below W6.heap.size W6 (X105.alloc (.cells (zeroCells 32) 30)) := hB107.trans (hbx111.mono hB107.size)
            have hn110 := has_new X105 (zeroCells 32) 30 _ rfl
            have ho112 := ho108.below hbx111
            refine hK _ _ (fun _ => hS6.below hB109 hS6.lt) ?_
            clear hK
            refine K_next (i := 12) (by kernel_rfl) rfl (by kernel_rfl) (fun K hK => ?_)
            refine wp_store_dig _ _ rfl (X105.heap.size) D (by kernel_rfl) (by kernel_rfl) hD32 (zeroCells 32) hn110 (by kernel_rfl) ?_
            have hB114 : Below W6.heap.size W6 ((X105.alloc (.cells (zeroCells 32) 30)).setRow (X105.heap.size) (byteCells D)) := hB109.trans ⟨rfl, rfl, rfl, by simp, fun j hj => setRow_other _ _ _ _ (by have := hB107.size; omega)⟩
            refine hK _ _ (fun _ => hS6.below hB114 hS6.lt) ?_
            clear hK
            refine K_next (i := 13) (by kernel_rfl) rfl (by kernel_rfl) (fun K hK => ?_)
            go_simp
            refine hK _ _ (fun _ => hS6.below hB114 hS6.lt) (K_done (by kernel_rfl) ?_)
            exact ⟨X105.heap.size, .slice a7 (pathOf ds k).length c7, by kernel_rfl, setRow_heap _ _ _ _ _ _ hn110, hB114⟩
          · go_simp
            have hbx117 : Below X101.heap.size X101 (X101.alloc (.cells (zeroCells 32) 30)) := (Below.refl _ _).alloc (Nat.le_refl _) _
            have hB115 : Below W6.heap.size W6 (X101.alloc (.cells (zeroCells 32) 30)) := hB103.trans (hbx117.mono hB103.size)
            have hn116 := has_new X101 (zeroCells 32) 30 _ rfl
            have ho118 := ho104.below hbx117
            refine hK _ _ (fun _ => hS6.below hB115 hS6.lt) ?_
            clear hK
            refine K_next (i := 7) (by kernel_rfl) rfl (by kernel_rfl) (fun K hK => ?_)
            go_simp
            refine (hrf _ (X101.alloc (.cells (zeroCells 32) 30)) (ho118.digs (by have := hS6.lt; have := hB115.size; omega)) (hg.below (hBw6.trans (hB115.mono hBw6.size)) hg.size)).mono ?_
            rintro e X120 ⟨rfl, hbx121⟩
            have ho123 := ho118.below hbx121
            have hB122 : Below W6.heap.size W6 X120 := hB115.trans (hbx121.mono hB115.size)
            have hn124 := hn116.below hbx121 hn116.lt
            refine hK _ _ (fun _ => hS6.below hB122 hS6.lt) ?_
            clear hK
            refine K_take (i := 8) (v := .tuple #[.agg (byteCells D), .int .i64 0]) rfl (by kernel_rfl) (by kernel_rfl) (by kernel_rfl) (by kernel_rfl) (by kernel_rfl) (by kernel_rfl) (fun w' hS => by go_simp) (hS6.below hB122 hS6.lt) ?_
            refine K_take (i := 9) (v := .agg (byteCells D)) rfl (by kernel_rfl) (by kernel_rfl) (by kernel_rfl) (by kernel_rfl) (by kernel_rfl) (by kernel_rfl) (fun w' hS => by go_simp) (hS6.below hB122 hS6.lt) ?_
            refine K_take (i := 10) (v := .int .i64 0) rfl (by kernel_rfl) (by kernel_rfl) (by kernel_rfl) (by kernel_rfl) (by kernel_rfl) (by kernel_rfl) (fun w' hS => by go_simp) (hS6.below hB122 hS6.lt) ?_
            refine K_next (i := 12) (by kernel_rfl) rfl (by kernel_rfl) (fun K hK => ?_)
            refine wp_store_dig _ _ rfl (X101.heap.size) D (by kernel_rfl) (by kernel_rfl) hD32 (zeroCells 32) hn124 (by kernel_rfl) ?_
            have hB125 : Below W6.heap.size W6 (X120.setRow (X101.heap.size) (byteCells D)) := hB122.trans ⟨rfl, rfl, rfl, by simp, fun j hj => setRow_other _ _ _ _ (by have := hB103.size; omega)⟩
            refine hK _ _ (fun _ => hS6.below hB125 hS6.lt) ?_
            clear hK
            refine K_next (i := 13) (by kernel_rfl) rfl (by kernel_rfl) (fun K hK => ?_)
            go_simp
            refine hK _ _ (fun _ => hS6.below hB125 hS6.lt) (K_done (by kernel_rfl) ?_)
            exact ⟨X101.heap.size, .slice a7 (pathOf ds k).length c7, by kernel_rfl, setRow_heap _ _ _ _ _ _ hn124, hB125⟩
        · go_simp
          have hbx128 : Below W6.drew.heap.size W6.drew (W6.drew.alloc (.cells (zeroCells 32) 30)) := (Below.refl _ _).alloc (Nat.le_refl _) _
          have hB126 : Below W6.heap.size W6 (W6.drew.alloc (.cells (zeroCells 32) 30)) := hB60.trans (hbx128.mono hB60.size)
          have hn127 := has_new W6.drew (zeroCells 32) 30 _ rfl
          refine hK _ _ (fun _ => hS6.below hB126 hS6.lt) ?_
          clear hK
          refine K_next (i := 6) (by kernel_rfl) rfl (by kernel_rfl) (fun K hK => ?_)
          go_simp
          refine (hrp k hlt (W6.drew.alloc (.cells (zeroCells 32) 30)) (hv.below (hBw6.trans (hB126.mono hBw6.size))) (hg.below (hBw6.trans (hB126.mono hBw6.size)) hg.size)).mono ?_
          rintro e X130 ⟨_, rfl, ho133, hbx131⟩
          obtain ⟨a7, c7, rfl⟩ := ho133.slice
          have hB132 : Below W6.heap.size W6 X130 := hB126.trans (hbx131.mono hB126.size)
          have hn134 := hn127.below hbx131 hn127.lt
          refine hK _ _ (fun _ => hS6.below hB132 hS6.lt) ?_
          clear hK
          refine K_next (i := 7) (by kernel_rfl) rfl (by kernel_rfl) (fun K hK => ?_)
          go_simp
          refine (hrf _ X130 (ho133.digs (by have := hS6.lt; have := hB132.size; omega)) (hg.below (hBw6.trans (hB132.mono hBw6.size)) hg.size)).mono ?_
          rintro e X135 ⟨rfl, hbx136⟩
          have ho138 := ho133.below hbx136
          have hB137 : Below W6.heap.size W6 X135 := hB132.trans (hbx136.mono hB132.size)
          have hn139 := hn134.below hbx136 hn134.lt
          refine hK _ _ (fun _ => hS6.below hB137 hS6.lt) ?_
          clear hK
          refine K_take (i := 8) (v := .tuple #[.agg (byteCells D), .int .i64 0]) rfl (by kernel_rfl) (by kernel_rfl) (by kernel_rfl) (by kernel_rfl) (by kernel_rfl) (by kernel_rfl) (fun w' hS => by go_simp) (hS6.below hB137 hS6.lt) ?_
          refine K_take (i := 9) (v := .agg (byteCells D)) rfl (by kernel_rfl) (by kernel_rfl) (by kernel_rfl) (by kernel_rfl) (by kernel_rfl) (by kernel_rfl) (fun w' hS => by go_simp) (hS6.below hB137 hS6.lt) ?_
          refine K_take (i := 10) (v := .int .i64 0) rfl (by kernel_rfl) (by kernel_rfl) (by kernel_rfl) (by kernel_rfl) (by kernel_rfl) (by kernel_rfl) (fun w' hS => by go_simp) (hS6.below hB137 hS6.lt) ?_
          refine K_next (i := 12) (by kernel_rfl) rfl (by kernel_rfl) (fun K hK => ?_)
          refine wp_store_dig _ _ rfl (W6.drew.heap.size) D (by kernel_rfl) (by kernel_rfl) hD32 (zeroCells 32) hn139 (by kernel_rfl) ?_
          have hB140 : Below W6.heap.size W6 (X135.setRow (W6.drew.heap.size) (byteCells D)) := hB137.trans ⟨rfl, rfl, rfl, by simp, fun j hj => setRow_other _ _ _ _ (by have := hB60.size; omega)⟩
          refine hK _ _ (fun _ => hS6.below hB140 hS6.lt) ?_
          clear hK
          refine K_next (i := 13) (by kernel_rfl) rfl (by kernel_rfl) (fun K hK => ?_)
          go_simp
          refine hK _ _ (fun _ => hS6.below hB140 hS6.lt) (K_done (by kernel_rfl) ?_)
          exact ⟨W6.drew.heap.size, .slice a7 (pathOf ds k).length c7, by kernel_rfl, setRow_heap _ _ _ _ _ _ hn139, hB140⟩
      · rintro A' W7 ⟨b, v, rfl, z7, hB67⟩
        have y7 := y6.below hB67 y6.lt
        have hBw7 : Below w.heap.size w W7 := hBw6.trans (hB67.mono hBw6.size)
        have hBr7 : Below W1.heap.size W1 W7 := hBr6.trans (hB67.mono (by have := hBr6.size; omega))
        have hg7 := hg.below hBw7 hg.size
        have hr7 := hrp k hlt W7 (hv.below hBw7) hg7
        have ho7 := ho6.below hB67
        have hq : ∀ w, (Op.equalIn 10000 30 (.agg (byteCells D)) (.agg (byteCells D))).run Tryd.prog w = .ok true w := fun w => by have := eq_dig D D hD32 hD32 w; rwa [show (D == D) = true by simp] at this
        clear y6 hB67 hB60 hS6 ho6 hBr6 hBw6 hrf
        go_simp
        go_wp2_with (first
          | (go_at_call 20; refine (num_any _ _).mono ?_; rintro e w' ⟨rfl, hw⟩; obtain rfl := hw.symm)
          | (go_at_call 23; refine hr7.mono ?_; clear hr7; rintro e W8 ⟨v8, rfl, ho8, hB8⟩; obtain ⟨a8, n8, c8, rfl⟩ : ∃ a n c, v8 = Value.slice a n c := by obtain ⟨a, c, e⟩ := ho8.slice; exact ⟨a, _, c, e⟩)
          | (go_at_call 15; refine (same_yes _ _ (pathOf ds k) W8 ((ho7.below hB8).digs (by have := hBw7.size; have := hB8.size; omega)) (ho8.digs (by have := hBw7.size; have := hB8.size; omega)) (by have := HM.out; omega)).mono ?_; rintro e W9 ⟨rfl, hB9⟩; have y9 := (y7.below hB8 y7.lt).below hB9 (by have := y7.lt; have := hB8.size; omega); have z9 := (z7.below hB8 z7.lt).below hB9 (by have := z7.lt; have := hB8.size; omega))
          | refine wpList_load_row_if (by rfl) 30 _ rfl W4.heap.size rfl 30 (byteCells D) (0, 0) _ y9 Tryd.underlying30 rfl (by rw [hDs]; kernel_rfl) ?_
          | refine wpList_load_row_if (by rfl) 30 _ rfl b rfl 30 (byteCells D) (0, 0) _ z9 Tryd.underlying30 rfl (by rw [hDs]; kernel_rfl) ?_)
        go_roundw
        case rel => exact ⟨k + 1, by omega, by go_num, (hBr7.trans (hB8.mono hBr7.size)).trans (hB9.mono (by have := hBr7.size; have := hB8.size; omega))⟩
        case measure => simp [intOf]; omega
    · obtain rfl : k = n := by omega
      have hwk := works_any wr hgr
      go_wp2_with (first
        | (go_at_call 20; refine (num_any _ _).mono ?_; rintro e w' ⟨rfl, hw⟩; obtain rfl := hw.symm)
        | (go_at_call 13; refine hwk.mono ?_; rintro e W2 ⟨rfl, hB2⟩))
      go_ret
      exact ⟨rfl, hBw.trans (hB2.mono hBw.size)⟩
set_option maxRecDepth 100000 in
set_option maxHeartbeats 1000000 in
theorem each_walk (v : Value) (ds : List Dig) (other : Dig) (w : World) (hv : Digs w v ds) (ho32 : other.length = 32) (hg : Glob w) :
    Calls Tryd.prog 8 #[v, .agg (byteCells other)] w fun e w' => e = .returned (.bool true) ∧ Below w.heap.size w w' := by
  by_cases h0 : 1 ≤ ds.length
  · by_cases h16 : ds.length ≤ 16
    · exact each_ok v ds other w hv ho32 h0 h16 hg
    · obtain ⟨a0, c0, rfl⟩ := hv.slice
      have hB0 := (Below.refl w.heap.size w).alloc (Nat.le_refl _) (.cells (byteCells other) 30)
      have hwk := works_any _ (hg.below hB0 hg.size)
      go_enter Tryd.func8, Tryd.ntmps8
      go_wp2_with (go_at_call 13; refine hwk.mono ?_; rintro e W9 ⟨rfl, hB9⟩)
      go_ret
      exact ⟨rfl, hB0.trans (hB9.mono (by simp))⟩
  · obtain ⟨a0, c0, rfl⟩ := hv.slice
    have hB0 := (Below.refl w.heap.size w).alloc (Nat.le_refl _) (.cells (byteCells other) 30)
    have hwk := works_any _ (hg.below hB0 hg.size)
    go_enter Tryd.func8, Tryd.ntmps8
    go_wp2_with (go_at_call 13; refine hwk.mono ?_; rintro e W9 ⟨rfl, hB9⟩)
    go_ret
    exact ⟨rfl, hB0.trans (hB9.mono (by simp))⟩
end Go.Proofs.YtcmkjgodgocdfaaDoor
