/- WireCuts: the law's walk. -/
import Derived.Test.YtgoflpfafkmmgaaZcS12
import Derived.Deep.Cut
import Derived.Test.YtgoflpfafkmmgaaZq5
namespace Go.Proofs.Ytgoflpfafkmmgaa
open Go.RowKit
theorem Ex.low2 {b : Nat} {w w' : World} (h : Ex b w w') (hs : b < w.heap.size) : Below b w w' := ⟨h.os, h.tape, h.output, h.size, fun k hk => h.block k (by omega) (by omega)⟩
set_option maxRecDepth 100000 in
set_option maxHeartbeats 8000000 in
theorem cuts_few (v : Value) (xs : List AddD) (a : Option Addr) (cap b o : Nat) (S : Nat → Value) (cut : Int) (w : World) (hA : Adds w v xs a cap b o S) (hf : fewB xs = true) :
    Calls Try.prog 8 #[v, .int .i64 cut] w fun e w' => e = .returned (.bool true) ∧ Below w.heap.size w w' := by
  have hfew := few_any v xs a cap b o S w hA
  rw [hf] at hfew
  have htot : tot xs xs.length ≤ 4000 := by unfold fewB at hf; simpa using hf
  have hlen := hA.len
  unfold maxLen at hlen
  obtain rfl := hA.val
  have HA : Hid (Adds w (.slice a xs.length cap) xs a cap b o S) := hA
  have HT : Hid (tot xs xs.length ≤ 4000) := htot
  clear hA hf htot
  go_enter Try.func8, Try.ntmps8
  go_wp2_with (first | (go_at_call 10; refine hfew.mono ?_; rintro e w' ⟨rfl, hw⟩; obtain rfl := hw.symm; clear hw) | fail)
  refine (wnew_any w).mono ?_
  rintro e w1 ⟨rfl, hBn, hW⟩
  have h1 := WrN.new w w1 hBn hW
  clear hBn hW hfew
  generalize hNw : w.heap.size = p at h1
  have HN : Hid (w.heap.size = p) := hNw
  clear hNw
  go_wp2_with fail
  go_loopw [6, 7] (fun dv i wr => ∃ (k : Nat) (v : Value) (bs : List UInt8) (ts : List (Nat × Int)), i = .int .i64 k ∧ Cn xs w p wr k v bs dv ts) (fun _ i _ => xs.length - (intOf i).toNat)
  case atStart => exact ⟨0, _, [], [], rfl, by omega, h1, World.ownsRow_nil _ _ _ _, by simp, by simp, by simp⟩
  case round =>
    clear h1
    obtain ⟨k, v, bs, ts, rfl, hC⟩ := hrel
    obtain ⟨da, dc, rfl⟩ := hC.row.form
    have hk := hC.kle
    by_cases hkl : k < xs.length
    · have i1 : (k : Int) < xs.length := by omega
      have hx : xs[k]? = some xs[k] := List.getElem?_eq_getElem hkl
      obtain rfl := HA.out.at_ (by intro e; simp [e] at hkl)
      have hblt : b < p := by rw [← HN.out]; exact block_of_cell (HA.out.c0 k _ hx)
      have c0 := (hC.wn.below.cell (p := ⟨b, o + k * 3, none⟩) hblt).trans (HA.out.c0 k _ hx)
      have c1 := (hC.wn.below.cell (p := ⟨b, o + k * 3 + 1, none⟩) hblt).trans (HA.out.c1 k _ hx)
      have c2 := (hC.wn.below.cell (p := ⟨b, o + k * 3 + 2, none⟩) hblt).trans (HA.out.c2 k _ hx)
      have hin := HA.out.by_ k _ hx
      have hwf := HA.out.wf xs[k] (List.getElem_mem _)
      have Ht := tot_succ xs k _ hx
      have htk := tot_le xs (k + 1)
      generalize xs[k] = x at *
      have HK : Hid (k < xs.length) := hkl
      have hxl : x.d.length ≤ 4000 := by have := HT.out; unfold wt at Ht; omega
      have hll := layL_len x.what x.n hwf.2 x.d (by omega)
      have Hb : Hid (bs.length + ((layL x.what x.n x.d).getD []).length ≤ 2 * tot xs (k + 1) ∧ 2 * tot xs (k + 1) ≤ 8000) := ⟨by have := hC.len; unfold wt at Ht; omega, by have := HT.out; omega⟩
      obtain ⟨sa, sc, hs⟩ := hin.slice
      have HI : Hid (In w (.slice sa x.d.length sc) x.d) := by rw [← hs]; exact hin
      rw [hs] at c2
      have hlay := lay_any p v (.slice sa x.d.length sc) bs x.d x.what x.n hwf.2 wr hC.wn.wr (HI.out.inap (by rw [HN.out]; exact hC.wn.below) (fun i hi => by rw [HN.out]; exact hC.wn.hi i hi)) (by omega) (by have := Hb.out; omega)
      have HXL : Hid (x.d.length ≤ 4000) := hxl
      have hbw : b < wr.heap.size := by have := hC.wn.le; omega
      have hbn : ¬ WS p v b := fun e => by have := hC.wn.hi b e; omega
      clear hin hs hx Ht htk hll hwf hxl
      have HC : Hid (Cn xs w p wr k v bs (.slice da ts.length dc) ts) := hC
      clear hC
      go_wp2_with fail
      refine hlay.mono ?_
      rintro e w3 ⟨v3, y, he, hW3, hF3, hL3, hY3, hyn⟩
      obtain ⟨ya, yc, hy⟩ := hY3.slice
      clear hyn hlay hY3
      cases hlx : layL x.what x.n x.d with
      | none =>
        rw [hlx] at he hW3 hy
        simp only [Option.isNone_none, if_true, Option.getD_none, List.length_nil] at he hW3 hy
        subst hy he
        have HC3 : Hid (Cn xs w p w3 (k + 1) v3 bs (.slice da ts.length dc) ts) := HC.out.none HK.out hW3 hF3 hL3
        clear HC hW3 hF3 hL3 c0 c1 c2
        go_wp2_with (first | (go_at_call 14; refine (num_any _ _).mono ?_; rintro e w' ⟨rfl, hw⟩; obtain rfl := hw.symm; clear hw) | fail)
        go_roundw
        case rel => exact ⟨k + 1, _, bs, ts, by go_num, HC3.out⟩
        case measure => have := HK.out; simp [intOf]; omega
      | some d =>
        rw [hlx] at he hW3 hy
        simp only [Option.isNone_some, Option.getD_some, Bool.false_eq_true, if_false] at he hW3 hy
        obtain ⟨yl, hyl⟩ : ∃ n : Nat, n = d.length := ⟨_, rfl⟩
        rw [← hyl] at hy
        subst hy he
        clear hyl
        have Hl : Hid ((bs ++ d).length ≤ 2 * tot xs (k + 1)) := by have := Hb.out; rw [hlx] at this; rw [Option.getD_some] at this; show _ ≤ _; rw [List.length_append]; exact this.1
        have h3 := HC.out.wn.step hW3 hF3 hL3
        have hr3 := HC.out.row.fr hF3 (HC.out.row.notWS HC.out.wn.wr)
        have e0 : w3.cell? ⟨b, o + k * 3, none⟩ = some (.int .i64 x.what) := (World.cell?_of_block (w := wr) (hF3.block b hbw hbn)).trans c0
        have e2 : w3.cell? ⟨b, o + k * 3 + 2, none⟩ = some (.slice sa x.d.length sc) := (World.cell?_of_block (w := wr) (hF3.block b hbw hbn)).trans c2
        have H3 : Hid (WrN p w w3 p v3 (bs ++ d)) := h3
        have HR3 : Hid (RowT w3 p (.slice da ts.length dc) ts) := hr3
        have hz3 := h3.le
        have hyk : ts.length ≤ 200 := by have := HC.out.few; have := tot_ge xs k hk; have := tot_le xs k; have := HT.out; omega
        have hb3 : b < w3.heap.size := by have := hF3.size; omega
        have hb3n : ¬ b = w3.heap.size := by omega
        clear hlx hW3 hF3 hL3 c0 c1 c2 h3 hr3 hbw
        obtain ⟨i63, hi, hz0, hz1, hz2⟩ := info_parts info63
        obtain ⟨xw, hxw⟩ : ∃ z, x.what = z := ⟨_, rfl⟩
        rw [hxw] at e0
        clear hxw
        by_cases hw0 : xw < 0
        · have hxl2 : x.d.length ≤ 4000 := HXL.out
          obtain ⟨xl, hxl3⟩ : ∃ z, x.d.length = z := ⟨_, rfl⟩
          rw [hxl3] at e2 hxl2 HI ⊢
          clear hxl3
          go_upto_region 15 with (first | (go_at_call 14; refine (num_any _ _).mono ?_; rintro e w' ⟨rfl, hw⟩; obtain rfl := hw.symm; clear hw) | fail)
          refine named (p := fun X => Code.wp _ _ _ _ X) ?_
          intro w5 hw5
          have hB35 : Below w3.heap.size w3 w5 := by
            rw [hw5]; first | exact (Below.refl _ _).alloc (Nat.le_refl _) _ | exact ((Below.refl _ _).alloc (Nat.le_refl _) _).trans ((Ex.set w3.heap.size _ _ _).low2 (by simp)) | exact (((Below.refl _ _).alloc (Nat.le_refl _) _).trans ((Ex.set w3.heap.size _ _ _).low2 (by simp))).trans ((Ex.set w3.heap.size _ _ _).low2 (by simp [World.setCell]))
          have hT5 : Has w5 w3.heap.size #[.int .i64 (5 : Int), .int .i64 (2 * (xl : Int))] 63 := by
            rw [hw5]; first | exact has_new _ _ _ _ rfl | exact (has_new w3 #[.int .i64 _, .int .i64 _] 63 w3.heap.size rfl).set _ _ | exact ((has_new w3 #[.int .i64 _, .int .i64 _] 63 w3.heap.size rfl).set _ _).set _ _
          clear hw5
          have t0 := hT5.cell 0
          have t1 := hT5.cell 1
          simp at t0 t1
          have h5 : WrN p w w5 p v3 (bs ++ d) := H3.out.grow hB35
          have hr5 : RowT w5 p (.slice da ts.length dc) ts := HR3.out.fr (S := fun _ => False) (Fr.of_below hB35) (fun _ _ h => h)
          have hz5 : p ≤ w5.heap.size := by have := hB35.size; omega
          have hn5 := has_new w5 #[.int .i64 (5 : Int), .int .i64 (2 * (xl : Int))] 63 w5.heap.size rfl
          have hnw : ∀ (j : Nat) (u : Value), ([.int .i64 (5 : Int), .int .i64 (2 * (xl : Int))] : List Value)[j]? = some u → (w5.alloc (.cells #[.int .i64 (5 : Int), .int .i64 (2 * (xl : Int))] 63)).cell? ((⟨w5.heap.size, 0, none⟩ : Addr).add j) = some u := fun j u hu => by
            rw [Addr.add_mid, Nat.zero_add, hn5.cell, ← hu]; simp
          have hone : ∀ u ∈ ([.int .i64 (5 : Int), .int .i64 (2 * (xl : Int))] : List Value), u.oneCell' = true := fun u hu => by
            simp at hu; rcases hu with rfl | rfl <;> rfl
          have HRA : Hid (RowT (w5.alloc (.cells #[.int .i64 (5 : Int), .int .i64 (2 * (xl : Int))] 63)) p (.slice da ts.length dc) ts) := World.ownsRow.alloc hr5 _
          have H5 : Hid (WrN p w w5 p v3 (bs ++ d)) := h5
          clear HR3 H3 hr5 h5 hB35 hT5 hn5
          go_wp2_with (refine wpList_append_own _ rfl _ _ 61 rfl p 63 i63 (.agg #[.int .i64 0, .int .i64 0]) 2 16 Try.underlying61 hi hz0 hz1 hz2 rfl (by omega) _ ts.length (rowT ts) rfl HRA.out ⟨w5.heap.size, 0, none⟩ 1 1 [.int .i64 (5 : Int), .int .i64 (2 * (xl : Int))] rfl rfl hnw hone (by simp only [maxLen]; omega) (by omega) (by simp; omega) ?_; intro v' w6 hown6 hgr6 hnil; clear hnil)
          have hr6 : RowT w6 p v' (ts ++ [(5, (2 * (xl : Int)))]) := by
            unfold RowT
            rw [← rowT_snoc, List.length_append]
            exact hown6
          have HC6 : Hid (Cn xs w p w6 (k + 1) v3 (bs ++ d) v' (ts ++ [(5, (2 * (xl : Int)))])) := HC.out.more HK.out (H5.out.grow ((Below.refl _ _).alloc (Nat.le_refl _) _)) HRA.out hr6 hgr6 (by show 5 ≤ 5; omega) Hl.out
          clear hown6 hgr6 hr6 HC HRA hnw hone
          go_wp2_with fail
          go_roundw
          case rel => exact ⟨k + 1, _, _, _, by go_num, HC6.out⟩
          case measure => have := HK.out; simp [intOf]; omega
        · by_cases hw4 : 4 < xw
          · have hxl2 : x.d.length ≤ 4000 := HXL.out
            obtain ⟨xl, hxl3⟩ : ∃ z, x.d.length = z := ⟨_, rfl⟩
            rw [hxl3] at e2 hxl2 HI ⊢
            clear hxl3
            go_upto_region 15 with (first | (go_at_call 14; refine (num_any _ _).mono ?_; rintro e w' ⟨rfl, hw⟩; obtain rfl := hw.symm; clear hw) | fail)
            refine named (p := fun X => Code.wp _ _ _ _ X) ?_
            intro w5 hw5
            have hB35 : Below w3.heap.size w3 w5 := by
              rw [hw5]; first | exact (Below.refl _ _).alloc (Nat.le_refl _) _ | exact ((Below.refl _ _).alloc (Nat.le_refl _) _).trans ((Ex.set w3.heap.size _ _ _).low2 (by simp)) | exact (((Below.refl _ _).alloc (Nat.le_refl _) _).trans ((Ex.set w3.heap.size _ _ _).low2 (by simp))).trans ((Ex.set w3.heap.size _ _ _).low2 (by simp [World.setCell]))
            have hT5 : Has w5 w3.heap.size #[.int .i64 (5 : Int), .int .i64 (2 * (xl : Int))] 63 := by
              rw [hw5]; first | exact has_new _ _ _ _ rfl | exact (has_new w3 #[.int .i64 _, .int .i64 _] 63 w3.heap.size rfl).set _ _ | exact ((has_new w3 #[.int .i64 _, .int .i64 _] 63 w3.heap.size rfl).set _ _).set _ _
            clear hw5
            have t0 := hT5.cell 0
            have t1 := hT5.cell 1
            simp at t0 t1
            have h5 : WrN p w w5 p v3 (bs ++ d) := H3.out.grow hB35
            have hr5 : RowT w5 p (.slice da ts.length dc) ts := HR3.out.fr (S := fun _ => False) (Fr.of_below hB35) (fun _ _ h => h)
            have hz5 : p ≤ w5.heap.size := by have := hB35.size; omega
            have hn5 := has_new w5 #[.int .i64 (5 : Int), .int .i64 (2 * (xl : Int))] 63 w5.heap.size rfl
            have hnw : ∀ (j : Nat) (u : Value), ([.int .i64 (5 : Int), .int .i64 (2 * (xl : Int))] : List Value)[j]? = some u → (w5.alloc (.cells #[.int .i64 (5 : Int), .int .i64 (2 * (xl : Int))] 63)).cell? ((⟨w5.heap.size, 0, none⟩ : Addr).add j) = some u := fun j u hu => by
              rw [Addr.add_mid, Nat.zero_add, hn5.cell, ← hu]; simp
            have hone : ∀ u ∈ ([.int .i64 (5 : Int), .int .i64 (2 * (xl : Int))] : List Value), u.oneCell' = true := fun u hu => by
              simp at hu; rcases hu with rfl | rfl <;> rfl
            have HRA : Hid (RowT (w5.alloc (.cells #[.int .i64 (5 : Int), .int .i64 (2 * (xl : Int))] 63)) p (.slice da ts.length dc) ts) := World.ownsRow.alloc hr5 _
            have H5 : Hid (WrN p w w5 p v3 (bs ++ d)) := h5
            clear HR3 H3 hr5 h5 hB35 hT5 hn5
            go_wp2_with (refine wpList_append_own _ rfl _ _ 61 rfl p 63 i63 (.agg #[.int .i64 0, .int .i64 0]) 2 16 Try.underlying61 hi hz0 hz1 hz2 rfl (by omega) _ ts.length (rowT ts) rfl HRA.out ⟨w5.heap.size, 0, none⟩ 1 1 [.int .i64 (5 : Int), .int .i64 (2 * (xl : Int))] rfl rfl hnw hone (by simp only [maxLen]; omega) (by omega) (by simp; omega) ?_; intro v' w6 hown6 hgr6 hnil; clear hnil)
            have hr6 : RowT w6 p v' (ts ++ [(5, (2 * (xl : Int)))]) := by
              unfold RowT
              rw [← rowT_snoc, List.length_append]
              exact hown6
            have HC6 : Hid (Cn xs w p w6 (k + 1) v3 (bs ++ d) v' (ts ++ [(5, (2 * (xl : Int)))])) := HC.out.more HK.out (H5.out.grow ((Below.refl _ _).alloc (Nat.le_refl _) _)) HRA.out hr6 hgr6 (by show 5 ≤ 5; omega) Hl.out
            clear hown6 hgr6 hr6 HC HRA hnw hone
            go_wp2_with fail
            go_roundw
            case rel => exact ⟨k + 1, _, _, _, by go_num, HC6.out⟩
            case measure => have := HK.out; simp [intOf]; omega
          · by_cases hwz : xw = 0
            · subst hwz
              go_upto_region 15 with (first | (go_at_call 14; refine (num_any _ _).mono ?_; rintro e w' ⟨rfl, hw⟩; obtain rfl := hw.symm; clear hw) | fail)
              refine named (p := fun X => Code.wp _ _ _ _ X) ?_
              intro w5 hw5
              have hB35 : Below w3.heap.size w3 w5 := by
                rw [hw5]; first | exact (Below.refl _ _).alloc (Nat.le_refl _) _ | exact ((Below.refl _ _).alloc (Nat.le_refl _) _).trans ((Ex.set w3.heap.size _ _ _).low2 (by simp)) | exact (((Below.refl _ _).alloc (Nat.le_refl _) _).trans ((Ex.set w3.heap.size _ _ _).low2 (by simp))).trans ((Ex.set w3.heap.size _ _ _).low2 (by simp [World.setCell]))
              have hT5 : Has w5 w3.heap.size #[.int .i64 (0 : Int), .int .i64 9223372036854775807] 63 := by
                rw [hw5]; first | exact has_new _ _ _ _ rfl | exact (has_new w3 #[.int .i64 _, .int .i64 _] 63 w3.heap.size rfl).set _ _ | exact ((has_new w3 #[.int .i64 _, .int .i64 _] 63 w3.heap.size rfl).set _ _).set _ _
              clear hw5
              have t0 := hT5.cell 0
              have t1 := hT5.cell 1
              simp at t0 t1
              have h5 : WrN p w w5 p v3 (bs ++ d) := H3.out.grow hB35
              have hr5 : RowT w5 p (.slice da ts.length dc) ts := HR3.out.fr (S := fun _ => False) (Fr.of_below hB35) (fun _ _ h => h)
              have hz5 : p ≤ w5.heap.size := by have := hB35.size; omega
              have hn5 := has_new w5 #[.int .i64 (0 : Int), .int .i64 9223372036854775807] 63 w5.heap.size rfl
              have hnw : ∀ (j : Nat) (u : Value), ([.int .i64 (0 : Int), .int .i64 9223372036854775807] : List Value)[j]? = some u → (w5.alloc (.cells #[.int .i64 (0 : Int), .int .i64 9223372036854775807] 63)).cell? ((⟨w5.heap.size, 0, none⟩ : Addr).add j) = some u := fun j u hu => by
                rw [Addr.add_mid, Nat.zero_add, hn5.cell, ← hu]; simp
              have hone : ∀ u ∈ ([.int .i64 (0 : Int), .int .i64 9223372036854775807] : List Value), u.oneCell' = true := fun u hu => by
                simp at hu; rcases hu with rfl | rfl <;> rfl
              have HRA : Hid (RowT (w5.alloc (.cells #[.int .i64 (0 : Int), .int .i64 9223372036854775807] 63)) p (.slice da ts.length dc) ts) := World.ownsRow.alloc hr5 _
              have H5 : Hid (WrN p w w5 p v3 (bs ++ d)) := h5
              clear HR3 H3 hr5 h5 hB35 hT5 hn5
              go_wp2_with (refine wpList_append_own _ rfl _ _ 61 rfl p 63 i63 (.agg #[.int .i64 0, .int .i64 0]) 2 16 Try.underlying61 hi hz0 hz1 hz2 rfl (by omega) _ ts.length (rowT ts) rfl HRA.out ⟨w5.heap.size, 0, none⟩ 1 1 [.int .i64 (0 : Int), .int .i64 9223372036854775807] rfl rfl hnw hone (by simp only [maxLen]; omega) (by omega) (by simp; omega) ?_; intro v' w6 hown6 hgr6 hnil; clear hnil)
              have hr6 : RowT w6 p v' (ts ++ [(0, 9223372036854775807)]) := by
                unfold RowT
                rw [← rowT_snoc, List.length_append]
                exact hown6
              have HC6 : Hid (Cn xs w p w6 (k + 1) v3 (bs ++ d) v' (ts ++ [(0, 9223372036854775807)])) := HC.out.more HK.out (H5.out.grow ((Below.refl _ _).alloc (Nat.le_refl _) _)) HRA.out hr6 hgr6 (by show 0 ≤ 5; omega) Hl.out
              clear hown6 hgr6 hr6 HC HRA hnw hone
              go_wp2_with fail
              go_roundw
              case rel => exact ⟨k + 1, _, _, _, by go_num, HC6.out⟩
              case measure => have := HK.out; simp [intOf]; omega
            · obtain ⟨K, rfl⟩ := Int.eq_ofNat_of_zero_le (show 0 ≤ xw by omega)
              have hK4 : K ≤ 4 := by omega
              have hK0 : ¬ K = 0 := by omega
              clear hw0
              go_upto_region 15 with (first | (go_at_call 14; refine (num_any _ _).mono ?_; rintro e w' ⟨rfl, hw⟩; obtain rfl := hw.symm; clear hw) | fail)
              refine named (p := fun X => Code.wp _ _ _ _ X) ?_
              intro w5 hw5
              have hB35 : Below w3.heap.size w3 w5 := by
                rw [hw5]; first | exact (Below.refl _ _).alloc (Nat.le_refl _) _ | exact ((Below.refl _ _).alloc (Nat.le_refl _) _).trans ((Ex.set w3.heap.size _ _ _).low2 (by simp)) | exact (((Below.refl _ _).alloc (Nat.le_refl _) _).trans ((Ex.set w3.heap.size _ _ _).low2 (by simp))).trans ((Ex.set w3.heap.size _ _ _).low2 (by simp [World.setCell]))
              have hT5 : Has w5 w3.heap.size #[.int .i64 (K : Int), .int .i64 4611686018427387904] 63 := by
                rw [hw5]; first | exact has_new _ _ _ _ rfl | exact (has_new w3 #[.int .i64 _, .int .i64 _] 63 w3.heap.size rfl).set _ _ | exact ((has_new w3 #[.int .i64 _, .int .i64 _] 63 w3.heap.size rfl).set _ _).set _ _
              clear hw5
              have t0 := hT5.cell 0
              have t1 := hT5.cell 1
              simp at t0 t1
              have h5 : WrN p w w5 p v3 (bs ++ d) := H3.out.grow hB35
              have hr5 : RowT w5 p (.slice da ts.length dc) ts := HR3.out.fr (S := fun _ => False) (Fr.of_below hB35) (fun _ _ h => h)
              have hz5 : p ≤ w5.heap.size := by have := hB35.size; omega
              have hn5 := has_new w5 #[.int .i64 (K : Int), .int .i64 4611686018427387904] 63 w5.heap.size rfl
              have hnw : ∀ (j : Nat) (u : Value), ([.int .i64 (K : Int), .int .i64 4611686018427387904] : List Value)[j]? = some u → (w5.alloc (.cells #[.int .i64 (K : Int), .int .i64 4611686018427387904] 63)).cell? ((⟨w5.heap.size, 0, none⟩ : Addr).add j) = some u := fun j u hu => by
                rw [Addr.add_mid, Nat.zero_add, hn5.cell, ← hu]; simp
              have hone : ∀ u ∈ ([.int .i64 (K : Int), .int .i64 4611686018427387904] : List Value), u.oneCell' = true := fun u hu => by
                simp at hu; rcases hu with rfl | rfl <;> rfl
              have HRA : Hid (RowT (w5.alloc (.cells #[.int .i64 (K : Int), .int .i64 4611686018427387904] 63)) p (.slice da ts.length dc) ts) := World.ownsRow.alloc hr5 _
              have H5 : Hid (WrN p w w5 p v3 (bs ++ d)) := h5
              clear HR3 H3 hr5 h5 hB35 hT5 hn5
              go_wp2_with (refine wpList_append_own _ rfl _ _ 61 rfl p 63 i63 (.agg #[.int .i64 0, .int .i64 0]) 2 16 Try.underlying61 hi hz0 hz1 hz2 rfl (by omega) _ ts.length (rowT ts) rfl HRA.out ⟨w5.heap.size, 0, none⟩ 1 1 [.int .i64 (K : Int), .int .i64 4611686018427387904] rfl rfl hnw hone (by simp only [maxLen]; omega) (by omega) (by simp; omega) ?_; intro v' w6 hown6 hgr6 hnil; clear hnil)
              have hr6 : RowT w6 p v' (ts ++ [(K, 4611686018427387904)]) := by
                unfold RowT
                rw [← rowT_snoc, List.length_append]
                exact hown6
              have HC6 : Hid (Cn xs w p w6 (k + 1) v3 (bs ++ d) v' (ts ++ [(K, 4611686018427387904)])) := HC.out.more HK.out (H5.out.grow ((Below.refl _ _).alloc (Nat.le_refl _) _)) HRA.out hr6 hgr6 (by show K ≤ 5; omega) Hl.out
              clear hown6 hgr6 hr6 HC HRA hnw hone
              go_wp2_with fail
              go_roundw
              case rel => exact ⟨k + 1, _, _, _, by go_num, HC6.out⟩
              case measure => have := HK.out; simp [intOf]; omega
    · obtain rfl : k = xs.length := by omega
      have i1 : ¬ (xs.length : Int) < xs.length := by omega
      have hbl : bs.length ≤ 8000 := by have := HT.out; have := hC.len; omega
      have hplt := hC.wn.wr.has.lt
      have HKS : Hid (∀ y ∈ ts, y.1 ≤ 5) := hC.ks
      have hyk : ts.length ≤ 200 := by have := hC.few; have := tot_ge xs xs.length (Nat.le_refl _); have := HT.out; omega
      go_wp2_with fail
      refine (all_any p v bs wr hC.wn.wr).mono ?_
      rintro e w3 ⟨u, rfl, hN3⟩
      obtain ⟨hO3, hn3, hB3⟩ := hN3
      have hz3 := hB3.size
      have hC3 := hC.grow hB3
      clear hC
      have hbk := hO3.bytes (by omega)
      obtain ⟨ua, uc, hu⟩ := hO3.slice
      subst hu
      have hcp := hbk.cap
      have hpw3 : p ≤ w3.heap.size := hC3.wn.le
      by_cases hcut : 0 ≤ cut ∧ cut ≤ (bs.length : Int)
      · obtain ⟨hc1, hc2⟩ := hcut
        obtain ⟨ct, rfl⟩ := Int.eq_ofNat_of_zero_le hc1
        have hct : ct ≤ bs.length := by omega
        have hbc := hbk.cut hct
        have hll : (bs.take ct).length = ct := by rw [List.length_take]; omega
        obtain ⟨l, hl⟩ : ∃ l, bs.take ct = l := ⟨_, rfl⟩
        rw [hl] at hbc hll
        clear hl
        have hl8 : l.length ≤ 8000 := by omega
        have HLL : Hid (l.length = ct) := hll
        clear hll
        obtain ⟨bl, hbln⟩ : ∃ z, bs.length = z := ⟨_, rfl⟩
        rw [hbln] at hct hcp hbk hc2 hO3 hn3 ⊢
        have hrd := readx_any _ l w3 hbc (by omega)
        have hc3 : ct ≤ uc := by omega
        clear hbln hc1 hc2
        go_wp2_with fail
        refine hrd.mono ?_
        clear hrd
        rintro e w4 ⟨r, lv0, rfl, hr, hR4, hB4, hI4⟩
        clear hI4
        go_upto_region 21 with (fail)
        refine named (p := fun X => Code.wp _ _ _ _ X) ?_
        intro w5 hw5
        have hB45 : Below w4.heap.size w4 w5 := by rw [hw5]; exact (Below.refl _ _).alloc (Nat.le_refl _) _
        have hq5 : Has w5 w4.heap.size #[.slice ua ct uc, .int .i64 0, .int .i64 0] 45 := by rw [hw5]; exact has_new _ _ _ _ rfl
        clear hw5
        obtain ⟨q, hqe⟩ : ∃ q, w4.heap.size = q := ⟨_, rfl⟩
        have hrq : r < q := by rw [← hqe]; exact hR4.lt
        have hS5 : St w5 r l 0 0 := ⟨⟨lv0, by rw [List.drop_zero]; exact hR4.below hB45⟩, Nat.zero_le _⟩
        have hB35 : Below w3.heap.size w3 w5 := hB4.trans (hB45.mono hB4.size)
        have hC5 := hC3.grow hB35
        have hbc5 := hbc.below hB35
        have hpr : p ≤ r := by omega
        have hrow5 := hC5.row
        have hbel5 := hC5.wn.below
        rw [hqe] at hq5 ⊢
        obtain ⟨tl, htl⟩ : ∃ z, ts.length = z := ⟨_, rfl⟩
        rw [htl] at hrow5 hyk ⊢
        have HTL : Hid (ts.length = tl) := htl
        clear htl hqe hC3 hC5 hR4 hB4 hB45 hB35 hbc hbk hO3 hn3 hB3 hz3
        go_wp2_with fail
        go_loopw [15] (fun i wr => ∃ (j at_ fl : Nat), i = .int .i64 j ∧ j ≤ tl ∧ St wr r l at_ fl ∧ Has wr q #[.slice ua ct uc, .int .i64 ((at_ : Nat) : Int), .int .i64 ((fl : Nat) : Int)] 45 ∧ RowT wr p (.slice da tl dc) ts ∧ Below p w wr ∧ Bytes wr (.slice ua ct uc) l) (fun i _ => tl - (intOf i).toNat)
        case atStart => exact ⟨0, 0, 0, rfl, Nat.zero_le _, hS5, hq5, hrow5, hbel5, hbc5⟩
        case round =>
          clear hS5 hq5 hrow5 hbel5 hbc5
          obtain ⟨j, at_, fl, rfl, hjl, hSt, hq, hRow, hBel, hBy⟩ := hrel
          have hrl := hSt.lt
          have hql := hq.lt
          have hqr : q ≠ r := by omega
          by_cases hj : j < tl
          · have i2 : (j : Int) < tl := by omega
            have hjt : j < ts.length := by have := HTL.out; omega
            have hy : ts[j]? = some ts[j] := List.getElem?_eq_getElem hjt
            obtain ⟨gT, hda, hk0', hn0'⟩ := hRow.at_ hy
            subst hda
            have h5 := HKS.out ts[j] (List.getElem_mem _)
            clear hy
            obtain ⟨⟨tk, tn⟩, hyy⟩ : ∃ y, ts[j] = y := ⟨_, rfl⟩
            rw [hyy] at hk0' hn0' h5
            clear hyy
            simp only at hk0' hn0' h5
            obtain ⟨⟨lvR, hRd⟩, hatl⟩ := id hSt
            have hgl : gT < wr.heap.size := (hRow.kind rfl).2.1
            have hgr : gT ≠ r := fun e => hRow.ne hRd.has (by decide) (by rw [← e]; rfl)
            have hgq : gT ≠ q := fun e => hRow.ne hq (by decide) (by rw [← e]; rfl)
            have hd0 : Below wr.heap.size wr wr.drew := (Below.refl _ _).drew
            have htk : ∀ W, Below wr.heap.size wr W → St W r l at_ fl → Calls Try.prog 33 #[.pointer (some ⟨r, 0, none⟩), .agg #[.slice ua ct uc, .int .i64 at_, .int .i64 fl], .agg #[.int .i64 (tk : Int), .int .i64 tn]] W fun e w' => TkR W w' r l ua ct uc e := fun W hB hS => took_any tk h5 r ua uc at_ fl ct l HLL.out.symm tn W (hBy.below hB) hS (by omega)
            have hS0 : St wr.drew r l at_ fl := hSt.below hd0
            have hq0 : Has wr.drew q #[.slice ua ct uc, .int .i64 ((at_ : Nat) : Int), .int .i64 ((fl : Nat) : Int)] 45 := hq.below hd0 hql
            have hk0 : wr.drew.cell? ⟨gT, j * 2, none⟩ = some (.int .i64 ((tk : Nat) : Int)) := hk0'
            have hn0 : wr.drew.cell? ⟨gT, j * 2 + 1, none⟩ = some (.int .i64 tn) := hn0'
            have hE0 : Ex r wr wr.drew := Ex.below hd0
            have hBl0 := hd0
            have HJ : Hid (j < tl) := hj
            clear hk0' hn0' hjt h5
            go_wp2_with fail
            refine wp_region_via (fun X => Has X q #[.slice ua ct uc, .int .i64 ((at_ : Nat) : Int), .int .i64 ((fl : Nat) : Int)] 45 ∧ X.cell? ⟨gT, j * 2, none⟩ = some (.int .i64 ((tk : Nat) : Int)) ∧ X.cell? ⟨gT, j * 2 + 1, none⟩ = some (.int .i64 tn)) (fun _ => true) (fun A A' X => ∃ b at' fl' : Nat, A' = ((((((((((((A.put (some 98) (.pointer (some ⟨r, 0, none⟩))).put (some 99) (.agg #[.slice ua ct uc, .int .i64 ((at_ : Nat) : Int), .int .i64 ((fl : Nat) : Int)])).put (some 100) (.slice (some ⟨gT, 0, none⟩) tl dc)).put (some 101) (.int .i64 ((j : Nat) : Int))).put (some 102) (.pointer (some ⟨gT, j * 2, none⟩))).put (some 103) (.agg #[.int .i64 ((tk : Nat) : Int), .int .i64 tn])).put (some 104) (.tuple #[.agg #[.slice ua ct uc, .int .i64 ((at' : Nat) : Int), .int .i64 ((fl' : Nat) : Int)], .bool true])).put (some 97) (.tuple #[.agg #[.slice ua ct uc, .int .i64 ((at' : Nat) : Int), .int .i64 ((fl' : Nat) : Int)], .bool true])).put (some 105) (.agg #[.slice ua ct uc, .int .i64 ((at' : Nat) : Int), .int .i64 ((fl' : Nat) : Int)])).put (some 106) (.bool true)).put (some 16) (.pointer (some ⟨b, 0, none⟩))).put (some 17) (.bool true)) ∧ Has X b #[.slice ua ct uc, .int .i64 ((at' : Nat) : Int), .int .i64 ((fl' : Nat) : Int)] 45 ∧ wr.heap.size ≤ b ∧ St X r l at' fl' ∧ Ex r wr X) (by kernel_rfl) ?_ ?_
            · refine K_take (i := 0) (v := .pointer (some ⟨r, 0, none⟩)) rfl (by kernel_rfl) (by kernel_rfl) (by kernel_rfl) (by kernel_rfl) (by kernel_rfl) (by kernel_rfl) (fun w' hS => by go_simp) ⟨hq0, hk0, hn0⟩ ?_
              refine K_take (i := 1) (v := .agg #[.slice ua ct uc, .int .i64 ((at_ : Nat) : Int), .int .i64 ((fl : Nat) : Int)]) rfl (by kernel_rfl) (by kernel_rfl) (by kernel_rfl) (by kernel_rfl) (by kernel_rfl) (by kernel_rfl) (fun w' hS => by have y0 := hS.1.cell 0; have y1 := hS.1.cell 1; have y2 := hS.1.cell 2; simp at y0 y1 y2; go_simp) ⟨hq0, hk0, hn0⟩ ?_
              refine K_take (i := 2) (v := .slice (some ⟨gT, 0, none⟩) tl dc) rfl (by kernel_rfl) (by kernel_rfl) (by kernel_rfl) (by kernel_rfl) (by kernel_rfl) (by kernel_rfl) (fun w' hS => by go_simp) ⟨hq0, hk0, hn0⟩ ?_
              refine K_take (i := 3) (v := .int .i64 ((j : Nat) : Int)) rfl (by kernel_rfl) (by kernel_rfl) (by kernel_rfl) (by kernel_rfl) (by kernel_rfl) (by kernel_rfl) (fun w' hS => by go_simp) ⟨hq0, hk0, hn0⟩ ?_
              refine K_take (i := 4) (v := .pointer (some ⟨gT, j * 2, none⟩)) rfl (by kernel_rfl) (by kernel_rfl) (by kernel_rfl) (by kernel_rfl) (by kernel_rfl) (by kernel_rfl) (fun w' hS => by go_simp) ⟨hq0, hk0, hn0⟩ ?_
              refine K_take (i := 5) (v := .agg #[.int .i64 ((tk : Nat) : Int), .int .i64 tn]) rfl (by kernel_rfl) (by kernel_rfl) (by kernel_rfl) (by kernel_rfl) (by kernel_rfl) (by kernel_rfl) (fun w' hS => by obtain ⟨_, y0, y1⟩ := hS; go_simp) ⟨hq0, hk0, hn0⟩ ?_
              refine K_fork (i := 6) (j := 10) (by kernel_rfl) rfl rfl (by kernel_rfl) (by kernel_rfl) (fun K hK => ?_) (fun K hK => ?_)
              · go_simp
                refine (htk wr.drew hBl0 hS0).mono ?_
                rintro e X1001 ⟨at', fl', rfl, hS1002, hE1003⟩
                have hE1004 : Ex r wr X1001 := hE0.trans hE1003
                have hq1005 := hq0.ex hE1003 hqr
                have hk1006 := (World.cell?_of_block (hE1003.block gT (by have := hE0.size; omega) hgr)).trans hk0
                have hn1007 := (World.cell?_of_block (hE1003.block gT (by have := hE0.size; omega) hgr)).trans hn0
                refine hK _ _ (fun _ => ⟨hq1005, hk1006, hn1007⟩) ?_
                clear hK
                refine K_take (i := 7) (v := .tuple #[.agg #[.slice ua ct uc, .int .i64 ((at' : Nat) : Int), .int .i64 ((fl' : Nat) : Int)], .bool true]) rfl (by kernel_rfl) (by kernel_rfl) (by kernel_rfl) (by kernel_rfl) (by kernel_rfl) (by kernel_rfl) (fun w' hS => by go_simp) ⟨hq1005, hk1006, hn1007⟩ ?_
                refine K_take (i := 8) (v := .agg #[.slice ua ct uc, .int .i64 ((at' : Nat) : Int), .int .i64 ((fl' : Nat) : Int)]) rfl (by kernel_rfl) (by kernel_rfl) (by kernel_rfl) (by kernel_rfl) (by kernel_rfl) (by kernel_rfl) (fun w' hS => by go_simp) ⟨hq1005, hk1006, hn1007⟩ ?_
                refine K_take (i := 9) (v := .bool true) rfl (by kernel_rfl) (by kernel_rfl) (by kernel_rfl) (by kernel_rfl) (by kernel_rfl) (by kernel_rfl) (fun w' hS => by go_simp) ⟨hq1005, hk1006, hn1007⟩ ?_
                refine K_next (i := 10) (by kernel_rfl) rfl (by kernel_rfl) (fun K hK => ?_)
                go_simp
                have hb1009 : Below X1001.heap.size X1001 (X1001.alloc (.cells #[.slice none 0 0, .int .i64 0, .int .i64 0] 45)) := (Below.refl _ _).alloc (Nat.le_refl _) _
                have nb1010 : Has (X1001.alloc (.cells #[.slice none 0 0, .int .i64 0, .int .i64 0] 45)) (X1001.heap.size) #[.slice none 0 0, .int .i64 0, .int .i64 0] 45 := has_new X1001 #[.slice none 0 0, .int .i64 0, .int .i64 0] 45 _ rfl
                have hS1011 := hS1002.below hb1009
                have hE1012 : Ex r wr (X1001.alloc (.cells #[.slice none 0 0, .int .i64 0, .int .i64 0] 45)) := hE1004.trans (Ex.below hb1009)
                have hq1013 := hq1005.below hb1009 hq1005.lt
                have hk1014 := (hb1009.cell (p := ⟨gT, j * 2, none⟩) (by have := hE1004.size; show gT < _; omega)).trans hk1006
                have hn1015 := (hb1009.cell (p := ⟨gT, j * 2 + 1, none⟩) (by have := hE1004.size; show gT < _; omega)).trans hn1007
                refine hK _ _ (fun _ => ⟨hq1013, hk1014, hn1015⟩) ?_
                clear hK
                clear hb1009
                generalize (X1001.alloc (.cells #[.slice none 0 0, .int .i64 0, .int .i64 0] 45)) = Y1017 at *
                refine K_next (i := 11) (by kernel_rfl) rfl (by kernel_rfl) (fun K hK => ?_)
                have s1018 := nb1010.cell 0
                have s1019 := nb1010.cell 1
                have s1020 := nb1010.cell 2
                have s1021 := nb1010.free 0
                have s1022 := nb1010.free 1
                have s1023 := nb1010.free 2
                simp at s1018 s1019 s1020
                have hX1026 : Ex (X1001.heap.size) Y1017 (((Y1017.setCell ⟨X1001.heap.size, 0, none⟩ (.slice ua ct uc)).setCell ⟨X1001.heap.size, 1, none⟩ (.int .i64 ((at' : Nat) : Int))).setCell ⟨X1001.heap.size, 2, none⟩ (.int .i64 ((fl' : Nat) : Int))) := ((Ex.set _ _ 0 _).trans (Ex.set _ _ 1 _)).trans (Ex.set _ _ 2 _)
                have nb1027 : Has (((Y1017.setCell ⟨X1001.heap.size, 0, none⟩ (.slice ua ct uc)).setCell ⟨X1001.heap.size, 1, none⟩ (.int .i64 ((at' : Nat) : Int))).setCell ⟨X1001.heap.size, 2, none⟩ (.int .i64 ((fl' : Nat) : Int))) (X1001.heap.size) #[.slice ua ct uc, .int .i64 ((at' : Nat) : Int), .int .i64 ((fl' : Nat) : Int)] 45 := set3_has nb1010
                have hbge : wr.heap.size ≤ X1001.heap.size := by have := hE1004.size; exact this
                have hS1028 : St (((Y1017.setCell ⟨X1001.heap.size, 0, none⟩ (.slice ua ct uc)).setCell ⟨X1001.heap.size, 1, none⟩ (.int .i64 ((at' : Nat) : Int))).setCell ⟨X1001.heap.size, 2, none⟩ (.int .i64 ((fl' : Nat) : Int))) r l at' fl' := by
                  obtain ⟨⟨lvx, hRx⟩, hax⟩ := hS1011
                  exact ⟨⟨lvx, hRx.ex hX1026 (by omega) (hRx.by_.bytes.notRef nb1010)⟩, hax⟩
                have hE1029 : Ex r wr (((Y1017.setCell ⟨X1001.heap.size, 0, none⟩ (.slice ua ct uc)).setCell ⟨X1001.heap.size, 1, none⟩ (.int .i64 ((at' : Nat) : Int))).setCell ⟨X1001.heap.size, 2, none⟩ (.int .i64 ((fl' : Nat) : Int))) := hE1012.more hX1026 hbge
                have hq1030 := hq1013.ex hX1026 (by omega)
                have hk1031 := (World.cell?_of_block (hX1026.block gT (by have := hE1012.size; omega) (by omega))).trans hk1014
                have hn1032 := (World.cell?_of_block (hX1026.block gT (by have := hE1012.size; omega) (by omega))).trans hn1015
                go_simp
                refine hK _ _ (fun _ => ⟨hq1030, hk1031, hn1032⟩) ?_
                clear hK
                refine K_take (i := 12) (v := .bool true) rfl (by kernel_rfl) (by kernel_rfl) (by kernel_rfl) (by kernel_rfl) (by kernel_rfl) (by kernel_rfl) (fun w' hS => by go_simp) ⟨hq1030, hk1031, hn1032⟩ ?_
                refine K_done (by kernel_rfl) ?_
                exact ⟨X1001.heap.size, at', fl', by kernel_rfl, nb1027, hbge, hS1028, hE1029⟩
              · go_simp
                have hb1033 : Below wr.drew.heap.size wr.drew (wr.alloc (.cells #[.slice none 0 0, .int .i64 0, .int .i64 0] 45)).drew := (Below.refl _ _).alloc (Nat.le_refl _) _
                have nb1034 : Has (wr.alloc (.cells #[.slice none 0 0, .int .i64 0, .int .i64 0] 45)).drew (wr.heap.size) #[.slice none 0 0, .int .i64 0, .int .i64 0] 45 := has_new wr.drew #[.slice none 0 0, .int .i64 0, .int .i64 0] 45 _ rfl
                have hS1035 := hS0.below hb1033
                have hE1036 : Ex r wr (wr.alloc (.cells #[.slice none 0 0, .int .i64 0, .int .i64 0] 45)).drew := hE0.trans (Ex.below hb1033)
                have hq1037 := hq0.below hb1033 hq0.lt
                have hk1038 := (hb1033.cell (p := ⟨gT, j * 2, none⟩) (by have := hE0.size; show gT < _; omega)).trans hk0
                have hn1039 := (hb1033.cell (p := ⟨gT, j * 2 + 1, none⟩) (by have := hE0.size; show gT < _; omega)).trans hn0
                have hB1040 := hBl0.trans (hb1033.mono hBl0.size)
                refine hK _ _ (fun _ => ⟨hq1037, hk1038, hn1039⟩) ?_
                clear hK
                clear hb1033
                generalize (wr.alloc (.cells #[.slice none 0 0, .int .i64 0, .int .i64 0] 45)).drew = Y1041 at *
                refine K_next (i := 6) (by kernel_rfl) rfl (by kernel_rfl) (fun K hK => ?_)
                go_simp
                refine (htk Y1041 hB1040 hS1035).mono ?_
                rintro e X1042 ⟨at', fl', rfl, hS1043, hE1044⟩
                have hE1045 : Ex r wr X1042 := hE1036.trans hE1044
                have hq1046 := hq1037.ex hE1044 hqr
                have hk1047 := (World.cell?_of_block (hE1044.block gT (by have := hE1036.size; omega) hgr)).trans hk1038
                have hn1048 := (World.cell?_of_block (hE1044.block gT (by have := hE1036.size; omega) hgr)).trans hn1039
                have nb1050 := nb1034.ex hE1044 (by have := hrl; omega)
                refine hK _ _ (fun _ => ⟨hq1046, hk1047, hn1048⟩) ?_
                clear hK
                refine K_take (i := 7) (v := .tuple #[.agg #[.slice ua ct uc, .int .i64 ((at' : Nat) : Int), .int .i64 ((fl' : Nat) : Int)], .bool true]) rfl (by kernel_rfl) (by kernel_rfl) (by kernel_rfl) (by kernel_rfl) (by kernel_rfl) (by kernel_rfl) (fun w' hS => by go_simp) ⟨hq1046, hk1047, hn1048⟩ ?_
                refine K_take (i := 8) (v := .agg #[.slice ua ct uc, .int .i64 ((at' : Nat) : Int), .int .i64 ((fl' : Nat) : Int)]) rfl (by kernel_rfl) (by kernel_rfl) (by kernel_rfl) (by kernel_rfl) (by kernel_rfl) (by kernel_rfl) (fun w' hS => by go_simp) ⟨hq1046, hk1047, hn1048⟩ ?_
                refine K_take (i := 9) (v := .bool true) rfl (by kernel_rfl) (by kernel_rfl) (by kernel_rfl) (by kernel_rfl) (by kernel_rfl) (by kernel_rfl) (fun w' hS => by go_simp) ⟨hq1046, hk1047, hn1048⟩ ?_
                refine K_next (i := 11) (by kernel_rfl) rfl (by kernel_rfl) (fun K hK => ?_)
                have s1051 := nb1050.cell 0
                have s1052 := nb1050.cell 1
                have s1053 := nb1050.cell 2
                have s1054 := nb1050.free 0
                have s1055 := nb1050.free 1
                have s1056 := nb1050.free 2
                simp at s1051 s1052 s1053
                have hX1059 : Ex (wr.heap.size) X1042 (((X1042.setCell ⟨wr.heap.size, 0, none⟩ (.slice ua ct uc)).setCell ⟨wr.heap.size, 1, none⟩ (.int .i64 ((at' : Nat) : Int))).setCell ⟨wr.heap.size, 2, none⟩ (.int .i64 ((fl' : Nat) : Int))) := ((Ex.set _ _ 0 _).trans (Ex.set _ _ 1 _)).trans (Ex.set _ _ 2 _)
                have nb1060 : Has (((X1042.setCell ⟨wr.heap.size, 0, none⟩ (.slice ua ct uc)).setCell ⟨wr.heap.size, 1, none⟩ (.int .i64 ((at' : Nat) : Int))).setCell ⟨wr.heap.size, 2, none⟩ (.int .i64 ((fl' : Nat) : Int))) (wr.heap.size) #[.slice ua ct uc, .int .i64 ((at' : Nat) : Int), .int .i64 ((fl' : Nat) : Int)] 45 := set3_has nb1050
                have hbge : wr.heap.size ≤ wr.heap.size := by have := hE0.size; exact this
                have hS1061 : St (((X1042.setCell ⟨wr.heap.size, 0, none⟩ (.slice ua ct uc)).setCell ⟨wr.heap.size, 1, none⟩ (.int .i64 ((at' : Nat) : Int))).setCell ⟨wr.heap.size, 2, none⟩ (.int .i64 ((fl' : Nat) : Int))) r l at' fl' := by
                  obtain ⟨⟨lvx, hRx⟩, hax⟩ := hS1043
                  exact ⟨⟨lvx, hRx.ex hX1059 (by omega) (hRx.by_.bytes.notRef nb1050)⟩, hax⟩
                have hE1062 : Ex r wr (((X1042.setCell ⟨wr.heap.size, 0, none⟩ (.slice ua ct uc)).setCell ⟨wr.heap.size, 1, none⟩ (.int .i64 ((at' : Nat) : Int))).setCell ⟨wr.heap.size, 2, none⟩ (.int .i64 ((fl' : Nat) : Int))) := hE1045.more hX1059 hbge
                have hq1063 := hq1046.ex hX1059 (by omega)
                have hk1064 := (World.cell?_of_block (hX1059.block gT (by have := hE1045.size; omega) (by omega))).trans hk1047
                have hn1065 := (World.cell?_of_block (hX1059.block gT (by have := hE1045.size; omega) (by omega))).trans hn1048
                go_simp
                refine hK _ _ (fun _ => ⟨hq1063, hk1064, hn1065⟩) ?_
                clear hK
                refine K_take (i := 12) (v := .bool true) rfl (by kernel_rfl) (by kernel_rfl) (by kernel_rfl) (by kernel_rfl) (by kernel_rfl) (by kernel_rfl) (fun w' hS => by go_simp) ⟨hq1063, hk1064, hn1065⟩ ?_
                refine K_done (by kernel_rfl) ?_
                exact ⟨wr.heap.size, at', fl', by kernel_rfl, nb1060, hbge, hS1061, hE1062⟩
            · rintro A' w6 ⟨b, at', fl', rfl, hb6, hbge, hS6, hE6⟩
              have hq6 := hq.ex hE6 hqr
              have y0 := hb6.cell 0
              have y1 := hb6.cell 1
              have y2 := hb6.cell 2
              have s0 := hq6.cell 0
              have s1 := hq6.cell 1
              have s2 := hq6.cell 2
              have f0 := hq6.free 0
              have f1 := hq6.free 1
              have f2 := hq6.free 2
              simp at y0 y1 y2 s0 s1 s2
              have hbq : ¬ b = q := by omega
              have hqb : ¬ q = b := by omega
              have hR6 := hRow.fr (Fr.of_ex hE6) (fun i hi e => hRow.ne hRd.has (by decide) (e ▸ hi))
              have hBel6 := Below.ex hBel (by omega) hE6 hpr
              have hBy6 : Bytes w6 (.slice ua ct uc) l := (hBy.notReader hRd).ex hE6 (by have := hE6.size; omega)
              clear htk hS0 hq0 hk0 hn0 hE0 hBl0 hd0 hRow hBy hBel hSt
              go_simp
              go_upto_region 26 with (fail)
              refine named (p := fun X => Code.wp _ _ _ _ X) ?_
              intro w7 hw7
              have hX7 : Ex q w6 w7 := by rw [hw7]; exact ((Ex.set q w6 0 _).trans (Ex.set q _ 1 _)).trans (Ex.set q _ 2 _)
              have hq7 : Has w7 q #[.slice ua ct uc, .int .i64 ((at' : Nat) : Int), .int .i64 ((fl' : Nat) : Int)] 45 := by rw [hw7]; exact set3_has hq6
              clear hw7 y0 y1 y2 s0 s1 s2 f0 f1 f2
              have hS7 : St w7 r l at' fl' := by
                obtain ⟨⟨lvx, hRx⟩, hax⟩ := hS6
                exact ⟨⟨lvx, hRx.ex hX7 (by omega) (hRx.by_.bytes.notRef hq6)⟩, hax⟩
              have hR7 := hR6.fr (Fr.of_ex hX7) (fun i hi e => hR6.ne hq6 (by decide) (e ▸ hi))
              have hBel7 := Below.ex hBel6 (by have := hE6.size; omega) hX7 (by omega)
              have hBy7 : Bytes w7 (.slice ua ct uc) l := (hBy6.notRef hq6).ex hX7 (by have := hE6.size; have := hX7.size; omega)
              go_wp2_with fail
              go_roundw
              case rel => exact ⟨j + 1, at', fl', by go_num, HJ.out, hS7, hq7, hR7, hBel7, hBy7⟩
              case measure => have := HJ.out; simp [intOf]; omega
          · have i2 : ¬ (j : Int) < tl := by omega
            obtain ⟨⟨lvR, hRd⟩, hatl⟩ := id hSt
            have hd0 : Below wr.heap.size wr wr.drew := (Below.refl _ _).drew
            have hend := fun W (hB : Below wr.heap.size wr W) => end_any r lvR _ at_ fl W (hRd.below hB)
            have hrend : ∀ W, Calls Try.prog 35 #[.agg #[.slice ua ct uc, .int .i64 at_, .int .i64 fl]] W fun e w' => e = .returned (.int .i64 (endE (l.drop at_) fl)) ∧ Below W.heap.size W w' := fun W => by
              have := refend_any ua uc at_ fl l W hatl
              rwa [HLL.out] at this
            obtain ⟨EE, hEE⟩ : ∃ E, endE (l.drop at_) fl = E := ⟨_, rfl⟩
            simp only [hEE] at hend hrend
            have hpw : p ≤ wr.heap.size := by omega
            clear hEE hSt hRow hBy hjl
            go_wp2_with fail
            refine wp_region_K (fun X => Below wr.heap.size wr X) (fun _ => true) (by kernel_rfl) ?_
            refine K_take (i := 0) (v := .pointer (some ⟨r, 0, none⟩)) rfl (by kernel_rfl) (by kernel_rfl) (by kernel_rfl) (by kernel_rfl) (by kernel_rfl) (by kernel_rfl) (fun w' hS => by go_simp) hd0 ?_
            refine K_take (i := 3) (v := .agg #[.slice ua ct uc, .int .i64 ((at_ : Nat) : Int), .int .i64 ((fl : Nat) : Int)]) rfl (by kernel_rfl) (by kernel_rfl) (by kernel_rfl) (by kernel_rfl) (by kernel_rfl) (by kernel_rfl) (fun w' hS => by have y0 := (hq.below hS hql).cell 0; have y1 := (hq.below hS hql).cell 1; have y2 := (hq.below hS hql).cell 2; simp at y0 y1 y2; go_simp) hd0 ?_
            refine K_next (i := 1) (by kernel_rfl) rfl (by kernel_rfl) (fun K hK => ?_)
            go_simp
            refine (hend wr.drew hd0).mono ?_
            rintro e w' ⟨rfl, hw⟩
            obtain rfl := hw.symm
            refine hK _ _ (fun _ => hd0) ?_
            clear hK
            refine K_next (i := 2) (by kernel_rfl) rfl (by kernel_rfl) (fun K hK => ?_)
            go_simp
            refine (num_any _ _).mono ?_
            rintro e w' ⟨rfl, hw⟩
            obtain rfl := hw.symm
            refine hK _ _ (fun _ => hd0) ?_
            clear hK
            refine K_next (i := 4) (by kernel_rfl) rfl (by kernel_rfl) (fun K hK => ?_)
            go_simp
            refine (hrend wr.drew).mono ?_
            rintro e X1066 ⟨rfl, hb1067⟩
            have hB1068 : Below wr.heap.size wr X1066 := hd0.trans (hb1067.mono hd0.size)
            refine hK _ _ (fun _ => hB1068) ?_
            clear hK
            refine K_take (i := 5) (v := .bool true) rfl (by kernel_rfl) (by kernel_rfl) (by kernel_rfl) (by kernel_rfl) (by kernel_rfl) (by kernel_rfl) (fun w' hS => by go_simp) hB1068 ?_
            refine K_take (i := 6) (v := .bool true) rfl (by kernel_rfl) (by kernel_rfl) (by kernel_rfl) (by kernel_rfl) (by kernel_rfl) (by kernel_rfl) (fun w' hS => by go_simp) hB1068 ?_
            refine K_next (i := 7) (by kernel_rfl) rfl (by kernel_rfl) (fun K hK => ?_)
            go_simp
            refine (works_any _).mono ?_
            rintro e X1069 ⟨rfl, hb1070⟩
            have hB1071 : Below wr.heap.size wr X1069 := hB1068.trans (hb1070.mono hB1068.size)
            refine hK _ _ (fun _ => hB1071) ?_
            clear hK
            refine K_take (i := 8) (v := .bool true) rfl (by kernel_rfl) (by kernel_rfl) (by kernel_rfl) (by kernel_rfl) (by kernel_rfl) (by kernel_rfl) (fun w' hS => by go_simp) hB1071 ?_
            refine K_take (i := 9) (v := .bool true) rfl (by kernel_rfl) (by kernel_rfl) (by kernel_rfl) (by kernel_rfl) (by kernel_rfl) (by kernel_rfl) (fun w' hS => by go_simp) hB1071 ?_
            refine K_done (by kernel_rfl) ?_
            go_simp
            go_wp2
            go_ret
            exact ⟨rfl, by rw [HN.out]; exact hBel.trans (hB1071.mono hpw)⟩
      · have hBw3 : Below p w w3 := hC3.wn.below
        obtain ⟨bl, hbln⟩ : ∃ z, bs.length = z := ⟨_, rfl⟩
        rw [hbln] at hcut hO3 hbk hcp ⊢
        clear hbln hC3 hO3 hbk hn3 hcp hB3 hbl
        by_cases h1 : cut < 0
        · clear hcut
          go_wp2_with (first | (go_at_call 11; refine (works_any _).mono ?_; rintro e w7 ⟨rfl, hB7⟩) | fail)
          go_ret
          exact ⟨rfl, by rw [HN.out]; exact hBw3.trans (hB7.mono hpw3)⟩
        · have h2 : (bl : Int) < cut := by omega
          clear hcut
          go_wp2_with (first | (go_at_call 11; refine (works_any _).mono ?_; rintro e w7 ⟨rfl, hB7⟩) | fail)
          go_ret
          exact ⟨rfl, by rw [HN.out]; exact hBw3.trans (hB7.mono hpw3)⟩
set_option maxHeartbeats 1000000 in
theorem cuts_walk (v : Value) (xs : List AddD) (a : Option Addr) (cap b o : Nat) (S : Nat → Value) (cut : Int) (w : World) (hA : Adds w v xs a cap b o S) :
    Calls Try.prog 8 #[v, .int .i64 cut] w fun e w' => e = .returned (.bool true) ∧ Below w.heap.size w w' := by
  cases hf : fewB xs with
  | true => exact cuts_few v xs a cap b o S cut w hA hf
  | false =>
    have hfew := few_any v xs a cap b o S w hA
    rw [hf] at hfew
    obtain rfl := hA.val
    clear hA
    go_enter Try.func8, Try.ntmps8
    go_wp2_with (first | (go_at_call 10; refine hfew.mono ?_; rintro e w' ⟨rfl, hw⟩; obtain rfl := hw.symm; clear hw) | (go_at_call 11; refine (works_any _).mono ?_; rintro e w3 ⟨rfl, hw3⟩) | fail)
    go_ret
    exact ⟨rfl, hw3⟩
end Go.Proofs.Ytgoflpfafkmmgaa
