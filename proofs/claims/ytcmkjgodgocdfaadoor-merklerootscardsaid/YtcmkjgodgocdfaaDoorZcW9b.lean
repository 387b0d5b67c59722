/- MerkleRoots: the law's walk, where there is no tree; all together. -/
import Derived.Test.YtcmkjgodgocdfaaDoorZq5
import Derived.Test.YtcmkjgodgocdfaaDoorZq6
import Derived.Test.YtcmkjgodgocdfaaDoorZcW9
namespace Go.Proofs.YtcmkjgodgocdfaaDoor
open Go.RowKit

set_option maxRecDepth 100000 in
set_option maxHeartbeats 4000000 in
theorem roots_bad (v : Value) (ds : List Dig) (w : World) (hv : Digs w v ds) (hbad : ds.length < 1 ∨ 16 < ds.length) (h40 : ds.length ≤ 40) (hg : Glob w) :
    Calls Tryd.prog 3 #[v] w fun e w' => e = .returned (.bool true) ∧ Below w.heap.size w w' := by
  have hgs := hg.size
  have hnb : mayB (ds.length : Int) = false := by unfold mayB; simp only [Bool.and_eq_false_iff, decide_eq_false_iff_not]; omega
  have hnew := fun a c W => tnew_bad a ds.length c W hnb
  obtain ⟨a0, c0, rfl⟩ := hv.slice
  have h32 := hv.1
  obtain ⟨n, hn⟩ : ∃ n, ds.length = n := ⟨_, rfl⟩
  simp only [hn] at hbad hnb hnew h40 hv ⊢
  have HN : Hid (ds.length = n) := hn
  clear hn
  have hd40 : decide (40 < (n : Int)) = false := by simp; omega
  refine (callsIn_wide (n := 10)).1 ?_
  refine callsIn_of_wp_marks Tryd.func3 rfl trivial ?_ rfl
  simp only [Tryd.ntmps3, List.size_toArray, List.length_cons, List.length_nil, Nat.reduceAdd, Nat.reduceSub, Array.replicate_succ, Array.replicate_zero, List.push_toArray, List.append_toArray, List.nil_append, List.cons_append]
  refine wpIn_wide.2 ?_
  go_upto_region 1 with (fail)
  refine named (p := Code.wp _ _ _ _) ?_
  intro W0 hW0
  have hB0 : Below w.heap.size w W0 := by rw [hW0]; exact (Below.refl _ _).alloc (Nat.le_refl _) _
  have x0 : Has W0 w.heap.size #[.bool false] 4 := by rw [hW0]; exact has_new _ _ _ _ rfl
  have hz0 : w.heap.size + 1 ≤ W0.heap.size := by rw [hW0]; simp
  have hm : OwnD W0.heap.size (W0.alloc (.cells #[] 30)) (.slice (some ⟨W0.heap.size, 0, none⟩) 0 0) [] :=
    ⟨All32.nil, World.ownsRow_made W0 #[] 0 (Nat.le_refl _) (by simp only [maxLen]; omega) rfl⟩
  have hBm := (Below.refl W0.heap.size W0).alloc (Nat.le_refl _) (.cells #[] 30)
  have hv1 := (hv.below hB0).below hBm
  clear hW0
  go_wp2_with (refine wpList_append_digs rfl _ _ rfl W0.heap.size _ _ [] ds rfl rfl hm hv1 (by have := HN.out; simp; omega) (by simp) ?_; intro v2 W2 ho2 hg2)
  have hB02 : Below W0.heap.size W0 W2 := hBm.trans (grown_low2 hm.2 hg2 (by simp))
  rw [List.nil_append] at ho2
  obtain ⟨a1, c1, hv2⟩ := ho2.slice
  rw [HN.out] at hv2
  subst hv2
  have hs02 := hB02.size
  clear hm hBm hv1 hg2
  go_wp2_with (go_at_call 14; refine (hnew _ _ _).mono ?_; rintro e w' ⟨rfl, hw⟩; obtain rfl := hw.symm)
  obtain ⟨W3, hW3⟩ : ∃ W3, W2 = W3 := ⟨_, rfl⟩
  rw [hW3] at ho2 hB02 hs02 ⊢
  have hm3 := ho2
  have hB03 := hB02
  clear hW3 ho2 hB02 hnew
  have hBw3 : Below w.heap.size w W3 := hB0.trans (hB03.mono (by omega))
  have hsame := same_yes _ _ ds W3 (hm3.digs (by omega)) (hv.below hBw3) (by have := HN.out; omega)
  go_wp2_with fail
  refine hsame.mono ?_
  clear hsame
  rintro e W4 ⟨rfl, hB34⟩
  have ho4 := hm3.below hB34
  have hB04 : Below W0.heap.size W0 W4 := hB03.trans (hB34.mono hB03.size)
  have hs4 := hB34.size
  clear hB34 hm3
  go_wp2_with fail
  go_loopw [6] (fun kv wr => ∃ (k : Nat) (P' : List Dig), k ≤ n ∧ kv = .int .i64 k ∧ P'.length = n ∧ OwnD W0.heap.size wr (.slice a1 n c1) P' ∧ Below W0.heap.size W0 wr) (fun kv _ => n - (intOf kv).toNat)
  case atStart => exact ⟨0, ds, Nat.zero_le _, rfl, HN.out, ho4, hB04⟩
  case round =>
    obtain ⟨k, P', hk, rfl, hPm, ho, hBr⟩ := hrel
    have HPm : Hid (P'.length = n) := hPm
    clear hPm
    by_cases hlt : k < n
    · obtain ⟨g, c, eg, hgb, hgl⟩ := ho.blk (by have := HPm.out; omega)
      simp only [Value.slice.injEq] at eg
      obtain ⟨rfl, hx, rfl⟩ := eg
      clear hx
      have hkp : k < P'.length := by have := HPm.out; omega
      have hd32 := ho.1.at_ hkp
      obtain ⟨g', o', c', e', hrg, _⟩ := (ho.digs (by omega)).at_ hkp
      simp only [Value.slice.injEq, Option.some.injEq, Addr.mk.injEq, and_true] at e'
      obtain ⟨⟨rfl, rfl⟩, hx, rfl⟩ := e'
      clear hx
      obtain ⟨b0, hb0⟩ : ∃ b0, (P'[k]?.getD [])[0]?.getD 0 = b0 := ⟨_, rfl⟩
      have hc0 : wr.cell? ⟨g, k * 32, none⟩ = some (.int .u8 (bv b0)) := by
        have := hrg 0 (.int .u8 (bv b0)) (by rw [Array.getElem?_toList, byteCells_at _ 0 (by omega), hb0])
        simpa using this
      have hset := ho.setFst k (b0 + 1) hkp
      have hfr : wr.frozen? ⟨g, k * 32, none⟩ = false := by
        rcases ho.2.2 with ⟨e, _⟩ | ⟨g1, cap1, cur1, e, _, hg1', _⟩
        · cases e
        · simp only [Value.slice.injEq, Option.some.injEq, Addr.mk.injEq, and_true] at e
          obtain ⟨rfl, _, _⟩ := e
          exact (show Has wr g cur1 30 from hg1').free _
      clear hb0 hrg
      go_wp2_with fail
      refine wp_region_K (S := fun X => X.cell? ⟨g, k * 32, none⟩ = some (.int .u8 (bv b0))) (fun i => decide (i < 10)) (by kernel_rfl) ?_
      refine K_take (i := 0) (v := .slice (some ⟨g, 0, none⟩) n c1) rfl (by kernel_rfl) (by kernel_rfl) (by kernel_rfl) (by kernel_rfl) (by kernel_rfl) (by kernel_rfl) (fun w' hS => by go_simp) hc0 ?_
      refine K_take (i := 1) (v := .int .i64 ((k : Nat) : Int)) rfl (by kernel_rfl) (by kernel_rfl) (by kernel_rfl) (by kernel_rfl) (by kernel_rfl) (by kernel_rfl) (fun w' hS => by go_simp) hc0 ?_
      refine K_take (i := 2) (v := .slice (some ⟨g, 0, none⟩) n c1) rfl (by kernel_rfl) (by kernel_rfl) (by kernel_rfl) (by kernel_rfl) (by kernel_rfl) (by kernel_rfl) (fun w' hS => by go_simp) hc0 ?_
      refine K_take (i := 3) (v := .int .i64 ((k : Nat) : Int)) rfl (by kernel_rfl) (by kernel_rfl) (by kernel_rfl) (by kernel_rfl) (by kernel_rfl) (by kernel_rfl) (fun w' hS => by go_simp) hc0 ?_
      refine K_take (i := 4) (v := .pointer (some ⟨g, k * 32, none⟩)) rfl (by kernel_rfl) (by kernel_rfl) (by kernel_rfl) (by kernel_rfl) (by kernel_rfl) (by kernel_rfl) (fun w' hS => by go_simp) hc0 ?_
      refine K_take (i := 5) (v := .pointer (some ⟨g, k * 32, none⟩)) rfl (by kernel_rfl) (by kernel_rfl) (by kernel_rfl) (by kernel_rfl) (by kernel_rfl) (by kernel_rfl) (fun w' hS => by go_simp) hc0 ?_
      refine K_take (i := 6) (v := .int .u8 (bv b0)) rfl (by kernel_rfl) (by kernel_rfl) (by kernel_rfl) (by kernel_rfl) (by kernel_rfl) (by kernel_rfl) (fun w' hS => by go_simp) hc0 ?_
      refine K_take (i := 7) (v := .int .u8 (bv (b0 + 1))) rfl (by kernel_rfl) (by kernel_rfl) (by kernel_rfl) (by kernel_rfl) (by kernel_rfl) (by kernel_rfl) (fun w' hS => by go_simp; exact wrap_byte b0) hc0 ?_
      refine K_take (i := 8) (v := .pointer (some ⟨g, k * 32, none⟩)) rfl (by kernel_rfl) (by kernel_rfl) (by kernel_rfl) (by kernel_rfl) (by kernel_rfl) (by kernel_rfl) (fun w' hS => by go_simp) hc0 ?_
      refine K_take (i := 9) (v := .pointer (some ⟨g, k * 32, none⟩)) rfl (by kernel_rfl) (by kernel_rfl) (by kernel_rfl) (by kernel_rfl) (by kernel_rfl) (by kernel_rfl) (fun w' hS => by go_simp) hc0 ?_
      refine K_next (i := 10) (by kernel_rfl) rfl (by kernel_rfl) (fun K hK => ?_)
      go_simp
      refine hK _ _ (fun h => absurd h (by decide)) (K_done (by kernel_rfl) ?_)
      clear hK
      refine named (p := fun X => Exit.inBlock 1 _ _ _ X) ?_
      intro W5 hW5
      have hX : Ex g wr W5 := by rw [hW5]; first | exact Ex.set g wr (k * 32) _ | exact (show Ex g wr wr.drew from ⟨rfl, rfl, rfl, Nat.le_refl _, fun _ _ _ => rfl⟩).trans (Ex.set g wr.drew (k * 32) _) | exact (Ex.set g wr (k * 32) _).trans ⟨rfl, rfl, rfl, Nat.le_refl _, fun _ _ _ => rfl⟩
      have hset2 : OwnD W0.heap.size W5 (.slice (some ⟨g, 0, none⟩) n c1) (setFst P' k (b0 + 1)) := by rw [hW5]; first | exact hset | exact hset.below (Below.refl _ _).drew
      have hBn : Below W0.heap.size W0 W5 := hBr.trans (hX.low hgb hBr.size)
      clear hW5 hX hset hc0 hfr
      go_wp2_with fail
      go_roundw
      case rel => exact ⟨k + 1, setFst P' k (b0 + 1), by omega, by go_num, by rw [setFst_len]; exact HPm.out, hset2, hBn⟩
      case measure => simp [intOf]; omega
    · clear hk
      go_wp2_with fail
      have hBwr : Below w.heap.size w wr := hB0.trans (hBr.mono (by omega))
      refine (troot_nil wr).mono ?_
      rintro e Wa ⟨rfl, hBa⟩
      go_upto_region 13 with (refine wpList_store_row rfl 30 _ _ rfl Wa.heap.size (zeroCells 32) rfl rfl 30 _ (has_new Wa (zeroCells 32) 30 Wa.heap.size rfl) (by kernel_rfl) rfl (by kernel_rfl) ?_)
      refine named (p := Code.wp _ _ _ _) ?_
      intro Wb hWb
      have hBb : Below Wa.heap.size Wa Wb := by
        rw [hWb]; exact ((Below.refl _ _).alloc (Nat.le_refl _) _).trans ⟨rfl, rfl, rfl, by simp, fun j hj => setRow_other _ _ _ _ (by omega)⟩
      clear hWb
      have hBrb : Below wr.heap.size wr Wb := hBa.trans (hBb.mono hBa.size)
      clear hBa hBb
      go_wp2_with fail
      refine (leaf_bad (.pointer none) 0 1 Wb (by decide) (fun w1 _ => asked_nil 0 w1)).mono ?_
      rintro e Wc ⟨rfl, hBc⟩
      go_upto_region 14 with (refine wpList_store_row rfl 30 _ _ rfl Wc.heap.size (zeroCells 32) rfl rfl 30 _ (has_new Wc (zeroCells 32) 30 Wc.heap.size rfl) (by kernel_rfl) rfl (by kernel_rfl) ?_)
      refine named (p := Code.wp _ _ _ _) ?_
      intro Wd hWd
      have hBd : Below Wc.heap.size Wc Wd := by
        rw [hWd]; exact ((Below.refl _ _).alloc (Nat.le_refl _) _).trans ⟨rfl, rfl, rfl, by simp, fun j hj => setRow_other _ _ _ _ (by omega)⟩
      clear hWd
      have hBrd : Below wr.heap.size wr Wd := hBrb.trans ((hBc.trans (hBd.mono hBc.size)).mono hBrb.size)
      clear hBc hBd hBrb
      go_wp2_with fail
      refine (path_bad (.pointer none) 0 1 Wd (by decide) (fun w1 _ => asked_nil 0 w1)).mono ?_
      rintro e We ⟨rfl, hBe⟩
      have hBre : Below wr.heap.size wr We := hBrd.trans (hBe.mono hBrd.size)
      clear hBe hBrd
      have hfn := func_ne
      go_wp2_with (go_at_call 19; refine (trows_any _ _ rfl _).mono ?_; rintro e w' ⟨rfl, hw⟩; obtain rfl := hw.symm)
      refine (wpIn_wide (n := 10)).1 ?_
      refine named (p := Code.wpIn _ _ _ _ _ _) ?_
      intro W7 hW7
      have hz : W7.heap.size = We.heap.size + 2 := by rw [hW7]; simp
      have hBe7 : Below We.heap.size We W7 := by
        rw [hW7]
        repeat (first | exact Below.refl _ _ | refine Below.alloc ?_ (by simp <;> omega) _)
      have zb : Has W7 (We.heap.size + 1) #[.pointer none] 24 := by
        rw [hW7]; repeat (first | (refine has_new _ _ _ _ ?_; simp; done) | refine has_old ?_)
      clear hW7 hfn
      have hBr7 : Below wr.heap.size wr W7 := hBre.trans (hBe7.mono hBre.size)
      obtain ⟨z, hzz⟩ : ∃ z, We.heap.size = z := ⟨_, rfl⟩
      rw [hzz] at hz zb ⊢
      have hz7 : W0.heap.size ≤ z := by have := hBr.size; have := hBre.size; omega
      try simp only [Nat.add_assoc, Nat.reduceAdd]
      clear hzz hBe7 hBre
      refine wp_range_leave (gf := 37) (lb := #[.pointer (some ⟨z + 1, 0, none⟩)]) rfl (Go.Proofs.enters_of Tryd.func37 (by kernel_rfl) rfl)
        (fun W => Below W7.heap.size W7 W ∧ W.heap[z + 2]? = some (.deferred (some []))) (fun _ _ => False) ?call ?done ?left
      case left => intro c W3 W4 h; exact h.elim
      case call =>
        intro fn Wc hB0c hzc hDc hlc
        have zc := zb.below hB0c zb.lt
        rw [hz] at hDc ⊢
        exact (rows1_nil _ _ (z + 1) Wc zc).mono (by rintro e W' ⟨rfl, hw⟩; obtain rfl := hw.symm; exact ⟨⟨_, rfl⟩, .inl ⟨rfl, hz ▸ hB0c, hDc⟩⟩)
      case done =>
        rintro Wx Wy ⟨hx1, hx2⟩ hE hsE
        have hlx : z + 2 < Wx.heap.size := (Array.getElem?_eq_some_iff.1 hx2).1
        have hB7y : Below W7.heap.size W7 Wy := hx1.trans (hE.low (by omega) hx1.size)
        have hDy : Wy.heap[z + 2]? = some (.deferred (some [])) := (hE.block _ hlx (by omega)).trans hx2
        have hBry : Below wr.heap.size wr Wy := hBr7.trans (hB7y.mono hBr7.size)
        have hB0y : Below W0.heap.size W0 Wy := hBr.trans (hBry.mono hBr.size)
        have hBwy : Below w.heap.size w Wy := hB0.trans (hB0y.mono (by omega))
        have xy := x0.below hB0y x0.lt
        have hly := (Array.getElem?_eq_some_iff.1 hDy).1
        have hgy := hg.below hBwy hg.size
        rw [hz]
        clear hx1 hx2 hlx hE hsE hBr7 hB7y hBry zb hBr ho HPm hB04 ho4 hB03
        have hwk := works_any Wy hgy
        by_cases h1 : n < 1
        · have q1 : decide ((n : Int) < 1) = true := by simp; omega
          clear hbad h1
          go_wp2_with (first | (go_at_call 20; refine (num_any _ _).mono ?_; rintro e w' ⟨rfl, hw⟩; obtain rfl := hw.symm) | (go_at_call 21; refine (len_tnil _).mono ?_; rintro e w' ⟨rfl, hw⟩; obtain rfl := hw.symm) | (go_at_call 13; refine hwk.mono ?_; clear hwk; rintro e Wz ⟨rfl, hBz⟩; have xz := xy.below hBz xy.lt; have xzc := xz.one; have xzf := xz.free 0))
          have hX := Ex.set w.heap.size Wz 0 (.bool true)
          have hXs := hX.size
          have hsz := hBz.size
          have hBwz : Below w.heap.size w Wz := hBwy.trans (hBz.mono hBwy.size)
          have hD2 := (hX.block (z + 2) (by omega) (by omega)).trans ((hBz.block (z + 2) hly).trans hDy)
          have hBl := hBwz.trans (hX.low (Nat.le_refl _) hBwz.size)
          have xl := xz.set 0 (.bool true)
          refine ⟨by simp, .inl ⟨_, _, rfl, run_takeDeferred hD2, ?_⟩⟩
          exact ⟨_, results_bool rfl _ _ w.heap.size true rfl (xl.ex (putObj_ex _ _ _) (by omega)), rfl, hBl.trans ((putObj_ex _ _ _).low (by omega) hBl.size)⟩
        · have q1 : decide ((n : Int) < 1) = false := by simp; omega
          have q2 : decide (16 < (n : Int)) = true := by simp; omega
          clear hbad h1
          go_wp2_with (first | (go_at_call 20; refine (num_any _ _).mono ?_; rintro e w' ⟨rfl, hw⟩; obtain rfl := hw.symm) | (go_at_call 21; refine (len_tnil _).mono ?_; rintro e w' ⟨rfl, hw⟩; obtain rfl := hw.symm) | (go_at_call 13; refine hwk.mono ?_; clear hwk; rintro e Wz ⟨rfl, hBz⟩; have xz := xy.below hBz xy.lt; have xzc := xz.one; have xzf := xz.free 0))
          have hX := Ex.set w.heap.size Wz 0 (.bool true)
          have hXs := hX.size
          have hsz := hBz.size
          have hBwz : Below w.heap.size w Wz := hBwy.trans (hBz.mono hBwy.size)
          have hD2 := (hX.block (z + 2) (by omega) (by omega)).trans ((hBz.block (z + 2) hly).trans hDy)
          have hBl := hBwz.trans (hX.low (Nat.le_refl _) hBwz.size)
          have xl := xz.set 0 (.bool true)
          refine ⟨by simp, .inl ⟨_, _, rfl, run_takeDeferred hD2, ?_⟩⟩
          exact ⟨_, results_bool rfl _ _ w.heap.size true rfl (xl.ex (putObj_ex _ _ _) (by omega)), rfl, hBl.trans ((putObj_ex _ _ _).low (by omega) hBl.size)⟩
set_option maxRecDepth 100000 in
set_option maxHeartbeats 1000000 in
theorem roots_walk (v : Value) (ds : List Dig) (w : World) (hv : Digs w v ds) (hg : Glob w) :
    Calls Tryd.prog 3 #[v] w fun e w' => e = .returned (.bool true) ∧ Below w.heap.size w w' := by
  by_cases h40 : ds.length ≤ 40
  · by_cases h0 : 1 ≤ ds.length
    · by_cases h16 : ds.length ≤ 16
      · exact roots_ok v ds w hv h0 h16 hg
      · exact roots_bad v ds w hv (.inr (by omega)) h40 hg
    · exact roots_bad v ds w hv (.inl (by omega)) h40 hg
  · obtain ⟨a0, c0, rfl⟩ := hv.slice
    obtain ⟨n, hn⟩ : ∃ n, ds.length = n := ⟨_, rfl⟩
    rw [hn] at h40 ⊢
    clear hn hv
    have hd40 : decide (40 < (n : Int)) = true := by simp; omega
    refine (callsIn_wide (n := 10)).1 ?_
    refine callsIn_of_wp_marks Tryd.func3 rfl trivial ?_ rfl
    simp only [Tryd.ntmps3, List.size_toArray, List.length_cons, List.length_nil, Nat.reduceAdd, Nat.reduceSub, Array.replicate_succ, Array.replicate_zero, List.push_toArray, List.append_toArray, List.nil_append, List.cons_append]
    refine wpIn_wide.2 ?_
    go_upto_region 1 with (fail)
    refine named (p := Code.wp _ _ _ _) ?_
    intro W0 hW0
    have hB0 : Below w.heap.size w W0 := by rw [hW0]; exact (Below.refl _ _).alloc (Nat.le_refl _) _
    have x0 : Has W0 w.heap.size #[.bool false] 4 := by rw [hW0]; exact has_new _ _ _ _ rfl
    clear hW0
    have hwk := works_any W0 (hg.below hB0 hg.size)
    go_wp2_with (go_at_call 13; refine hwk.mono ?_; clear hwk; rintro e W4 ⟨rfl, hB4⟩; have x4 := x0.below hB4 x0.lt; have x4c := x4.one; have x4f := x4.free 0)
    have hB := hB0.trans (hB4.mono hB0.size)
    exact ⟨_, results_bool rfl _ _ w.heap.size true rfl (x4.set 0 (.bool true)), rfl, hB.trans ((Ex.set _ _ _ _).low (Nat.le_refl _) hB.size)⟩
end Go.Proofs.YtcmkjgodgocdfaaDoor
