/- MerkleRoots: the law's walk, where there is a tree. -/
import Derived.Test.YtcmkjgodgocdfaaDoorZq5
import Derived.Test.YtcmkjgodgocdfaaDoorZq6
namespace Go.Proofs.YtcmkjgodgocdfaaDoor
open Go.RowKit

theorem results_bool {fn : Func} {p : Tmp} (hr : fn.results = #[.cell p 4]) (tmps : Array Value) (W : World) (g : Nat) (b : Bool) (hp : tmps.getD p undef = .pointer (some ⟨g, 0, none⟩)) (hg : Has W g #[.bool b] 4) : (results fn tmps).run Tryd.prog W = .ok (.bool b) W := by
  have hp' : tmps[p]?.getD undef = .pointer (some ⟨g, 0, none⟩) := by simpa using hp
  have hc := hg.one
  simp [results, hr, hp', asAddr, loadVar, go_sem, hc, Result.andThen]
theorem func_ne (b : Nat) (w : World) : (binOp .eql 37 (.func (.func 37) #[] #[.pointer (some ⟨b, 0, none⟩)]) .nilFunc).run Tryd.prog w = .ok (.bool false) w := by
  simp only [binOp, Op.equal]
  rw [show Op.maxDepth = 9999 + 1 from rfl, Op.equalIn]
  simp [go_sem, run_underlying Tryd.underlying37, Result.andThen]
theorem TreeAt.ex {B tb b : Nat} {w w' : World} {ds : List Dig} (h : TreeAt B w tb ds) (k : Ex b w w') (hb : b < B) : TreeAt B w' tb ds := by
  obtain ⟨h1, h2, h3, v, h4, h5⟩ := h
  exact ⟨h1, h2, h3, v, h4.ex k (by omega), h5.ex k hb⟩
set_option maxRecDepth 100000 in
set_option maxHeartbeats 4000000 in
theorem roots_ok (v : Value) (ds : List Dig) (w : World) (hv : Digs w v ds) (h0 : 0 < ds.length) (h16 : ds.length ≤ 16) (hg : Glob w) :
    Calls Tryd.prog 3 #[v] w fun e w' => e = .returned (.bool true) ∧ Below w.heap.size w w' := by
  have hgs := hg.size
  have hnew := fun v W hv => tnew_any v ds W hv h0 h16
  have h40 : ds.length ≤ 40 := by omega
  have hleaf : ∀ (k : Nat), k < ds.length → ∃ leaf, ds[k]?.getD [] = leaf ∧ leaf.length = 32 := fun k hk => ⟨_, rfl, hv.1.at_ hk⟩
  have hleafok := fun (k : Nat) (hk : k < ds.length) (B tb : Nat) (W : World) (h : TreeAt B W tb ds) => leaf_ok h k hk
  have hleafno : ∀ (B tb : Nat) (W : World) (h : TreeAt B W tb ds), Calls Tryd.prog 17 #[.pointer (some ⟨tb, 0, none⟩), .int .i64 (ds.length : Int)] W fun e w' => e = .returned (.tuple #[.agg (zeroCells 32), .int .i64 4]) ∧ Below W.heap.size W w' := fun B tb W h => leaf_bad _ _ 4 W (by decide) (fun w1 hw1 => by
    have := asked_any (h.below hw1) (ds.length : Int)
    rwa [show thereB (ds.length : Int) ds.length = false by simp [thereB]] at this)
  have hlen := fun (B tb : Nat) (W : World) (h : TreeAt B W tb ds) => len_tree h
  have hroot := fun v W hv hg => refroot_any v ds W hv h16 h0 hg
  have hrg' : ∃ g0 o0 c0, v = .slice (some ⟨g0, o0, none⟩) ds.length c0 ∧ g0 < w.heap.size ∧ ∀ (k : Nat), k < ds.length → w.rangeAt g0 (o0 + k * 32) (byteCells (ds[k]?.getD [])).toList := by
    obtain ⟨g0, o0, c0, rfl, _, hg0l⟩ := hv.at_ h0
    refine ⟨g0, o0, c0, rfl, hg0l, fun k hk => ?_⟩
    obtain ⟨g', o', c', e, hr, _⟩ := hv.at_ hk
    simp only [Value.slice.injEq, Option.some.injEq, Addr.mk.injEq, and_true] at e
    obtain ⟨⟨rfl, rfl⟩, _, rfl⟩ := e
    exact hr
  have hR32 := (rootOf_spec (ds := ds) h0).2.1
  obtain ⟨RR, hRR⟩ : ∃ RR, rootOf ds = RR := ⟨_, rfl⟩
  simp only [hRR] at hR32 hroot
  have hRs : (byteCells RR).size = 32 := by rw [byteCells_size, hR32]
  obtain ⟨g0, o0, c0, rfl, hg0l, hrg⟩ := hrg'
  have h32 := hv.1
  obtain ⟨n, hn⟩ : ∃ n, ds.length = n := ⟨_, rfl⟩
  simp only [hn] at h0 h16 hleaf hleafok hleafno hlen hroot hrg hnew h40 hv ⊢
  have HN : Hid (ds.length = n) := hn
  clear hn
  have hd40 : decide (40 < (n : Int)) = false := by simp; omega
  refine (callsIn_wide (n := 10)).1 ?_
  refine callsIn_of_wp_marks Tryd.func3 rfl trivial ?_ rfl
  simp only [Tryd.ntmps3, List.size_toArray, List.length_cons, List.length_nil, Nat.reduceAdd, Nat.reduceSub, Array.replicate_succ, Array.replicate_zero, List.push_toArray, List.append_toArray, List.nil_append, List.cons_append]
  refine wpIn_wide.2 ?_
  go_upto_region 1 with (fail)
  refine named (p := Code.wp _ _ _ _) ?_
  intro W0 hW0
  have hB0 : Below w.heap.size w W0 := by rw [hW0]; exact (Below.refl _ _).alloc (Nat.le_refl _) _
  have x0 : Has W0 w.heap.size #[.bool false] 4 := by rw [hW0]; exact has_new _ _ _ _ rfl
  have hz0 : w.heap.size + 1 ≤ W0.heap.size := by rw [hW0]; simp
  have hm : OwnD W0.heap.size (W0.alloc (.cells #[] 30)) (.slice (some ⟨W0.heap.size, 0, none⟩) 0 0) [] :=
    ⟨All32.nil, World.ownsRow_made W0 #[] 0 (Nat.le_refl _) (by simp only [maxLen]; omega) rfl⟩
  have hBm := (Below.refl W0.heap.size W0).alloc (Nat.le_refl _) (.cells #[] 30)
  have hv1 := (hv.below hB0).below hBm
  clear hW0
  go_wp2_with (refine wpList_append_digs rfl _ _ rfl W0.heap.size _ _ [] ds rfl rfl hm hv1 (by have := HN.out; simp; omega) (by simp) ?_; intro v2 W2 ho2 hg2)
  have hB02 : Below W0.heap.size W0 W2 := hBm.trans (grown_low2 hm.2 hg2 (by simp))
  rw [List.nil_append] at ho2
  obtain ⟨a1, c1, hv2⟩ := ho2.slice
  rw [HN.out] at hv2
  subst hv2
  have hs02 := hB02.size
  clear hm hBm hv1 hg2
  have hm2 : ∀ g, a1 = some ⟨g, 0, none⟩ → g < W2.heap.size := fun g e => by
    subst e; exact (ho2.2.lt g rfl).2
  have hnew2 := hnew _ W2 (ho2.digs (by omega))
  go_wp2_with fail
  refine hnew2.mono ?_
  clear hnew2 hnew
  rintro e W3 ⟨tb, rfl, hT3, hB23⟩
  have hm3 := ho2.below hB23
  have hB03 : Below W0.heap.size W0 W3 := hB02.trans (hB23.mono hs02)
  obtain ⟨CT, hCT⟩ : ∃ C, W2.heap.size = C := ⟨_, rfl⟩
  rw [hCT] at hT3 hm2
  have hmCT := hm2
  have hCT0 : W0.heap.size ≤ CT := by omega
  have hs02 := hB03.size
  clear hCT ho2 hB02 hB23 hm2
  have hBw3 : Below w.heap.size w W3 := hB0.trans (hB03.mono (by omega))
  have hsame := same_yes _ _ ds W3 (hm3.digs (by omega)) (hv.below hBw3) (by have := HN.out; omega)
  go_wp2_with fail
  refine hsame.mono ?_
  clear hsame
  rintro e W4 ⟨rfl, hB34⟩
  have ho4 := hm3.below hB34
  have hB04 : Below W0.heap.size W0 W4 := hB03.trans (hB34.mono hB03.size)
  have hT4 := hT3.below hB34
  have hs4 := hB34.size
  clear hB34 hm3
  go_wp2_with fail
  go_loopw [6] (fun kv wr => ∃ (k : Nat) (P' : List Dig), k ≤ n ∧ kv = .int .i64 k ∧ P'.length = n ∧ OwnD W0.heap.size wr (.slice a1 n c1) P' ∧ Below W0.heap.size W0 wr ∧ TreeAt CT wr tb ds) (fun kv _ => n - (intOf kv).toNat)
  case atStart => exact ⟨0, ds, Nat.zero_le _, rfl, HN.out, ho4, hB04, hT4⟩
  case round =>
    obtain ⟨k, P', hk, rfl, hPm, ho, hBr, hTr⟩ := hrel
    have HPm : Hid (P'.length = n) := hPm
    clear hPm
    by_cases hlt : k < n
    · obtain ⟨g, c, eg, hgb, hgl⟩ := ho.blk (by have := HPm.out; omega)
      simp only [Value.slice.injEq] at eg
      obtain ⟨rfl, hx, rfl⟩ := eg
      clear hx
      have hkp : k < P'.length := by have := HPm.out; omega
      have hd32 := ho.1.at_ hkp
      obtain ⟨g', o', c', e', hrg, _⟩ := (ho.digs (by omega)).at_ hkp
      simp only [Value.slice.injEq, Option.some.injEq, Addr.mk.injEq, and_true] at e'
      obtain ⟨⟨rfl, rfl⟩, hx, rfl⟩ := e'
      clear hx
      obtain ⟨b0, hb0⟩ : ∃ b0, (P'[k]?.getD [])[0]?.getD 0 = b0 := ⟨_, rfl⟩
      have hc0 : wr.cell? ⟨g, k * 32, none⟩ = some (.int .u8 (bv b0)) := by
        have := hrg 0 (.int .u8 (bv b0)) (by rw [Array.getElem?_toList, byteCells_at _ 0 (by omega), hb0])
        simpa using this
      have hset := ho.setFst k (b0 + 1) hkp
      have hfr : wr.frozen? ⟨g, k * 32, none⟩ = false := by
        rcases ho.2.2 with ⟨e, _⟩ | ⟨g1, cap1, cur1, e, _, hg1', _⟩
        · cases e
        · simp only [Value.slice.injEq, Option.some.injEq, Addr.mk.injEq, and_true] at e
          obtain ⟨rfl, _, _⟩ := e
          exact (show Has wr g cur1 30 from hg1').free _
      have hgt : g < CT := hmCT g rfl
      clear hb0 hrg
      go_wp2_with fail
      refine wp_region_K (S := fun X => X.cell? ⟨g, k * 32, none⟩ = some (.int .u8 (bv b0))) (fun i => decide (i < 10)) (by kernel_rfl) ?_
      refine K_take (i := 0) (v := .slice (some ⟨g, 0, none⟩) n c1) rfl (by kernel_rfl) (by kernel_rfl) (by kernel_rfl) (by kernel_rfl) (by kernel_rfl) (by kernel_rfl) (fun w' hS => by go_simp) hc0 ?_
      refine K_take (i := 1) (v := .int .i64 ((k : Nat) : Int)) rfl (by kernel_rfl) (by kernel_rfl) (by kernel_rfl) (by kernel_rfl) (by kernel_rfl) (by kernel_rfl) (fun w' hS => by go_simp) hc0 ?_
      refine K_take (i := 2) (v := .slice (some ⟨g, 0, none⟩) n c1) rfl (by kernel_rfl) (by kernel_rfl) (by kernel_rfl) (by kernel_rfl) (by kernel_rfl) (by kernel_rfl) (fun w' hS => by go_simp) hc0 ?_
      refine K_take (i := 3) (v := .int .i64 ((k : Nat) : Int)) rfl (by kernel_rfl) (by kernel_rfl) (by kernel_rfl) (by kernel_rfl) (by kernel_rfl) (by kernel_rfl) (fun w' hS => by go_simp) hc0 ?_
      refine K_take (i := 4) (v := .pointer (some ⟨g, k * 32, none⟩)) rfl (by kernel_rfl) (by kernel_rfl) (by kernel_rfl) (by kernel_rfl) (by kernel_rfl) (by kernel_rfl) (fun w' hS => by go_simp) hc0 ?_
      refine K_take (i := 5) (v := .pointer (some ⟨g, k * 32, none⟩)) rfl (by kernel_rfl) (by kernel_rfl) (by kernel_rfl) (by kernel_rfl) (by kernel_rfl) (by kernel_rfl) (fun w' hS => by go_simp) hc0 ?_
      refine K_take (i := 6) (v := .int .u8 (bv b0)) rfl (by kernel_rfl) (by kernel_rfl) (by kernel_rfl) (by kernel_rfl) (by kernel_rfl) (by kernel_rfl) (fun w' hS => by go_simp) hc0 ?_
      refine K_take (i := 7) (v := .int .u8 (bv (b0 + 1))) rfl (by kernel_rfl) (by kernel_rfl) (by kernel_rfl) (by kernel_rfl) (by kernel_rfl) (by kernel_rfl) (fun w' hS => by go_simp; exact wrap_byte b0) hc0 ?_
      refine K_take (i := 8) (v := .pointer (some ⟨g, k * 32, none⟩)) rfl (by kernel_rfl) (by kernel_rfl) (by kernel_rfl) (by kernel_rfl) (by kernel_rfl) (by kernel_rfl) (fun w' hS => by go_simp) hc0 ?_
      refine K_take (i := 9) (v := .pointer (some ⟨g, k * 32, none⟩)) rfl (by kernel_rfl) (by kernel_rfl) (by kernel_rfl) (by kernel_rfl) (by kernel_rfl) (by kernel_rfl) (fun w' hS => by go_simp) hc0 ?_
      refine K_next (i := 10) (by kernel_rfl) rfl (by kernel_rfl) (fun K hK => ?_)
      go_simp
      refine hK _ _ (fun h => absurd h (by decide)) (K_done (by kernel_rfl) ?_)
      clear hK
      refine named (p := fun X => Exit.inBlock 1 _ _ _ X) ?_
      intro W5 hW5
      have hX : Ex g wr W5 := by rw [hW5]; first | exact Ex.set g wr (k * 32) _ | exact (show Ex g wr wr.drew from ⟨rfl, rfl, rfl, Nat.le_refl _, fun _ _ _ => rfl⟩).trans (Ex.set g wr.drew (k * 32) _) | exact (Ex.set g wr (k * 32) _).trans ⟨rfl, rfl, rfl, Nat.le_refl _, fun _ _ _ => rfl⟩
      have hset2 : OwnD W0.heap.size W5 (.slice (some ⟨g, 0, none⟩) n c1) (setFst P' k (b0 + 1)) := by rw [hW5]; first | exact hset | exact hset.below (Below.refl _ _).drew
      have hBn : Below W0.heap.size W0 W5 := hBr.trans (hX.low hgb hBr.size)
      have hT5 : TreeAt CT W5 tb ds := hTr.ex hX hgt
      clear hW5 hX hset hc0 hfr
      go_wp2_with fail
      go_roundw
      case rel => exact ⟨k + 1, setFst P' k (b0 + 1), by omega, by go_num, by rw [setFst_len]; exact HPm.out, hset2, hBn, hT5⟩
      case measure => simp [intOf]; omega
    · clear hk
      go_wp2_with fail
      have hBwr : Below w.heap.size w wr := hB0.trans (hBr.mono (by omega))
      refine (troot_nil wr).mono ?_
      rintro e Wa ⟨rfl, hBa⟩
      go_upto_region 13 with (refine wpList_store_row rfl 30 _ _ rfl Wa.heap.size (zeroCells 32) rfl rfl 30 _ (has_new Wa (zeroCells 32) 30 Wa.heap.size rfl) (by kernel_rfl) rfl (by kernel_rfl) ?_)
      refine named (p := Code.wp _ _ _ _) ?_
      intro Wb hWb
      have hBb : Below Wa.heap.size Wa Wb := by
        rw [hWb]; exact ((Below.refl _ _).alloc (Nat.le_refl _) _).trans ⟨rfl, rfl, rfl, by simp, fun j hj => setRow_other _ _ _ _ (by omega)⟩
      clear hWb
      have hBrb : Below wr.heap.size wr Wb := hBa.trans (hBb.mono hBa.size)
      clear hBa hBb
      go_wp2_with fail
      refine (leaf_bad (.pointer none) 0 1 Wb (by decide) (fun w1 _ => asked_nil 0 w1)).mono ?_
      rintro e Wc ⟨rfl, hBc⟩
      go_upto_region 14 with (refine wpList_store_row rfl 30 _ _ rfl Wc.heap.size (zeroCells 32) rfl rfl 30 _ (has_new Wc (zeroCells 32) 30 Wc.heap.size rfl) (by kernel_rfl) rfl (by kernel_rfl) ?_)
      refine named (p := Code.wp _ _ _ _) ?_
      intro Wd hWd
      have hBd : Below Wc.heap.size Wc Wd := by
        rw [hWd]; exact ((Below.refl _ _).alloc (Nat.le_refl _) _).trans ⟨rfl, rfl, rfl, by simp, fun j hj => setRow_other _ _ _ _ (by omega)⟩
      clear hWd
      have hBrd : Below wr.heap.size wr Wd := hBrb.trans ((hBc.trans (hBd.mono hBc.size)).mono hBrb.size)
      clear hBc hBd hBrb
      go_wp2_with fail
      refine (path_bad (.pointer none) 0 1 Wd (by decide) (fun w1 _ => asked_nil 0 w1)).mono ?_
      rintro e We ⟨rfl, hBe⟩
      have hBre : Below wr.heap.size wr We := hBrd.trans (hBe.mono hBrd.size)
      clear hBe hBrd
      have hfn := func_ne
      go_wp2_with (go_at_call 19; refine (trows_any _ _ rfl _).mono ?_; rintro e w' ⟨rfl, hw⟩; obtain rfl := hw.symm)
      refine (wpIn_wide (n := 10)).1 ?_
      refine named (p := Code.wpIn _ _ _ _ _ _) ?_
      intro W7 hW7
      have hz : W7.heap.size = We.heap.size + 2 := by rw [hW7]; simp
      have hBe7 : Below We.heap.size We W7 := by
        rw [hW7]
        repeat (first | exact Below.refl _ _ | refine Below.alloc ?_ (by simp <;> omega) _)
      have zb : Has W7 (We.heap.size + 1) #[.pointer none] 24 := by
        rw [hW7]; repeat (first | (refine has_new _ _ _ _ ?_; simp; done) | refine has_old ?_)
      clear hW7 hfn
      have hBr7 : Below wr.heap.size wr W7 := hBre.trans (hBe7.mono hBre.size)
      obtain ⟨z, hzz⟩ : ∃ z, We.heap.size = z := ⟨_, rfl⟩
      rw [hzz] at hz zb ⊢
      have hz7 : W0.heap.size ≤ z := by have := hBr.size; have := hBre.size; omega
      try simp only [Nat.add_assoc, Nat.reduceAdd]
      clear hzz hBe7 hBre
      refine wp_range_leave (gf := 37) (lb := #[.pointer (some ⟨z + 1, 0, none⟩)]) rfl (Go.Proofs.enters_of Tryd.func37 (by kernel_rfl) rfl)
        (fun W => Below W7.heap.size W7 W ∧ W.heap[z + 2]? = some (.deferred (some []))) (fun _ _ => False) ?call ?done ?left
      case left => intro c W3 W4 h; exact h.elim
      case call =>
        intro fn Wc hB0c hzc hDc hlc
        have zc := zb.below hB0c zb.lt
        rw [hz] at hDc ⊢
        exact (rows1_nil _ _ (z + 1) Wc zc).mono (by rintro e W' ⟨rfl, hw⟩; obtain rfl := hw.symm; exact ⟨⟨_, rfl⟩, .inl ⟨rfl, hz ▸ hB0c, hDc⟩⟩)
      case done =>
        rintro Wx Wy ⟨hx1, hx2⟩ hE hsE
        have hlx : z + 2 < Wx.heap.size := (Array.getElem?_eq_some_iff.1 hx2).1
        have hB7y : Below W7.heap.size W7 Wy := hx1.trans (hE.low (by omega) hx1.size)
        have hDy : Wy.heap[z + 2]? = some (.deferred (some [])) := (hE.block _ hlx (by omega)).trans hx2
        have hBry : Below wr.heap.size wr Wy := hBr7.trans (hB7y.mono hBr7.size)
        have hB0y : Below W0.heap.size W0 Wy := hBr.trans (hBry.mono hBr.size)
        have hBwy : Below w.heap.size w Wy := hB0.trans (hB0y.mono (by omega))
        have xy := x0.below hB0y x0.lt
        have hly := (Array.getElem?_eq_some_iff.1 hDy).1
        have hTy := hTr.below hBry
        have hgy := hg.below hBwy hg.size
        rw [hz]
        clear hx1 hx2 hlx hE hsE hBr7 hB7y hBry zb hBr ho HPm hB04 ho4 hB03
        have q1 : decide ((n : Int) < 1) = false := by simp; omega
        have q2 : decide (16 < (n : Int)) = false := by simp; omega
        have hrt := troot_any hTy hgy
        rw [hRR] at hrt
        go_wp2_with (first | (go_at_call 20; refine (num_any _ _).mono ?_; rintro e w' ⟨rfl, hw⟩; obtain rfl := hw.symm) | (go_at_call 21; refine (len_tnil _).mono ?_; rintro e w' ⟨rfl, hw⟩; obtain rfl := hw.symm))
        refine hrt.mono ?_
        clear hrt
        rintro e W8 ⟨rfl, hB8⟩
        have hn8 := has_new W8 (zeroCells 32) 30 W8.heap.size rfl
        go_upto_region 24 with (refine wpList_store_row rfl 30 _ _ rfl W8.heap.size (byteCells RR) rfl rfl 30 _ hn8 (by rw [hRs]; kernel_rfl) (by rw [hRs, zeroCells_size]) (byteCells_one _) ?_)
        refine named (p := Code.wp _ _ _ _) ?_
        intro W9 hW9
        have hB89 : Below W8.heap.size W8 W9 := by
          rw [hW9]; exact ((Below.refl _ _).alloc (Nat.le_refl _) _).trans ⟨rfl, rfl, rfl, by simp, fun j hj => setRow_other _ _ _ _ (by omega)⟩
        have z14 : Has W9 W8.heap.size (byteCells RR) 30 := by rw [hW9]; exact setRow_heap _ _ _ _ _ _ hn8
        clear hW9 hn8
        have hBy9 : Below Wy.heap.size Wy W9 := hB8.trans (hB89.mono hB8.size)
        obtain ⟨b14, hb14⟩ : ∃ b, W8.heap.size = b := ⟨_, rfl⟩
        rw [hb14] at z14 ⊢
        clear hb14 hB8 hB89
        go_wp2_with fail
        go_loopw [16] (fun kv wq => ∃ (k : Nat), k ≤ n ∧ kv = .int .i64 k ∧ Below W9.heap.size W9 wq) (fun kv _ => n - (intOf kv).toNat)
        case atStart => exact ⟨0, Nat.zero_le _, rfl, Below.refl _ _⟩
        case round =>
          obtain ⟨k, hk, rfl, hBq⟩ := hrel
          have hBwq : Below w.heap.size w wr := hBwy.trans ((hBy9.trans (hBq.mono hBy9.size)).mono hBwy.size)
          have hByq : Below Wy.heap.size Wy wr := hBy9.trans (hBq.mono hBy9.size)
          have hTq := hTy.below hByq
          by_cases hlt : k < n
          · obtain ⟨leaf, hle, hl32⟩ := hleaf k hlt
            have hrg0 := hrg k hlt
            have hlf := hleafok k hlt _ tb wr hTq
            rw [hle] at hrg0 hlf
            clear hle
            have hls : (byteCells leaf).size = 32 := by rw [byteCells_size, hl32]
            go_wp2_with fail
            refine hlf.mono ?_
            clear hlf
            rintro e Wj ⟨rfl, hBj⟩
            have hnj := has_new Wj (zeroCells 32) 30 Wj.heap.size rfl
            go_upto_region 28 with (refine wpList_store_row rfl 30 _ _ rfl Wj.heap.size (byteCells leaf) rfl rfl 30 _ hnj (by rw [hls]; kernel_rfl) (by rw [hls, zeroCells_size]) (byteCells_one _) ?_)
            refine named (p := Code.wp _ _ _ _) ?_
            intro Wk hWk
            have hBjk : Below Wj.heap.size Wj Wk := by
              rw [hWk]; exact ((Below.refl _ _).alloc (Nat.le_refl _) _).trans ⟨rfl, rfl, rfl, by simp, fun j hj => setRow_other _ _ _ _ (by omega)⟩
            have z17 : Has Wk Wj.heap.size (byteCells leaf) 30 := by rw [hWk]; exact setRow_heap _ _ _ _ _ _ hnj
            clear hWk hnj
            have hBrk : Below wr.heap.size wr Wk := hBj.trans (hBjk.mono hBj.size)
            have hBwk : Below w.heap.size w Wk := hBwq.trans (hBrk.mono hBwq.size)
            have hBqk : Below W9.heap.size W9 Wk := hBq.trans (hBrk.mono hBq.size)
            obtain ⟨b17, hb17⟩ : ∃ b, Wj.heap.size = b := ⟨_, rfl⟩
            rw [hb17] at z17 ⊢
            clear hb17 hBj hBjk
            have hrgk := rangeAt_block hrg0 (hBwk.block g0 hg0l)
            have hg0k : g0 < Wk.heap.size := Nat.lt_of_lt_of_le hg0l hBwk.size
            have hq : ∀ w, (Op.equalIn 10000 30 (.agg (byteCells leaf)) (.agg (byteCells leaf))).run Tryd.prog w = .ok true w := fun w => by have := eq_dig leaf leaf hl32 hl32 w; rwa [show (leaf == leaf) = true by simp] at this
            have hSk : Below Wk.heap.size Wk Wk.drew := (Below.refl _ _).drew
            refine wp_region_K (S := fun X => Below Wk.heap.size Wk X) (fun _ => true) (by kernel_rfl) ?_
            refine K_take (i := 0) (v := .agg (byteCells leaf)) rfl (by kernel_rfl) (by kernel_rfl) (by kernel_rfl) (by kernel_rfl) (by kernel_rfl) (by kernel_rfl) (fun w' hS => run_load_row _ rfl b17 (by kernel_rfl) leaf hl32 (z17.below hS z17.lt)) hSk ?_
            refine K_take (i := 1) (v := .slice (some ⟨g0, o0, none⟩) n c0) rfl (by kernel_rfl) (by kernel_rfl) (by kernel_rfl) (by kernel_rfl) (by kernel_rfl) (by kernel_rfl) (fun w' hS => by go_simp) hSk ?_
            refine K_take (i := 2) (v := .int .i64 ((k : Nat) : Int)) rfl (by kernel_rfl) (by kernel_rfl) (by kernel_rfl) (by kernel_rfl) (by kernel_rfl) (by kernel_rfl) (fun w' hS => by go_simp) hSk ?_
            refine K_take (i := 3) (v := .pointer (some ⟨g0, o0 + k * 32, none⟩)) rfl (by kernel_rfl) (by kernel_rfl) (by kernel_rfl) (by kernel_rfl) (by kernel_rfl) (by kernel_rfl) (fun w' hS => by go_simp) hSk ?_
            refine K_take (i := 4) (v := .agg (byteCells leaf)) rfl (by kernel_rfl) (by kernel_rfl) (by kernel_rfl) (by kernel_rfl) (by kernel_rfl) (by kernel_rfl) (fun w' hS => run_load_mid _ rfl g0 (o0 + k * 32) (by kernel_rfl) leaf hl32 (rangeAt_block hrgk (hS.block g0 hg0k))) hSk ?_
            refine K_take (i := 5) (v := .bool false) rfl (by kernel_rfl) (by kernel_rfl) (by kernel_rfl) (by kernel_rfl) (by kernel_rfl) (by kernel_rfl) (fun w' hS => by go_simp) hSk ?_
            refine K_take (i := 6) (v := .bool false) rfl (by kernel_rfl) (by kernel_rfl) (by kernel_rfl) (by kernel_rfl) (by kernel_rfl) (by kernel_rfl) (fun w' hS => by go_simp) hSk ?_
            refine K_take (i := 7) (v := .int .i64 0) rfl (by kernel_rfl) (by kernel_rfl) (by kernel_rfl) (by kernel_rfl) (by kernel_rfl) (by kernel_rfl) (fun w' hS => by go_simp) hSk ?_
            refine K_next (i := 8) (by kernel_rfl) rfl (by kernel_rfl) (fun K hK => ?_)
            go_simp
            refine (num_any _ _).mono ?_
            rintro e w' ⟨rfl, hw⟩
            obtain rfl := hw.symm
            refine hK _ _ (fun _ => hSk) ?_
            clear hK
            refine K_take (i := 9) (v := .bool false) rfl (by kernel_rfl) (by kernel_rfl) (by kernel_rfl) (by kernel_rfl) (by kernel_rfl) (by kernel_rfl) (fun w' hS => by go_simp) hSk ?_
            refine K_take (i := 10) (v := .bool false) rfl (by kernel_rfl) (by kernel_rfl) (by kernel_rfl) (by kernel_rfl) (by kernel_rfl) (by kernel_rfl) (fun w' hS => by go_simp) hSk ?_
            refine K_done (by kernel_rfl) ?_
            go_simp
            go_wp2_with fail
            go_roundw
            case rel => exact ⟨k + 1, by omega, by go_num, hBqk.trans (hSk.mono hBqk.size)⟩
            case measure => simp [intOf]; omega
          · obtain rfl : n = k := by omega
            have hlf := hleafno _ tb wr hTq
            go_wp2_with fail
            refine hlf.mono ?_
            clear hlf hlt hk
            rintro e Wj ⟨rfl, hBj⟩
            have hnj := has_new Wj (zeroCells 32) 30 Wj.heap.size rfl
            go_upto_region 31 with (refine wpList_store_row rfl 30 _ _ rfl Wj.heap.size (zeroCells 32) rfl rfl 30 _ hnj (by kernel_rfl) rfl (by kernel_rfl) ?_)
            refine named (p := Code.wp _ _ _ _) ?_
            intro Wn hWn
            have hBjn : Below Wj.heap.size Wj Wn := by
              rw [hWn]; exact ((Below.refl _ _).alloc (Nat.le_refl _) _).trans ⟨rfl, rfl, rfl, by simp, fun j hj => setRow_other _ _ _ _ (by omega)⟩
            clear hWn hnj
            have hBrn : Below wr.heap.size wr Wn := hBj.trans (hBjn.mono hBj.size)
            have hByn : Below Wy.heap.size Wy Wn := hByq.trans (hBrn.mono hByq.size)
            have hBwn : Below w.heap.size w Wn := hBwy.trans (hByn.mono hBwy.size)
            have hTn := hTy.below hByn
            have xn := xy.below hByn xy.lt
            have z14n := (z14.below hBq z14.lt).below hBrn (by have := z14.lt; have := hBq.size; omega)
            have hDn := (hByn.block (z + 2) hly).trans hDy
            have hlyn : z + 2 < Wn.heap.size := by have := hByn.size; omega
            have hq : ∀ w, (Op.equalIn 10000 30 (.agg (byteCells RR)) (.agg (byteCells RR))).run Tryd.prog w = .ok true w := fun w => by have := eq_dig RR RR hR32 hR32 w; rwa [show (RR == RR) = true by simp] at this
            have hSn : Below Wn.heap.size Wn Wn.drew := (Below.refl _ _).drew
            clear hBj hBjn
            refine wp_region_K (S := fun X => Below Wn.heap.size Wn X) (fun i => decide (i < 27)) (by kernel_rfl) ?_
            refine K_take (i := 0) (v := .int .i64 0) rfl (by kernel_rfl) (by kernel_rfl) (by kernel_rfl) (by kernel_rfl) (by kernel_rfl) (by kernel_rfl) (fun w' hS => by go_simp) hSn ?_
            refine K_take (i := 2) (v := .int .i64 0) rfl (by kernel_rfl) (by kernel_rfl) (by kernel_rfl) (by kernel_rfl) (by kernel_rfl) (by kernel_rfl) (fun w' hS => by go_simp) hSn ?_
            refine K_next (i := 1) (by kernel_rfl) rfl (by kernel_rfl) (fun K hK => ?_)
            go_simp
            refine (num_any _ _).mono ?_
            rintro e w' ⟨rfl, hw⟩
            obtain rfl := hw.symm
            refine hK _ _ (fun _ => hSn) ?_
            clear hK
            refine K_next (i := 3) (by kernel_rfl) rfl (by kernel_rfl) (fun K hK => ?_)
            go_simp
            refine (num_any _ _).mono ?_
            rintro e w' ⟨rfl, hw⟩
            obtain rfl := hw.symm
            refine hK _ _ (fun _ => hSn) ?_
            clear hK
            refine K_take (i := 4) (v := .int .i64 0) rfl (by kernel_rfl) (by kernel_rfl) (by kernel_rfl) (by kernel_rfl) (by kernel_rfl) (by kernel_rfl) (fun w' hS => by first | (go_simp; done) | (go_simp; decide)) hSn ?_
            refine K_take (i := 5) (v := .bool true) rfl (by kernel_rfl) (by kernel_rfl) (by kernel_rfl) (by kernel_rfl) (by kernel_rfl) (by kernel_rfl) (fun w' hS => by go_simp) hSn ?_
            refine K_take (i := 6) (v := .bool true) rfl (by kernel_rfl) (by kernel_rfl) (by kernel_rfl) (by kernel_rfl) (by kernel_rfl) (by kernel_rfl) (fun w' hS => by go_simp) hSn ?_
            refine K_take (i := 7) (v := .int .i64 4) rfl (by kernel_rfl) (by kernel_rfl) (by kernel_rfl) (by kernel_rfl) (by kernel_rfl) (by kernel_rfl) (fun w' hS => by go_simp) hSn ?_
            refine K_next (i := 8) (by kernel_rfl) rfl (by kernel_rfl) (fun K hK => ?_)
            go_simp
            refine (num_any _ _).mono ?_
            rintro e w' ⟨rfl, hw⟩
            obtain rfl := hw.symm
            refine hK _ _ (fun _ => hSn) ?_
            clear hK
            refine K_take (i := 9) (v := .bool true) rfl (by kernel_rfl) (by kernel_rfl) (by kernel_rfl) (by kernel_rfl) (by kernel_rfl) (by kernel_rfl) (fun w' hS => by go_simp) hSn ?_
            refine K_take (i := 10) (v := .bool true) rfl (by kernel_rfl) (by kernel_rfl) (by kernel_rfl) (by kernel_rfl) (by kernel_rfl) (by kernel_rfl) (fun w' hS => by go_simp) hSn ?_
            refine K_take (i := 11) (v := .bool true) rfl (by kernel_rfl) (by kernel_rfl) (by kernel_rfl) (by kernel_rfl) (by kernel_rfl) (by kernel_rfl) (fun w' hS => by go_simp) hSn ?_
            refine K_take (i := 12) (v := .agg (byteCells RR)) rfl (by kernel_rfl) (by kernel_rfl) (by kernel_rfl) (by kernel_rfl) (by kernel_rfl) (by kernel_rfl) (fun w' hS => run_load_row _ rfl b14 (by kernel_rfl) RR hR32 (z14n.below hS z14n.lt)) hSn ?_
            refine K_take (i := 13) (v := .slice (some ⟨g0, o0, none⟩) n c0) rfl (by kernel_rfl) (by kernel_rfl) (by kernel_rfl) (by kernel_rfl) (by kernel_rfl) (by kernel_rfl) (fun w' hS => by go_simp) hSn ?_
            refine K_next (i := 14) (by kernel_rfl) rfl (by kernel_rfl) (fun K hK => ?_)
            go_simp
            refine (hroot _ _ (hv.below (hBwn.trans (hSn.mono hBwn.size))) (hg.below (hBwn.trans (hSn.mono hBwn.size)) hg.size)).mono ?_
            rintro e X1001 ⟨rfl, hb1002⟩
            have hB1003 : Below Wn.heap.size Wn X1001 := hSn.trans (hb1002.mono hSn.size)
            refine hK _ _ (fun _ => hB1003) ?_
            clear hK
            refine K_take (i := 15) (v := .bool true) rfl (by kernel_rfl) (by kernel_rfl) (by kernel_rfl) (by kernel_rfl) (by kernel_rfl) (by kernel_rfl) (fun w' hS => by go_simp) hB1003 ?_
            refine K_take (i := 16) (v := .bool true) rfl (by kernel_rfl) (by kernel_rfl) (by kernel_rfl) (by kernel_rfl) (by kernel_rfl) (by kernel_rfl) (fun w' hS => by go_simp) hB1003 ?_
            refine K_take (i := 17) (v := .bool true) rfl (by kernel_rfl) (by kernel_rfl) (by kernel_rfl) (by kernel_rfl) (by kernel_rfl) (by kernel_rfl) (fun w' hS => by go_simp) hB1003 ?_
            refine K_take (i := 18) (v := .pointer (some ⟨tb, 0, none⟩)) rfl (by kernel_rfl) (by kernel_rfl) (by kernel_rfl) (by kernel_rfl) (by kernel_rfl) (by kernel_rfl) (fun w' hS => by go_simp) hB1003 ?_
            refine K_take (i := 20) (v := .slice (some ⟨g0, o0, none⟩) n c0) rfl (by kernel_rfl) (by kernel_rfl) (by kernel_rfl) (by kernel_rfl) (by kernel_rfl) (by kernel_rfl) (fun w' hS => by go_simp) hB1003 ?_
            refine K_take (i := 21) (v := .int .i64 ((n : Nat) : Int)) rfl (by kernel_rfl) (by kernel_rfl) (by kernel_rfl) (by kernel_rfl) (by kernel_rfl) (by kernel_rfl) (fun w' hS => by go_simp) hB1003 ?_
            refine K_next (i := 19) (by kernel_rfl) rfl (by kernel_rfl) (fun K hK => ?_)
            go_simp
            refine (hlen _ tb _ (hTn.below hB1003)).mono ?_
            rintro e w' ⟨rfl, hw⟩
            obtain rfl := hw.symm
            refine hK _ _ (fun _ => hB1003) ?_
            clear hK
            refine K_take (i := 22) (v := .bool true) rfl (by kernel_rfl) (by kernel_rfl) (by kernel_rfl) (by kernel_rfl) (by kernel_rfl) (by kernel_rfl) (fun w' hS => by go_simp) hB1003 ?_
            refine K_take (i := 23) (v := .bool true) rfl (by kernel_rfl) (by kernel_rfl) (by kernel_rfl) (by kernel_rfl) (by kernel_rfl) (by kernel_rfl) (fun w' hS => by go_simp) hB1003 ?_
            refine K_take (i := 24) (v := .bool true) rfl (by kernel_rfl) (by kernel_rfl) (by kernel_rfl) (by kernel_rfl) (by kernel_rfl) (by kernel_rfl) (fun w' hS => by go_simp) hB1003 ?_
            refine K_next (i := 25) (by kernel_rfl) rfl (by kernel_rfl) (fun K hK => ?_)
            go_simp
            refine (works_any _ (hg.below (hBwn.trans (hB1003.mono hBwn.size)) hg.size)).mono ?_
            rintro e X1004 ⟨rfl, hb1005⟩
            have hB1006 : Below Wn.heap.size Wn X1004 := hB1003.trans (hb1005.mono hB1003.size)
            refine hK _ _ (fun _ => hB1006) ?_
            clear hK
            refine K_take (i := 26) (v := .bool true) rfl (by kernel_rfl) (by kernel_rfl) (by kernel_rfl) (by kernel_rfl) (by kernel_rfl) (by kernel_rfl) (fun w' hS => by go_simp) hB1006 ?_
            refine K_next (i := 27) (by kernel_rfl) rfl (by kernel_rfl) (fun K hK => ?_)
            have x1007 := (xn.below hB1006 xn.lt)
            have x1007c := x1007.one
            have x1007f := x1007.free 0
            go_simp
            refine hK _ _ (fun h => absurd h (by decide)) (K_done (by kernel_rfl) ?_)
            clear hK
            go_wp2_with fail
            have hX := Ex.set w.heap.size X1004 0 (.bool true)
            have hXs := hX.size
            have hsz := hB1006.size
            have hBwz := hBwn.trans (hB1006.mono hBwn.size)
            have hD2 := (hX.block (z + 2) (by omega) (by omega)).trans ((hB1006.block (z + 2) hlyn).trans hDn)
            have hBl := hBwz.trans (hX.low (Nat.le_refl _) hBwz.size)
            have xl := x1007.set 0 (.bool true)
            refine ⟨by simp, .inl ⟨_, _, rfl, run_takeDeferred hD2, ?_⟩⟩
            exact ⟨_, results_bool rfl _ _ w.heap.size true rfl (xl.ex (putObj_ex _ _ _) (by omega)), rfl, hBl.trans ((putObj_ex _ _ _).low (by omega) hBl.size)⟩
end Go.Proofs.YtcmkjgodgocdfaaDoor
