/- Texts put together, in build order: W5, F2. -/
import Derived.Test.YtcmkjgodgocdfaaDoorQ5
import Derived.Test.YtcmkjgodgocdfaaDoorQ2
import Derived.Test.YtcmkjgodgocdfaaDoorQ3
import Derived.ChangeSlices
import Derived.Deep.Slices
import Derived.ChangeSame
/- MerklePaths: the law's walk. -/
namespace Go.Proofs.YtcmkjgodgocdfaaDoor
open Go.RowKit

theorem wrap_byte (b : UInt8) : IntKind.u8.wrap (bv b + 1) = bv (b + 1) := by
  have key : ∀ n : Fin 256, IntKind.u8.wrap ((n.val : Int) + 1) = ((UInt8.ofNat n.val + 1).toNat : Int) := by decide +kernel
  have := key ⟨b.toNat, b.toNat_lt⟩
  simpa [bv] using this
theorem pathOf_le (ds : List Dig) (i : Nat) (h16 : ds.length ≤ 16) : (pathOf ds i).length ≤ 17 := by
  have h1 := pathUp_len (rowsL (ds.map markL)) i
  have h2 := rowsL_len 16 (ds.map markL) (by simpa using h16)
  unfold pathOf
  omega
set_option maxRecDepth 100000 in
set_option maxHeartbeats 1000000 in
theorem paths_ok (v : Value) (ds : List Dig) (i : Nat) (w : World) (hv : Digs w v ds) (h16 : ds.length ≤ 16) (hi : i < ds.length) (hg : Glob w) :
    Calls Tryd.prog 4 #[v, .int .i64 (i : Int)] w fun e w' => e = .returned (.bool true) ∧ Below w.heap.size w w' := by
  have h0 : 0 < ds.length := by omega
  have hgs := hg.size
  have hnew := tnew_any v ds w hv h0 h16
  have hPl := pathOf_le ds i h16
  have hrp := fun w hv hg => refpath_any v ds i w hv h16 hi hg
  have hpt : ∀ (B tb : Nat) (w : World), TreeAt B w tb ds → Glob w → Calls Tryd.prog 18 #[.pointer (some ⟨tb, 0, none⟩), .int .i64 (i : Int)] w fun e w' => ∃ v, e = .returned (.tuple #[v, .int .i64 0]) ∧ OwnD w.heap.size w' v (pathOf ds i) ∧ Below w.heap.size w w' := fun B tb w h hg => path_ok h hg i hi
  obtain ⟨P, hP⟩ : ∃ P, pathOf ds i = P := ⟨_, rfl⟩
  simp only [hP] at hrp hpt hPl
  clear hP
  obtain ⟨a0, c0, rfl⟩ := hv.slice
  obtain ⟨n, hn⟩ : ∃ n, ds.length = n := ⟨_, rfl⟩
  rw [hn] at h16 hi h0 hv hnew ⊢
  simp only [hn] at hrp
  clear hn
  have hdn1 : decide ((n : Int) < 1) = false := by simp; omega
  have hdn2 : decide (16 < (n : Int)) = false := by simp; omega
  go_enter Tryd.func4, Tryd.ntmps4
  go_wp2_with fail
  refine hnew.mono ?_
  clear hnew
  rintro e W1 ⟨tb, rfl, hT1, hB1⟩
  have hg1 := hg.below hB1 hg.size
  have hp1 := hpt _ tb W1 hT1 hg1
  go_wp2_with fail
  refine hp1.mono ?_
  clear hp1
  rintro e W2 ⟨v2, rfl, ho2, hB2⟩
  obtain ⟨a2, c2, hv2⟩ := ho2.slice
  obtain ⟨m, hm⟩ : ∃ m, P.length = m := ⟨_, rfl⟩
  rw [hm] at hv2 hPl
  subst hv2
  have HM : Hid (P.length = m) := hm
  clear hm
  have hs1 := hB1.size
  have hs2 := hB2.size
  have hBw2 : Below w.heap.size w W2 := hB1.trans (hB2.mono hs1)
  have hg2 := hg.below hBw2 hg.size
  have hr2 := hrp W2 (hv.below hBw2) hg2
  go_wp2_with fail
  refine hr2.mono ?_
  clear hr2
  rintro e W3 ⟨v3, rfl, ho3, hB3⟩
  have ho2' := ho2.below hB3
  have hs3 := hB3.size
  have hsame := same_yes _ _ P W3 (ho2'.digs (by omega)) (ho3.digs (by omega)) (by have := HM.out; omega)
  obtain ⟨a3, n3, c3, rfl⟩ : ∃ a n c, v3 = Value.slice a n c := by obtain ⟨a, c, e⟩ := ho3.slice; exact ⟨a, _, c, e⟩
  go_wp2_with fail
  refine hsame.mono ?_
  clear hsame
  rintro e W4 ⟨rfl, hB4⟩
  have ho4 := ho2'.below hB4
  have hB14 : Below W1.heap.size W1 W4 := (hB2.trans (hB3.mono hs2)).trans (hB4.mono (by omega))
  clear ho2 ho2' ho3 hB2 hB3 hB4
  go_wp2_with fail
  go_loopw [10] (fun kv wr => ∃ (k : Nat) (P' : List Dig), k ≤ m ∧ kv = .int .i64 k ∧ P'.length = m ∧ OwnD W1.heap.size wr (.slice a2 m c2) P' ∧ Below W1.heap.size W1 wr) (fun kv _ => m - (intOf kv).toNat)
  case atStart => exact ⟨0, P, Nat.zero_le _, rfl, HM.out, ho4, hB14⟩
  case round =>
    obtain ⟨k, P', hk, rfl, hPm, ho, hBw⟩ := hrel
    have HPm : Hid (P'.length = m) := hPm
    clear hPm
    by_cases hlt : k < m
    · obtain ⟨g, c, eg, hgb, hgl⟩ := ho.blk (by have := HPm.out; omega)
      simp only [Value.slice.injEq] at eg
      obtain ⟨rfl, hx, rfl⟩ := eg
      clear hx
      have hkp : k < P'.length := by have := HPm.out; omega
      have hd32 := ho.1.at_ hkp
      obtain ⟨g', o', c', e', hrg, _⟩ := (ho.digs (by omega)).at_ hkp
      simp only [Value.slice.injEq, Option.some.injEq, Addr.mk.injEq, and_true] at e'
      obtain ⟨⟨rfl, rfl⟩, hx, rfl⟩ := e'
      clear hx
      obtain ⟨b0, hb0⟩ : ∃ b0, (P'[k]?.getD [])[0]?.getD 0 = b0 := ⟨_, rfl⟩
      have hc0 : wr.cell? ⟨g, k * 32, none⟩ = some (.int .u8 (bv b0)) := by
        have := hrg 0 (.int .u8 (bv b0)) (by rw [Array.getElem?_toList, byteCells_at _ 0 (by omega), hb0])
        simpa using this
      have hset := ho.setFst k (b0 + 1) hkp
      have hfr : wr.frozen? ⟨g, k * 32, none⟩ = false := by
        rcases ho.2.2 with ⟨e, _⟩ | ⟨g1, cap1, cur1, e, _, hg1', _⟩
        · cases e
        · simp only [Value.slice.injEq, Option.some.injEq, Addr.mk.injEq, and_true] at e
          obtain ⟨rfl, _, _⟩ := e
          exact (show Has wr g cur1 30 from hg1').free _
      clear hb0 hrg
      go_wp2_with fail
      have hS0 : wr.cell? ⟨g, k * 32, none⟩ = some (.int .u8 (bv b0)) := hc0
      refine wp_region_K (S := fun X => X.cell? ⟨g, k * 32, none⟩ = some (.int .u8 (bv b0))) (fun i => decide (i < 10)) (by kernel_rfl) ?_
      refine K_take (i := 0) (v := .slice (some ⟨g, 0, none⟩) m c2) rfl (by kernel_rfl) (by kernel_rfl) (by kernel_rfl) (by kernel_rfl) (by kernel_rfl) (by kernel_rfl) (fun w' hS => by go_simp) hS0 ?_
      refine K_take (i := 1) (v := .int .i64 (k : Int)) rfl (by kernel_rfl) (by kernel_rfl) (by kernel_rfl) (by kernel_rfl) (by kernel_rfl) (by kernel_rfl) (fun w' hS => by go_simp) hS0 ?_
      refine K_take (i := 2) (v := .slice (some ⟨g, 0, none⟩) m c2) rfl (by kernel_rfl) (by kernel_rfl) (by kernel_rfl) (by kernel_rfl) (by kernel_rfl) (by kernel_rfl) (fun w' hS => by go_simp) hS0 ?_
      refine K_take (i := 3) (v := .int .i64 (k : Int)) rfl (by kernel_rfl) (by kernel_rfl) (by kernel_rfl) (by kernel_rfl) (by kernel_rfl) (by kernel_rfl) (fun w' hS => by go_simp) hS0 ?_
      refine K_take (i := 4) (v := .pointer (some ⟨g, k * 32, none⟩)) rfl (by kernel_rfl) (by kernel_rfl) (by kernel_rfl) (by kernel_rfl) (by kernel_rfl) (by kernel_rfl) (fun w' hS => by go_simp) hS0 ?_
      refine K_take (i := 5) (v := .pointer (some ⟨g, k * 32, none⟩)) rfl (by kernel_rfl) (by kernel_rfl) (by kernel_rfl) (by kernel_rfl) (by kernel_rfl) (by kernel_rfl) (fun w' hS => by go_simp) hS0 ?_
      refine K_take (i := 6) (v := .int .u8 (bv b0)) rfl (by kernel_rfl) (by kernel_rfl) (by kernel_rfl) (by kernel_rfl) (by kernel_rfl) (by kernel_rfl) (fun w' hS => by go_simp) hS0 ?_
      refine K_take (i := 7) (v := .int .u8 (bv (b0 + 1))) rfl (by kernel_rfl) (by kernel_rfl) (by kernel_rfl) (by kernel_rfl) (by kernel_rfl) (by kernel_rfl) (fun w' hS => by go_simp; exact wrap_byte b0) hS0 ?_
      refine K_take (i := 8) (v := .pointer (some ⟨g, k * 32, none⟩)) rfl (by kernel_rfl) (by kernel_rfl) (by kernel_rfl) (by kernel_rfl) (by kernel_rfl) (by kernel_rfl) (fun w' hS => by go_simp) hS0 ?_
      refine K_take (i := 9) (v := .pointer (some ⟨g, k * 32, none⟩)) rfl (by kernel_rfl) (by kernel_rfl) (by kernel_rfl) (by kernel_rfl) (by kernel_rfl) (by kernel_rfl) (fun w' hS => by go_simp) hS0 ?_
      refine K_next (i := 10) (by kernel_rfl) rfl (by kernel_rfl) (fun K hK => ?_)
      go_simp
      refine hK _ _ (fun h => absurd h (by decide)) (K_done (by kernel_rfl) ?_)
      clear hK hS0
      refine named (p := fun X => Exit.inBlock 1 _ _ _ X) ?_
      intro W5 hW5
      have hX : Ex g wr W5 := by rw [hW5]; first | exact Ex.set g wr (k * 32) _ | exact (show Ex g wr wr.drew from ⟨rfl, rfl, rfl, Nat.le_refl _, fun _ _ _ => rfl⟩).trans (Ex.set g wr.drew (k * 32) _) | exact (Ex.set g wr (k * 32) _).trans ⟨rfl, rfl, rfl, Nat.le_refl _, fun _ _ _ => rfl⟩
      have hset2 : OwnD W1.heap.size W5 (.slice (some ⟨g, 0, none⟩) m c2) (setFst P' k (b0 + 1)) := by rw [hW5]; first | exact hset | exact hset.below (Below.refl _ _).drew
      have hBn : Below W1.heap.size W1 W5 := hBw.trans (hX.low hgb hBw.size)
      clear hW5 hX hset hc0 hfr
      go_wp2_with fail
      go_roundw
      case rel => exact ⟨k + 1, setFst P' k (b0 + 1), by omega, by go_num, by rw [setFst_len]; exact HPm.out, hset2, hBn⟩
      case measure => simp [intOf]; omega
    · obtain rfl : k = m := by omega
      have hgw := hg1.below hBw hg1.size
      have hTw := hT1.below hBw
      have hsw := hBw.size
      have hp5 := hpt _ tb wr hTw hgw
      clear hlt hk
      go_wp2_with fail
      refine hp5.mono ?_
      clear hp5
      rintro e W6 ⟨v6, rfl, ho6, hB6⟩
      obtain ⟨a6, n6, c6, rfl⟩ : ∃ a n c, v6 = Value.slice a n c := by obtain ⟨a, c, e⟩ := ho6.slice; exact ⟨a, _, c, e⟩
      have hs6 := hB6.size
      have hBw6 : Below w.heap.size w W6 := (hB1.trans (hBw.mono hs1)).trans (hB6.mono (by omega))
      have hg6 := hg.below hBw6 hg.size
      have hr6 := hrp W6 (hv.below hBw6) hg6
      go_wp2_with fail
      refine hr6.mono ?_
      clear hr6
      rintro e W7 ⟨v7, rfl, ho7, hB7⟩
      obtain ⟨a7, n7, c7, rfl⟩ : ∃ a n c, v7 = Value.slice a n c := by obtain ⟨a, c, e⟩ := ho7.slice; exact ⟨a, _, c, e⟩
      have hs7 := hB7.size
      have hsame := same_yes _ _ P W7 ((ho6.below hB7).digs (by omega)) (ho7.digs (by omega)) (by have := HM.out; omega)
      have hBw7 : Below w.heap.size w W7 := hBw6.trans (hB7.mono (by omega))
      go_wp2_with (first
        | (go_at_call 15; refine hsame.mono ?_; clear hsame; rintro e W8 ⟨rfl, hB8⟩; have hBw8 : Below w.heap.size w W8 := hBw7.trans (hB8.mono (by omega)); have hwk := works_any W8 (hg.below hBw8 hg.size))
        | (go_at_call 20; refine (num_any _ _).mono ?_; rintro e w' ⟨rfl, hw⟩; obtain rfl := hw.symm)
        | (go_at_call 13; refine hwk.mono ?_; rintro e W9 ⟨rfl, hB9⟩))
      go_ret
      exact ⟨rfl, hBw8.trans (hB9.mono hBw8.size)⟩
set_option maxRecDepth 100000 in
set_option maxHeartbeats 1000000 in
theorem paths_walk (v : Value) (ds : List Dig) (i : Int) (w : World) (hv : Digs w v ds) (hg : Glob w) :
    Calls Tryd.prog 4 #[v, .int .i64 i] w fun e w' => e = .returned (.bool true) ∧ Below w.heap.size w w' := by
  by_cases h0 : 1 ≤ ds.length
  · by_cases h16 : ds.length ≤ 16
    · by_cases hi : 0 ≤ i ∧ i < (ds.length : Int)
      · obtain ⟨I, rfl⟩ := Int.eq_ofNat_of_zero_le hi.1
        exact paths_ok v ds I w hv h16 (by omega) hg
      · have hnew := tnew_any v ds w hv h0 h16
        have ht : thereB i ds.length = false := by
          simp only [thereB, Bool.and_eq_false_iff, decide_eq_false_iff_not]
          omega
        have hbd : ∀ (B tb : Nat) (w : World), TreeAt B w tb ds → Calls Tryd.prog 18 #[.pointer (some ⟨tb, 0, none⟩), .int .i64 i] w fun e w' => e = .returned (.tuple #[.slice none 0 0, .int .i64 4]) ∧ Below w.heap.size w w' := fun B tb w h =>
          path_bad _ i 4 w (by decide) (fun w1 hw1 => by have := asked_any (h.below hw1) i; rw [ht] at this; exact this)
        obtain ⟨a0, c0, rfl⟩ := hv.slice
        obtain ⟨n, hn⟩ : ∃ n, ds.length = n := ⟨_, rfl⟩
        rw [hn] at h16 h0 hi hnew ⊢
        clear hn ht hv
        by_cases hneg : i < 0
        · go_enter Tryd.func4, Tryd.ntmps4
          go_wp2_with fail
          refine hnew.mono ?_
          clear hnew
          rintro e W1 ⟨tb, rfl, hT1, hB1⟩
          have hp1 := hbd _ tb W1 hT1
          go_wp2_with fail
          refine hp1.mono ?_
          clear hp1
          rintro e W2 ⟨rfl, hB2⟩
          have hBw2 : Below w.heap.size w W2 := hB1.trans (hB2.mono hB1.size)
          have hwk := works_any W2 (hg.below hBw2 hg.size)
          go_wp2_with (first
            | (go_at_call 20; refine (num_any _ _).mono ?_; rintro e w' ⟨rfl, hw⟩; obtain rfl := hw.symm)
            | (go_at_call 13; refine hwk.mono ?_; rintro e W9 ⟨rfl, hB9⟩))
          go_ret
          exact ⟨rfl, hBw2.trans (hB9.mono hBw2.size)⟩
        · have hge : (n : Int) ≤ i := by omega
          go_enter Tryd.func4, Tryd.ntmps4
          go_wp2_with fail
          refine hnew.mono ?_
          clear hnew
          rintro e W1 ⟨tb, rfl, hT1, hB1⟩
          have hp1 := hbd _ tb W1 hT1
          go_wp2_with fail
          refine hp1.mono ?_
          clear hp1
          rintro e W2 ⟨rfl, hB2⟩
          have hBw2 : Below w.heap.size w W2 := hB1.trans (hB2.mono hB1.size)
          have hwk := works_any W2 (hg.below hBw2 hg.size)
          go_wp2_with (first
            | (go_at_call 20; refine (num_any _ _).mono ?_; rintro e w' ⟨rfl, hw⟩; obtain rfl := hw.symm)
            | (go_at_call 13; refine hwk.mono ?_; rintro e W9 ⟨rfl, hB9⟩))
          go_ret
          exact ⟨rfl, hBw2.trans (hB9.mono hBw2.size)⟩
    · obtain ⟨a0, c0, rfl⟩ := hv.slice
      have hwk := works_any w hg
      go_enter Tryd.func4, Tryd.ntmps4
      go_wp2_with (go_at_call 13; refine hwk.mono ?_; rintro e W9 ⟨rfl, hB9⟩)
      go_ret
      exact ⟨rfl, hB9⟩
  · obtain ⟨a0, c0, rfl⟩ := hv.slice
    have hwk := works_any w hg
    go_enter Tryd.func4, Tryd.ntmps4
    go_wp2_with (go_at_call 13; refine hwk.mono ?_; rintro e W9 ⟨rfl, hB9⟩)
    go_ret
    exact ⟨rfl, hB9⟩
end Go.Proofs.YtcmkjgodgocdfaaDoor
/- Digests that come in, in a row. -/
namespace Go.Proofs.YtcmkjgodgocdfaaDoor
open Go.ChangeShapes Go.WideShapes Go.ChangeAt Go.RowKit Go.Deep

theorem spot_none {W : World} {a : Addr} {v : Value} (h : W.cell? a = some v) : a.spot = none := by
  unfold World.cell? at h
  split at h
  · split at h
    · cases h
    · rename_i hh; simpa using hh
  · cases h
set_option maxRecDepth 100000 in
theorem dig_cells {H : Type} {enc : TypeId × Value → H} {W : World} {fuel : Nat} {cs : List Value} {x : DataW H × List MemPlace} (hl : cs.length = 32) (hf : DataW.trod enc Tryd.prog W 0 (fun _ => true) true fuel 30 cs = some x) :
    ∃ d : Dig, d.length = 32 ∧ cs = (byteCells d).toList := by
  obtain ⟨xs, m, _, hx, _, _, _⟩ := DataW.trod_array Tryd.underlying30 hf
  rw [hx] at hf
  have a0 := trod_ints Tryd.underlying30 Tryd.underlying5 (by kernel_rfl) hf
  refine ⟨(List.range 32).map fun j => UInt8.ofNat (intOf (cs[j]?.getD undef)).toNat, by simp, ?_⟩
  have h2 := cells_eq cs.toArray ((List.range 32).map fun j => UInt8.ofNat (intOf (cs[j]?.getD undef)).toNat) 32 (by simp) (by simpa using hl) (fun j hj => by
    obtain ⟨z, e1, _, hw⟩ := a0 j hj
    have e1' : cs.toArray[j]? = some (.int .u8 z) := by simpa using e1
    rw [e1']
    simp only [List.getElem?_map, List.getElem?_range hj, Option.map_some, Option.getD_some, e1, intOf]
    have hb := bounds_u8 hw
    congr 2
    unfold bv
    rw [UInt8.toNat_ofNat']
    omega)
  rw [← h2]
set_option maxRecDepth 100000 in
theorem digs_of {H : Type} {enc : TypeId × Value → H} {W : World} {base : Nat} {r : Reach} {v : Value} {d : DataW H} {ps : List MemPlace} (hs : 0 < W.heap.size) (hv : Value.okWide Tryd.prog W r base 22 v) (h : DataW.Trod enc Tryd.prog W 0 (fun _ => true) true 22 v d ps) :
    ∃ ds : List Dig, Digs W v ds := by
  obtain ⟨a0, len, cap, rfl⟩ := okWide_slice Tryd.underlying22 hv
  obtain ⟨fuel, hf⟩ := h
  have c30 : Tryd.prog.cellsOf 30 = 32 := by kernel_rfl
  rcases open_slice Tryd.underlying22 hf with ⟨hcs, _⟩ | ⟨a, len', cap', m, n, D, Pl, hcs, _, hle, hmx, hmm, _, hx⟩
  · simp [Value.cells] at hcs
    obtain ⟨rfl, rfl, rfl⟩ := hcs
    exact ⟨[], All32.nil, none, 0, 0, 0, rfl, Nat.le_refl _, Nat.zero_le _, fun h => absurd rfl h, fun i hi => absurd hi (by simp), hs⟩
  · simp [Value.cells] at hcs
    obtain ⟨rfl, rfl, rfl⟩ := hcs
    simp only [if_true] at hmm
    subst hmm
    by_cases h0 : len = 0
    · subst h0
      exact ⟨[], All32.nil, some a, m, 0, 0, rfl, Nat.zero_le _, hmx, fun h => absurd rfl h, fun i hi => absurd hi (by simp), hs⟩
    · have each : ∀ i, i < len → ∃ d : Dig, d.length = 32 ∧ ∀ j, j < 32 → W.cell? ((a.add (i * 32)).add j) = some (.int .u8 (bv (d[j]?.getD 0))) := fun i hi => by
        obtain ⟨cs', h1, h2⟩ := hx i (by omega)
        rw [c30] at h1
        obtain ⟨_, hlen, hcell⟩ := World.cells?_some h1
        obtain ⟨d, hd, rfl⟩ := dig_cells (by omega) h2
        refine ⟨d, hd, fun j hj => ?_⟩
        have k := hcell j (by omega)
        rw [k]
        have e := byteCells_at d j (by omega)
        have hlt : j < (byteCells d).toList.length := by rw [byteCells_len]; omega
        first
          | (rw [← e]; simp)
          | (have e2 : (byteCells d).toList[j]? = some (.int .u8 (bv (d[j]?.getD 0))) := by rw [Array.getElem?_toList]; exact e
             rw [← e2]; simp [hlt])
      obtain ⟨d0, hd0, hc0⟩ := each 0 (by omega)
      have hsp := spot_none (hc0 0 (by omega))
      obtain ⟨b, o, sp⟩ := a
      have hsp' : sp = none := by
        cases sp with
        | none => rfl
        | some q => simp [Addr.add] at hsp
      subst hsp'
      simp only [Addr.add_mid] at each hc0
      have hlt : b < W.heap.size := block_lt_of_cell (hc0 0 (by omega))
      let F : Nat → Dig := fun i => if hi : i < len then (each i hi).choose else []
      have hFl : ∀ i, i < len → (F i).length = 32 ∧ ∀ j, j < 32 → W.cell? ⟨b, o + i * 32 + j, none⟩ = some (.int .u8 (bv ((F i)[j]?.getD 0))) := fun i hi => by
        have hFi : F i = (each i hi).choose := dif_pos hi
        rw [hFi]
        exact (each i hi).choose_spec
      refine ⟨(List.range len).map F, fun i d hd => ?_, some ⟨b, o, none⟩, m, b, o, by simp, by simpa using hle, hmx, fun _ => rfl, fun i hi => ?_, hlt⟩
      · have hil : i < len := by have := (List.getElem?_eq_some_iff.1 hd).1; simpa using this
        have : F i = d := by simpa [hil] using hd
        rw [← this]; exact (hFl i hil).1
      · have hil : i < len := by simpa using hi
        have e : ((List.range len).map F)[i]?.getD [] = F i := by simp [hil]
        rw [e]
        intro j u hu
        obtain ⟨hF1, hF2⟩ := hFl i hil
        have hj : j < 32 := by have := (List.getElem?_eq_some_iff.1 hu).1; rw [byteCells_len] at this; omega
        have e2 : (byteCells (F i)).toList[j]? = (byteCells (F i))[j]? := by simp
        rw [hF2 j hj, ← hu, e2]
        exact (byteCells_at (F i) j (by rw [hF1]; exact hj)).symm
end Go.Proofs.YtcmkjgodgocdfaaDoor
