/- The walk of CodeTable. -/
import Derived.Test.YtoalchlokcphkaaDoorN1
import Derived.Test.YtoalchlokcphkaaDoorD5
namespace Go.Proofs.YtoalchlokcphkaaDoor
open Go.RowKit

def nm (n : Nat) : ByteArray := ⟨(nameL n).toArray⟩
def rowV (k : Nat) : List Value := (List.range k).map fun j => Value.string (nm (j + 1))
theorem rowV_succ (k : Nat) : rowV (k + 1) = rowV k ++ [.string (nm (k + 1))] := by unfold rowV; rw [List.range_succ, List.map_append]; rfl
theorem rowV_at (k j : Nat) (h : j < k) : (rowV k)[j]? = some (.string (nm (j + 1))) := by unfold rowV; simp [h]
theorem names_apart : ∀ i j : Fin 25, i.val ≠ j.val → 0 < i.val → 0 < j.val → nameL i.val ≠ nameL j.val := by decide +kernel
theorem info9 : (Tryd.prog.info? 9).map (fun i => (i.zero, i.size, i.bytes)) = some (some (.string ⟨#[]⟩), 1, 16) := by kernel_rfl
theorem row_below {W W' : World} {base e : Nat} {v : Value} {n : Nat} {xs : List Value} (h : W.ownsRow base e 1 v n xs) (k : Below W.heap.size W W') : W'.ownsRow base e 1 v n xs := by
  refine ⟨h.1, ?_⟩
  rcases h.2 with h2 | ⟨g, cap, cur, a, b, c, d⟩
  · exact .inl h2
  · refine .inr ⟨g, cap, cur, a, b, ?_, d⟩
    rw [k.block g (Array.getElem?_eq_some_iff.1 c).1]; exact c
/-- An owned row's value and its cells. -/
theorem row_open {W : World} {base e : Nat} {v : Value} {n : Nat} {xs : List Value} (h : W.ownsRow base e 1 v n xs) : ∃ a c, v = .slice a n c ∧ (0 < n → ∃ g, a = some ⟨g, 0, none⟩ ∧ ∀ j u, xs[j]? = some u → W.cell? ⟨g, j, none⟩ = some u) := by
  have h0 := h
  rcases h.2 with ⟨rfl, h2⟩ | ⟨g, cap, cur, rfl, _⟩
  · exact ⟨none, 0, by rw [h2], fun hn => by omega⟩
  · refine ⟨_, cap, rfl, fun _ => ⟨g, rfl, fun j u hu => ?_⟩⟩
    have := h0.cells (g := g) rfl j u hu
    rw [Addr.add_mid, Nat.zero_add] at this
    exact this
set_option maxRecDepth 10000 in
set_option maxHeartbeats 2000000 in
theorem table_walk (n : Int) (w : World) (hG : Glob w) :
    Calls Tryd.prog 8 #[.int .i64 n] w fun e w' => e = .returned (.bool true) ∧ Below w.heap.size w w' := by
  obtain ⟨i9, hi9, hz9, hs9, hb9⟩ := info_parts' info9
  have hz : 0 < w.heap.size := hG.size
  go_enter Tryd.func8, Tryd.ntmps8
  go_wp2_with fail
  go_loopw [3, 4] (fun v i wr => ∃ k : Nat, k ≤ 24 ∧ i = .int .i64 ((k : Int) + 1) ∧ wr.ownsRow w.heap.size 9 1 v k (rowV k) ∧ Below w.heap.size w wr) (fun _ i _ => 25 - (intOf i).toNat)
  case atStart => exact ⟨0, by omega, rfl, World.ownsRow_nil _ _ _ _, Below.refl _ _⟩
  case round =>
    obtain ⟨k, hk, rfl, hO, hB⟩ := hrel
    have hGr := hG.below hB hz
    by_cases hlt : k < 24
    · have hn1 := name_yes (k + 1) wr (by unfold thereB; simp; omega) (by omega) hGr
      have hn2 := rname_yes (k + 1) wr (by unfold useI; simp; omega) (by omega)
      have ek : ((k + 1 : Nat) : Int) = (k : Int) + 1 := by omega
      rw [ek] at hn1 hn2
      have hne : Hid (nameL (k + 1) ≠ []) := by
        have key : ∀ i : Fin 25, 0 < i.val → nameL i.val ≠ [] := by decide +kernel
        exact key ⟨k + 1, by omega⟩ (by simp)
      have hnm : (⟨(nameL (k + 1)).toArray⟩ : ByteArray) = nm (k + 1) := rfl
      rw [hnm] at hn1 hn2
      obtain ⟨s, hs⟩ : ∃ s, s = nm (k + 1) := ⟨_, rfl⟩
      rw [← hs] at hn1 hn2
      have hem : s.toList.isEmpty = false := by
        rw [hs, ByteArray.toList_eq]; show (nameL (k + 1)).isEmpty = false
        have := hne.out
        cases h : nameL (k + 1) with
        | nil => exact absurd h this
        | cons _ _ => rfl
      have HS : Hid (s = nm (k + 1)) := hs
      clear hs hnm
      obtain ⟨va, vc, rfl, hcell⟩ := row_open hO
      have i1 : (k : Int) + 1 ≤ 24 := by omega
      go_wp2_with fail
      refine hn1.mono ?_
      rintro e w' ⟨rfl, rfl⟩
      go_wp2_with fail
      refine hn2.mono ?_
      rintro e W1 ⟨rfl, hB1⟩
      go_wp2_with fail
      clear hn1 hn2
      go_loop [7] (fun i => ∃ j : Nat, j ≤ k ∧ i = .int .i64 j) (fun i => k - (intOf i).toNat)
      case atStart => exact ⟨0, by omega, rfl⟩
      case round =>
        obtain ⟨j, hj, rfl⟩ := hrel
        by_cases hjk : j < k
        · obtain ⟨g, rfl, hc⟩ := hcell (by omega)
          have hcj := hc j _ (rowV_at k j hjk)
          have hgl := block_of_cell hcj
          have c1 := (hB1.cell (p := ⟨g, j, none⟩) hgl).trans hcj
          have j1 : (j : Int) < k := by omega
          clear hcj hc
          have hx : ((nm (j + 1)).toList == s.toList) = false := by
            rw [HS.out, ByteArray.toList_eq, ByteArray.toList_eq]
            show (nameL (j + 1) == nameL (k + 1)) = false
            exact beq_eq_false_iff_ne.2 (names_apart ⟨j + 1, by omega⟩ ⟨k + 1, by omega⟩ (by simp; omega) (by simp) (by simp))
          go_wp2_with fail
          go_round
          case rel => exact ⟨j + 1, by omega, by go_num⟩
          case measure => simp [intOf]; omega
        · have hB2 : Below W1.heap.size W1 (W1.alloc (.cells #[.string s] 9)) := (Below.refl _ _).alloc (Nat.le_refl _) _
          have hO1 := row_below (row_below hO hB1) hB2
          have hs1 := hB.size
          have hs2 := hB1.size
          have hnew : (W1.alloc (.cells #[.string s] 9)).cell? ⟨W1.heap.size, 0, none⟩ = some (.string s) := (has_new W1 #[.string s] 9 W1.heap.size rfl).one
          go_wp2_with (refine wpList_append_own _ rfl _ _ 53 rfl w.heap.size 9 i9 (.string ⟨#[]⟩) 1 16 Tryd.underlying53 hi9 hz9 hs9 hb9 rfl (by omega) _ k (rowV k) rfl hO1 ⟨W1.heap.size, 0, none⟩ 1 1 [.string s] rfl rfl (fun j u hu => by cases j with | zero => (obtain rfl : Value.string s = u := by simpa using hu); exact hnew | succ j => simp at hu) (fun u hu => by simp at hu; rw [hu]; rfl) (by unfold maxLen; omega) (by omega) (by simp; omega) ?_; intro v' w2 hown2 hgr hnil; clear hnil)
          go_roundw
          case rel =>
            refine ⟨k + 1, by omega, by go_num, ?_, ?_⟩
            · rw [rowV_succ, ← HS.out]; exact hown2
            · refine ⟨hgr.os.trans (hB2.os.trans (hB1.os.trans hB.os)), hgr.tape.trans (hB2.tape.trans (hB1.tape.trans hB.tape)), hgr.output.trans (hB2.output.trans (hB1.output.trans hB.output)), Nat.le_trans (Nat.le_trans hs1 (Nat.le_trans hs2 hB2.size)) hgr.size, fun i hi => ?_⟩
              have hz2 := hB2.size
              rw [hgr.block i (by omega) (fun e => by have := (hO1.lt i e.symm).1; omega), hB2.block i (by omega), hB1.block i (by omega), hB.block i hi]
          case measure => simp [intOf]; omega
    · obtain rfl : k = 24 := by omega
      clear hO
      have i2 : ¬ ((24 : Nat) : Int) + 1 ≤ 24 := by omega
      by_cases h1 : 1 ≤ n
      · by_cases h2 : n ≤ 24
        · obtain ⟨m, rfl⟩ : ∃ m : Nat, n = m := ⟨n.toNat, by omega⟩
          have hn1 := name_yes m wr (by unfold thereB; simp; omega) (by omega) hGr
          have hkn := known_any wr hGr
          generalize (⟨(nameL m).toArray⟩ : ByteArray) = s at *
          go_wp2_with (first | (go_at_call 20; refine hn1.mono ?_; rintro e w' ⟨rfl, rfl⟩) | (go_at_call 11; refine hkn.mono ?_; rintro e W1 ⟨rfl, hB1⟩))
          go_ret
          exact ⟨rfl, hB.trans (hB1.mono hB.size)⟩
        · have hn1 := name_no n wr (by unfold thereB; simp; omega)
          have h3 : decide (n ≤ 24) = false := decide_eq_false h2
          have hkn := known_any wr hGr
          go_wp2_with (first | (go_at_call 20; refine hn1.mono ?_; rintro e w' ⟨rfl, rfl⟩) | (go_at_call 11; refine hkn.mono ?_; rintro e W1 ⟨rfl, hB1⟩))
          go_ret
          exact ⟨rfl, hB.trans (hB1.mono hB.size)⟩
      · have hn1 := name_no n wr (by unfold thereB; simp; omega)
        have hkn := known_any wr hGr
        go_wp2_with (first | (go_at_call 20; refine hn1.mono ?_; rintro e w' ⟨rfl, rfl⟩) | (go_at_call 11; refine hkn.mono ?_; rintro e W1 ⟨rfl, hB1⟩))
        go_ret
        exact ⟨rfl, hB.trans (hB1.mono hB.size)⟩
end Go.Proofs.YtoalchlokcphkaaDoor
