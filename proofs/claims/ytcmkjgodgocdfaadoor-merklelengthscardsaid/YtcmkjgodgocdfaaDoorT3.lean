/- A tree's rows: the function that is ranged over, whatever its round does. -/
import Derived.Test.YtcmkjgodgocdfaaDoorT2
import Derived.Test.YtcmkjgodgocdfaaDoorR6
import Derived.Shelf.Abstract
import Derived.Sort.QuietIn
namespace Go.Proofs.YtcmkjgodgocdfaaDoor
open Go.RowKit
attribute [local go_sem] Oper.semAt_some

theorem own_at {C : Nat} {w : World} {rv : Value} {n : Nat} {xs : List Value} (h : w.ownsRow C 22 1 rv n xs) {j : Nat} {sv : Value} (hj : xs[j]? = some sv) : ∃ g cap, rv = .slice (some ⟨g, 0, none⟩) n cap ∧ w.cell? ⟨g, j, none⟩ = some sv := by
  rcases h.2 with ⟨rfl, e⟩ | ⟨g, cap, cur, rfl, hb, hg, _⟩
  · have := h.1; have := (List.getElem?_eq_some_iff.1 hj).1; omega
  · have := h.cells (g := g) rfl j sv hj
    rw [Addr.add_mid, Nat.zero_add] at this
    exact ⟨g, cap, rfl, this⟩
set_option maxRecDepth 100000 in
set_option maxHeartbeats 2000000 in
theorem rows1_any (N l bt tb B : Nat) (ds : List Dig) (W : World) (hT : TreeAt B W tb ds) (hb : Has W bt #[.pointer (some ⟨tb, 0, none⟩)] 24) (hg : Glob W)
    (J : Value → List Value → Nat → World → Prop) (Jx : World → Prop)
    (h0 : ∀ rv xs W', RowsAt W.heap.size W.heap.size W' rv (rowsL (ds.map markL)) xs → Below W.heap.size W W' → J rv xs 0 W')
    (hJb : ∀ rv xs k W', J rv xs k W' → W'.ownsRow W.heap.size 22 1 rv (rowsL (ds.map markL)).length xs)
    (hY : ∀ rv xs k sv W', xs[k]? = some sv → J rv xs k W' → YieldAt Fence.wide (N - 1) Tryd.prog l #[sv] W' fun e W'' => (e = .returned (.bool true) ∧ J rv xs (k + 1) W'') ∨ (e = .returned (.bool false) ∧ Jx W'')) :
    CallsIn Fence.wide N Tryd.prog 37 #[.func (.yield l) #[] #[], .pointer (some ⟨bt, 0, none⟩)] W fun e W' => e = .returned (.tuple #[]) ∧ ((∃ rv xs, J rv xs (rowsL (ds.map markL)).length W') ∨ Jx W') := by
  have hnn := none_tree hT
  obtain ⟨hd0, hd16, _, v, hv, ho⟩ := id hT
  have hgs := hg.size
  have hrw := rows_any v ds W (ho.digs (by omega)) hd16 hd0 hg
  obtain ⟨a, n, c, rfl⟩ : ∃ a n c, v = Value.slice a n c := by obtain ⟨a, c, e⟩ := ho.slice; exact ⟨a, _, c, e⟩
  have c1 := hv.one
  have c2 := hb.one
  have hR17 : (rowsL (ds.map markL)).length ≤ 17 := rowsL_len 16 _ (by simpa using hd16)
  have hR0 := (rootOf_spec hd0).2.2
  obtain ⟨R, hR⟩ : ∃ R, rowsL (ds.map markL) = R := ⟨_, rfl⟩
  rw [hR] at hrw hR17 hJb h0 hR0 ⊢
  clear hR
  refine callsIn_of_wp Tryd.func37 rfl trivial ?_ rfl
  simp only [Tryd.ntmps37, List.size_toArray, List.length_cons, List.length_nil, Nat.reduceAdd, Nat.reduceSub, Array.replicate_succ, Array.replicate_zero, List.push_toArray, List.append_toArray, List.nil_append, List.cons_append]
  gi_wp2_with (first
    | (refine ⟨trivial, fun h => (by cases h), ?_⟩; refine (callsIn_wide.2 hnn).mono ?_; rintro e w' ⟨rfl, hw⟩; obtain rfl := hw.symm)
    | (refine ⟨trivial, fun h => (by cases h), ?_⟩; refine (callsIn_wide.2 hrw).mono ?_; rintro e W1 ⟨rv, xs, rfl, hRw, hB1⟩; obtain ⟨g, cap, sv, rfl, _, _, _⟩ := hRw.at_ (j := 0) hR0))
  have hJ0 := h0 _ _ _ hRw hB1
  have hxl : xs.length = R.length := by have := hRw.own.1; omega
  have HX : Hid (xs.length = R.length) := hxl
  clear hRw h0 hrw hnn c1 c2 hxl
  gi_loopw [13] (fun i wr => ∃ k : Nat, i = .int .i64 k ∧ k ≤ R.length ∧ J (.slice (some ⟨g, 0, none⟩) R.length cap) xs k wr) (fun i _ => R.length - (intOf i).toNat)
  case atStart => exact ⟨0, rfl, Nat.zero_le _, hJ0⟩
  case round =>
    obtain ⟨k, rfl, hk, hJ⟩ := hrel
    by_cases hlt : k < R.length
    · obtain ⟨s, hs⟩ : ∃ s, xs[k]? = some s := ⟨xs[k]'(by have := HX.out; omega), List.getElem?_eq_getElem _⟩
      obtain ⟨g', cap', e', hcell⟩ := own_at (hJb _ _ _ _ hJ) hs
      simp only [Value.slice.injEq, Option.some.injEq, Addr.mk.injEq, true_and, and_true] at e'
      obtain ⟨rfl, rfl⟩ := e'
      have hY1 := hY _ _ k s wr hs hJ
      obtain ⟨fn, tmps, assign, body, hy, hRd⟩ := hY1
      clear hY hs
      gi_wp2
      refine ⟨fun h => (by cases h), hRd.mono ?_⟩
      clear hRd hy hcell
      rintro e W3 (⟨rfl, hJ3⟩ | ⟨rfl, hJ3⟩)
      · gi_wp2_with fail
        go_roundw
        case rel => exact ⟨k + 1, by go_num, by omega, hJ3⟩
        case measure => simp [intOf]; omega
      · gi_wp2_with fail
        refine bodyPost_ret (results_none rfl _ _ _) rfl ?_
        exact ⟨rfl, .inr hJ3⟩
    · obtain rfl : k = R.length := by omega
      gi_wp2
      go_end0
      exact ⟨rfl, .inl ⟨_, _, hJ⟩⟩
set_option maxRecDepth 100000 in
set_option maxHeartbeats 1000000 in
theorem rows1_nil (N l bt : Nat) (W : World) (hb : Has W bt #[.pointer none] 24) :
    CallsIn Fence.wide N Tryd.prog 37 #[.func (.yield l) #[] #[], .pointer (some ⟨bt, 0, none⟩)] W fun e W' => e = .returned (.tuple #[]) ∧ W' = W := by
  have c2 := hb.one
  refine callsIn_of_wp Tryd.func37 rfl trivial ?_ rfl
  simp only [Tryd.ntmps37, List.size_toArray, List.length_cons, List.length_nil, Nat.reduceAdd, Nat.reduceSub, Array.replicate_succ, Array.replicate_zero, List.push_toArray, List.append_toArray, List.nil_append, List.cons_append]
  gi_wp2_with (refine ⟨trivial, fun h => (by cases h), ?_⟩; refine (callsIn_wide.2 (none_tnil _)).mono ?_; rintro e w' ⟨rfl, hw⟩; obtain rfl := hw.symm)
  refine bodyPost_ret (results_none rfl _ _ _) rfl ?_
  exact ⟨rfl, rfl⟩
end Go.Proofs.YtcmkjgodgocdfaaDoor
