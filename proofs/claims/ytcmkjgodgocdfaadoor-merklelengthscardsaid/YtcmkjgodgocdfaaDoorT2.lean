/- A tree: Root, Leaf. -/
import Derived.Test.YtcmkjgodgocdfaaDoorT1
namespace Go.Proofs.YtcmkjgodgocdfaaDoor
open Go.RowKit

theorem results_two {fn : Func} {p q : Tmp} (hr : fn.results = #[.cell p 30, .tmp q]) (tmps : Array Value) (W : World) (g : Nat) (cs : Array Value) (n : Int) (hp : tmps.getD p undef = .pointer (some ⟨g, 0, none⟩)) (h3 : tmps.getD q undef = .int .i64 n) (hg : Has W g cs 30) (hs : cs.size = 32) :
    (results fn tmps).run Tryd.prog W = .ok (.tuple #[.agg cs, .int .i64 n]) W := by
  have hp' : tmps[p]?.getD undef = .pointer (some ⟨g, 0, none⟩) := by simpa using hp
  have h3' : tmps[q]?.getD undef = .int .i64 n := by simpa using h3
  simp [results, hr, hp', h3', asAddr, run_loadVar_row W g 30 30 cs (0, 0) _ hg Tryd.underlying30 rfl (by rw [hs]; kernel_rfl), Result.andThen]
theorem rowsL_end : ∀ (n : Nat) (ds : List Dig), ds.length ≤ n → 0 < ds.length → All32 ds → ∃ r, (rowsL ds)[(rowsL ds).length - 1]? = some [r] ∧ r.length = 32 ∧ 0 < (rowsL ds).length := by
  intro n
  induction n using Nat.strongRecOn with
  | _ n ih =>
    intro ds hn h0 h32
    by_cases h : 1 < ds.length
    · have hl := aboveL_len _ ds (Nat.le_refl _)
      obtain ⟨r, h1, h2, h3⟩ := ih (n - 1) (by omega) (aboveL ds) (by omega) (by omega) (aboveL_all _ ds (Nat.le_refl _) h32)
      rw [rowsL_more h]
      refine ⟨r, ?_, h2, by simp⟩
      rw [List.length_cons, show (rowsL (aboveL ds)).length + 1 - 1 = ((rowsL (aboveL ds)).length - 1) + 1 by omega, List.getElem?_cons_succ]
      exact h1
    · rw [rowsL_last h]
      match ds, h0, h with
      | [d], _, _ => exact ⟨d, rfl, h32 0 d rfl, by simp⟩
      | _ :: _ :: _, _, h => simp at h
def rootOf (ds : List Dig) : Dig := ((rowsL (ds.map markL))[(rowsL (ds.map markL)).length - 1]?.getD [])[0]?.getD []
theorem marks_all (ds : List Dig) : All32 (ds.map markL) := fun i d hd => by
  rw [List.getElem?_map] at hd
  cases h : ds[i]? with
  | none => rw [h] at hd; cases hd
  | some x => rw [h] at hd; simp at hd; rw [← hd]; exact shaL_length _
theorem rootOf_spec {ds : List Dig} (h0 : 0 < ds.length) : (rowsL (ds.map markL))[(rowsL (ds.map markL)).length - 1]? = some [rootOf ds] ∧ (rootOf ds).length = 32 ∧ 0 < (rowsL (ds.map markL)).length := by
  obtain ⟨r, h1, h2, h3⟩ := rowsL_end _ (ds.map markL) (Nat.le_refl _) (by simpa using h0) (marks_all ds)
  have e : rootOf ds = r := by unfold rootOf; rw [h1]; rfl
  rw [e]
  exact ⟨h1, h2, h3⟩
theorem RowsAt.at_ {B C : Nat} {w : World} {rv : Value} {rows : List (List Dig)} {xs : List Value} (h : RowsAt B C w rv rows xs) {j : Nat} (hj : j < rows.length) :
    ∃ g cap sv, rv = .slice (some ⟨g, 0, none⟩) rows.length cap ∧ w.cell? ⟨g, j, none⟩ = some sv ∧ xs[j]? = some sv ∧ OwnD B w sv (rows[j]?.getD []) := by
  obtain ⟨sv, h1, h2⟩ := h.each j hj
  rcases h.own.2 with ⟨rfl, e⟩ | ⟨g, cap, cur, rfl, hb, hg, _⟩
  · omega
  · have := h.own.cells (g := g) rfl j sv h1
    rw [Addr.add_mid, Nat.zero_add] at this
    exact ⟨g, cap, sv, rfl, this, h1, h2⟩
set_option maxRecDepth 100000 in
set_option maxHeartbeats 2000000 in
theorem troot_any {B tb : Nat} {ds : List Dig} {w : World} (h : TreeAt B w tb ds) (hg : Glob w) : Calls Tryd.prog 16 #[.pointer (some ⟨tb, 0, none⟩)] w fun e w' => e = .returned (.tuple #[.agg (byteCells (rootOf ds)), .int .i64 0]) ∧ Below w.heap.size w w' := by
  have hgs := hg.size
  have hB0 := (Below.refl w.heap.size w).alloc (Nat.le_refl _) (.cells (zeroCells 32) 30)
  have h' := h.below hB0
  have hnn := none_tree h'
  obtain ⟨h0, h16, _, v, hv, ho⟩ := id h'
  have hrw := rows_any v ds _ (ho.digs (by simp)) h16 h0 (hg.below hB0 hg.size)
  obtain ⟨a, n, c, rfl⟩ : ∃ a n c, v = Value.slice a n c := by obtain ⟨a, c, e⟩ := ho.slice; exact ⟨a, _, c, e⟩
  have c1 := hv.one
  obtain ⟨hr1, hr2, hr3⟩ := rootOf_spec h0
  obtain ⟨R, hR⟩ : ∃ R, rowsL (ds.map markL) = R := ⟨_, rfl⟩
  have hR17 : R.length ≤ 17 := by rw [← hR]; exact rowsL_len 16 _ (by simpa using h16)
  rw [hR] at hr1 hr3 hrw
  obtain ⟨x, hx⟩ : ∃ x, rootOf ds = x := ⟨_, rfl⟩
  rw [hx] at hr1 hr2 ⊢
  clear hR hx
  go_enter Tryd.func16, Tryd.ntmps16
  go_wp2_with (first
    | (go_at_call 32; refine hnn.mono ?_; rintro e w' ⟨rfl, hw⟩; obtain rfl := hw.symm))
  refine hrw.mono ?_
  rintro e W1 ⟨v1, xs, rfl, hRw, hB1⟩
  obtain ⟨g, cap, sv, rfl, hcell, hxs, hsv⟩ := hRw.at_ (j := R.length - 1) (by omega)
  rw [hr1, Option.getD_some] at hsv
  obtain ⟨g2, o2, c2, rfl, hrg, hg2⟩ := (hsv.digs (by have := hB1.size; simp at this; omega)).at_ (i := 0) (by simp)
  simp only [List.getElem?_cons_zero, Option.getD_some, Nat.zero_mul, Nat.add_zero, List.length_singleton] at hrg hcell
  obtain ⟨L, hL⟩ : ∃ L, R.length - 1 = L := ⟨_, rfl⟩
  have hL1 : R.length = L + 1 := by omega
  rw [hL] at hcell
  rw [hL1]
  clear hRw hxs hrw hr1 hL
  have hr : Has W1 w.heap.size (zeroCells 32) 30 := (has_new _ _ _ _ rfl).below hB1 (by simp)
  have hb32 : (byteCells x).size = 32 := by rw [byteCells_size, hr2]
  have eL : ((L + 1 : Nat) : Int) - 1 = (L : Int) := by omega
  go_wp2_with (first
    | refine wpList_load_mid rfl 30 _ rfl g2 o2 rfl (byteCells x).toList _ hrg Tryd.underlying30 rfl (by rw [byteCells_len, hr2]; kernel_rfl) ?_
    | refine wpList_store_row rfl 30 _ _ rfl w.heap.size (byteCells x) rfl rfl 30 _ hr (by rw [hb32]; kernel_rfl) (by rw [hb32, zeroCells_size]) (byteCells_one _) ?_)
  refine bodyPost_ret (results_two rfl _ _ w.heap.size _ _ rfl rfl (setRow_heap _ _ _ _ _ _ hr) hb32) rfl ?_
  exact ⟨rfl, (hB0.trans (hB1.mono (by simp))).trans ⟨rfl, rfl, rfl, by simp, fun j hj => setRow_other _ _ _ _ (by omega)⟩⟩
set_option maxRecDepth 100000 in
set_option maxHeartbeats 1000000 in
theorem troot_nil (w : World) : Calls Tryd.prog 16 #[.pointer none] w fun e w' => e = .returned (.tuple #[.agg (zeroCells 32), .int .i64 1]) ∧ Below w.heap.size w w' := by
  have hB0 := (Below.refl w.heap.size w).alloc (Nat.le_refl _) (.cells (zeroCells 32) 30)
  have hr : Has (w.alloc (.cells (zeroCells 32) 30)) w.heap.size (zeroCells 32) 30 := has_new _ _ _ _ rfl
  go_enter Tryd.func16, Tryd.ntmps16
  go_wp2_with (first
    | (go_at_call 32; refine (none_tnil _).mono ?_; rintro e w' ⟨rfl, hw⟩; obtain rfl := hw.symm)
    | refine wpList_store_row rfl 30 _ _ rfl w.heap.size (zeroCells 32) rfl rfl 30 _ hr (by kernel_rfl) rfl (by kernel_rfl) ?_)
  refine bodyPost_ret (results_two rfl _ _ w.heap.size _ _ rfl rfl (setRow_heap _ _ _ _ _ _ hr) rfl) rfl ?_
  exact ⟨rfl, hB0.trans ⟨rfl, rfl, rfl, by simp, fun j hj => setRow_other _ _ _ _ (by omega)⟩⟩
set_option maxRecDepth 100000 in
set_option maxHeartbeats 1000000 in
theorem leaf_bad (p : Value) (i k : Int) (w : World) (hk : ¬ k = 0) (ha : ∀ w1, Below w.heap.size w w1 → Calls Tryd.prog 34 #[p, .int .i64 i] w1 fun e w' => e = .returned (.int .i64 k) ∧ w' = w1) :
    Calls Tryd.prog 17 #[p, .int .i64 i] w fun e w' => e = .returned (.tuple #[.agg (zeroCells 32), .int .i64 k]) ∧ Below w.heap.size w w' := by
  have hB0 := (Below.refl w.heap.size w).alloc (Nat.le_refl _) (.cells (zeroCells 32) 30)
  have hr : Has (w.alloc (.cells (zeroCells 32) 30)) w.heap.size (zeroCells 32) 30 := has_new _ _ _ _ rfl
  have ha1 := ha _ hB0
  clear ha
  go_enter Tryd.func17, Tryd.ntmps17
  go_wp2_with (first
    | (go_at_call 34; refine ha1.mono ?_; rintro e w' ⟨rfl, hw⟩; obtain rfl := hw.symm)
    | refine wpList_store_row rfl 30 _ _ rfl w.heap.size (zeroCells 32) rfl rfl 30 _ hr (by kernel_rfl) rfl (by kernel_rfl) ?_)
  refine bodyPost_ret (results_two rfl _ _ w.heap.size _ _ rfl rfl (setRow_heap _ _ _ _ _ _ hr) rfl) rfl ?_
  exact ⟨rfl, hB0.trans ⟨rfl, rfl, rfl, by simp, fun j hj => setRow_other _ _ _ _ (by omega)⟩⟩
set_option maxRecDepth 100000 in
set_option maxHeartbeats 1000000 in
theorem leaf_ok {B tb : Nat} {ds : List Dig} {w : World} (h : TreeAt B w tb ds) (i : Nat) (hi : i < ds.length) :
    Calls Tryd.prog 17 #[.pointer (some ⟨tb, 0, none⟩), .int .i64 (i : Int)] w fun e w' => e = .returned (.tuple #[.agg (byteCells (ds[i]?.getD [])), .int .i64 0]) ∧ Below w.heap.size w w' := by
  have hB0 := (Below.refl w.heap.size w).alloc (Nat.le_refl _) (.cells (zeroCells 32) 30)
  have hr : Has (w.alloc (.cells (zeroCells 32) 30)) w.heap.size (zeroCells 32) 30 := has_new _ _ _ _ rfl
  have h' := h.below hB0
  have ha := asked_any h' (i : Int)
  rw [show thereB (i : Int) ds.length = true by simp [thereB]; omega, if_pos rfl] at ha
  obtain ⟨h0, h16, _, v, hv, ho⟩ := id h'
  have hd := ho.1.at_ hi
  obtain ⟨g, o, c, rfl, hrg, hgl⟩ := (ho.digs (by simp)).at_ hi
  have c1 := hv.one
  obtain ⟨d, hdd⟩ : ∃ d, ds[i]?.getD [] = d := ⟨_, rfl⟩
  rw [hdd] at hd hrg ⊢
  have hbs : (byteCells d).size = 32 := by rw [byteCells_size, hd]
  go_enter Tryd.func17, Tryd.ntmps17
  go_wp2_with (first
    | (go_at_call 34; refine ha.mono ?_; rintro e w' ⟨rfl, hw⟩; obtain rfl := hw.symm)
    | refine wpList_load_mid rfl 30 _ rfl g (o + i * 32) rfl (byteCells d).toList _ hrg Tryd.underlying30 rfl (by rw [byteCells_len, hd]; kernel_rfl) ?_
    | refine wpList_store_row rfl 30 _ _ rfl w.heap.size (byteCells d) rfl rfl 30 _ hr (by rw [hbs]; kernel_rfl) (by rw [hbs, zeroCells_size]) (byteCells_one _) ?_)
  refine bodyPost_ret (results_two rfl _ _ w.heap.size _ _ rfl rfl (setRow_heap _ _ _ _ _ _ hr) hbs) rfl ?_
  exact ⟨rfl, hB0.trans ⟨rfl, rfl, rfl, by simp, fun j hj => setRow_other _ _ _ _ (by omega)⟩⟩
end Go.Proofs.YtcmkjgodgocdfaaDoor
