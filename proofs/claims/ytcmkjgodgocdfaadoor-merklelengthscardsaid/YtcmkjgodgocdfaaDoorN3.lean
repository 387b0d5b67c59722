/- merkle.rowsFrom: all rows from a row on. -/
import Derived.Test.YtcmkjgodgocdfaaDoorN2
namespace Go.Proofs.YtcmkjgodgocdfaaDoor
open Go.RowKit

def rowsL (ds : List Dig) : List (List Dig) := if _h : 1 < ds.length then ds :: rowsL (aboveL ds) else [ds]
termination_by ds.length
decreasing_by rw [aboveL_len _ ds (Nat.le_refl _)]; omega
theorem rowsL_more {ds : List Dig} (h : 1 < ds.length) : rowsL ds = ds :: rowsL (aboveL ds) := by rw [rowsL, dif_pos h]
theorem rowsL_last {ds : List Dig} (h : ¬ 1 < ds.length) : rowsL ds = [ds] := by rw [rowsL, dif_neg h]
theorem rowsL_len : ∀ (n : Nat) (ds : List Dig), ds.length ≤ n → (rowsL ds).length ≤ n + 1 := by
  intro n
  induction n using Nat.strongRecOn with
  | _ n ih =>
    intro ds hn
    by_cases h : 1 < ds.length
    · rw [rowsL_more h, List.length_cons]
      have hl := aboveL_len _ ds (Nat.le_refl _)
      have := ih (n - 1) (by omega) (aboveL ds) (by omega)
      omega
    · rw [rowsL_last h]; simp
theorem own_apart {w : World} {b1 b2 e1 e2 s1 s2 n1 n2 : Nat} {v1 v2 : Value} {x1 x2 : List Value} (h1 : w.ownsRow b1 e1 s1 v1 n1 x1) (h2 : w.ownsRow b2 e2 s2 v2 n2 x2) (he : e1 ≠ e2) : v1.ownBlock = none ∨ v1.ownBlock ≠ v2.ownBlock := by
  rcases h1.2 with ⟨rfl, _⟩ | ⟨g, c, cur, rfl, _, hg, _⟩
  · exact .inl rfl
  · right
    rcases h2.2 with ⟨rfl, _⟩ | ⟨g', c', cur', rfl, _, hg', _⟩
    · simp [Value.ownBlock]
    · intro e
      simp only [Value.ownBlock, Option.some.injEq] at e
      subst e
      rw [hg] at hg'
      simp only [Option.some.injEq, Obj.cells.injEq] at hg'
      exact he hg'.2.1
/-- A row of rows of digests, each in a block of its own. -/
structure RowsAt (base C : Nat) (w : World) (rv : Value) (rows : List (List Dig)) (xs : List Value) : Prop where
  own : w.ownsRow C 22 1 rv rows.length xs
  each : ∀ j, j < rows.length → ∃ sv, xs[j]? = some sv ∧ OwnD base w sv (rows[j]?.getD [])
  apart : ∀ (i j : Nat) (u v : Value) (b : Nat), i < j → xs[i]? = some u → xs[j]? = some v → u.ownBlock = some b → v.ownBlock ≠ some b
theorem RowsAt.below {B C : Nat} {w w' : World} {mv : Value} {rows : List (List Dig)} {xs : List Value} (h : RowsAt B C w mv rows xs) (k : Below w.heap.size w w') : RowsAt B C w' mv rows xs :=
  ⟨ownsRow_below h.own k, fun j hj => by obtain ⟨sv, h1, h2⟩ := h.each j hj; exact ⟨sv, h1, h2.below k⟩, h.apart⟩
theorem OwnD.kept {base B e size n : Nat} {w w' : World} {v mv : Value} {ds : List Dig} {xs : List Value} (h : OwnD base w v ds) (hm : w.ownsRow B e size mv n xs) (hg : w.grownBy w' mv.ownBlock) (he : 30 ≠ e) : OwnD base w' v ds :=
  ⟨h.1, World.ownsRow.kept h.2 hg (own_apart h.2 hm he)⟩
theorem RowsAt.snoc {B C : Nat} {w w1 w2 : World} {mv mv' sv : Value} {rows : List (List Dig)} {xs : List Value} {d : List Dig} (h : RowsAt B C w mv rows xs) (k : Below w.heap.size w w1) (hd : OwnD w.heap.size w1 sv d) (hb : B ≤ w.heap.size)
    (ho : w1.ownsRow C 22 1 mv rows.length xs) (ho2 : w2.ownsRow C 22 1 mv' (rows.length + 1) (xs ++ [sv])) (hg : w1.grownBy w2 mv.ownBlock) : RowsAt B C w2 mv' (rows ++ [d]) (xs ++ [sv]) := by
  have hl : xs.length = rows.length := by have := h.own.1; omega
  refine ⟨by rw [List.length_append]; exact ho2, fun j hj => ?_, fun i j u v b hij hu hv hb1 => ?_⟩
  · rw [List.length_append] at hj
    by_cases e : j < rows.length
    · obtain ⟨s, h1, h2⟩ := h.each j e
      refine ⟨s, by rw [List.getElem?_append_left (by omega)]; exact h1, ?_⟩
      rw [List.getElem?_append_left e]
      exact (h2.below k).kept ho hg (by decide)
    · have ej : j = rows.length := by simp at hj; omega
      subst ej
      refine ⟨sv, by rw [List.getElem?_append_right (by omega), hl]; simp, ?_⟩
      rw [List.getElem?_append_right (by omega)]
      simp only [Nat.sub_self, List.getElem?_cons_zero, Option.getD_some]
      exact (hd.mono hb).kept ho hg (by decide)
  · have hj : j < xs.length + 1 := by have := (List.getElem?_eq_some_iff.1 hv).1; simpa using this
    have hi : i < xs.length := by omega
    rw [List.getElem?_append_left hi] at hu
    by_cases e : j < xs.length
    · rw [List.getElem?_append_left e] at hv
      exact h.apart i j u v b hij hu hv hb1
    · have ej : j = xs.length := by omega
      subst ej
      rw [List.getElem?_append_right (by omega), Nat.sub_self] at hv
      obtain rfl : sv = v := by simpa using hv
      intro hc
      have h1 := (hd.2.lt b hc).1
      obtain ⟨s, h2, h3⟩ := h.each i (by omega)
      obtain rfl : s = u := Option.some.inj (h2.symm.trans hu)
      have h4 := (h3.2.lt b hb1).2
      omega
theorem info22 : (Tryd.prog.info? 22).map (fun i => (i.zero, i.size, i.bytes)) = some (some (.slice none 0 0), 1, 24) := by kernel_rfl
theorem OwnD.len {base : Nat} {w : World} {v : Value} {ds : List Dig} (h : OwnD base w v ds) : sliceLen v = ds.length := by
  obtain ⟨a, c, rfl⟩ := h.slice; rfl

set_option maxRecDepth 100000 in
set_option maxHeartbeats 2000000 in
theorem rowsFrom_any (B : Nat) (v : Value) (ds : List Dig) (fb : Nat) (w : World) (hv : OwnD B w v ds) (hB : B ≤ w.heap.size) (hn : ds.length ≤ 16) (hne : 0 < ds.length) (hf : w.cell? ⟨fb, 0, none⟩ = some (.int .u8 (bv 1))) (hfl : fb < w.heap.size) (hg : Glob w) :
    Calls Tryd.prog 42 #[v, joinV fb] w fun e w' => ∃ v' xs, e = .returned v' ∧ RowsAt B w.heap.size w' v' (rowsL ds) xs ∧ Below w.heap.size w w' := by
  have hgs := hg.size
  obtain ⟨j0, hi, hz0, hz1, hz2⟩ := info_parts info22
  have hrl := rowsL_len _ ds hn
  obtain ⟨jv, hjv⟩ : ∃ jv, joinV fb = jv := ⟨_, rfl⟩
  rw [hjv]
  obtain ⟨a0, n0, c0, rfl⟩ : ∃ a n c, v = Value.slice a n c := by obtain ⟨a, c, e⟩ := hv.slice; exact ⟨a, _, c, e⟩
  go_enter Tryd.func42, Tryd.ntmps42
  go_wp2_with fail
  refine named (p := Code.wp _ _ _ _) ?_
  intro W0 hW0
  have hz : w.heap.size < W0.heap.size := by rw [hW0]; simp
  have hB0 : Below w.heap.size w W0 := by rw [hW0]; exact (Below.refl _ _).alloc (Nat.le_refl _) _
  have x0 : Has W0 w.heap.size #[.slice a0 n0 c0] 22 := by rw [hW0]; exact has_new _ _ _ _ rfl
  have hR0 : RowsAt B w.heap.size W0 (.slice (some ⟨w.heap.size, 0, none⟩) 1 1) [ds] [.slice a0 n0 c0] :=
    ⟨⟨rfl, .inr ⟨_, 1, _, rfl, Nat.le_refl _, x0, Nat.le_refl _, by simp only [maxLen]; omega, rfl, rfl⟩⟩, fun j hj => by
      obtain rfl : j = 0 := by simp at hj; omega
      exact ⟨_, rfl, hv.below hB0⟩, fun i j u v b hij hu hv => by
      have := (List.getElem?_eq_some_iff.1 hv).1
      simp at this; omega⟩
  clear hW0 x0
  have hv0 := hv.below hB0
  go_loopw [0, 5] (fun r rv wr => ∃ ds' pre xs, OwnD B wr r ds' ∧ 0 < ds'.length ∧ ds'.length ≤ 16 ∧ Hid (rowsL ds = pre ++ rowsL ds') ∧ RowsAt B w.heap.size wr rv (pre ++ [ds']) xs ∧ Below w.heap.size w wr) (fun r _ _ => sliceLen r)
  case atStart => exact ⟨ds, [], _, hv0, hne, hn, rfl, hR0, hB0⟩
  case round =>
    obtain ⟨ds', pre, xs, ho, h0, h16, hrw, hR, hBw⟩ := hrel
    obtain ⟨ar, cr, rfl⟩ := ho.slice
    by_cases hlt : 1 < ds'.length
    · have hgw := hg.below hBw hg.size
      have hws : 2 ≤ wr.heap.size := hgw.size
      have hfw := (hBw.cell (p := ⟨fb, 0, none⟩) hfl).trans hf
      have hfl' : fb < wr.heap.size := Nat.lt_of_lt_of_le hfl hBw.size
      have hBwr : B ≤ wr.heap.size := Nat.le_trans hB hBw.size
      have hplen : Hid ((pre ++ [ds']).length + 1 ≤ 17) := by
        have := congrArg List.length hrw.out
        rw [List.length_append, rowsL_more hlt, List.length_cons] at this
        have h3 : 1 ≤ (rowsL (aboveL ds')).length := by
          rw [rowsL]; split <;> simp
        show (pre ++ [ds']).length + 1 ≤ 17
        rw [List.length_append, List.length_singleton]
        omega
      obtain ⟨m, hm⟩ : ∃ m, (pre ++ [ds']).length = m := ⟨_, rfl⟩
      have hown := hR.own
      rw [hm] at hplen hown
      go_wp2_with fail
      have hcall := above_any (.slice ar ds'.length cr) ds' fb wr (ho.digs (by omega)) h16 h0 hfw hfl' hgw
      rw [hjv] at hcall
      refine hcall.mono ?_
      clear hcall
      rintro e W1 ⟨v1, rfl, ho1, hB1⟩
      obtain ⟨a1, c1, hv1⟩ := ho1.slice
      have hl1 := aboveL_len _ ds' (Nat.le_refl _)
      obtain ⟨n1, hn1⟩ : ∃ n, (aboveL ds').length = n := ⟨_, rfl⟩
      rw [hn1] at hv1 hl1
      subst hv1
      have hl2 : Hid (n1 = (ds'.length + 1) / 2) := hl1
      have hn1' : Hid ((aboveL ds').length = n1) := hn1
      clear hl1 hn1
      have hws' := hBw.size
      have hown1 := ownsRow_below hown hB1
      have hn2 := has_new W1 #[Value.slice a1 n1 c1] 22 W1.heap.size rfl
      have hs1 := hB1.size
      go_wp2_with (refine wpList_append_own _ rfl _ _ 45 rfl w.heap.size 22 j0 (.slice none 0 0) 1 24 Tryd.underlying45 hi hz0 hz1 hz2 rfl (by omega) _ m xs rfl (hown1.alloc _) ⟨W1.heap.size, 0, none⟩ 1 1 [Value.slice a1 n1 c1] rfl rfl (fun j u hu => by rw [Addr.add_mid, Nat.zero_add]; refine (hn2.cell j).trans ?_; rw [← hu]; simp) (fun u hu => by simp at hu; subst hu; rfl) (by have := hplen.out; simp only [maxLen]; omega) (by have := hplen.out; omega) (by simp; omega) ?_; intro v4 w4 hown4 hg4 hnil; clear hnil)
      have hBa := (Below.refl W1.heap.size W1).alloc (Nat.le_refl _) (.cells #[Value.slice a1 n1 c1] 22)
      have hRn := hR.snoc (hB1.trans (hBa.mono hs1)) (ho1.alloc _) hBwr (by rw [hm]; exact hown1.alloc _) (by rw [hm]; exact hown4) hg4
      have hlow := grown_low2 (hown1.alloc (.cells #[Value.slice a1 n1 c1] 22)) hg4 (by simp; omega)
      have hl1 := hl2.out
      have hn1 := hn1'.out
      go_roundw
      case rel => exact ⟨aboveL ds', pre ++ [ds'], _, ((ho1.alloc _).mono hBwr).kept (hown1.alloc _) hg4 (by decide), by omega, by omega, by have := hrw.out; rw [rowsL_more hlt] at this; show _ = _; rw [this]; simp, hRn, ((hBw.trans (hB1.mono hBw.size)).trans (hBa.mono (by have := hBw.size; omega))).trans hlow⟩
      case measure => simp [sliceLen]; omega
    · have hfin : rowsL ds = pre ++ [ds'] := by have := hrw.out; rwa [rowsL_last hlt] at this
      go_wp2
      go_ret
      exact ⟨_, xs, rfl, by rw [hfin]; exact hR, hBw⟩
end Go.Proofs.YtcmkjgodgocdfaaDoor
