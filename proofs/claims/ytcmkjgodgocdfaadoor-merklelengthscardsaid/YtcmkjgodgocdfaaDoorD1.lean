/- Rows of digests in memory; parts of a digest. -/
import Derived.Test.YtcmkjgodgocdfaaDoorU0
import Derived.Test.YtcmkjgodgocdfaaDoorH2
import Derived.Deep.MidRow
namespace Go.Proofs.YtcmkjgodgocdfaaDoor
open Go.RowKit

abbrev Dig := List UInt8
def All32 (ds : List Dig) : Prop := ∀ (i : Nat) (d : Dig), ds[i]? = some d → d.length = 32
theorem All32.nil : All32 [] := fun i d h => by simp at h
theorem All32.at_ {ds : List Dig} (h : All32 ds) {i : Nat} (hi : i < ds.length) : (ds[i]?.getD []).length = 32 := h i _ (by simp [hi])
theorem All32.snoc {ds : List Dig} (h : All32 ds) {d : Dig} (hd : d.length = 32) : All32 (ds ++ [d]) := fun i x hx => by
  by_cases hi : i < ds.length
  · rw [List.getElem?_append_left hi] at hx; exact h i x hx
  · rw [List.getElem?_append_right (by omega)] at hx
    have : i - ds.length = 0 := by have := (List.getElem?_eq_some_iff.1 hx).1; simp at this; omega
    rw [this] at hx; simp at hx; rw [← hx]; exact hd
theorem All32.app {ds es : List Dig} (h : All32 ds) (k : All32 es) : All32 (ds ++ es) := fun i x hx => by
  by_cases hi : i < ds.length
  · rw [List.getElem?_append_left hi] at hx; exact h i x hx
  · rw [List.getElem?_append_right (by omega)] at hx; exact k _ _ hx
theorem byteCells_len (d : List UInt8) : (byteCells d).toList.length = d.length := by rw [Array.length_toList, byteCells_size]
/-- The digests of a slice's cells. -/
def DigsIn (w : World) (g o : Nat) (ds : List Dig) : Prop := ∀ i, i < ds.length → w.rangeAt g (o + i * 32) (byteCells (ds[i]?.getD [])).toList
/-- A slice value whose digests these are. -/
def Digs (w : World) (v : Value) (ds : List Dig) : Prop :=
  All32 ds ∧ ∃ a cap g o, v = .slice a ds.length cap ∧ ds.length ≤ cap ∧ cap ≤ maxLen ∧ (ds ≠ [] → a = some ⟨g, o, none⟩) ∧ DigsIn w g o ds ∧ g < w.heap.size
theorem rangeAt_block {w w' : World} {g o : Nat} {cs : List Value} (h : w.rangeAt g o cs) (k : w'.heap[g]? = w.heap[g]?) : w'.rangeAt g o cs := fun j v hv => by
  rw [World.cell?_of_block (w := w) k]; exact h j v hv
theorem DigsIn.block {w w' : World} {g o : Nat} {ds : List Dig} (h : DigsIn w g o ds) (k : w'.heap[g]? = w.heap[g]?) : DigsIn w' g o ds := fun i hi => rangeAt_block (h i hi) k
theorem Digs.below {w w' : World} {v : Value} {ds : List Dig} (h : Digs w v ds) (k : Below w.heap.size w w') : Digs w' v ds := by
  obtain ⟨h1, a, cap, g, o, e, hc, hm, ha, hd, hg⟩ := h
  exact ⟨h1, a, cap, g, o, e, hc, hm, ha, hd.block (k.block g hg), Nat.lt_of_lt_of_le hg k.size⟩
theorem Digs.slice {w : World} {v : Value} {ds : List Dig} (h : Digs w v ds) : ∃ a cap, v = .slice a ds.length cap := by
  obtain ⟨_, a, cap, g, o, e, _⟩ := h; exact ⟨a, cap, e⟩
/-- A row of digests that lies in no block below 'base' (or in none). -/
def OwnD (base : Nat) (w : World) (v : Value) (ds : List Dig) : Prop := All32 ds ∧ w.ownsRow base 30 32 v ds.length (ds.flatten.map bc)
theorem flat_at {ds : List Dig} (h : All32 ds) : ∀ (i j : Nat), i < ds.length → j < 32 → ds.flatten[i * 32 + j]? = (ds[i]?.getD [])[j]? := by
  induction ds with
  | nil => intro i j hi; simp at hi
  | cons d ds ih =>
    intro i j hi hj
    have hd : d.length = 32 := h 0 d rfl
    cases i with
    | zero => rw [List.flatten_cons, List.getElem?_append_left (by omega)]; simp
    | succ i =>
      rw [List.flatten_cons, List.getElem?_append_right (by omega), show (i + 1) * 32 + j - d.length = i * 32 + j by omega]
      exact ih (fun i x hx => h (i + 1) x hx) i j (by simpa using hi) hj
theorem flat_len {ds : List Dig} (h : All32 ds) : ds.flatten.length = ds.length * 32 := by
  induction ds with
  | nil => rfl
  | cons d ds ih => rw [List.flatten_cons, List.length_append, ih (fun i x hx => h (i + 1) x hx), h 0 d rfl, List.length_cons]; omega
theorem OwnD.digs {base : Nat} {w : World} {v : Value} {ds : List Dig} (h : OwnD base w v ds) (h0 : 0 < w.heap.size) : Digs w v ds := by
  refine ⟨h.1, ?_⟩
  rcases h.2.2 with ⟨rfl, e⟩ | ⟨g, cap, cur, rfl, hb, hg, hle, hm, _⟩
  · obtain rfl : ds = [] := List.eq_nil_of_length_eq_zero e
    exact ⟨none, 0, 0, 0, rfl, Nat.le_refl _, Nat.zero_le _, fun h => absurd rfl h, fun i hi => absurd hi (by simp), h0⟩
  · refine ⟨_, cap, g, 0, rfl, hle, hm, fun _ => rfl, fun i hi => ?_, (h.2.lt g rfl).2⟩
    intro j u hu
    have hd := h.1.at_ hi
    have hj : j < 32 := by
      have := (List.getElem?_eq_some_iff.1 hu).1
      rw [byteCells_len] at this; omega
    have e1 : (byteCells (ds[i]?.getD [])).toList[j]? = some (bc ((ds[i]?.getD [])[j]?.getD 0)) := by
      rw [Array.getElem?_toList]; exact byteCells_at _ j (by omega)
    have e2 := flat_at h.1 i j hi hj
    rw [List.getElem?_eq_getElem (show j < (ds[i]?.getD []).length by omega)] at e2
    have := h.2.cells (g := g) rfl (i * 32 + j) u (by
      rw [List.getElem?_map, e2, Option.map_some, ← hu, e1, List.getElem?_eq_getElem (show j < (ds[i]?.getD []).length by omega)]; rfl)
    rw [Addr.add_mid] at this
    rw [← this]
    congr 2
    omega
theorem OwnD.nil (base : Nat) (w : World) : OwnD base w (.slice none 0 0) [] := ⟨All32.nil, World.ownsRow_nil _ _ _ _⟩
theorem OwnD.below {base : Nat} {w w' : World} {v : Value} {ds : List Dig} (h : OwnD base w v ds) (k : Below w.heap.size w w') : OwnD base w' v ds := ⟨h.1, ownsRow_below h.2 k⟩
theorem OwnD.alloc {base : Nat} {w : World} {v : Value} {ds : List Dig} (h : OwnD base w v ds) (o : Obj) : OwnD base (w.alloc o) v ds := ⟨h.1, World.ownsRow.alloc h.2 o⟩
theorem OwnD.mono {base base' : Nat} {w : World} {v : Value} {ds : List Dig} (h : OwnD base w v ds) (hb : base' ≤ base) : OwnD base' w v ds := ⟨h.1, ownsRow_mono h.2 hb⟩
theorem OwnD.slice {base : Nat} {w : World} {v : Value} {ds : List Dig} (h : OwnD base w v ds) : ∃ a cap, v = .slice a ds.length cap := by
  rcases h.2.2 with ⟨rfl, h0⟩ | ⟨g, cap, cur, rfl, _⟩
  · exact ⟨none, 0, by rw [h0]⟩
  · exact ⟨_, cap, rfl⟩
/-- Rows of unlike types lie apart. -/
theorem own_ne {base e size n : Nat} {w : World} {v : Value} {xs : List Value} (h : w.ownsRow base e size v n xs) {b t : Nat} {cs : Array Value} (hh : Has w b cs t) (ht : t ≠ e) : v.ownBlock ≠ some b := by
  intro k
  rcases h.2 with ⟨rfl, _⟩ | ⟨g, c, cur, rfl, _, hg, _⟩
  · simp [Value.ownBlock] at k
  · simp only [Value.ownBlock, Option.some.injEq] at k
    subst k
    rw [show w.heap[g]? = _ from hh] at hg
    simp only [Option.some.injEq, Obj.cells.injEq] at hg
    exact ht hg.2.1
theorem grown_has {base e size n : Nat} {w w' : World} {v : Value} {xs : List Value} (h : w.ownsRow base e size v n xs) (hg : w.grownBy w' v.ownBlock) {b t : Nat} {cs : Array Value} (hh : Has w b cs t) (ht : t ≠ e) : Has w' b cs t :=
  (hg.block b hh.lt (fun k => own_ne h hh ht k.symm)).trans hh
theorem grown_low2 {base e size n : Nat} {w w' : World} {v : Value} {xs : List Value} (h : w.ownsRow base e size v n xs) (hg : w.grownBy w' v.ownBlock) (hb : base ≤ w.heap.size) : Below base w w' :=
  ⟨hg.os, hg.tape, hg.output, hg.size, fun k hk => hg.block k (by omega) (fun e => by have := (h.lt k e.symm).1; omega)⟩

/-- A slice of a whole block of bytes that is no row of slices. -/
def Blk (w : World) (sv : Value) (d : List UInt8) : Prop := ∃ b t, sv = .slice (some ⟨b, 0, none⟩) d.length d.length ∧ Has w b (byteCells d) t ∧ t ≠ 77
theorem Blk.below {w w' : World} {sv : Value} {d : List UInt8} (h : Blk w sv d) (k : Below w.heap.size w w') : Blk w' sv d := by
  obtain ⟨b, t, e, hh, ht⟩ := h; exact ⟨b, t, e, hh.below k hh.lt, ht⟩
theorem Blk.bytes {w : World} {sv : Value} {d : List UInt8} (h : Blk w sv d) : Bytes w sv d := by
  obtain ⟨b, t, rfl, hh, _⟩ := h
  exact ⟨_, d.length, b, 0, rfl, Nat.le_refl _, fun _ => rfl, fun j hj => by rw [hh.cell, Nat.zero_add]; exact byteCells_at d j hj, hh.lt⟩
/-- A row of parts, each of which is a whole block of bytes. -/
structure Pts (B : Nat) (w : World) (mv : Value) (ds : List (List UInt8)) (xs : List Value) : Prop where
  own : w.ownsRow B 77 1 mv ds.length xs
  each : ∀ j, j < ds.length → ∃ sv, xs[j]? = some sv ∧ Blk w sv (ds[j]?.getD [])
theorem Pts.below {B : Nat} {w w' : World} {mv : Value} {ds : List (List UInt8)} {xs : List Value} (h : Pts B w mv ds xs) (k : Below w.heap.size w w') : Pts B w' mv ds xs :=
  ⟨ownsRow_below h.own k, fun j hj => by obtain ⟨sv, h1, h2⟩ := h.each j hj; exact ⟨sv, h1, h2.below k⟩⟩
theorem Pts.parts {B : Nat} {w : World} {mv : Value} {ds : List (List UInt8)} {xs : List Value} (h : Pts B w mv ds xs) (h0 : 0 < w.heap.size) (hf : ds.flatten.length < 10000000000) (hl : ds.length < 10000000000) : Parts w mv ds := by
  rcases h.own.2 with ⟨rfl, e⟩ | ⟨g, c, cur, rfl, _, hg, _⟩
  · obtain rfl : ds = [] := List.eq_nil_of_length_eq_zero e
    exact ⟨none, 0, 0, 0, rfl, fun h => absurd rfl h, fun i hi => absurd hi (by simp), h0, hf, hl⟩
  · refine ⟨_, c, g, 0, rfl, fun _ => rfl, fun i hi => ?_, (h.own.lt g rfl).2, hf, hl⟩
    obtain ⟨sv, h1, h2⟩ := h.each i hi
    have := h.own.cells (g := g) rfl i sv h1
    rw [Addr.add_mid] at this
    exact ⟨sv, this, h2.bytes⟩
theorem Pts.snoc {B : Nat} {w w1 w2 : World} {mv mv' sv : Value} {ds : List (List UInt8)} {xs : List Value} {d : List UInt8} (h : Pts B w mv ds xs) (k : Below w.heap.size w w1) (hb : Blk w1 sv d) (ho : w1.ownsRow B 77 1 mv ds.length xs)
    (ho2 : w2.ownsRow B 77 1 mv' (ds.length + 1) (xs ++ [sv])) (hg : w1.grownBy w2 mv.ownBlock) : Pts B w2 mv' (ds ++ [d]) (xs ++ [sv]) := by
  have hl : xs.length = ds.length := by have := h.own.1; omega
  refine ⟨by rw [List.length_append]; exact ho2, fun j hj => ?_⟩
  rw [List.length_append] at hj
  by_cases e : j < ds.length
  · obtain ⟨s, h1, h2⟩ := h.each j e
    refine ⟨s, by rw [List.getElem?_append_left (by omega)]; exact h1, ?_⟩
    rw [List.getElem?_append_left e]
    obtain ⟨b, t, e1, hh, ht⟩ := h2.below k
    exact ⟨b, t, e1, grown_has ho hg hh ht, ht⟩
  · have ej : j = ds.length := by simp at hj; omega
    subst ej
    refine ⟨sv, by rw [List.getElem?_append_right (by omega), hl]; simp, ?_⟩
    rw [List.getElem?_append_right (by omega)]
    obtain ⟨b, t, e1, hh, ht⟩ := hb
    simp only [Nat.sub_self, List.getElem?_cons_zero, Option.getD_some]
    exact ⟨b, t, e1, grown_has ho hg hh ht, ht⟩
theorem info77 : (Tryd.prog.info? 77).map (fun i => (i.zero, i.size, i.bytes)) = some (some (.slice none 0 0), 1, 24) := by kernel_rfl
end Go.Proofs.YtcmkjgodgocdfaaDoor
