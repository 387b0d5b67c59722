/- Texts put together, in build order: U1, W1, W2, W3, W4, T1, L1, L2, L3, T2, T3, T4. -/
import Derived.WalkKit
import Derived.WalkSpells
import Derived.WalkLawsBesides
import Derived.BigQuiet
import Derived.Deep.QuietTactic
import Derived.Laws.AppendOwn
import Derived.Deep.MidRow
import Derived.Lib.ConvBytes
import Derived.Test.YtgoflpfafkmmgaaProg
import Derived.Deep.RegionHeld3
/- Memory and bytes: blocks, rows that are owned, slices of bytes; nothing of the program stands here. -/
namespace Go.Proofs.Ytgoflpfafkmmgaa
open Go.RowKit

/-- A byte as the number that a slot holds. -/
def bv (x : UInt8) : Int := (x.toNat : Int)
theorem bv_nonneg (b : UInt8) : 0 ≤ bv b := Int.natCast_nonneg _
theorem bv_lt (b : UInt8) : bv b < 256 := by unfold bv; have := b.toNat_lt; omega
/-- A byte as a cell. -/
def bc (x : UInt8) : Value := .int .u8 (bv x)
def byteCells (bs : List UInt8) : Array Value := (bs.map bc).toArray
theorem byteCells_size (bs : List UInt8) : (byteCells bs).size = bs.length := by simp [byteCells]
theorem byteCells_at (bs : List UInt8) (j : Nat) (h : j < bs.length) : (byteCells bs)[j]? = some (bc (bs[j]?.getD 0)) := by
  simp [byteCells, h]

/-- But for block b, what was there is as it was; no block has gone. -/
structure Ex (b : Nat) (w w' : World) : Prop where
  os : w'.os = w.os
  tape : w'.tape = w.tape
  output : w'.output = w.output
  size : w.heap.size ≤ w'.heap.size
  block : ∀ k, k < w.heap.size → k ≠ b → w'.heap[k]? = w.heap[k]?

theorem Ex.refl (b : Nat) (w : World) : Ex b w w := ⟨rfl, rfl, rfl, Nat.le_refl _, fun _ _ _ => rfl⟩
theorem Ex.trans {b : Nat} {x y z : World} (h : Ex b x y) (k : Ex b y z) : Ex b x z :=
  ⟨k.os.trans h.os, k.tape.trans h.tape, k.output.trans h.output, Nat.le_trans h.size k.size, fun i hi hb => (k.block i (Nat.lt_of_lt_of_le hi h.size) hb).trans (h.block i hi hb)⟩
theorem Ex.below {b : Nat} {x y : World} (h : Below x.heap.size x y) : Ex b x y := ⟨h.os, h.tape, h.output, h.size, fun i hi _ => h.block i hi⟩
theorem Ex.set (b : Nat) (w : World) (p : Nat) (v : Value) : Ex b w (w.setCell ⟨b, p, none⟩ v) :=
  ⟨rfl, rfl, rfl, by simp [World.setCell], fun i _ hb => heap_setCell_other w ⟨b, p, none⟩ i v hb⟩
theorem Ex.drewN (b : Nat) (w : World) (k : Nat) : Ex b w (w.drewN k) := ⟨rfl, rfl, rfl, Nat.le_refl _, fun _ _ _ => rfl⟩
theorem Ex.drew (b : Nat) (w : World) : Ex b w w.drew := ⟨rfl, rfl, rfl, Nat.le_refl _, fun _ _ _ => rfl⟩
theorem Ex.alloc (b : Nat) (w : World) (o : Obj) : Ex b w (w.alloc o) := Ex.below ((Below.refl _ _).alloc (Nat.le_refl _) _)
/-- Where the block itself is new, all that was there is as it was. -/
theorem Below.ex {b B : Nat} {x y z : World} (h0 : Below B x y) (hB : B ≤ y.heap.size) (h : Ex b y z) (hb : B ≤ b) : Below B x z :=
  h0.trans ⟨h.os, h.tape, h.output, h.size, fun i hi => h.block i (by omega) (by omega)⟩
/-- A block of cells, none of them frozen. -/
def Has (w : World) (b : Nat) (cs : Array Value) (t : TypeId) : Prop := w.heap[b]? = some (.cells cs t (0, 0))
theorem Has.cell {w : World} {b t : Nat} {cs : Array Value} (h : Has w b cs t) (j : Nat) : w.cell? ⟨b, j, none⟩ = cs[j]? := cell_of_row w b j cs t (0, 0) h
theorem Has.free {w : World} {b t : Nat} {cs : Array Value} (h : Has w b cs t) (j : Nat) : w.frozen? ⟨b, j, none⟩ = false := frozen_of_row w b j cs t h
theorem Has.set {w : World} {b t : Nat} {cs : Array Value} (h : Has w b cs t) (p : Nat) (v : Value) : Has (w.setCell ⟨b, p, none⟩ v) b (cs.setIfInBounds p v) t := heap_setCell_same w b p cs t v h
theorem Has.lt {w : World} {b t : Nat} {cs : Array Value} (h : Has w b cs t) : b < w.heap.size := (Array.getElem?_eq_some_iff.1 h).1
theorem Has.ex {w w' : World} {b c t : Nat} {cs : Array Value} (h : Has w b cs t) (k : Ex c w w') (hb : b ≠ c) : Has w' b cs t := (k.block b h.lt hb).trans h
theorem Has.below {w w' : World} {b t B : Nat} {cs : Array Value} (h : Has w b cs t) (k : Below B w w') (hb : b < B) : Has w' b cs t := (k.block b hb).trans h
theorem Has.one {w : World} {b t : Nat} {v : Value} (h : Has w b #[v] t) : w.cell? ⟨b, 0, none⟩ = some v := h.cell 0
theorem alloc_get (w : World) (o : Obj) (k : Nat) : (w.alloc o).heap[k]? = if k = w.heap.size then some o else w.heap[k]? := by
  show (w.heap.push o)[k]? = _
  rw [Array.getElem?_push]
theorem has_new (w : World) (cs : Array Value) (t b : Nat) (h : b = w.heap.size) : Has (w.alloc (.cells cs t)) b cs t := by
  unfold Has; rw [alloc_get, if_pos h]
theorem has_old {w : World} {o : Obj} {cs : Array Value} {t b : Nat} (h : Has w b cs t) : Has (w.alloc o) b cs t := by
  have := h.lt
  unfold Has; rw [alloc_get, if_neg (by omega)]; exact h
theorem cell_set_off {w : World} {b p q : Nat} {v : Value} {x : Option Value} (hpq : ¬ p = q) (h : w.cell? ⟨b, p, none⟩ = x) : (w.setCell ⟨b, q, none⟩ v).cell? ⟨b, p, none⟩ = x := by
  have hne : (⟨b, q, none⟩ : Addr) ≠ ⟨b, p, none⟩ := by intro e; exact hpq (by injection e with _ e2; exact e2.symm)
  exact (World.cell?_setCell_other _ _ _ _ hne).trans h
theorem cell_set_blk {w : World} {b c p q : Nat} {v : Value} {x : Option Value} (hbc : ¬ c = b) (h : w.cell? ⟨c, p, none⟩ = x) : (w.setCell ⟨b, q, none⟩ v).cell? ⟨c, p, none⟩ = x := by
  have hne : (⟨b, q, none⟩ : Addr) ≠ ⟨c, p, none⟩ := by intro e; exact hbc (by injection e with e2; exact e2.symm)
  exact (World.cell?_setCell_other _ _ _ _ hne).trans h
theorem named {p : World → Prop} {W : World} (h : ∀ W0, W0 = W → p W0) : p W := h W rfl
theorem block_of_cell {w : World} {a : Addr} {v : Value} (h : w.cell? a = some v) : a.block < w.heap.size := World.block_lt_of_cell? w a h

/-- Bytes that lie in block d from o on. -/
def BytesIn (w : World) (d o : Nat) (l : List UInt8) : Prop := ∀ j, j < l.length → w.cell? ⟨d, o + j, none⟩ = some (bc (l[j]?.getD 0))
/-- A slice value whose bytes these are. -/
def Bytes (w : World) (v : Value) (d : List UInt8) : Prop :=
  ∃ a cap db o, v = .slice a d.length cap ∧ d.length ≤ cap ∧ (d ≠ [] → a = some ⟨db, o, none⟩) ∧ BytesIn w db o d ∧ db < w.heap.size
/-- .. and they don't lie in any of the blocks of which S tells. -/
def BytesAp (S : Nat → Prop) (w : World) (v : Value) (d : List UInt8) : Prop :=
  ∃ a cap db o, v = .slice a d.length cap ∧ d.length ≤ cap ∧ (d ≠ [] → a = some ⟨db, o, none⟩) ∧ BytesIn w db o d ∧ db < w.heap.size ∧ ¬ S db
theorem BytesAp.bytes {S : Nat → Prop} {w : World} {v : Value} {d : List UInt8} (h : BytesAp S w v d) : Bytes w v d := by
  obtain ⟨a, cap, db, o, h1, h2, h3, h4, h5, h6⟩ := h; exact ⟨a, cap, db, o, h1, h2, h3, h4, h5⟩
theorem BytesAp.mono {S S' : Nat → Prop} {w : World} {v : Value} {d : List UInt8} (h : BytesAp S w v d) (hs : ∀ k, k < w.heap.size → S' k → S k) : BytesAp S' w v d := by
  obtain ⟨a, cap, db, o, h1, h2, h3, h4, h5, h6⟩ := h; exact ⟨a, cap, db, o, h1, h2, h3, h4, h5, fun h => h6 (hs _ h5 h)⟩
theorem Bytes.ap {w : World} {v : Value} {d : List UInt8} (h : Bytes w v d) {S : Nat → Prop} (hs : ∀ k, k < w.heap.size → ¬ S k) : BytesAp S w v d := by
  obtain ⟨a, cap, db, o, h1, h2, h3, h4, h5⟩ := h; exact ⟨a, cap, db, o, h1, h2, h3, h4, h5, hs _ h5⟩
theorem Bytes.below {w w' : World} {v : Value} {d : List UInt8} (h : Bytes w v d) (k : Below w.heap.size w w') : Bytes w' v d := by
  obtain ⟨a, cap, db, o, h1, h2, h3, h4, h5⟩ := h
  exact ⟨a, cap, db, o, h1, h2, h3, fun j hj => (k.cell (p := ⟨db, o + j, none⟩) h5).trans (h4 j hj), Nat.lt_of_lt_of_le h5 k.size⟩
/-- But for blocks of S, what was there is as it was. -/
structure Fr (S : Nat → Prop) (w w' : World) : Prop where
  os : w'.os = w.os
  tape : w'.tape = w.tape
  output : w'.output = w.output
  size : w.heap.size ≤ w'.heap.size
  block : ∀ k, k < w.heap.size → ¬ S k → w'.heap[k]? = w.heap[k]?
theorem Fr.refl (S : Nat → Prop) (w : World) : Fr S w w := ⟨rfl, rfl, rfl, Nat.le_refl _, fun _ _ _ => rfl⟩
theorem Fr.mono {S S' : Nat → Prop} {w w' : World} (h : Fr S w w') (hs : ∀ k, k < w.heap.size → S k → S' k) : Fr S' w w' :=
  ⟨h.os, h.tape, h.output, h.size, fun k hk hn => h.block k hk (fun e => hn (hs k hk e))⟩
theorem Fr.trans {S : Nat → Prop} {x y z : World} (h : Fr S x y) (k : Fr S y z) : Fr S x z :=
  ⟨k.os.trans h.os, k.tape.trans h.tape, k.output.trans h.output, Nat.le_trans h.size k.size, fun i hi hb => (k.block i (Nat.lt_of_lt_of_le hi h.size) hb).trans (h.block i hi hb)⟩
/-- Two steps of which the second one writes into what the first one made, too. -/
theorem Fr.trans' {S S' : Nat → Prop} {x y z : World} (h : Fr S x y) (k : Fr S' y z) (hs : ∀ i, i < x.heap.size → S' i → S i) : Fr S x z :=
  ⟨k.os.trans h.os, k.tape.trans h.tape, k.output.trans h.output, Nat.le_trans h.size k.size, fun i hi hb => (k.block i (Nat.lt_of_lt_of_le hi h.size) (fun e => hb (hs i hi e))).trans (h.block i hi hb)⟩
theorem Fr.of_below {S : Nat → Prop} {x y : World} (h : Below x.heap.size x y) : Fr S x y := ⟨h.os, h.tape, h.output, h.size, fun i hi _ => h.block i hi⟩
theorem Fr.of_ex {b : Nat} {x y : World} (h : Ex b x y) : Fr (· = b) x y := ⟨h.os, h.tape, h.output, h.size, fun i hi hb => h.block i hi hb⟩
theorem Fr.ex {b : Nat} {x y : World} (h : Fr (· = b) x y) : Ex b x y := ⟨h.os, h.tape, h.output, h.size, fun i hi hb => h.block i hi hb⟩
theorem Fr.below {S : Nat → Prop} {B : Nat} {x y z : World} (h0 : Below B x y) (h : Fr S y z) (hB : B ≤ y.heap.size) (hs : ∀ k, k < B → ¬ S k) : Below B x z :=
  h0.trans ⟨h.os, h.tape, h.output, h.size, fun i hi => h.block i (by omega) (hs i hi)⟩
theorem Has.fr {S : Nat → Prop} {w w' : World} {b t : Nat} {cs : Array Value} (h : Has w b cs t) (k : Fr S w w') (hb : ¬ S b) : Has w' b cs t := (k.block b h.lt hb).trans h
theorem BytesAp.fr {S S' : Nat → Prop} {w w' : World} {v : Value} {d : List UInt8} (h : BytesAp S w v d) (k : Fr S' w w') (hs : ∀ i, i < w.heap.size → S' i → S i) : BytesAp S w' v d := by
  obtain ⟨a, cap, db, o, h1, h2, h3, h4, h5, h6⟩ := h
  exact ⟨a, cap, db, o, h1, h2, h3, fun j hj => (World.cell?_of_block (w := w) (k.block db h5 (fun e => h6 (hs _ h5 e)))).trans (h4 j hj), Nat.lt_of_lt_of_le h5 k.size, h6⟩

/-- A slice of bytes that the call owns. -/
abbrev Own (w : World) (v : Value) (d : List UInt8) : Prop := w.ownsRow 0 5 1 v d.length (d.map bc)
theorem Own.fr {S : Nat → Prop} {w w' : World} {v : Value} {d : List UInt8} (h : Own w v d) (k : Fr S w w') (hs : ∀ i, v.ownBlock = some i → ¬ S i) : Own w' v d := by
  refine ⟨h.1, ?_⟩
  rcases h.2 with h2 | ⟨g, cap, cur, a, b, c, e⟩
  · exact .inl h2
  · refine .inr ⟨g, cap, cur, a, b, ?_, e⟩
    rw [k.block g (Array.getElem?_eq_some_iff.1 c).1 (hs g (by rw [a]; rfl))]; exact c
theorem Own.bytesAp {w : World} {v : Value} {d : List UInt8} {S : Nat → Prop} (h : Own w v d) (hs : ∀ i, v.ownBlock = some i → ¬ S i) (h1 : v = .slice none 0 0 → ∃ i, i < w.heap.size ∧ ¬ S i) : BytesAp S w v d := by
  rcases h.2 with ⟨rfl, h2⟩ | ⟨g, cap, cur, rfl, b, c, e⟩
  · obtain ⟨i, hi, hn⟩ := h1 rfl
    have : d = [] := List.eq_nil_of_length_eq_zero h2
    subst this
    exact ⟨none, 0, i, 0, rfl, Nat.le_refl _, fun h => absurd rfl h, fun j hj => absurd hj (by simp), hi, hn⟩
  · refine ⟨_, cap, g, 0, rfl, e.1, fun _ => rfl, fun j hj => ?_, (Array.getElem?_eq_some_iff.1 c).1, hs g rfl⟩
    have := h.cells (g := g) rfl j (bc (d[j]?.getD 0)) (by simp [hj])
    rw [Addr.add_mid] at this
    exact this
theorem Own.bytes {w : World} {v : Value} {d : List UInt8} (h : Own w v d) (h0 : 0 < w.heap.size) : Bytes w v d :=
  (Own.bytesAp (S := fun _ => False) h (fun _ _ h => h) (fun _ => ⟨0, h0, fun h => h⟩)).bytes
theorem Own.has_ne {w : World} {v : Value} {d : List UInt8} (h : Own w v d) {b t : Nat} {cs : Array Value} (hh : Has w b cs t) (ht : t ≠ 5) : v.ownBlock ≠ some b := by
  intro e
  rcases h.2 with ⟨rfl, _⟩ | ⟨g, cap, cur, rfl, _, c, _⟩
  · cases e
  · simp [Value.ownBlock] at e
    subst e
    unfold Has at hh
    rw [c] at hh
    simp at hh
    exact ht hh.2.symm
theorem Own.lt' {w : World} {v : Value} {d : List UInt8} (h : Own w v d) {k : Nat} (hk : v.ownBlock = some k) : k < w.heap.size := (h.lt k hk).2
theorem Own.nil (w : World) : Own w (.slice none 0 0) [] := World.ownsRow_nil _ _ _ _
/-- An owned row: what a writer moves as it grows. -/
theorem grown_fr {w w' : World} {v : Value} (h : w.grownBy w' v.ownBlock) : Fr (fun k => v.ownBlock = some k) w w' :=
  ⟨h.os, h.tape, h.output, h.size, fun k hk hn => h.block k hk (fun e => hn e.symm)⟩

theorem foldl_push (ns : List UInt8) : ∀ s : ByteArray, (ns.map (fun b => bv b)).foldl (fun r n => r.push (UInt8.ofNat n.toNat)) s = ⟨s.data ++ ns.toArray⟩ := by
  induction ns with
  | nil => intro s; simp
  | cons b ns ih =>
    intro s
    rw [List.map_cons, List.foldl_cons, ih]
    simp [bv, ByteArray.push]
theorem bytes_nil (w : World) (h : 0 < w.heap.size) : Bytes w (.slice none 0 0) [] := ⟨none, 0, 0, 0, rfl, Nat.le_refl _, fun h => absurd rfl h, fun j hj => absurd hj (by simp), h⟩

theorem append_types {P : Program} {t u e e' : TypeId} {i : TypeInfo} (ty : TypeId) (ht : P.underlying t = some (.slice e)) (hu : P.underlying u = some (.slice e')) (hi : P.info? e = some i) (a : Option Addr) (n c : Nat) (x : Value) (w : World) :
    (Builtin.append_ #[t, u] ty #[.slice a n c, x]).run P w = (Builtin.append_ #[t, t] ty #[.slice a n c, x]).run P w := by
  simp [Builtin.append_, run_underlying ht, run_underlying hu, sizeOf, typeInfo, hi]
theorem Own.slice {w : World} {v : Value} {d : List UInt8} (h : Own w v d) : ∃ a c, v = .slice a d.length c := by
  rcases h.2 with ⟨rfl, h0⟩ | ⟨g, c, cur, rfl, _⟩
  · rw [h0]; exact ⟨_, _, rfl⟩
  · exact ⟨_, _, rfl⟩
theorem info_parts' {P : Program} {e : TypeId} {z : Value} {s b : Nat} (h : (P.info? e).map (fun i => (i.zero, i.size, i.bytes)) = some (some z, s, b)) : ∃ i, P.info? e = some i ∧ i.zero = some z ∧ i.size = s ∧ i.bytes = b := by
  cases hi : P.info? e with
  | none => rw [hi] at h; cases h
  | some i =>
    rw [hi] at h
    simp only [Option.map_some, Option.some.injEq, Prod.mk.injEq] at h
    exact ⟨i, rfl, h.1, h.2.1, h.2.2⟩
/-- What a row moves to as it grows: it stays, or is new. -/
def Loc (w : World) (v v' : Value) : Prop := ∀ k, v'.ownBlock = some k → v.ownBlock = some k ∨ w.heap.size ≤ k
theorem append_loc {P : Program} {t e : TypeId} (ty : TypeId) {i : TypeInfo} {z : Value} (ht : P.underlying t = some (.slice e)) (hi : P.info? e = some i) (hz : i.zero = some z) (hs1 : i.size = 1) (hb1 : i.bytes = 1) (w : World) (v : Value) (n : Nat) (xs : List Value) (hown : w.ownsRow 0 e 1 v n xs)
    (a : Addr) (m c : Nat) (news : List Value) (hl : news.length = m) (hnews : ∀ j u, news[j]? = some u → w.cell? (a.add j) = some u) (h1 : ∀ u ∈ news, u.oneCell' = true) (hsm : n + m ≤ 100000000000000) {v' : Value} {w' : World}
    (hr : (Builtin.append_ #[t, t] ty #[v, .slice (some a) m c]).run P w = .ok v' w') : Loc w v v' := by
  intro k hk
  rcases hown.2 with ⟨rfl, rfl⟩ | ⟨g, cap, cur, rfl, _, hg, hnc, hcm, hcs, htake⟩
  · by_cases hm : m = 0
    · subst hm
      have hn : news = [] := List.eq_nil_of_length_eq_zero hl
      subst hn
      have e1 : (Builtin.append_ #[t, t] ty #[.slice none 0 0, .slice (some a) 0 c]).run P w = .ok (.slice none 0 0) w := by
        simp [Builtin.append_, run_underlying ht, sizeOf, typeInfo, hi, Builtin.lenOf, Builtin.firstCells, loadCells, loadCellsFrom]
      rw [e1] at hr
      cases hr
      exact .inl hk
    · rw [run_append_nil (P := P) w t ty e i z ht hi hz a m c news (by rw [hs1]; omega) hnews (by omega) (by omega) (by rw [hb1]; omega)] at hr
      cases hr
      simp [Value.ownBlock] at hk
      exact .inr (by omega)
  · by_cases hroom : n + m ≤ cap
    · rw [run_append_room (P := P) w t ty e i ht hi g n cap cur hg a m c news (by rw [hs1]; omega) hnews h1 hroom (by rw [hs1, hcs]; omega)] at hr
      cases hr
      exact .inl hk
    · rw [run_append_grow (P := P) w t ty e i z ht hi hz ⟨g, 0, none⟩ n cap xs (by rw [hs1]; exact hown.1) (hown.cells (g := g) rfl) a m c news (by rw [hs1]; omega) hnews (by omega) (by omega) (growslice_fits (by omega) (by rw [hb1]; omega))] at hr
      cases hr
      simp [Value.ownBlock] at hk
      exact .inr (by omega)
/-- An append of bytes, wherever they lie, onto bytes that the call owns. -/
theorem run_append_bytes {P : Program} {t u : TypeId} (ty : TypeId) (h5 : (P.info? 5).map (fun i => (i.zero, i.size, i.bytes)) = some (some (.int .u8 0), 1, 1))
    (ht : P.underlying t = some (.slice 5)) (hu : P.underlying u = some (.slice 5)) (w : World) (v xv : Value) (d x : List UInt8) (hown : Own w v d) (hx : Bytes w xv x) (hsm : d.length + x.length ≤ 100000000000000) :
    ∃ v' w', (Builtin.append_ #[t, u] ty #[v, xv]).run P w = .ok v' w' ∧ Own w' v' (d ++ x) ∧ w.grownBy w' v.ownBlock ∧ Loc w v v' ∧ (v' = .slice none 0 0 ↔ v = .slice none 0 0 ∧ x = []) := by
  obtain ⟨i0, hi, hz0, hz1, hz2⟩ := info_parts' h5
  obtain ⟨a, cap, db, o, rfl, hcap, ha, hin, hlt⟩ := hx
  have hmx : d.length + x.length ≤ maxLen := by unfold maxLen; omega
  cases a with
  | some a0 =>
    have hcells : ∀ j u, (x.map bc)[j]? = some u → w.cell? (a0.add j) = some u := fun j u hu => by
      have hj : j < x.length := by have := (List.getElem?_eq_some_iff.1 hu).1; simpa using this
      obtain rfl := Option.some.inj (ha (by intro e; simp [e] at hj))
      rw [Addr.add_mid, hin j hj, ← hu]; simp [hj]
    obtain ⟨v', w', h1, h2, h3, h4⟩ := run_append_own (P := P) w 0 t ty 5 i0 (.int .u8 0) 1 1 ht hi hz0 hz1 hz2 rfl (by omega) v d.length (d.map bc) hown a0 x.length cap (x.map bc) (by simp) hcells
      (fun u hu => by simp at hu; obtain ⟨y, _, rfl⟩ := hu; rfl) hmx (by omega) (Nat.zero_le _)
    refine ⟨v', w', (by obtain ⟨a1, c1, rfl⟩ := hown.slice; exact (append_types ty ht hu hi _ _ _ _ _).trans h1), by unfold Own; rw [List.length_append, List.map_append]; exact h2, h3, append_loc ty ht hi hz0 hz1 hz2 w v d.length (d.map bc) hown a0 x.length cap (x.map bc) (by simp) hcells (fun u hu => by simp at hu; obtain ⟨y, _, rfl⟩ := hu; rfl) hsm h1, ?_⟩
    rw [h4]; simp
  | none =>
    have hx0 : x = [] := by
      cases x with
      | nil => rfl
      | cons b l => cases ha (by simp)
    subst hx0
    refine ⟨v, w, ?_, by simpa using hown, ⟨rfl, rfl, rfl, Nat.le_refl _, fun _ _ _ => rfl⟩, fun k hk => .inl hk, by simp⟩
    rcases hown.2 with ⟨rfl, h0⟩ | ⟨g, c, cur, rfl, _, hg, hnc, _⟩
    · simp [Builtin.append_, run_underlying ht, run_underlying hu, sizeOf, typeInfo, hi, Builtin.lenOf, Builtin.firstCells]
    · simp [Builtin.append_, run_underlying ht, run_underlying hu, sizeOf, typeInfo, hi, Builtin.lenOf, Builtin.firstCells, hnc, storeCells]
theorem wpList_append_bytes {P : Program} (w : World) {ops : Array Oper} {rest : List Oper} {o : Oper} {a : Act} {Q : Exit → Act → World → Prop} (hw : Region.wanted o (yielded ops a.tmps) = true) (s y : Operand) (t u : TypeId)
    (ho : o.op = .call { callee := .builtin .append, args := #[s, y], argTypes := #[t, u] }) (h5 : (P.info? 5).map (fun i => (i.zero, i.size, i.bytes)) = some (some (.int .u8 0), 1, 1))
    (ht : P.underlying t = some (.slice 5)) (hu : P.underlying u = some (.slice 5)) (v xv : Value) (d x : List UInt8) (hs : a.eval s = v) (hy : a.eval y = xv) (hown : Own w v d) (hx : Bytes w xv x) (hsm : d.length + x.length ≤ 100000000000000)
    (h : ∀ v' w', Own w' v' (d ++ x) → w.grownBy w' v.ownBlock → Loc w v v' → (v' = .slice none 0 0 ↔ v = .slice none 0 0 ∧ x = []) → wpList P ops Q rest (a.put o.dst v') w') : wpList P ops Q (o :: rest) a w := by
  obtain ⟨v', w', h1, h2, h3, h5', h4⟩ := run_append_bytes o.type h5 ht hu w v xv d x hown hx hsm
  unfold wpList
  rw [if_pos hw]
  refine .inl ?_
  unfold Oper.wp execOp
  simp only [ho, resolve, invoke, builtin, Sem.run_bind, Sem.run_pure, Result.andThen_ok, List.map_toArray, List.map_cons, List.map_nil, hs, hy, h1]
  exact h v' w' h2 h3 h5' h4
/-- Bytes as a text. -/
theorem bytes_string {P : Program} {t u : TypeId} (ht : P.underlying t = some (.slice 5)) (h5 : P.underlying 5 = some (.int .u8)) (hu : P.underlying u = some .string) (W : World) (v : Value) (l : List UInt8) (h : Bytes W v l) :
    (convert t u v).run P W = .ok (.string ⟨l.toArray⟩) W := by
  obtain ⟨a, cap, db, o, rfl, hcap, ha, hin, hlt⟩ := h
  rw [run_convert_bytes_string W t u 5 _ _ _ ht h5 hu]
  cases a with
  | none =>
    have hx0 : l = [] := by
      cases l with
      | nil => rfl
      | cons b l => cases ha (by simp)
    subst hx0
    simp [Conv.bytesToString]
    rfl
  | some a0 =>
    have hld := run_loadCells_list (P := P) (w := W) a0 ((l.map fun b => bv b).map (Value.int .u8)) (fun j v hv => by
      have hj : j < l.length := by
        have := (List.getElem?_eq_some_iff.1 hv).1
        simpa using this
      obtain rfl := Option.some.inj (ha (by intro e; simp [e] at hj))
      rw [Addr.add_mid, hin j hj, ← hv]
      simp [hj, bc])
    have e : ((l.map fun b => bv b).map (Value.int .u8)).length = l.length := by simp
    rw [e] at hld
    rw [run_bytesToString W a0 _ _ (l.map fun b => bv b) hld, foldl_push]
    simp
theorem wpList_run {P : Program} {ops : Array Oper} {rest : List Oper} {o : Oper} {a : Act} {w w' : World} {v : Value} {Q : Exit → Act → World → Prop} (hw : Region.wanted o (yielded ops a.tmps) = true)
    (hrun : (execOp a.eval o).run P w = .ok (.value v) w') (h : wpList P ops Q rest (a.put o.dst v) w') : wpList P ops Q (o :: rest) a w := by
  unfold wpList
  rw [if_pos hw]
  refine .inl ?_
  unfold Oper.wp
  rw [hrun]
  exact h
theorem wpList_convert_run {P : Program} {ops : Array Oper} {rest : List Oper} {o : Oper} {a : Act} {w w' : World} {Q : Exit → Act → World → Prop} (hw : Region.wanted o (yielded ops a.tmps) = true)
    (src dst : TypeId) (x : Operand) (ho : o.op = .convert src dst x) (v0 v : Value) (hx : a.eval x = v0) (hrun : (convert src dst v0).run P w = .ok v w') (h : wpList P ops Q rest (a.put o.dst v) w') : wpList P ops Q (o :: rest) a w := by
  refine wpList_run hw ?_ h
  unfold execOp
  simp only [ho, hx, Sem.run_bind, hrun, Sem.run_pure, Result.andThen_ok]
end Go.Proofs.Ytgoflpfafkmmgaa
/- A writer: number, folded, New, Raw, All. -/
namespace Go.Proofs.Ytgoflpfafkmmgaa
open Go.RowKit

theorem info5 : (Try.prog.info? 5).map (fun i => (i.zero, i.size, i.bytes)) = some (some (.int .u8 0), 1, 1) := by kernel_rfl

/-- A number's bytes. -/
def numL (n : Nat) : List UInt8 := if h : n < 128 then [UInt8.ofNat n] else UInt8.ofNat (n % 128 + 128) :: numL (n / 128)
termination_by n
decreasing_by omega
theorem numL_lo (n : Nat) (h : n < 128) : numL n = [UInt8.ofNat n] := by rw [numL, dif_pos h]
theorem numL_hi (n : Nat) (h : ¬ n < 128) : numL n = UInt8.ofNat (n % 128 + 128) :: numL (n / 128) := by rw [numL, dif_neg h]
theorem numL_len : ∀ (k n : Nat), n < 128 ^ k → 0 < k → (numL n).length ≤ k
  | 0, _, _, h => by omega
  | 1, n, h, _ => by rw [numL_lo n (by omega)]; simp
  | k + 2, n, h, _ => by
    by_cases hn : n < 128
    · rw [numL_lo n hn]; simp
    · rw [numL_hi n hn]
      have := numL_len (k + 1) (n / 128) (by rw [Nat.pow_succ] at h; omega) (by omega)
      simp; omega
theorem numL_len9 (n : Nat) (h : n < 9223372036854775808) : (numL n).length ≤ 9 := numL_len 9 n (by omega) (by omega)
theorem numL_pos (n : Nat) : 0 < (numL n).length := by
  by_cases h : n < 128
  · rw [numL_lo n h]; simp
  · rw [numL_hi n h]; simp
theorem bv_of (n : Nat) (h : n < 256) : bv (UInt8.ofNat n) = (n : Int) := by
  unfold bv; rw [UInt8.toNat_ofNat']; omega
theorem hi_byte (n : Nat) : IntKind.u8.wrap ((n : Int) % 128 + 128) = bv (UInt8.ofNat (n % 128 + 128)) := by
  rw [bv_of _ (by omega), IntKind.wrap_u8]; omega
theorem bytes_one (w : World) (x : UInt8) : Bytes (w.alloc (.cells #[bc x] 5)) (.slice (some ⟨w.heap.size, 0, none⟩) 1 1) [x] := by
  refine ⟨_, _, w.heap.size, 0, rfl, Nat.le_refl _, fun _ => rfl, fun j hj => ?_, by simp⟩
  obtain rfl : j = 0 := by simpa using hj
  exact (has_new w #[bc x] 5 w.heap.size rfl).cell 0
theorem own_alloc {w : World} {v : Value} {d : List UInt8} (h : Own w v d) (o : Obj) : Own (w.alloc o) v d := World.ownsRow.alloc h o
/-- An owned row that was not there at first. -/
def New (w w' : World) (v : Value) (d : List UInt8) : Prop := Own w' v d ∧ (∀ k, v.ownBlock = some k → w.heap.size ≤ k) ∧ Below w.heap.size w w'

theorem New.own {w w' : World} {v : Value} {d : List UInt8} (h : New w w' v d) : Own w' v d := h.1
theorem New.below {w w' : World} {v : Value} {d : List UInt8} (h : New w w' v d) : Below w.heap.size w w' := h.2.2
theorem new_step {w wr w2 : World} {v v' : Value} {o : Obj} {d x : List UInt8} (h : New w wr v d) (hown : Own w2 v' (d ++ x)) (hg : (wr.alloc o).grownBy w2 v.ownBlock) (hv' : Loc (wr.alloc o) v v') : New w w2 v' (d ++ x) := by
  obtain ⟨h1, h2, h3⟩ := h
  refine ⟨hown, fun k hk => ?_, ?_⟩
  · rcases hv' k hk with h | h
    · exact h2 k h
    · have := h3.size; simp at h; omega
  · refine ⟨hg.os.trans h3.os, hg.tape.trans h3.tape, hg.output.trans h3.output, by have := hg.size; have := h3.size; simp at *; omega, fun k hk => ?_⟩
    have hs := h3.size
    rw [hg.block k (by simp; omega) (fun e => by have := h2 k e.symm; omega), alloc_get, if_neg (by omega)]
    exact h3.block k hk

set_option maxRecDepth 10000 in
set_option maxHeartbeats 1000000 in
theorem number64_any (n : Nat) (hn : n < 9223372036854775808) (w : World) :
    Calls Try.prog 63 #[.int .i64 n] w fun e w' => ∃ v, e = .returned v ∧ New w w' v (numL n) := by
  go_enter Try.func63, Try.ntmps63
  go_wp2_with fail
  go_loopw [0, 3] (fun t v wr => ∃ m : Nat, ∃ d : List UInt8, t = .int .i64 m ∧ d ++ numL m = numL n ∧ m ≤ n ∧ New w wr v d) (fun t _ _ => (intOf t).toNat)
  case atStart => exact ⟨n, [], rfl, rfl, Nat.le_refl _, Own.nil w, fun k hk => (by cases hk), Below.refl _ _⟩
  case round =>
    obtain ⟨m, d, rfl, hd, hmn, hN⟩ := hrel
    have hdl : Hid (d.length ≤ 9) := by
      have h1 := numL_len9 n hn
      rw [← hd, List.length_append] at h1
      show _ ≤ _
      omega
    have HD : Hid (d ++ numL m = numL n) := hd
    clear hd
    have hmb : m < 9223372036854775808 := by omega
    by_cases hm : m < 128
    · have HM := numL_lo m hm
      have hw : IntKind.u8.wrap (m : Int) = bv (UInt8.ofNat m) := by rw [bv_of _ (by omega), IntKind.wrap_u8]; omega
      have i1 : ¬ (128 : Int) ≤ m := by omega
      have Hx : Hid (d ++ [UInt8.ofNat m] = numL n) := by show _ = _; rw [← HM]; exact HD.out
      clear HM HD
      generalize UInt8.ofNat m = x at *
      go_wp2_with (refine wpList_append_bytes _ rfl _ _ 27 27 rfl info5 Try.underlying27 Try.underlying27 _ _ d [x] rfl rfl (own_alloc hN.own _) (bytes_one _ x) (by have := hdl.out; simp; omega) ?_; intro v' w2 hown2 hgr hloc hnil; clear hnil)
      go_ret
      exact ⟨_, rfl, by rw [← Hx.out]; exact new_step hN hown2 hgr hloc⟩
    · have Hx : Hid ((d ++ [UInt8.ofNat (m % 128 + 128)]) ++ numL (m / 128) = numL n) := by
        show _ = _
        rw [List.append_assoc, List.singleton_append, ← numL_hi m hm]; exact HD.out
      have hw := hi_byte m
      have i1 : (128 : Int) ≤ m := by omega
      obtain ⟨q, hq⟩ : ∃ q : Nat, q = m / 128 := ⟨_, rfl⟩
      have i2 : (m : Int) / 128 = (q : Int) := by omega
      rw [← hq] at Hx
      have Hm : Hid (q ≤ n ∧ q < m) := ⟨by omega, by omega⟩
      clear HD hq
      generalize UInt8.ofNat (m % 128 + 128) = x at *
      go_wp2_with (refine wpList_append_bytes _ rfl _ _ 27 27 rfl info5 Try.underlying27 Try.underlying27 _ _ d [x] rfl rfl (own_alloc hN.own _) (bytes_one _ x) (by have := hdl.out; simp; omega) ?_; intro v' w2 hown2 hgr hloc hnil; clear hnil)
      go_roundw
      case rel => exact ⟨q, d ++ [x], rfl, Hx.out, Hm.out.1, new_step hN hown2 hgr hloc⟩
      case measure => have := Hm.out; simp [intOf]; omega

set_option maxRecDepth 10000 in
set_option maxHeartbeats 1000000 in
theorem numberI_any (n : Nat) (hn : n < 9223372036854775808) (w : World) :
    Calls Try.prog 43 #[.int .i64 n] w fun e w' => ∃ v, e = .returned v ∧ New w w' v (numL n) := by
  go_enter Try.func43, Try.ntmps43
  go_wp2_with fail
  go_loopw [0, 3] (fun t v wr => ∃ m : Nat, ∃ d : List UInt8, t = .int .i64 m ∧ d ++ numL m = numL n ∧ m ≤ n ∧ New w wr v d) (fun t _ _ => (intOf t).toNat)
  case atStart => exact ⟨n, [], rfl, rfl, Nat.le_refl _, Own.nil w, fun k hk => (by cases hk), Below.refl _ _⟩
  case round =>
    obtain ⟨m, d, rfl, hd, hmn, hN⟩ := hrel
    have hdl : Hid (d.length ≤ 9) := by
      have h1 := numL_len9 n hn
      rw [← hd, List.length_append] at h1
      show _ ≤ _
      omega
    have HD : Hid (d ++ numL m = numL n) := hd
    clear hd
    have hmb : m < 9223372036854775808 := by omega
    by_cases hm : m < 128
    · have HM := numL_lo m hm
      have hw : IntKind.u8.wrap (m : Int) = bv (UInt8.ofNat m) := by rw [bv_of _ (by omega), IntKind.wrap_u8]; omega
      have i1 : ¬ (128 : Int) ≤ m := by omega
      have Hx : Hid (d ++ [UInt8.ofNat m] = numL n) := by show _ = _; rw [← HM]; exact HD.out
      clear HM HD
      generalize UInt8.ofNat m = x at *
      go_wp2_with (refine wpList_append_bytes _ rfl _ _ 27 27 rfl info5 Try.underlying27 Try.underlying27 _ _ d [x] rfl rfl (own_alloc hN.own _) (bytes_one _ x) (by have := hdl.out; simp; omega) ?_; intro v' w2 hown2 hgr hloc hnil; clear hnil)
      go_ret
      exact ⟨_, rfl, by rw [← Hx.out]; exact new_step hN hown2 hgr hloc⟩
    · have Hx : Hid ((d ++ [UInt8.ofNat (m % 128 + 128)]) ++ numL (m / 128) = numL n) := by
        show _ = _
        rw [List.append_assoc, List.singleton_append, ← numL_hi m hm]; exact HD.out
      have hw := hi_byte m
      have i1 : (128 : Int) ≤ m := by omega
      obtain ⟨q, hq⟩ : ∃ q : Nat, q = m / 128 := ⟨_, rfl⟩
      have i2 : (m : Int) / 128 = (q : Int) := by omega
      rw [← hq] at Hx
      have Hm : Hid (q ≤ n ∧ q < m) := ⟨by omega, by omega⟩
      clear HD hq
      generalize UInt8.ofNat (m % 128 + 128) = x at *
      go_wp2_with (refine wpList_append_bytes _ rfl _ _ 27 27 rfl info5 Try.underlying27 Try.underlying27 _ _ d [x] rfl rfl (own_alloc hN.own _) (bytes_one _ x) (by have := hdl.out; simp; omega) ?_; intro v' w2 hown2 hgr hloc hnil; clear hnil)
      go_roundw
      case rel => exact ⟨q, d ++ [x], rfl, Hx.out, Hm.out.1, new_step hN hown2 hgr hloc⟩
      case measure => have := Hm.out; simp [intOf]; omega
end Go.Proofs.Ytgoflpfafkmmgaa
/- A writer: what it holds; none, folded, New, Raw, All. -/
namespace Go.Proofs.Ytgoflpfafkmmgaa
open Go.RowKit

/-- A writer that has these bytes lies in block p; v is the slice that it holds. -/
structure Wr (w : World) (p : Nat) (v : Value) (bs : List UInt8) : Prop where
  has : Has w p #[v, .bool true] 74
  own : Own w v bs
  len : bs.length ≤ 1048576
/-- The blocks that a writer writes. -/
def WS (p : Nat) (v : Value) (k : Nat) : Prop := k = p ∨ v.ownBlock = some k
theorem Wr.fr {S : Nat → Prop} {w w' : World} {p : Nat} {v : Value} {bs : List UInt8} (h : Wr w p v bs) (k : Fr S w w') (hs : ∀ i, S i → ¬ WS p v i) : Wr w' p v bs :=
  ⟨h.has.fr k (fun e => hs _ e (.inl rfl)), h.own.fr k (fun i hi e => hs i e (.inr hi)), h.len⟩
theorem Wr.below {w w' : World} {p : Nat} {v : Value} {bs : List UInt8} (h : Wr w p v bs) (k : Below w.heap.size w w') : Wr w' p v bs := h.fr (S := fun _ => False) (Fr.of_below k) (fun _ h => h.elim)
theorem Wr.lt {w : World} {p : Nat} {v : Value} {bs : List UInt8} (h : Wr w p v bs) (k : Nat) (hk : WS p v k) : k < w.heap.size := by
  rcases hk with rfl | hk
  · exact h.has.lt
  · exact h.own.lt' hk
/-- Slices of bytes one behind the other, none of them in a block of S. -/
def Parts (S : Nat → Prop) (w : World) (v : Value) (ds : List (List UInt8)) : Prop :=
  ∃ a cap pb po, v = .slice a ds.length cap ∧ (ds ≠ [] → a = some ⟨pb, po, none⟩) ∧ (∀ i, i < ds.length → ∃ sv, w.cell? ⟨pb, po + i, none⟩ = some sv ∧ BytesAp S w sv (ds[i]?.getD [])) ∧ pb < w.heap.size ∧ ¬ S pb ∧ ds.length ≤ 1000
theorem flatten_take (ds : List (List UInt8)) (k : Nat) (h : k < ds.length) : (ds.take (k + 1)).flatten = (ds.take k).flatten ++ ds[k]?.getD [] := by
  rw [List.take_succ_eq_append_getElem h, List.flatten_append]
  simp [h]
theorem flatten_take_le (ds : List (List UInt8)) (k : Nat) : (ds.take k).flatten.length ≤ ds.flatten.length := by
  have e : ds.flatten = (ds.take k).flatten ++ (ds.drop k).flatten := by rw [← List.flatten_append, List.take_append_drop]
  rw [e]; simp

set_option maxHeartbeats 400000 in
theorem wnone_any (p : Nat) (w : World) (h : w.cell? ⟨p, 1, none⟩ = some (.bool true)) :
    Calls Try.prog 40 #[.pointer (some ⟨p, 0, none⟩)] w fun e w' => e = .returned (.bool false) ∧ w' = w := by
  go_enter Try.func40, Try.ntmps40
  go_wp2
  go_ret
  exact ⟨rfl, rfl⟩
set_option maxHeartbeats 400000 in
theorem wnone_nil (w : World) :
    Calls Try.prog 40 #[.pointer none] w fun e w' => e = .returned (.bool true) ∧ w' = w := by
  go_enter Try.func40, Try.ntmps40
  go_wp2
  go_ret
  exact ⟨rfl, rfl⟩
set_option maxHeartbeats 400000 in
theorem wnew_any (w : World) :
    Calls Try.prog 12 #[] w fun e w' => e = .returned (.pointer (some ⟨w.heap.size, 0, none⟩)) ∧ Below w.heap.size w w' ∧ Wr w' w.heap.size (.slice none 0 0) [] := by
  go_enter Try.func12, Try.ntmps12
  go_wp2
  go_ret
  exact ⟨rfl, (Below.refl _ _).alloc (Nat.le_refl _) _, has_new _ _ _ _ rfl, Own.nil _, by simp⟩

set_option maxRecDepth 10000 in
set_option maxHeartbeats 1000000 in
theorem raw_ok (p : Nat) (v lv : Value) (bs : List UInt8) (ds : List (List UInt8)) (w : World) (hW : Wr w p v bs) (hl : Parts (WS p v) w lv ds) (hfit : bs.length + ds.flatten.length ≤ 1048576) :
    Calls Try.prog 21 #[.pointer (some ⟨p, 0, none⟩), lv] w fun e w' => e = .returned (.int .i64 0) ∧ ∃ v', Wr w' p v' (bs ++ ds.flatten) ∧ Fr (WS p v) w w' ∧ Loc w v v' := by
  obtain ⟨a, cap, pb, po, rfl, ha, hcell, hpb, hSpb, hnum⟩ := hl
  have c1 := hW.has.cell 1
  have c0 := hW.has.cell 0
  obtain ⟨va, vc, rfl⟩ := hW.own.slice
  simp at c0 c1
  go_enter Try.func21, Try.ntmps21
  go_wp2_with (first | (go_at_call 40; refine (wnone_any _ _ c1).mono ?_; rintro e w' ⟨rfl, hw⟩; obtain rfl := hw.symm))
  clear hw
  have Hlen : Hid (ds.length ≤ 1000 ∧ bs.length + ds.flatten.length ≤ 1048576) := ⟨hnum, hfit⟩
  have Hle : Hid (∀ k, (ds.take k).flatten.length ≤ ds.flatten.length) := flatten_take_le ds
  have Hcell : Hid (∀ i, i < ds.length → ∃ sv, w.cell? ⟨pb, po + i, none⟩ = some sv ∧ BytesAp (WS p (.slice va bs.length vc)) w sv (ds[i]?.getD [])) := hcell
  clear hcell
  go_loop [5, 20] (fun r i => ∃ k : Nat, k ≤ ds.length ∧ i = .int .i64 k ∧ r = .int .i64 (1048576 - bs.length - ((ds.take k).flatten.length : Int))) (fun _ i => ds.length - (intOf i).toNat)
  case atStart => exact ⟨0, by omega, rfl, by simp⟩
  case round =>
    obtain ⟨k, hk, rfl, rfl⟩ := hrel
    by_cases hlt : k < ds.length
    · obtain rfl := ha (by intro e; simp [e] at hlt)
      obtain ⟨sv, hsv, hby⟩ := Hcell.out k hlt
      obtain ⟨a2, c2, db2, o2, rfl, _⟩ := hby
      have h1 := Hle.out (k + 1)
      have Hf : Hid ((ds.take (k + 1)).flatten.length = (ds.take k).flatten.length + (ds[k]?.getD []).length) := by show _ = _; rw [flatten_take ds k hlt, List.length_append]
      rw [Hf.out] at h1
      generalize (ds.take k).flatten.length = s at *
      generalize (ds[k]?.getD []).length = m at *
      generalize ds.flatten.length = tot at *
      have i1 : (k : Int) < ds.length := by omega
      go_wp2_with fail
      go_round
      case rel => exact ⟨k + 1, by omega, by go_num, by rw [Hf.out]; congr 1; omega⟩
      case measure => simp [intOf]; omega
    · obtain rfl : k = ds.length := by omega
      rw [List.take_length]
      have i1 : ¬ (ds.length : Int) < ds.length := by omega
      go_wp2_with fail
      go_loopw [35] (fun i wr => ∃ k : Nat, k ≤ ds.length ∧ i = .int .i64 k ∧ ∃ v', Wr wr p v' (bs ++ (ds.take k).flatten) ∧ Fr (WS p (.slice va bs.length vc)) w wr ∧ Loc w (.slice va bs.length vc) v') (fun i _ => ds.length - (intOf i).toNat)
      case atStart => exact ⟨0, by omega, rfl, _, by simpa using hW, Fr.refl _ _, fun k hk => .inl hk⟩
      case round =>
        obtain ⟨k, hk, rfl, v1, hW1, hF1, hL1⟩ := hrel
        by_cases hlt : k < ds.length
        · obtain rfl := ha (by intro e; simp [e] at hlt)
          obtain ⟨sv, hsv, hby⟩ := Hcell.out k hlt
          have hsv' : wr.cell? ⟨pb, po + k, none⟩ = some sv := (World.cell?_of_block (w := w) (hF1.block pb hpb hSpb)).trans hsv
          have hby' : Bytes wr sv (ds[k]?.getD []) := (hby.fr hF1 (fun _ _ h => h)).bytes
          have d0 := hW1.has.cell 0
          have d1 := hW1.has.free 0
          simp at d0
          have Ht : Hid ((bs ++ (ds.take k).flatten) ++ ds[k]?.getD [] = bs ++ (ds.take (k + 1)).flatten) := by show _ = _; rw [flatten_take ds k hlt, List.append_assoc]
          have Hb : Hid ((bs ++ (ds.take (k + 1)).flatten).length ≤ 1048576) := by
            have h1 := Hle.out (k + 1); have h2 := Hlen.out.2; show _ ≤ _; rw [List.length_append]; omega
          have Hown : Hid (Own wr v1 (bs ++ (ds.take k).flatten)) := hW1.own
          have Hby : Hid (Bytes wr sv (ds[k]?.getD [])) := hby'
          clear hby hby' hsv
          obtain ⟨a1, c1', rfl⟩ := hW1.own.slice
          obtain ⟨a2, c2, db2, o2, rfl, _⟩ := id Hby.out
          have i2 : (k : Int) < ds.length := by omega
          generalize hB : bs ++ (ds.take k).flatten = B at *
          generalize ds[k]?.getD [] = x at *
          go_wp2_with (refine wpList_append_bytes _ rfl _ _ 27 27 rfl info5 Try.underlying27 Try.underlying27 _ _ B x rfl rfl Hown.out Hby.out (by have h1 := Hb.out; rw [← Ht.out, List.length_append] at h1; omega) ?_; intro v2 w2 hown2 hgr hloc hnil; clear hnil; obtain ⟨a3, c3, hv2⟩ := hown2.slice; rw [List.length_append] at hv2; subst hv2; have hF2 := grown_fr hgr; have hH2 := hW1.has.fr hF2 (hW1.own.has_ne hW1.has (by decide)); have e0 := hH2.free 0; have e1 := hH2.cell 0; simp at e1)
          go_roundw
          case rel =>
            have hW3 := hH2.set 0 (.slice a3 (B.length + x.length) c3)
            simp at hW3
            have hne := hown2.has_ne hH2 (by decide)
            have hFs : Fr (· = p) w2 (w2.setCell ⟨p, 0, none⟩ (.slice a3 (B.length + x.length) c3)) := Fr.of_ex (Ex.set _ _ _ _)
            refine ⟨k + 1, by omega, by go_num, _, ⟨hW3, ?_, Hb.out⟩, ?_, ?_⟩
            · rw [← Ht.out]
              exact hown2.fr hFs (fun i hi e => hne (by rw [hi, e]))
            · refine (hF1.trans' hF2 ?_).trans' hFs (fun i _ e => .inl e)
              intro i hi e
              rcases hL1 i e with h | h
              · exact .inr h
              · omega
            · intro i hi
              rcases hloc i hi with h | h
              · exact hL1 i h
              · have := hF1.size; exact .inr (by omega)
          case measure => simp [intOf]; omega
        · obtain rfl : k = ds.length := by omega
          rw [List.take_length] at hW1
          have i2 : ¬ (ds.length : Int) < ds.length := by omega
          go_wp2_with fail
          go_ret
          exact ⟨rfl, _, hW1, hF1, hL1⟩
end Go.Proofs.Ytgoflpfafkmmgaa
/- A writer: Raw that has no room, All, and all of none. -/
namespace Go.Proofs.Ytgoflpfafkmmgaa
open Go.RowKit

set_option maxRecDepth 10000 in
set_option maxHeartbeats 1000000 in
theorem raw_long (p : Nat) (v lv : Value) (bs : List UInt8) (ds : List (List UInt8)) (w : World) (hW : Wr w p v bs) (hl : Parts (WS p v) w lv ds) (hfit : ¬ bs.length + ds.flatten.length ≤ 1048576) (hd : ∀ d ∈ ds, d.length ≤ 1000000000) :
    Calls Try.prog 21 #[.pointer (some ⟨p, 0, none⟩), lv] w fun e w' => e = .returned (.int .i64 3) ∧ w' = w := by
  obtain ⟨a, cap, pb, po, rfl, ha, hcell, hpb, hSpb, hnum⟩ := hl
  have c1 := hW.has.cell 1
  have c0 := hW.has.cell 0
  have hbl := hW.len
  obtain ⟨va, vc, rfl⟩ := hW.own.slice
  simp at c0 c1
  go_enter Try.func21, Try.ntmps21
  go_wp2_with (first | (go_at_call 40; refine (wnone_any _ _ c1).mono ?_; rintro e w' ⟨rfl, hw⟩; obtain rfl := hw.symm))
  clear hw
  have Hcell : Hid (∀ i, i < ds.length → ∃ sv, w.cell? ⟨pb, po + i, none⟩ = some sv ∧ BytesAp (WS p (.slice va bs.length vc)) w sv (ds[i]?.getD [])) := hcell
  have Hd : Hid (∀ d ∈ ds, d.length ≤ 1000000000) := hd
  have Hfit : Hid (¬ bs.length + ds.flatten.length ≤ 1048576) := hfit
  clear hcell hd hfit
  go_loop [5, 20] (fun r i => ∃ k : Nat, k ≤ ds.length ∧ i = .int .i64 k ∧ bs.length + (ds.take k).flatten.length ≤ 1048576 ∧ r = .int .i64 (1048576 - bs.length - ((ds.take k).flatten.length : Int))) (fun _ i => ds.length - (intOf i).toNat)
  case atStart => exact ⟨0, by omega, rfl, by simpa using hbl, by simp⟩
  case round =>
    obtain ⟨k, hk, rfl, hs, rfl⟩ := hrel
    by_cases hlt : k < ds.length
    · obtain rfl := ha (by intro e; simp [e] at hlt)
      obtain ⟨sv, hsv, hby⟩ := Hcell.out k hlt
      obtain ⟨a2, c2, db2, o2, rfl, _⟩ := hby
      have hml : (ds[k]?.getD []).length ≤ 1000000000 := Hd.out _ (by rw [List.getElem?_eq_getElem hlt]; exact List.getElem_mem _)
      have Hf : Hid ((ds.take (k + 1)).flatten.length = (ds.take k).flatten.length + (ds[k]?.getD []).length) := by show _ = _; rw [flatten_take ds k hlt, List.length_append]
      generalize (ds.take k).flatten.length = s at *
      generalize (ds[k]?.getD []).length = m at *
      have i1 : (k : Int) < ds.length := by omega
      by_cases hgo : m ≤ 1048576 - bs.length - s
      · go_wp2_with fail
        go_round
        case rel => exact ⟨k + 1, by omega, by go_num, by rw [Hf.out]; omega, by rw [Hf.out]; congr 1; omega⟩
        case measure => simp [intOf]; omega
      · go_wp2_with fail
        go_ret
        exact ⟨rfl, rfl⟩
    · obtain rfl : k = ds.length := by omega
      rw [List.take_length] at hs
      exact absurd hs Hfit.out

set_option maxHeartbeats 400000 in
theorem raw_nil (a : Option Addr) (n c : Nat) (w : World) :
    Calls Try.prog 21 #[.pointer none, .slice a n c] w fun e w' => e = .returned (.int .i64 1) ∧ w' = w := by
  go_enter Try.func21, Try.ntmps21
  go_wp2_with (first | (go_at_call 40; refine (wnone_nil _).mono ?_; rintro e w' ⟨rfl, hw⟩; obtain rfl := hw.symm))
  go_ret
  exact ⟨rfl, rfl⟩

set_option maxHeartbeats 400000 in
theorem all_any (p : Nat) (v : Value) (bs : List UInt8) (w : World) (hW : Wr w p v bs) :
    Calls Try.prog 15 #[.pointer (some ⟨p, 0, none⟩)] w fun e w' => ∃ x, e = .returned x ∧ New w w' x bs := by
  have c1 := hW.has.cell 1
  have c0 := hW.has.cell 0
  have hb := hW.own.bytes (Nat.lt_of_le_of_lt (Nat.zero_le _) hW.has.lt)
  have hl := hW.len
  obtain ⟨va, vc, rfl⟩ := hW.own.slice
  simp at c0 c1
  have HB : Hid (Bytes w (.slice va bs.length vc) bs) := hb
  clear hb
  go_enter Try.func15, Try.ntmps15
  go_wp2_with (first | (go_at_call 40; refine (wnone_any _ _ c1).mono ?_; rintro e w' ⟨rfl, hw⟩; obtain rfl := hw.symm) | (refine wpList_append_bytes _ rfl _ _ 27 27 rfl info5 Try.underlying27 Try.underlying27 (.slice none 0 0) _ [] bs rfl rfl (Own.nil w) HB.out (by simp; omega) ?_; intro v2 w2 hown2 hgr hloc hnil; clear hnil))
  go_ret
  refine ⟨_, rfl, hown2, fun k hk => ?_, ⟨hgr.os, hgr.tape, hgr.output, hgr.size, fun k hk => hgr.block k hk (by simp [Value.ownBlock])⟩⟩
  rcases hloc k hk with h | h
  · cases h
  · exact h
set_option maxHeartbeats 400000 in
theorem all_nil (w : World) :
    Calls Try.prog 15 #[.pointer none] w fun e w' => e = .returned (.slice none 0 0) ∧ w' = w := by
  go_enter Try.func15, Try.ntmps15
  go_wp2_with (first | (go_at_call 40; refine (wnone_nil _).mono ?_; rintro e w' ⟨rfl, hw⟩; obtain rfl := hw.symm))
  go_ret
  exact ⟨rfl, rfl⟩

theorem parts1 {S : Nat → Prop} (w : World) (v : Value) {x : List UInt8} (h : BytesAp S w v x) (hS : ∀ k, S k → k < w.heap.size) {g : Nat} (hg : g = w.heap.size := by simp) : Parts S (w.alloc (.cells #[v] 27)) (.slice (some ⟨g, 0, none⟩) 1 1) [x] := by
  subst hg
  have hh := has_new w #[v] 27 w.heap.size rfl
  have hB : Fr (fun _ => False) w (w.alloc (.cells #[v] 27)) := Fr.of_below ((Below.refl _ _).alloc (Nat.le_refl _) _)
  refine ⟨_, 1, w.heap.size, 0, rfl, fun _ => rfl, fun i hi => ?_, by simp, fun e => by have := hS _ e; omega, by simp⟩
  obtain rfl : i = 0 := by simpa using hi
  exact ⟨v, hh.cell 0, h.fr hB (fun _ _ h => h.elim)⟩
theorem parts2 {S : Nat → Prop} (w : World) (v u : Value) {x y : List UInt8} (h : BytesAp S w v x) (h2 : BytesAp S w u y) (hS : ∀ k, S k → k < w.heap.size) {g : Nat} (hg : g = w.heap.size := by simp) : Parts S (w.alloc (.cells #[v, u] 27)) (.slice (some ⟨g, 0, none⟩) 2 2) [x, y] := by
  subst hg
  have hh := has_new w #[v, u] 27 w.heap.size rfl
  have hB : Fr (fun _ => False) w (w.alloc (.cells #[v, u] 27)) := Fr.of_below ((Below.refl _ _).alloc (Nat.le_refl _) _)
  refine ⟨_, 2, w.heap.size, 0, rfl, fun _ => rfl, fun i hi => ?_, by simp, fun e => by have := hS _ e; omega, by simp⟩
  obtain rfl | rfl : i = 0 ∨ i = 1 := by simp at hi; omega
  · exact ⟨v, hh.cell 0, h.fr hB (fun _ _ h => h.elim)⟩
  · exact ⟨u, hh.cell 1, h2.fr hB (fun _ _ h => h.elim)⟩
theorem New.ap {S : Nat → Prop} {w w' : World} {v : Value} {d : List UInt8} (h : New w w' v d) (hd : d ≠ []) (hS : ∀ k, S k → k < w.heap.size) : BytesAp S w' v d := by
  refine Own.bytesAp h.1 (fun i hi e => by have := h.2.1 i hi; have := hS i e; omega) (fun e => ?_)
  have := h.1.slice
  obtain ⟨a, c, hv⟩ := this
  rw [e] at hv
  simp at hv
  exact absurd (List.eq_nil_of_length_eq_zero hv.2.1.symm) hd
theorem numL_ne (n : Nat) : numL n ≠ [] := by
  have := numL_pos n
  intro e; rw [e] at this; simp at this

/-- What a writer's call does to it: the bytes lie behind, or there is no room for them. -/
def Laid (w w' : World) (p : Nat) (v : Value) (bs x : List UInt8) (e : Ending) : Prop :=
  if bs.length + x.length ≤ 1048576 then e = .returned (.int .i64 0) ∧ ∃ v', Wr w' p v' (bs ++ x) ∧ Fr (WS p v) w w' ∧ Loc w v v'
  else e = .returned (.int .i64 3) ∧ Wr w' p v bs ∧ Fr (WS p v) w w'
theorem raw_any (p : Nat) (v lv : Value) (bs : List UInt8) (ds : List (List UInt8)) (w : World) (hW : Wr w p v bs) (hl : Parts (WS p v) w lv ds) (hd : ∀ d ∈ ds, d.length ≤ 1000000000) :
    Calls Try.prog 21 #[.pointer (some ⟨p, 0, none⟩), lv] w fun e w' => Laid w w' p v bs ds.flatten e := by
  unfold Laid
  by_cases h : bs.length + ds.flatten.length ≤ 1048576
  · simp only [if_pos h]
    exact raw_ok p v lv bs ds w hW hl h
  · simp only [if_neg h]
    exact (raw_long p v lv bs ds w hW hl h hd).mono fun e w' ⟨h1, h2⟩ => by subst h2; exact ⟨h1, hW, Fr.refl _ _⟩
/-- A call that makes memory ahead of it. -/
theorem Laid.after {w w1 w' : World} {p : Nat} {v : Value} {bs x : List UInt8} {e : Ending} (h : Laid w1 w' p v bs x e) (k : Below w.heap.size w w1) : Laid w w' p v bs x e := by
  have hf : Fr (WS p v) w w1 := Fr.of_below k
  have hz := k.size
  unfold Laid at *
  split
  · rename_i h0
    rw [if_pos h0] at h
    obtain ⟨h1, v', h2, h3, h4⟩ := h
    exact ⟨h1, v', h2, hf.trans h3, fun k hk => (h4 k hk).imp id (fun h => by omega)⟩
  · rename_i h0
    rw [if_neg h0] at h
    exact ⟨h.1, h.2.1, hf.trans h.2.2⟩
theorem parts3 {S : Nat → Prop} (w : World) (v u z : Value) {x y q : List UInt8} (h : BytesAp S w v x) (h2 : BytesAp S w u y) (h3 : BytesAp S w z q) (hS : ∀ k, S k → k < w.heap.size) {g : Nat} (hg : g = w.heap.size := by simp) : Parts S (w.alloc (.cells #[v, u, z] 27)) (.slice (some ⟨g, 0, none⟩) 3 3) [x, y, q] := by
  subst hg
  have hh := has_new w #[v, u, z] 27 w.heap.size rfl
  have hB : Fr (fun _ => False) w (w.alloc (.cells #[v, u, z] 27)) := Fr.of_below ((Below.refl _ _).alloc (Nat.le_refl _) _)
  refine ⟨_, 3, w.heap.size, 0, rfl, fun _ => rfl, fun i hi => ?_, by simp, fun e => by have := hS _ e; omega, by simp⟩
  obtain rfl | rfl | rfl : i = 0 ∨ i = 1 ∨ i = 2 := by simp at hi; omega
  · exact ⟨v, hh.cell 0, h.fr hB (fun _ _ h => h.elim)⟩
  · exact ⟨u, hh.cell 1, h2.fr hB (fun _ _ h => h.elim)⟩
  · exact ⟨z, hh.cell 2, h3.fr hB (fun _ _ h => h.elim)⟩
end Go.Proofs.Ytgoflpfafkmmgaa
/- A writer's calls: Number, Signed, Bytes, Text, Truth. -/
namespace Go.Proofs.Ytgoflpfafkmmgaa
open Go.RowKit

theorem New.wr {w w' : World} {v u : Value} {d bs : List UInt8} {p : Nat} (h : New w w' u d) (hW : Wr w p v bs) : Wr w' p v bs := hW.below h.below

set_option maxHeartbeats 400000 in
theorem figure_ok (p : Nat) (v : Value) (bs : List UInt8) (n : Nat) (hn : n < 9223372036854775808) (w : World) (hW : Wr w p v bs) :
    Calls Try.prog 41 #[.pointer (some ⟨p, 0, none⟩), .int .i64 n, .bool true] w fun e w' => Laid w w' p v bs (numL n) e := by
  have c1 := hW.has.cell 1
  simp at c1
  go_enter Try.func41, Try.ntmps41
  go_wp2_with (first | (go_at_call 40; refine (wnone_any _ _ c1).mono ?_; rintro e w' ⟨rfl, hw⟩; obtain rfl := hw.symm) | fail)
  refine (number64_any n hn w).mono ?_
  rintro e w1 ⟨u, rfl, hN⟩
  obtain ⟨ua, uc, rfl⟩ := hN.own.slice
  go_wp2_with fail
  have hS : ∀ k, WS p v k → k < w.heap.size := hW.lt
  have hz := hN.below.size
  have hW1 : Wr (w1.alloc (.cells #[.slice ua (numL n).length uc] 27)) p v bs := (hN.wr hW).below ((Below.refl _ _).alloc (Nat.le_refl _) _)
  refine (raw_any p v _ bs [numL n] _ hW1 (parts1 w1 _ (hN.ap (numL_ne n) hS) (fun k hk => Nat.lt_of_lt_of_le (hS k hk) hz)) (fun d hd => by simp at hd; subst hd; have := numL_len9 n hn; omega)).mono ?_
  intro e w2 h
  have h' := h.after ((hN.below).alloc hz _)
  clear h
  have h3 : ∃ r, e = .returned (.int .i64 r) := by
    unfold Laid at h'
    split at h'
    · exact ⟨_, h'.1⟩
    · exact ⟨_, h'.1⟩
  obtain ⟨r, rfl⟩ := h3
  simp only [List.flatten_cons, List.flatten_nil, List.append_nil] at h'
  have H : Hid (Laid w w2 p v bs (numL n) (.returned (.int .i64 r))) := h'
  clear h'
  go_wp2_with fail
  go_ret
  exact H.out

theorem Laid.code {w w' : World} {p : Nat} {v : Value} {bs x : List UInt8} {e : Ending} (h : Laid w w' p v bs x e) : ∃ r, e = .returned (.int .i64 r) := by
  unfold Laid at h
  split at h
  · exact ⟨_, h.1⟩
  · exact ⟨_, h.1⟩
set_option maxHeartbeats 400000 in
theorem figure_bad (p : Nat) (n : Int) (w : World) (c1 : w.cell? ⟨p, 1, none⟩ = some (.bool true)) :
    Calls Try.prog 41 #[.pointer (some ⟨p, 0, none⟩), .int .i64 n, .bool false] w fun e w' => e = .returned (.int .i64 2) ∧ w' = w := by
  go_enter Try.func41, Try.ntmps41
  go_wp2_with (first | (go_at_call 40; refine (wnone_any _ _ c1).mono ?_; rintro e w' ⟨rfl, hw⟩; obtain rfl := hw.symm) | fail)
  go_ret
  exact ⟨rfl, rfl⟩
set_option maxHeartbeats 400000 in
theorem figure_nil (n : Int) (b : Bool) (w : World) :
    Calls Try.prog 41 #[.pointer none, .int .i64 n, .bool b] w fun e w' => e = .returned (.int .i64 1) ∧ w' = w := by
  go_enter Try.func41, Try.ntmps41
  go_wp2_with (first | (go_at_call 40; refine (wnone_nil _).mono ?_; rintro e w' ⟨rfl, hw⟩; obtain rfl := hw.symm) | fail)
  go_ret
  exact ⟨rfl, rfl⟩
set_option maxHeartbeats 400000 in
theorem wnumber_ok (p : Nat) (v : Value) (bs : List UInt8) (n : Nat) (hn : n < 9223372036854775808) (w : World) (hW : Wr w p v bs) :
    Calls Try.prog 16 #[.pointer (some ⟨p, 0, none⟩), .int .i64 n] w fun e w' => Laid w w' p v bs (numL n) e := by
  go_enter Try.func16, Try.ntmps16
  go_wp2_with fail
  refine (figure_ok p v bs n hn w hW).mono ?_
  intro e w2 h
  obtain ⟨r, rfl⟩ := h.code
  have H : Hid (Laid w w2 p v bs (numL n) (.returned (.int .i64 r))) := h
  clear h
  go_wp2_with fail
  go_ret
  exact H.out
set_option maxHeartbeats 400000 in
theorem wnumber_bad (p : Nat) (n : Int) (hn : n < 0) (w : World) (c1 : w.cell? ⟨p, 1, none⟩ = some (.bool true)) :
    Calls Try.prog 16 #[.pointer (some ⟨p, 0, none⟩), .int .i64 n] w fun e w' => e = .returned (.int .i64 2) ∧ w' = w := by
  have hd : decide (0 ≤ n) = false := by simp; omega
  go_enter Try.func16, Try.ntmps16
  go_wp2_with (first | (go_at_call 41; refine (figure_bad p n _ c1).mono ?_; rintro e w' ⟨rfl, hw⟩; obtain rfl := hw.symm) | fail)
  go_ret
  exact ⟨rfl, rfl⟩
set_option maxHeartbeats 400000 in
theorem wnumber_nil (n : Int) (w : World) :
    Calls Try.prog 16 #[.pointer none, .int .i64 n] w fun e w' => e = .returned (.int .i64 1) ∧ w' = w := by
  go_enter Try.func16, Try.ntmps16
  go_wp2_with (first | (go_at_call 41; refine (figure_nil n _ _).mono ?_; rintro e w' ⟨rfl, hw⟩; obtain rfl := hw.symm) | fail)
  go_ret
  exact ⟨rfl, rfl⟩

/-- What a signed number is folded to. -/
def foldN (n : Int) : Nat := if n < 0 then (2 * (-1 - n) + 1).toNat else (2 * n).toNat
def inS (n : Int) : Bool := decide (-4611686018427387904 ≤ n) && decide (n ≤ 4611686018427387903)
theorem foldN_lt (n : Int) (h : inS n = true) : foldN n < 9223372036854775808 := by
  unfold inS at h; simp at h; unfold foldN; split <;> omega
set_option maxHeartbeats 400000 in
theorem folded_ok (n : Int) (h : inS n = true) (w : World) :
    Calls Try.prog 42 #[.int .i64 n] w fun e w' => e = .returned (.int .i64 (foldN n)) ∧ w' = w := by
  have hb : -4611686018427387904 ≤ n ∧ n ≤ 4611686018427387903 := by unfold inS at h; simpa using h
  have e1 : n < 0 → wrap64 (wrap64 (2 * wrap64 (-1 - n)) + 1) = (foldN n : Int) := fun h0 => by
    unfold wrap64; unfold foldN; rw [if_pos h0]; omega
  have e2 : ¬ n < 0 → wrap64 (2 * n) = (foldN n : Int) := fun h0 => by
    unfold wrap64; unfold foldN; rw [if_neg h0]; omega
  clear hb h
  by_cases h0 : n < 0
  · have e3 := e1 h0
    generalize foldN n = m at *
    clear e1 e2
    go_enter Try.func42, Try.ntmps42
    go_wp2_with fail
    go_ret
    refine ⟨?_, rfl⟩
    show Ending.returned (.int .i64 _) = _
    rw [e3]
  · have e3 := e2 h0
    generalize foldN n = m at *
    clear e1 e2
    go_enter Try.func42, Try.ntmps42
    go_wp2_with fail
    go_ret
    exact ⟨rfl, rfl⟩
theorem folded_any (n : Int) (w : World) :
    Calls Try.prog 42 #[.int .i64 n] w fun e w' => (∃ m : Int, e = .returned (.int .i64 m)) ∧ w' = w := by
  by_cases h0 : n < 0
  · go_enter Try.func42, Try.ntmps42
    go_wp2_with fail
    go_ret
    exact ⟨⟨_, rfl⟩, rfl⟩
  · go_enter Try.func42, Try.ntmps42
    go_wp2_with fail
    go_ret
    exact ⟨⟨_, rfl⟩, rfl⟩
set_option maxHeartbeats 400000 in
theorem wsigned_ok (p : Nat) (v : Value) (bs : List UInt8) (n : Int) (hn : inS n = true) (w : World) (hW : Wr w p v bs) :
    Calls Try.prog 17 #[.pointer (some ⟨p, 0, none⟩), .int .i64 n] w fun e w' => Laid w w' p v bs (numL (foldN n)) e := by
  have hf := folded_ok n hn w
  have hl := foldN_lt n hn
  have hg := figure_ok p v bs (foldN n) hl w hW
  have hb : -4611686018427387904 ≤ n ∧ n ≤ 4611686018427387903 := by unfold inS at hn; simpa using hn
  obtain ⟨h1, h2⟩ := hb
  clear hn hl
  generalize foldN n = m at *
  go_enter Try.func17, Try.ntmps17
  go_wp2_with (first | (go_at_call 42; refine hf.mono ?_; rintro e w' ⟨rfl, hw⟩; obtain rfl := hw.symm) | fail)
  refine hg.mono ?_
  intro e w2 h
  obtain ⟨r, rfl⟩ := h.code
  have H : Hid (Laid w w2 p v bs (numL m) (.returned (.int .i64 r))) := h
  clear h
  go_wp2_with fail
  go_ret
  exact H.out
set_option maxHeartbeats 400000 in
theorem wsigned_bad (p : Nat) (n : Int) (hn : inS n = false) (w : World) (c1 : w.cell? ⟨p, 1, none⟩ = some (.bool true)) :
    Calls Try.prog 17 #[.pointer (some ⟨p, 0, none⟩), .int .i64 n] w fun e w' => e = .returned (.int .i64 2) ∧ w' = w := by
  unfold inS at hn
  by_cases h1 : -4611686018427387904 ≤ n
  · have h2 : ¬ n ≤ 4611686018427387903 := by simp [h1] at hn; omega
    have h3 : decide (n ≤ 4611686018427387903) = false := by simpa using h2
    clear hn
    go_enter Try.func17, Try.ntmps17
    go_wp2_with (first | (go_at_call 42; refine (folded_any n _).mono ?_; rintro e w' ⟨⟨m, rfl⟩, hw⟩; obtain rfl := hw.symm) | (go_at_call 41; refine (figure_bad p _ _ c1).mono ?_; rintro e w' ⟨rfl, hw⟩; obtain rfl := hw.symm) | fail)
    go_ret
    exact ⟨rfl, rfl⟩
  · have h3 : decide (-4611686018427387904 ≤ n) = false := by simpa using h1
    clear hn
    go_enter Try.func17, Try.ntmps17
    go_wp2_with (first | (go_at_call 42; refine (folded_any n _).mono ?_; rintro e w' ⟨⟨m, rfl⟩, hw⟩; obtain rfl := hw.symm) | (go_at_call 41; refine (figure_bad p _ _ c1).mono ?_; rintro e w' ⟨rfl, hw⟩; obtain rfl := hw.symm) | fail)
    go_ret
    exact ⟨rfl, rfl⟩
set_option maxHeartbeats 400000 in
theorem wsigned_nil (w : World) :
    Calls Try.prog 17 #[.pointer none, .int .i64 1] w fun e w' => e = .returned (.int .i64 1) ∧ w' = w := by
  go_enter Try.func17, Try.ntmps17
  go_wp2_with (first | (go_at_call 42; refine (folded_any 1 _).mono ?_; rintro e w' ⟨⟨m, rfl⟩, hw⟩; obtain rfl := hw.symm) | (go_at_call 41; refine (figure_nil _ _ _).mono ?_; rintro e w' ⟨rfl, hw⟩; obtain rfl := hw.symm) | fail)
  go_ret
  exact ⟨rfl, rfl⟩

theorem two_le (x : List UInt8) (h : x.length ≤ 1000000000) : ∀ d ∈ [numL x.length, x], d.length ≤ 1000000000 := by
  intro d hd
  have := numL_len9 x.length (by omega)
  simp only [List.mem_cons, List.not_mem_nil, or_false] at hd
  rcases hd with e | e
  · rw [e]; omega
  · rw [e]; exact h
/-- Bytes' bytes. -/
def bytL (x : List UInt8) : List UInt8 := numL x.length ++ x
set_option maxHeartbeats 400000 in
theorem wbytes_any (p : Nat) (v xv : Value) (bs x : List UInt8) (w : World) (hW : Wr w p v bs) (hx : BytesAp (WS p v) w xv x) (hsm : x.length ≤ 1000000000) :
    Calls Try.prog 18 #[.pointer (some ⟨p, 0, none⟩), xv] w fun e w' => Laid w w' p v bs (bytL x) e := by
  obtain ⟨xa, xc, xb, xo, hxv, _⟩ := id hx
  have Hx : Hid (BytesAp (WS p v) w xv x) := hx
  clear hx
  subst hxv
  go_enter Try.func18, Try.ntmps18
  go_wp2_with fail
  refine (numberI_any x.length (by omega) w).mono ?_
  rintro e w1 ⟨u, rfl, hN⟩
  obtain ⟨ua, uc, rfl⟩ := hN.own.slice
  go_wp2_with fail
  have hS : ∀ k, WS p v k → k < w.heap.size := hW.lt
  have hz := hN.below.size
  have hW1 : Wr (w1.alloc (.cells #[.slice ua (numL x.length).length uc, .slice xa x.length xc] 27)) p v bs := (hN.wr hW).below ((Below.refl _ _).alloc (Nat.le_refl _) _)
  refine (raw_any p v _ bs [numL x.length, x] _ hW1 (parts2 w1 _ _ (hN.ap (numL_ne _) hS) (Hx.out.fr (S' := fun _ => False) (Fr.of_below hN.below) (fun _ _ h => h.elim)) (fun k hk => Nat.lt_of_lt_of_le (hS k hk) hz)) (two_le x hsm)).mono ?_
  intro e w2 h
  have h' := h.after ((hN.below).alloc hz _)
  clear h
  obtain ⟨r, rfl⟩ := h'.code
  have ef : [numL x.length, x].flatten = bytL x := by simp [bytL]
  rw [ef] at h'
  have H : Hid (Laid w w2 p v bs (bytL x) (.returned (.int .i64 r))) := h'
  clear h'
  go_wp2_with fail
  go_ret
  exact H.out

set_option maxHeartbeats 400000 in
theorem wbytes_nil (a : Option Addr) (n c : Nat) (hn : n ≤ 1000000000) (w : World) :
    Calls Try.prog 18 #[.pointer none, .slice a n c] w fun e w' => e = .returned (.int .i64 1) ∧ Below w.heap.size w w' := by
  go_enter Try.func18, Try.ntmps18
  go_wp2_with fail
  refine (numberI_any n (by omega) w).mono ?_
  rintro e w1 ⟨u, rfl, hN⟩
  obtain ⟨ua, uc, rfl⟩ := hN.own.slice
  have hz := hN.below.size
  go_wp2_with (first | (go_at_call 21; refine (raw_nil _ _ _ _).mono ?_; rintro e w' ⟨rfl, hw⟩; obtain rfl := hw.symm) | fail)
  go_ret
  exact ⟨rfl, hN.below.alloc hz _⟩
/-- The bytes of a text, laid anew. -/
theorem lit_bytes (w : World) (l : List UInt8) {S : Nat → Prop} (hS : ∀ k, S k → k < w.heap.size) : BytesAp S (Lib.bytesWorld w 5 ⟨l.toArray⟩) (.slice (some ⟨w.heap.size, 0, none⟩) l.length (grownCap w l.length 0 5)) l := by
  refine ⟨_, _, w.heap.size, 0, rfl, grownCap_ge w l.length 0 5, fun _ => rfl, fun j hj => ?_, by rw [Lib.bytesWorld_size]; omega, fun e => by have := hS _ e; omega⟩
  rw [Nat.zero_add, Lib.bytesWorld_cell w 5 ⟨l.toArray⟩ j hj]
  simp [bc, bv, List.getD]
theorem bytesWorld_below (w : World) (s : ByteArray) : Below w.heap.size w (Lib.bytesWorld w 5 s) :=
  ⟨rfl, rfl, rfl, by rw [Lib.bytesWorld_size]; omega, fun j hj => Lib.bytesWorld_at_old w 5 s j hj⟩
set_option maxHeartbeats 400000 in
theorem wtext_any (p : Nat) (v : Value) (bs x : List UInt8) (w : World) (hW : Wr w p v bs) (hsm : x.length ≤ 1000000000) :
    Calls Try.prog 19 #[.pointer (some ⟨p, 0, none⟩), .string ⟨x.toArray⟩] w fun e w' => Laid w w' p v bs (bytL x) e := by
  have hcv := Lib.run_convert_string_bytes (P := Try.prog) w 9 27 5 ⟨x.toArray⟩ Try.underlying9 Try.underlying27 Try.underlying5
  have hb := lit_bytes w x (S := WS p v) hW.lt
  have hB := bytesWorld_below w ⟨x.toArray⟩
  generalize Lib.bytesWorld w 5 ⟨x.toArray⟩ = w1 at *
  have e1 : ByteArray.size ⟨x.toArray⟩ = x.length := rfl
  rw [e1] at hcv
  clear e1
  generalize grownCap w x.length 0 5 = c at *
  generalize (⟨x.toArray⟩ : ByteArray) = s at *
  go_enter Try.func19, Try.ntmps19
  go_wp2_with fail
  refine (wbytes_any p v _ bs x w1 (hW.below hB) hb hsm).mono ?_
  intro e w2 h
  have h' := h.after hB
  clear h
  obtain ⟨r, rfl⟩ := h'.code
  have H : Hid (Laid w w2 p v bs (bytL x) (.returned (.int .i64 r))) := h'
  clear h' hcv
  go_wp2_with fail
  go_ret
  exact H.out
set_option maxHeartbeats 400000 in
theorem wtext_nil (x : List UInt8) (w : World) (hsm : x.length ≤ 1000000000) :
    Calls Try.prog 19 #[.pointer none, .string ⟨x.toArray⟩] w fun e w' => e = .returned (.int .i64 1) ∧ Below w.heap.size w w' := by
  have hcv := Lib.run_convert_string_bytes (P := Try.prog) w 9 27 5 ⟨x.toArray⟩ Try.underlying9 Try.underlying27 Try.underlying5
  have hB := bytesWorld_below w ⟨x.toArray⟩
  generalize Lib.bytesWorld w 5 ⟨x.toArray⟩ = w1 at *
  have e1 : ByteArray.size ⟨x.toArray⟩ = x.length := rfl
  rw [e1] at hcv
  clear e1
  generalize grownCap w x.length 0 5 = c at *
  generalize (⟨x.toArray⟩ : ByteArray) = s at *
  go_enter Try.func19, Try.ntmps19
  go_wp2_with fail
  refine (wbytes_nil _ x.length c hsm w1).mono ?_
  rintro e w2 ⟨rfl, h⟩
  clear hcv
  go_wp2_with fail
  go_ret
  exact ⟨rfl, hB.trans (h.mono hB.size)⟩
theorem alloc2_below (w : World) (o o' : Obj) : Below w.heap.size w ((w.alloc o).alloc o') := ((Below.refl _ _).alloc (Nat.le_refl _) _).alloc (by simp) _
theorem ap_one {S : Nat → Prop} (w : World) (x : UInt8) (z : Int) (hz : z = bv x) (hS : ∀ k, S k → k < w.heap.size) : BytesAp S (w.alloc (.cells #[.int .u8 z] 5)) (.slice (some ⟨w.heap.size, 0, none⟩) 1 1) [x] := by
  refine ⟨_, _, w.heap.size, 0, rfl, Nat.le_refl _, fun _ => rfl, fun j hj => ?_, by simp, fun e => by have := hS _ e; omega⟩
  obtain rfl : j = 0 := by simpa using hj
  subst hz
  exact (has_new w #[bc x] 5 w.heap.size rfl).cell 0
set_option maxHeartbeats 400000 in
theorem wtruth_any (p : Nat) (v : Value) (bs : List UInt8) (b : Bool) (w : World) (hW : Wr w p v bs) :
    Calls Try.prog 20 #[.pointer (some ⟨p, 0, none⟩), .bool b] w fun e w' => Laid w w' p v bs [if b then 1 else 0] e := by
  have hS := hW.lt
  cases b with
  | false =>
    go_enter Try.func20, Try.ntmps20
    go_wp2_with fail
    refine named (p := fun X => Calls _ _ _ X _) ?_
    intro W0 hW0
    have hB0 : Below w.heap.size w W0 := by rw [hW0]; exact alloc2_below _ _ _
    have hP : Parts (WS p v) W0 (.slice (some ⟨w.heap.size + 1, 0, none⟩) 1 1) [[0]] := by
      rw [hW0]; exact parts1 (w.alloc _) _ (ap_one w 0 0 rfl hS) (fun k hk => by have := hS k hk; simp; omega)
    clear hW0
    refine (raw_any p v _ bs [[0]] W0 (hW.below hB0) hP (fun d hd => by simp at hd; subst hd; simp)).mono ?_
    intro e w2 h
    have h' := h.after hB0
    clear h
    obtain ⟨r, rfl⟩ := h'.code
    have e1 : [[(0 : UInt8)]].flatten = [0] := rfl
    rw [e1] at h'
    have H : Hid (Laid w w2 p v bs [0] (.returned (.int .i64 r))) := h'
    clear h'
    go_wp2_with fail
    go_ret
    exact H.out
  | true =>
    go_enter Try.func20, Try.ntmps20
    go_wp2_with fail
    refine named (p := fun X => Calls _ _ _ X _) ?_
    intro W0 hW0
    have hB0 : Below w.heap.size w W0 := by rw [hW0]; exact alloc2_below _ _ _
    have hP : Parts (WS p v) W0 (.slice (some ⟨w.heap.size + 1, 0, none⟩) 1 1) [[1]] := by
      rw [hW0]; exact parts1 (w.alloc _) _ (ap_one w 1 1 rfl hS) (fun k hk => by have := hS k hk; simp; omega)
    clear hW0
    refine (raw_any p v _ bs [[1]] W0 (hW.below hB0) hP (fun d hd => by simp at hd; subst hd; simp)).mono ?_
    intro e w2 h
    have h' := h.after hB0
    clear h
    obtain ⟨r, rfl⟩ := h'.code
    have e1 : [[(1 : UInt8)]].flatten = [1] := rfl
    rw [e1] at h'
    have H : Hid (Laid w w2 p v bs [1] (.returned (.int .i64 r))) := h'
    clear h'
    go_wp2_with fail
    go_ret
    exact H.out
set_option maxHeartbeats 400000 in
theorem wtruth_nil (b : Bool) (w : World) :
    Calls Try.prog 20 #[.pointer none, .bool b] w fun e w' => e = .returned (.int .i64 1) ∧ Below w.heap.size w w' := by
  cases b
  all_goals
    go_enter Try.func20, Try.ntmps20
    go_wp2_with (first | (go_at_call 21; refine (raw_nil _ _ _ _).mono ?_; rintro e w' ⟨rfl, hw⟩; obtain rfl := hw.symm) | fail)
    go_ret
    exact ⟨rfl, alloc2_below _ _ _⟩
end Go.Proofs.Ytgoflpfafkmmgaa
/- A reader: what it holds; none, and take by each kind of call. -/
namespace Go.Proofs.Ytgoflpfafkmmgaa
open Go.RowKit
/-- A reader lies in block r: what is left, the place, the flaw. -/
structure Rd (w : World) (r : Nat) (lv : Value) (rest : List UInt8) (at_ fl : Nat) : Prop where
  has : Has w r #[lv, .int .i64 at_, .int .i64 fl, .bool true] 82
  by_ : BytesAp (· = r) w lv rest
theorem Rd.lt {w : World} {r : Nat} {lv : Value} {rest : List UInt8} {at_ fl : Nat} (h : Rd w r lv rest at_ fl) : r < w.heap.size := h.has.lt
set_option maxHeartbeats 400000 in
theorem rnone_any (p : Nat) (w : World) (h : w.cell? ⟨p, 3, none⟩ = some (.bool true)) :
    Calls Try.prog 56 #[.pointer (some ⟨p, 0, none⟩)] w fun e w' => e = .returned (.bool false) ∧ w' = w := by
  go_enter Try.func56, Try.ntmps56
  go_wp2
  go_ret
  exact ⟨rfl, rfl⟩
set_option maxHeartbeats 400000 in
theorem rnone_nil (w : World) :
    Calls Try.prog 56 #[.pointer none] w fun e w' => e = .returned (.bool true) ∧ w' = w := by
  go_enter Try.func56, Try.ntmps56
  go_wp2
  go_ret
  exact ⟨rfl, rfl⟩
/-- What is found, and cut off what is left. -/
def Found (R : Nat → Prop) (lp : Nat) (W : World) (rest' : List UInt8) (val : Value) (e : Ending) (w' : World) : Prop :=
  e = .returned (.tuple #[val, .int .i64 0]) ∧ Ex lp W w' ∧ ∃ lv', Has w' lp #[lv'] 80 ∧ BytesAp (fun k => R k ∨ k = lp) w' lv' rest'
/-- An error. -/
def Failed (lp : Nat) (W : World) (ec : Nat) (e : Ending) (w' : World) : Prop :=
  (∃ val, e = .returned (.tuple #[val, .int .i64 ec])) ∧ Ex lp W w'
/-- What a reader's call finds, and the reader behind it. -/
def Took (w w' : World) (r : Nat) (rest' : List UInt8) (at' : Nat) : Prop := ∃ lv', Rd w' r lv' rest' at' 0 ∧ Ex r w w'
/-- .. and what is left lies in no block of R. -/
def TookR (R : Nat → Prop) (w w' : World) (r : Nat) (rest' : List UInt8) (at' : Nat) : Prop := ∃ lv', (Rd w' r lv' rest' at' 0 ∧ BytesAp R w' lv' rest') ∧ Ex r w w'
theorem TookR.took {R : Nat → Prop} {w w' : World} {r : Nat} {rest' : List UInt8} {at' : Nat} (h : TookR R w w' r rest' at') : Took w w' r rest' at' := by
  obtain ⟨lv', h1, h2⟩ := h; exact ⟨lv', h1.1, h2⟩
/-- A reader behind an error. -/
def Flaws (w w' : World) (r : Nat) (lv : Value) (rest : List UInt8) (at_ ec : Nat) : Prop := Rd w' r lv rest at_ ec ∧ Ex r w w'

set_option maxRecDepth 10000 in
set_option maxHeartbeats 1000000 in
theorem take44_64_ok (R : Nat → Prop) (r : Nat) (hRr : R r) (lv : Value) (rest rest' : List UInt8) (at_ : Nat) (w : World) (hR : Rd w r lv rest at_ 0) (b k : Value) (n : Int) (hlen : rest'.length ≤ rest.length) (hat : at_ + rest.length ≤ 10000000000)
    (hF : ∀ W, Has W w.heap.size #[lv] 80 → Below w.heap.size w W → Calls Try.prog 64 #[.pointer (some ⟨w.heap.size, 0, none⟩), b, k] W fun e w' => Found R w.heap.size W rest' (.int .i64 n) e w') : 
    Calls Try.prog 44 #[.pointer (some ⟨r, 0, none⟩), .func (Fn.func 64) #[] #[b, k]] w fun e w' => e = .returned (.tuple #[.int .i64 n, .int .i64 0]) ∧ TookR R w w' r rest' (at_ + (rest.length - rest'.length)) := by
  have c0 := hR.has.cell 0
  have c1 := hR.has.cell 1
  have c2 := hR.has.cell 2
  have c3 := hR.has.cell 3
  have hrl := hR.lt
  obtain ⟨la, lc, lb, lo, rfl, _⟩ := id hR.by_
  simp at c0 c1 c2 c3
  go_enter Try.func44, Try.ntmps44
  go_wp2_with (first | (go_at_call 56; refine (rnone_any _ _ c3).mono ?_; rintro e w' ⟨rfl, hw⟩; obtain rfl := hw.symm) | fail)
  refine named (p := fun X => Calls _ _ _ X _) ?_
  intro W1 hW1
  have hB1 : Below w.heap.size w W1 := by rw [hW1]; exact (Below.refl _ _).alloc (Nat.le_refl _) _
  have hH1 : Has W1 w.heap.size #[.slice la rest.length lc] 80 := by rw [hW1]; exact has_new _ _ _ _ rfl
  clear hW1
  refine (hF W1 hH1 hB1).mono ?_
  rintro e W2 ⟨rfl, hE2, lv', hH2, hby2⟩
  have hE : Ex w.heap.size w W2 := (Ex.below hB1).trans ⟨hE2.os, hE2.tape, hE2.output, hE2.size, fun k hk hn => hE2.block k hk hn⟩
  have hR2 : Has W2 r #[.slice la rest.length lc, .int .i64 at_, .int .i64 0, .bool true] 82 := hR.has.ex hE (by omega)
  have d0 := hR2.cell 0
  have d1 := hR2.cell 1
  have d3 := hR2.free 1
  have d4 := hR2.free 0
  have f0 := hH2.cell 0
  obtain ⟨la', lc', lb', lo', rfl, hcap', ha', hin', hlt', hap'⟩ := hby2
  have HB : Hid (rest'.length ≤ lc' ∧ (rest' ≠ [] → la' = some ⟨lb', lo', none⟩) ∧ BytesIn W2 lb' lo' rest' ∧ lb' < W2.heap.size ∧ ¬ (R lb' ∨ lb' = w.heap.size)) := ⟨hcap', ha', hin', hlt', hap'⟩
  clear hcap' ha' hin' hlt' hap' c0 c1 c2 c3 hF
  simp at d0 d1 f0
  have hne : ¬ w.heap.size = r := by omega
  have hne' : ¬ r = w.heap.size := by omega
  have Hn : Hid (at_ + (rest.length - rest'.length) ≤ 10000000000) := by show _ ≤ _; omega
  have z1 : (rest.length : Int) - rest'.length = ((rest.length - rest'.length : Nat) : Int) := by omega
  have z2 : (at_ : Int) + ((rest.length : Int) - rest'.length) = ((at_ + (rest.length - rest'.length) : Nat) : Int) := by omega
  go_wp2_with fail
  go_region
  go_wp2_with fail
  go_ret2
  have hs1 := hR2.set 1 (.int .i64 ((at_ : Int) + ((rest.length - rest'.length : Nat) : Int)))
  have hs2 := hs1.set 0 (.slice la' rest'.length lc')
  simp at hs2
  have hne2 : ¬ lb' = r := fun e => HB.out.2.2.2.2 (.inl (by rw [e]; exact hRr))
  have hbR : BytesAp R ((W2.setCell ⟨r, 1, none⟩ (.int .i64 ((at_ : Int) + ((rest.length - rest'.length : Nat) : Int)))).setCell ⟨r, 0, none⟩ (.slice la' rest'.length lc')).drew (.slice la' rest'.length lc') rest' := by
    obtain ⟨h1, h2, h3, h4, h5⟩ := HB.out
    exact ⟨la', lc', lb', lo', rfl, h1, h2, fun j hj => cell_set_blk hne2 (cell_set_blk hne2 (h3 j hj)), by simpa using h4, fun e => h5 (.inl e)⟩
  refine ⟨rfl, .slice la' rest'.length lc', ⟨⟨?_, ?_⟩, hbR⟩, ?_⟩
  · exact hs2
  · obtain ⟨h1, h2, h3, h4, h5⟩ := HB.out
    refine ⟨la', lc', lb', lo', rfl, h1, h2, fun j hj => ?_, by simpa using h4, hne2⟩
    exact cell_set_blk hne2 (cell_set_blk hne2 (h3 j hj))
  · have hEr : Ex r w W2 := ⟨hE.os, hE.tape, hE.output, hE.size, fun k hk hn => hE.block k hk (by omega)⟩
    exact ((hEr.trans (Ex.set _ _ _ _)).trans (Ex.set _ _ _ _)).trans (Ex.drew _ _)
set_option maxRecDepth 10000 in
set_option maxHeartbeats 1000000 in
theorem take44_64_err (r : Nat) (lv : Value) (rest : List UInt8) (at_ ec : Nat) (w : World) (hR : Rd w r lv rest at_ 0) (b k : Value) (hec : ec ≠ 0)
    (hF : ∀ W, Has W w.heap.size #[lv] 80 → Below w.heap.size w W → Calls Try.prog 64 #[.pointer (some ⟨w.heap.size, 0, none⟩), b, k] W fun e w' => Failed w.heap.size W ec e w') : 
    Calls Try.prog 44 #[.pointer (some ⟨r, 0, none⟩), .func (Fn.func 64) #[] #[b, k]] w fun e w' => e = .returned (.tuple #[.int .i64 0, .int .i64 ec]) ∧ Flaws w w' r lv rest at_ ec := by
  have c0 := hR.has.cell 0
  have c1 := hR.has.cell 1
  have c2 := hR.has.cell 2
  have c3 := hR.has.cell 3
  have hrl := hR.lt
  obtain ⟨la, lc, lb, lo, rfl, hBy⟩ := id hR.by_
  have HB : Hid (rest.length ≤ lc ∧ (rest ≠ [] → la = some ⟨lb, lo, none⟩) ∧ BytesIn w lb lo rest ∧ lb < w.heap.size ∧ ¬ lb = r) := hBy
  clear hBy
  simp at c0 c1 c2 c3
  have hec' : (ec : Int) ≠ 0 := by omega
  go_enter Try.func44, Try.ntmps44
  go_wp2_with (first | (go_at_call 56; refine (rnone_any _ _ c3).mono ?_; rintro e w' ⟨rfl, hw⟩; obtain rfl := hw.symm) | fail)
  refine named (p := fun X => Calls _ _ _ X _) ?_
  intro W1 hW1
  have hB1 : Below w.heap.size w W1 := by rw [hW1]; exact (Below.refl _ _).alloc (Nat.le_refl _) _
  have hH1 : Has W1 w.heap.size #[.slice la rest.length lc] 80 := by rw [hW1]; exact has_new _ _ _ _ rfl
  clear hW1
  refine (hF W1 hH1 hB1).mono ?_
  rintro e W2 ⟨⟨val, rfl⟩, hE2⟩
  have hE : Ex w.heap.size w W2 := (Ex.below hB1).trans ⟨hE2.os, hE2.tape, hE2.output, hE2.size, fun k hk hn => hE2.block k hk hn⟩
  have hR2 : Has W2 r #[.slice la rest.length lc, .int .i64 at_, .int .i64 0, .bool true] 82 := hR.has.ex hE (by omega)
  have d2 := hR2.cell 2
  have d3 := hR2.free 2
  clear c0 c1 c2 c3 hF
  simp at d2
  go_wp2_with fail
  go_ret2
  have hs1 := hR2.set 2 (.int .i64 ec)
  simp at hs1
  refine ⟨rfl, ⟨?_, ?_⟩, ?_⟩
  · exact hs1
  · obtain ⟨h1, h2, h3, h4, h5⟩ := HB.out
    refine ⟨la, lc, lb, lo, rfl, h1, h2, fun j hj => ?_, by have := hE.size; simp; omega, h5⟩
    exact cell_set_blk h5 ((World.cell?_of_block (w := w) (hE.block lb h4 (by omega))).trans (h3 j hj))
  · have hEr : Ex r w W2 := ⟨hE.os, hE.tape, hE.output, hE.size, fun k hk hn => hE.block k hk (by omega)⟩
    exact hEr.trans (Ex.set _ _ _ _)
set_option maxRecDepth 10000 in
set_option maxHeartbeats 1000000 in
theorem take44_64_flaw (r : Nat) (lv : Value) (rest : List UInt8) (at_ ec : Nat) (w : World) (hR : Rd w r lv rest at_ ec) (b k : Value) (hec : ec ≠ 0) :
    Calls Try.prog 44 #[.pointer (some ⟨r, 0, none⟩), .func (Fn.func 64) #[] #[b, k]] w fun e w' => e = .returned (.tuple #[.int .i64 0, .int .i64 ec]) ∧ ∃ k, w' = w.drewN k := by
  have c2 := hR.has.cell 2
  have c3 := hR.has.cell 3
  simp at c2 c3
  have hec' : (ec : Int) ≠ 0 := by omega
  go_enter Try.func44, Try.ntmps44
  go_wp2_with (first | (go_at_call 56; refine (rnone_any _ _ c3).mono ?_; rintro e w' ⟨rfl, hw⟩; obtain rfl := hw.symm) | fail)
  go_quiet (fail)
  go_wp2_with fail
  go_ret2
  exact ⟨rfl, _, rfl⟩
set_option maxHeartbeats 400000 in
theorem take44_64_nil (w : World) (b k : Value) :
    Calls Try.prog 44 #[.pointer none, .func (Fn.func 64) #[] #[b, k]] w fun e w' => e = .returned (.tuple #[.int .i64 0, .int .i64 1]) ∧ w' = w := by
  go_enter Try.func44, Try.ntmps44
  go_wp2_with (first | (go_at_call 56; refine (rnone_nil _).mono ?_; rintro e w' ⟨rfl, hw⟩; obtain rfl := hw.symm) | fail)
  go_ret2
  exact ⟨rfl, rfl⟩
end Go.Proofs.Ytgoflpfafkmmgaa
/- What is left of a reader's bytes: whole. -/
namespace Go.Proofs.Ytgoflpfafkmmgaa
open Go.RowKit

/-- A number at the head of bytes: what it is and how many bytes it has, or the error. -/
def scan : Nat → Nat → List UInt8 → Except Nat (Nat × Nat)
  | _, _, [] => .error 120
  | i, acc, b :: l => if 128 ≤ b.toNat then (if i = 8 then .error 121 else scan (i + 1) (acc + (b.toNat - 128) * 2 ^ (7 * i)) l)
    else if b.toNat = 0 ∧ 0 < i then .error 121 else .ok (acc + b.toNat * 2 ^ (7 * i), i + 1)
theorem scan_end (i acc : Nat) (b : UInt8) (l : List UInt8) (h : 128 ≤ b.toNat) (hi : i = 8) : scan i acc (b :: l) = .error 121 := by
  show (if _ then _ else _) = _; rw [if_pos h, if_pos hi]
theorem scan_go (i acc : Nat) (b : UInt8) (l : List UInt8) (h : 128 ≤ b.toNat) (hi : ¬ i = 8) : scan i acc (b :: l) = scan (i + 1) (acc + (b.toNat - 128) * 2 ^ (7 * i)) l := by
  show (if _ then _ else _) = _; rw [if_pos h, if_neg hi]
theorem scan_zero (i acc : Nat) (b : UInt8) (l : List UInt8) (h : b.toNat = 0) (hi : 0 < i) : scan i acc (b :: l) = .error 121 := by
  show (if _ then _ else _) = _; rw [if_neg (by omega), if_pos ⟨h, hi⟩]
theorem scan_ok (i acc : Nat) (b : UInt8) (l : List UInt8) (h : ¬ 128 ≤ b.toNat) (hi : ¬ (b.toNat = 0 ∧ 0 < i)) : scan i acc (b :: l) = .ok (acc + b.toNat * 2 ^ (7 * i), i + 1) := by
  show (if _ then _ else _) = _; rw [if_neg h, if_neg hi]
theorem pow7 (k : Nat) : (2 : Nat) ^ (7 * (k + 1)) = 2 ^ (7 * k) * 128 := by rw [Nat.mul_add, Nat.pow_add]
/-- What is found is a number, and there are as many bytes. -/
theorem scan_bound : ∀ (l : List UInt8) (i acc n k : Nat), scan i acc l = .ok (n, k) → i ≤ 8 → acc < 2 ^ (7 * i) → n < 2 ^ (7 * k) ∧ k ≤ 9 ∧ i < k ∧ k ≤ i + l.length
  | [], _, _, _, _, h, _, _ => by cases h
  | b :: l, i, acc, n, k, h, hi, ha => by
    by_cases h1 : 128 ≤ b.toNat
    · by_cases h2 : i = 8
      · rw [scan_end i acc b l h1 h2] at h; cases h
      · rw [scan_go i acc b l h1 h2] at h
        have hb := b.toNat_lt
        have hm : (b.toNat - 128) * 2 ^ (7 * i) ≤ 127 * 2 ^ (7 * i) := Nat.mul_le_mul_right _ (by omega)
        have := scan_bound l (i + 1) _ n k h (by omega) (by rw [pow7]; omega)
        simp; omega
    · by_cases h2 : b.toNat = 0 ∧ 0 < i
      · rw [scan_zero i acc b l h2.1 h2.2] at h; cases h
      · rw [scan_ok i acc b l h1 h2] at h
        simp only [Except.ok.injEq, Prod.mk.injEq] at h
        obtain ⟨rfl, rfl⟩ := h
        have hm : b.toNat * 2 ^ (7 * i) ≤ 127 * 2 ^ (7 * i) := Nat.mul_le_mul_right _ (by omega)
        rw [pow7]; simp; omega
theorem or_shift (acc c k : Nat) (h : acc < 2 ^ (7 * k)) (hc : c < 128) (hk : k ≤ 8) : bits .or .i64 (acc : Int) (wrap64 ((c : Int) * 2 ^ (7 * k))) = ((acc + c * 2 ^ (7 * k) : Nat) : Int) := by
  have hp : (2 : Nat) ^ (7 * k) ≤ 2 ^ 56 := Nat.pow_le_pow_right (by omega) (by omega)
  have hor : acc ||| c * 2 ^ (7 * k) = acc + c * 2 ^ (7 * k) := by
    have := Nat.shiftLeft_add_eq_or_of_lt h c
    rw [Nat.shiftLeft_eq] at this
    rw [Nat.or_comm, ← this, Nat.add_comm]
  generalize hP : (2 : Nat) ^ (7 * k) = P at *
  have hcP : c * P ≤ 127 * P := Nat.mul_le_mul_right _ (by omega)
  have e1 : ((c : Int) * 2 ^ (7 * k)) = ((c * P : Nat) : Int) := by rw [← hP]; simp
  have e2 : wrap64 ((c : Int) * 2 ^ (7 * k)) = ((c * P : Nat) : Int) := by
    rw [e1]; unfold wrap64; omega
  rw [e2]
  generalize c * P = m at *
  have e3 : BitVec.ofInt 64 (acc : Int) = BitVec.ofNat 64 acc := by simp
  have e4 : BitVec.ofInt 64 (m : Int) = BitVec.ofNat 64 m := by simp
  show IntKind.i64.wrap _ = _
  simp only [IntKind.bits]
  rw [e3, e4]
  show IntKind.i64.wrap ((BitVec.ofNat 64 acc ||| BitVec.ofNat 64 m).toNat : Int) = _
  rw [BitVec.toNat_or, BitVec.toNat_ofNat, BitVec.toNat_ofNat, Nat.mod_eq_of_lt (by omega), Nat.mod_eq_of_lt (by omega), hor, IntKind.wrap_i64]
  omega
theorem drop_cons (l : List UInt8) (k : Nat) (h : k < l.length) : l.drop k = (l[k]?.getD 0) :: l.drop (k + 1) := by
  rw [List.drop_eq_getElem_cons h]; simp [h]
theorem bv_sub (b : UInt8) (h : 128 ≤ bv b) : bv b - 128 = ((b.toNat - 128 : Nat) : Int) := by unfold bv at *; omega
/-- The next round's numbers. -/
theorem or_more (acc k : Nat) (b : UInt8) (ha : acc < 2 ^ (7 * k)) (hk : k ≤ 8) (h : 128 ≤ bv b) : bits .or .i64 (acc : Int) (wrap64 ((bv b - 128) * 2 ^ (7 * k))) = ((acc + (b.toNat - 128) * 2 ^ (7 * k) : Nat) : Int) ∧ acc + (b.toNat - 128) * 2 ^ (7 * k) < 2 ^ (7 * (k + 1)) := by
  have hb := b.toNat_lt
  refine ⟨by rw [bv_sub b h]; exact or_shift acc _ k ha (by omega) hk, ?_⟩
  have hm : (b.toNat - 128) * 2 ^ (7 * k) ≤ 127 * 2 ^ (7 * k) := Nat.mul_le_mul_right _ (by omega)
  rw [pow7]; omega
theorem or_last (acc k : Nat) (b : UInt8) (ha : acc < 2 ^ (7 * k)) (hk : k ≤ 8) (h : ¬ 128 ≤ bv b) : bits .or .i64 (acc : Int) (wrap64 (bv b * 2 ^ (7 * k))) = ((acc + b.toNat * 2 ^ (7 * k) : Nat) : Int) := by
  unfold bv at *; exact or_shift acc _ k ha (by omega) hk
/-- What is left behind the first k bytes. -/
theorem BytesAp.drop {S : Nat → Prop} {w : World} {a : Option Addr} {n cap : Nat} {l : List UInt8} (h : BytesAp S w (.slice a n cap) l) (k : Nat) (hk : k ≤ l.length) :
    BytesAp S w (.slice (if cap = k then a else a.map (·.add (k * 1))) (n - k) (cap - k)) (l.drop k) := by
  obtain ⟨a1, c1, db, o, he, hcap, ha, hin, hlt, hs⟩ := h
  simp only [Value.slice.injEq] at he
  obtain ⟨rfl, rfl, rfl⟩ := he
  by_cases hc : cap = k
  · subst hc
    have hd : l.drop cap = [] := List.drop_eq_nil_of_le hcap
    rw [if_pos rfl, hd]
    exact ⟨a, cap - cap, db, o, by simp; omega, by simp, fun h => absurd rfl h, fun j hj => absurd hj (by simp), hlt, hs⟩
  · rw [if_neg hc]
    refine ⟨_, _, db, o + k, by rw [List.length_drop], by simp; omega, fun hne => ?_, fun j hj => ?_, hlt, hs⟩
    · rw [ha (by intro e; rw [e] at hne; simp at hne)]
      simp [Addr.add_mid]
    · rw [List.length_drop] at hj
      rw [Nat.add_assoc, hin (k + j) (by omega), List.getElem?_drop]
theorem BytesAp.take {S : Nat → Prop} {w : World} {a : Option Addr} {n cap : Nat} {l : List UInt8} (h : BytesAp S w (.slice a n cap) l) (k : Nat) (hk : k ≤ l.length) :
    BytesAp S w (.slice (if cap = 0 then a else a.map (·.add (0 * 1))) (k - 0) (cap - 0)) (l.take k) := by
  obtain ⟨a1, c1, db, o, he, hcap, ha, hin, hlt, hs⟩ := h
  simp only [Value.slice.injEq] at he
  obtain ⟨rfl, rfl, rfl⟩ := he
  refine ⟨(if cap = 0 then a else a.map (·.add (0 * 1))), cap - 0, db, o, by simp [hk], by simp; omega, fun hne => ?_, fun j hj => ?_, hlt, hs⟩
  · have hl : l ≠ [] := by intro e; rw [e] at hne; simp at hne
    rw [ha hl]
    simp [Addr.add_mid]
  · simp at hj
    rw [hin j (by omega), List.getElem?_take_of_lt (by omega)]

/-- What 'whole' answers. -/
def Whole (R : Nat → Prop) (lp : Nat) (W : World) (l : List UInt8) (e : Ending) (w' : World) : Prop := match scan 0 0 l with
  | .error ec => e = .returned (.tuple #[.int .i64 0, .int .i64 ec]) ∧ w' = W
  | .ok (n, k) => Found R lp W (l.drop k) (.int .i64 n) e w'
theorem Whole.err {R : Nat → Prop} {lp : Nat} {W w' : World} {l : List UInt8} {e : Ending} {ec : Nat} (h : scan 0 0 l = .error ec) (k : e = .returned (.tuple #[.int .i64 0, .int .i64 ec]) ∧ w' = W) : Whole R lp W l e w' := by unfold Whole; rw [h]; exact k
theorem Whole.ok {R : Nat → Prop} {lp : Nat} {W w' : World} {l : List UInt8} {e : Ending} {n k : Nat} (h : scan 0 0 l = .ok (n, k)) (hf : Found R lp W (l.drop k) (.int .i64 n) e w') : Whole R lp W l e w' := by unfold Whole; rw [h]; exact hf
theorem slice_left (a : Option Addr) (n cap k : Nat) (hk : k ≤ n) (w : World) :
    (Instr.slice 80 (.slice a n cap) (some (.int .i64 (k : Int))) none none).run Try.prog w = .ok (.slice (if cap = k then a else a.map (·.add (k * 1))) (n - k) (cap - k)) w := by
  have he : Try.prog.elem 80 = 5 := by kernel_rfl
  have hu : Try.prog.underlying 80 = some (.slice (Try.prog.elem 80)) := by rw [he]; exact Try.underlying80
  obtain ⟨i0, hi, _, hz1, _⟩ := info_parts' info5
  rw [run_slice_l w 80 a n cap hu .i64 k (by omega) (by omega), he]
  simp [sizeOf, typeInfo, hi, hz1, sliced]
theorem slice_head (a : Option Addr) (n cap k : Nat) (hk : k ≤ cap) (w : World) :
    (Instr.slice 80 (.slice a n cap) none (some (.int .i64 (k : Int))) none).run Try.prog w = .ok (.slice (if cap = 0 then a else a.map (·.add (0 * 1))) (k - 0) (cap - 0)) w := by
  have he : Try.prog.elem 80 = 5 := by kernel_rfl
  have hu : Try.prog.underlying 80 = some (.slice (Try.prog.elem 80)) := by rw [he]; exact Try.underlying80
  obtain ⟨i0, hi, _, hz1, _⟩ := info_parts' info5
  rw [run_slice_h w 80 a n cap hu .i64 k (by omega) (by omega), he]
  simp [sizeOf, typeInfo, hi, hz1, sliced]

set_option maxRecDepth 10000 in
set_option maxHeartbeats 1000000 in
theorem whole_any (R : Nat → Prop) (lp : Nat) (lv : Value) (l : List UInt8) (W : World) (hH : Has W lp #[lv] 80) (hB : BytesAp (fun k => R k ∨ k = lp) W lv l) (hsm : l.length ≤ 10000000000) :
    Calls Try.prog 65 #[.pointer (some ⟨lp, 0, none⟩)] W fun e w' => Whole R lp W l e w' := by
  have c0 := hH.one
  have f0 := hH.free 0
  obtain ⟨a, cap, db, o, rfl, hcap, ha, hin, hlt, _⟩ := id hB
  have HB : Hid (BytesAp (fun k => R k ∨ k = lp) W (.slice a l.length cap) l) := hB
  clear hB
  go_enter Try.func65, Try.ntmps65
  go_wp2_with fail
  go_loop [4, 11] (fun n i => ∃ k acc : Nat, k ≤ l.length ∧ k ≤ 8 ∧ i = .int .i64 k ∧ n = .int .i64 acc ∧ acc < 2 ^ (7 * k) ∧ scan 0 0 l = scan k acc (l.drop k)) (fun _ i => l.length - (intOf i).toNat)
  case atStart => exact ⟨0, 0, by omega, by omega, rfl, rfl, by simp, rfl⟩
  case round =>
    obtain ⟨k, acc, hk, hk8, rfl, rfl, hacc, hsc⟩ := hrel
    by_cases hkl : k < l.length
    · obtain rfl := ha (by intro e; simp [e] at hkl)
      have hc := hin k hkl
      rw [drop_cons l k hkl] at hsc
      generalize l[k]?.getD 0 = b at *
      unfold bc at hc
      have b0 := bv_nonneg b
      have b1 := bv_lt b
      have hbv : Hid (bv b = (b.toNat : Int)) := rfl
      have i1 : (k : Int) < l.length := by omega
      have Hacc : Hid (acc < 2 ^ (7 * k)) := hacc
      clear hacc
      by_cases h128 : 128 ≤ bv b
      · have hb1 : 128 ≤ b.toNat := by have := hbv.out; omega
        by_cases h8 : k = 8
        · rw [scan_end k acc b _ hb1 h8] at hsc
          have Hsc : Hid (scan 0 0 l = .error 121) := hsc
          clear hsc
          subst h8
          go_wp2_with fail
          go_ret2
          exact Whole.err Hsc.out ⟨rfl, rfl⟩
        · rw [scan_go k acc b _ hb1 h8] at hsc
          have Hsc : Hid (scan 0 0 l = scan (k + 1) (acc + (b.toNat - 128) * 2 ^ (7 * k)) (l.drop (k + 1))) := hsc
          clear hsc
          have h8' : ¬ (k : Int) = 8 := by omega
          obtain ⟨ho, ho2⟩ := or_more acc k b Hacc.out hk8 h128
          have Ho2 : Hid (acc + (b.toNat - 128) * 2 ^ (7 * k) < 2 ^ (7 * (k + 1))) := ho2
          clear ho2
          generalize acc + (b.toNat - 128) * 2 ^ (7 * k) = acc2 at *
          go_wp2_with fail
          go_round
          case rel => exact ⟨k + 1, acc2, by omega, by omega, by go_num, rfl, Ho2.out, Hsc.out⟩
          case measure => simp [intOf]; omega
      · have hb1 : ¬ 128 ≤ b.toNat := by have := hbv.out; omega
        by_cases hz : b.toNat = 0 ∧ 0 < k
        · rw [scan_zero k acc b _ hz.1 hz.2] at hsc
          have Hsc : Hid (scan 0 0 l = .error 121) := hsc
          clear hsc
          have z1 : bv b = 0 := by have := hbv.out; omega
          have z2 : (0 : Int) < k := by omega
          go_wp2_with fail
          go_ret2
          exact Whole.err Hsc.out ⟨rfl, rfl⟩
        · rw [scan_ok k acc b _ hb1 hz] at hsc
          have Hsc : Hid (scan 0 0 l = .ok (acc + b.toNat * 2 ^ (7 * k), k + 1)) := hsc
          clear hsc
          have ho := or_last acc k b Hacc.out hk8 h128
          have Hd := HB.out.drop (k + 1) (by omega)
          generalize acc + b.toNat * 2 ^ (7 * k) = acc2 at *
          have hsl := slice_left (some ⟨db, o, none⟩) l.length cap (k + 1) (by omega)
          have ek : ((k + 1 : Nat) : Int) = (k : Int) + 1 := by omega
          rw [ek] at hsl
          generalize (if cap = k + 1 then some (⟨db, o, none⟩ : Addr) else (some ⟨db, o, none⟩ : Option Addr).map (·.add ((k + 1) * 1))) = va at *
          generalize l.length - (k + 1) = vn at *
          generalize cap - (k + 1) = vc at *
          have Hfin : Hid (Found R lp W (l.drop (k + 1)) (.int .i64 acc2) (.returned (.tuple #[.int .i64 acc2, .int .i64 0])) (W.setCell ⟨lp, 0, none⟩ (.slice va vn vc))) := by
            have hs := hH.set 0 (.slice va vn vc)
            simp at hs
            exact ⟨rfl, Ex.set _ _ _ _, _, hs, Hd.fr (Fr.of_ex (Ex.set lp W 0 _)) (fun i _ e => .inr e)⟩
          clear Hd ek
          by_cases hz0 : bv b = 0
          · have z2 : ¬ (0 : Int) < k := by have := hbv.out; omega
            have ho' : bits .or .i64 (acc : Int) 0 = (acc2 : Int) := by rw [← ho, hz0]; simp [wrap64]
            clear ho
            go_wp2_with fail
            go_ret2
            exact Whole.ok Hsc.out Hfin.out
          · go_wp2_with fail
            go_ret2
            exact Whole.ok Hsc.out Hfin.out
    · have hk2 : k = l.length := by omega
      rw [List.drop_eq_nil_of_le (by omega)] at hsc
      have Hsc : Hid (scan 0 0 l = .error 120) := hsc
      clear hsc
      have i1 : ¬ (k : Int) < l.length := by omega
      go_wp2_with fail
      go_ret2
      exact Whole.err Hsc.out ⟨rfl, rfl⟩
end Go.Proofs.Ytgoflpfafkmmgaa
/- What is left of a reader's bytes: number, signed, raw. -/
namespace Go.Proofs.Ytgoflpfafkmmgaa
open Go.RowKit

theorem scan_err : ∀ (l : List UInt8) (i acc ec : Nat), scan i acc l = .error ec → ec = 120 ∨ ec = 121
  | [], _, _, _, h => by cases h; exact .inl rfl
  | b :: l, i, acc, ec, h => by
    by_cases h1 : 128 ≤ b.toNat
    · by_cases h2 : i = 8
      · rw [scan_end i acc b l h1 h2] at h; cases h; exact .inr rfl
      · rw [scan_go i acc b l h1 h2] at h; exact scan_err l _ _ ec h
    · by_cases h2 : b.toNat = 0 ∧ 0 < i
      · rw [scan_zero i acc b l h2.1 h2.2] at h; cases h; exact .inr rfl
      · rw [scan_ok i acc b l h1 h2] at h; cases h
theorem scan_lt {l : List UInt8} {n k : Nat} (h : scan 0 0 l = .ok (n, k)) : n < 9223372036854775808 ∧ 0 < k ∧ k ≤ l.length ∧ k ≤ 9 := by
  have := scan_bound l 0 0 n k h (by omega) (by simp)
  have hp : (2 : Nat) ^ (7 * k) ≤ 2 ^ 63 := Nat.pow_le_pow_right (by omega) (by omega)
  omega
/-- What a kind of call answers: an error, or what is found and the bytes behind. -/
def Ans (R : Nat → Prop) (lp : Nat) (W : World) (x : Except Nat (Value × List UInt8)) (e : Ending) (w' : World) : Prop := match x with
  | .error ec => Failed lp W ec e w'
  | .ok (v, rest) => Found R lp W rest v e w'
/-- .. of bytes that are laid anew. -/
def AnsB (R : Nat → Prop) (lp : Nat) (W : World) (x : Except Nat (List UInt8 × List UInt8)) (e : Ending) (w' : World) : Prop := match x with
  | .error ec => e = .returned (.tuple #[.slice none 0 0, .int .i64 ec]) ∧ Ex lp W w'
  | .ok (d, rest) => ∃ v, Found R lp W rest v e w' ∧ Own w' v d ∧ ∀ k, v.ownBlock = some k → W.heap.size ≤ k
def lnum (most : Int) (l : List UInt8) : Except Nat (Nat × List UInt8) := match scan 0 0 l with
  | .error ec => .error ec
  | .ok (n, k) => if most < n then .error 3 else .ok (n, l.drop k)
def unf (n : Nat) : Int := if n % 2 = 1 then -1 - (n / 2 : Nat) else (n / 2 : Nat)
def lsig (l : List UInt8) : Except Nat (Int × List UInt8) := match scan 0 0 l with
  | .error ec => .error ec
  | .ok (n, k) => .ok (unf n, l.drop k)
def lraw (n : Nat) (l : List UInt8) : Except Nat (List UInt8 × List UInt8) := if l.length < n then .error 120 else .ok (l.take n, l.drop n)
def lbyt (most : Int) (l : List UInt8) : Except Nat (List UInt8 × List UInt8) := match lnum most l with
  | .error ec => .error ec
  | .ok (n, rest) => lraw n rest
def ltru (l : List UInt8) : Except Nat (Bool × List UInt8) := match l with
  | [] => .error 120
  | b :: l => if 1 < b.toNat then .error 121 else .ok (b.toNat == 1, l)
def vI (x : Except Nat (Int × List UInt8)) : Except Nat (Value × List UInt8) := x.map fun p => (.int .i64 p.1, p.2)
def vN (x : Except Nat (Nat × List UInt8)) : Except Nat (Value × List UInt8) := x.map fun p => (.int .i64 (p.1 : Int), p.2)
def vS (x : Except Nat (List UInt8 × List UInt8)) : Except Nat (Value × List UInt8) := x.map fun p => (.string ⟨p.1.toArray⟩, p.2)
def vT (x : Except Nat (Bool × List UInt8)) : Except Nat (Value × List UInt8) := x.map fun p => (.bool p.1, p.2)

/-- Whatever is in it, a slice of bytes is a slice value. -/
theorem BytesAp.slice {S : Nat → Prop} {w : World} {v : Value} {l : List UInt8} (h : BytesAp S w v l) : ∃ a c, v = .slice a l.length c := by
  obtain ⟨a, c, _, _, h, _⟩ := h; exact ⟨a, c, h⟩

set_option maxHeartbeats 1000000 in
theorem lnumber_any (R : Nat → Prop) (lp : Nat) (lv : Value) (l : List UInt8) (most : Int) (W : World) (hH : Has W lp #[lv] 80) (hB : BytesAp (fun k => R k ∨ k = lp) W lv l) (hsm : l.length ≤ 10000000000) :
    Calls Try.prog 46 #[.pointer (some ⟨lp, 0, none⟩), .int .i64 most] W fun e w' => Ans R lp W (vN (lnum most l)) e w' := by
  have hw := whole_any R lp lv l W hH hB hsm
  unfold Whole at hw
  unfold lnum
  cases hs : scan 0 0 l with
  | error ec =>
    simp only [hs] at hw
    have he := scan_err l 0 0 ec hs
    have he' : ¬ (ec : Int) = 0 := by omega
    have Hf : Hid (Failed lp W ec (.returned (.tuple #[.int .i64 0, .int .i64 ec])) W) := ⟨⟨_, rfl⟩, Ex.refl _ _⟩
    show Calls _ _ _ _ fun e w' => Failed lp W ec e w'
    clear he hs
    go_enter Try.func46, Try.ntmps46
    go_wp2_with fail
    refine hw.mono ?_
    rintro e w' ⟨rfl, hw'⟩
    obtain rfl := hw'.symm
    go_wp2_with fail
    go_ret2
    exact Hf.out
  | ok p =>
    obtain ⟨n, k⟩ := p
    simp only [hs] at hw
    have hb := scan_lt hs
    by_cases hm : most < n
    · simp only [if_pos hm]
      show Calls _ _ _ _ fun e w' => Failed lp W 3 e w'
      clear hs
      go_enter Try.func46, Try.ntmps46
      go_wp2_with fail
      refine hw.mono ?_
      rintro e w' ⟨rfl, hE, _⟩
      have Hf : Hid (Failed lp W 3 (.returned (.tuple #[.int .i64 0, .int .i64 3])) w') := ⟨⟨_, rfl⟩, hE⟩
      go_wp2_with fail
      go_ret2
      exact Hf.out
    · simp only [if_neg hm]
      show Calls _ _ _ _ fun e w' => Found R lp W (l.drop k) (.int .i64 n) e w'
      clear hs
      go_enter Try.func46, Try.ntmps46
      go_wp2_with fail
      refine hw.mono ?_
      rintro e w' hf
      obtain ⟨rfl, _⟩ := id hf
      have Hf : Hid (Found R lp W (l.drop k) (.int .i64 n) (.returned (.tuple #[.int .i64 n, .int .i64 0])) w') := hf
      clear hf
      go_wp2_with fail
      go_ret2
      exact Hf.out
set_option maxHeartbeats 400000 in
theorem unfolded_any (n : Nat) (hn : n < 9223372036854775808) (w : World) :
    Calls Try.prog 66 #[.int .i64 n] w fun e w' => e = .returned (.int .i64 (unf n)) ∧ w' = w := by
  by_cases h : n % 2 = 1
  · have e1 : (n : Int) % 2 = 1 := by omega
    have e2 : -1 - (n : Int) / 2 = unf n := by unfold unf; rw [if_pos h]; omega
    go_enter Try.func66, Try.ntmps66
    go_wp2_with fail
    go_ret
    exact ⟨by rw [← e2]; rfl, rfl⟩
  · have e1 : ¬ (n : Int) % 2 = 1 := by omega
    have e2 : (n : Int) / 2 = unf n := by unfold unf; rw [if_neg h]; omega
    go_enter Try.func66, Try.ntmps66
    go_wp2_with fail
    go_ret
    exact ⟨by rw [← e2]; rfl, rfl⟩
set_option maxHeartbeats 1000000 in
theorem lsigned_any (R : Nat → Prop) (lp : Nat) (lv : Value) (l : List UInt8) (W : World) (hH : Has W lp #[lv] 80) (hB : BytesAp (fun k => R k ∨ k = lp) W lv l) (hsm : l.length ≤ 10000000000) :
    Calls Try.prog 49 #[.pointer (some ⟨lp, 0, none⟩)] W fun e w' => Ans R lp W (vI (lsig l)) e w' := by
  have hw := whole_any R lp lv l W hH hB hsm
  unfold Whole at hw
  unfold lsig
  cases hs : scan 0 0 l with
  | error ec =>
    simp only [hs] at hw
    have Hf : Hid (Failed lp W ec (.returned (.tuple #[.int .i64 (unf 0), .int .i64 ec])) W) := ⟨⟨_, rfl⟩, Ex.refl _ _⟩
    have hu := unfolded_any 0 (by omega) W
    show Calls _ _ _ _ fun e w' => Failed lp W ec e w'
    clear hs
    go_enter Try.func49, Try.ntmps49
    go_wp2_with fail
    refine hw.mono ?_
    rintro e w' ⟨rfl, hw'⟩
    obtain rfl := hw'.symm
    go_wp2_with fail
    refine hu.mono ?_
    rintro e w' ⟨rfl, hw'⟩
    obtain rfl := hw'.symm
    go_wp2_with fail
    go_ret2
    exact Hf.out
  | ok p =>
    obtain ⟨n, k⟩ := p
    simp only [hs] at hw
    have hb := scan_lt hs
    have hu := unfolded_any n hb.1
    show Calls _ _ _ _ fun e w' => Found R lp W (l.drop k) (.int .i64 (unf n)) e w'
    clear hs
    generalize unf n = z at *
    go_enter Try.func49, Try.ntmps49
    go_wp2_with fail
    refine hw.mono ?_
    rintro e w' ⟨rfl, hr⟩
    have Hf : Hid (Found R lp W (l.drop k) (.int .i64 z) (.returned (.tuple #[.int .i64 z, .int .i64 0])) w') := ⟨rfl, hr⟩
    clear hr
    go_wp2_with fail
    refine (hu w').mono ?_
    rintro e w1 ⟨rfl, hw'⟩
    obtain rfl := hw'.symm
    go_wp2_with fail
    go_ret2
    exact Hf.out
end Go.Proofs.Ytgoflpfafkmmgaa
/- What is left of a reader's bytes: raw, bytes, text, truth. -/
namespace Go.Proofs.Ytgoflpfafkmmgaa
open Go.RowKit

set_option maxRecDepth 10000 in
set_option maxHeartbeats 1000000 in
theorem lraw_any (R : Nat → Prop) (lp : Nat) (lv : Value) (l : List UInt8) (n : Nat) (W : World) (hH : Has W lp #[lv] 80) (hB : BytesAp (fun k => R k ∨ k = lp) W lv l) (hsm : l.length ≤ 10000000000) :
    Calls Try.prog 68 #[.pointer (some ⟨lp, 0, none⟩), .int .i64 n] W fun e w' => AnsB R lp W (lraw n l) e w' := by
  have c0 := hH.one
  have f0 := hH.free 0
  obtain ⟨a, cap, rfl⟩ := hB.slice
  have hcap : l.length ≤ cap := by obtain ⟨a', c', _, _, he, hc, _⟩ := hB; cases he; exact hc
  unfold lraw
  by_cases hn : l.length < n
  · rw [if_pos hn]
    show Calls _ _ _ _ fun e w' => AnsB R lp W (.error 120) e w'
    have Hf : Hid (AnsB R lp W (.error 120) (.returned (.tuple #[.slice none 0 0, .int .i64 120])) W) := ⟨rfl, Ex.refl _ _⟩
    have i1 : (l.length : Int) < n := by omega
    go_enter Try.func68, Try.ntmps68
    go_wp2_with fail
    go_ret2
    exact Hf.out
  · rw [if_neg hn]
    show Calls _ _ _ _ fun e w' => ∃ v, Found R lp W (l.drop n) v e w' ∧ Own w' v (l.take n) ∧ ∀ k, v.ownBlock = some k → W.heap.size ≤ k
    have i1 : ¬ (l.length : Int) < n := by omega
    have Ht := hB.take n (by omega)
    have Hd := hB.drop n (by omega)
    have h1 := slice_head a l.length cap n (by omega)
    have h2 := slice_left a l.length cap n (by omega)
    generalize (if cap = 0 then a else a.map (·.add (0 * 1))) = ta at *
    generalize n - 0 = tn at *
    generalize cap - 0 = tc at *
    generalize (if cap = n then a else a.map (·.add (n * 1))) = va at *
    generalize l.length - n = vn at *
    generalize cap - n = vc at *
    have Hb : Hid (Bytes W (.slice ta tn tc) (l.take n)) := Ht.bytes
    have Hl : Hid ((l.take n).length ≤ 10000000000) := by show _ ≤ _; simp; omega
    have HD : Hid (BytesAp (fun k => R k ∨ k = lp) W (.slice va vn vc) (l.drop n)) := Hd
    clear Ht Hd hcap hB
    have hlt := hH.lt
    generalize l.take n = d at *
    go_enter Try.func68, Try.ntmps68
    go_wp2_with (refine wpList_append_bytes _ rfl _ _ 27 80 rfl info5 Try.underlying27 Try.underlying80 (.slice none 0 0) _ [] d rfl rfl (Own.nil W) Hb.out (by have := Hl.out; simp; omega) ?_; intro v2 w2 hown2 hgr hloc hnil; clear hnil; have hF2 : Fr (fun _ => False) W w2 := (grown_fr hgr).mono (fun k hk e => by cases e); have hH2 := hH.fr hF2 (fun h => h); have e0 := hH2.one; have e1 := hH2.free 0; obtain ⟨a3, c3, hv2⟩ := hown2.slice; rw [List.nil_append] at hv2 hown2; subst hv2)
    go_ret2
    have hs := hH2.set 0 (.slice va vn vc)
    simp at hs
    have hnew : ∀ k, (Value.slice a3 d.length c3).ownBlock = some k → W.heap.size ≤ k := fun k hk => by
      rcases hloc k hk with h | h
      · cases h
      · exact h
    have hE : Ex lp W (w2.setCell ⟨lp, 0, none⟩ (.slice va vn vc)) := (Fr.of_ex (Ex.set lp w2 0 _) |> fun h => ((hF2.mono (fun _ _ h => h.elim)).trans h).ex)
    refine ⟨_, ⟨rfl, hE, _, hs, ?_⟩, ?_, hnew⟩
    · exact HD.out.fr (Fr.of_ex hE) (fun i _ e => .inr e)
    · exact hown2.fr (Fr.of_ex (Ex.set lp w2 0 _)) (fun i hi e => by have := hnew i hi; omega)
theorem AnsB.failed {R : Nat → Prop} {lp ec : Nat} {W w' : World} {e : Ending} (h : AnsB R lp W (.error ec) e w') : Failed lp W ec e w' := ⟨⟨_, h.1⟩, h.2⟩
theorem Failed.after {lp ec : Nat} {W w1 w2 : World} {e : Ending} (h : Failed lp w1 ec e w2) (k : Ex lp W w1) : Failed lp W ec e w2 := ⟨h.1, k.trans h.2⟩
theorem Found.after {R : Nat → Prop} {lp : Nat} {W w1 w2 : World} {rest : List UInt8} {v : Value} {e : Ending} (h : Found R lp w1 rest v e w2) (k : Ex lp W w1) : Found R lp W rest v e w2 := ⟨h.1, k.trans h.2.1, h.2.2⟩
theorem lnum_le {most : Int} {l rest : List UInt8} {n : Nat} (h : lnum most l = .ok (n, rest)) : rest.length ≤ l.length := by
  unfold lnum at h
  split at h
  · cases h
  · split at h
    · cases h
    · cases h; simp
theorem lnum_ne {most : Int} {l : List UInt8} {ec : Nat} (h : lnum most l = .error ec) : ec ≠ 0 := by
  unfold lnum at h
  split at h
  · rename_i h'
    cases h
    have := scan_err l 0 0 _ h'; omega
  · split at h
    · cases h; omega
    · cases h
theorem lraw_ne {n : Nat} {l : List UInt8} {ec : Nat} (h : lraw n l = .error ec) : ec ≠ 0 := by
  unfold lraw at h
  split at h
  · cases h; omega
  · cases h
theorem lbyt_ne {most : Int} {l : List UInt8} {ec : Nat} (h : lbyt most l = .error ec) : ec ≠ 0 := by
  unfold lbyt at h
  split at h
  · rename_i h'; cases h; exact lnum_ne h'
  · exact lraw_ne h
set_option maxHeartbeats 1000000 in
theorem lbytes_any (R : Nat → Prop) (lp : Nat) (lv : Value) (l : List UInt8) (most : Int) (W : World) (hH : Has W lp #[lv] 80) (hB : BytesAp (fun k => R k ∨ k = lp) W lv l) (hsm : l.length ≤ 10000000000) :
    Calls Try.prog 52 #[.pointer (some ⟨lp, 0, none⟩), .int .i64 most] W fun e w' => AnsB R lp W (lbyt most l) e w' := by
  have hw := lnumber_any R lp lv l most W hH hB hsm
  unfold lbyt
  cases hs : lnum most l with
  | error ec =>
    rw [hs] at hw
    have he' : ¬ (ec : Int) = 0 := by have := lnum_ne hs; omega
    show Calls _ _ _ _ fun e w' => AnsB R lp W (.error ec) e w'
    clear hs
    go_enter Try.func52, Try.ntmps52
    go_wp2_with fail
    refine hw.mono ?_
    rintro e w' ⟨⟨val, rfl⟩, hE⟩
    have Hf : Hid (AnsB R lp W (.error ec) (.returned (.tuple #[.slice none 0 0, .int .i64 ec])) w') := ⟨rfl, hE⟩
    go_wp2_with fail
    go_ret2
    exact Hf.out
  | ok p =>
    obtain ⟨n, rest⟩ := p
    rw [hs] at hw
    have hl := lnum_le hs
    show Calls _ _ _ _ fun e w' => AnsB R lp W (lraw n rest) e w'
    have hlr : ∀ lv' w1, Has w1 lp #[lv'] 80 → BytesAp (fun k => R k ∨ k = lp) w1 lv' rest → Calls Try.prog 68 #[.pointer (some ⟨lp, 0, none⟩), .int .i64 n] w1 fun e w' => AnsB R lp w1 (lraw n rest) e w' := fun lv' w1 h1 h2 => lraw_any R lp lv' rest n w1 h1 h2 (by omega)
    clear hs
    generalize lraw n rest = x at *
    cases x with
    | error ec =>
      go_enter Try.func52, Try.ntmps52
      go_wp2_with fail
      refine hw.mono ?_
      rintro e w1 ⟨rfl, hE, lv', hH', hB'⟩
      have hlr' := hlr lv' w1 hH' hB'
      clear hlr
      go_wp2_with fail
      refine hlr'.mono ?_
      rintro e w2 ⟨rfl, hE2⟩
      have Hf : Hid (AnsB R lp W (.error ec) (.returned (.tuple #[.slice none 0 0, .int .i64 ec])) w2) := ⟨rfl, hE.trans hE2⟩
      go_wp2_with fail
      go_ret2
      exact Hf.out
    | ok p =>
      obtain ⟨d, rest2⟩ := p
      go_enter Try.func52, Try.ntmps52
      go_wp2_with fail
      refine hw.mono ?_
      rintro e w1 ⟨rfl, hE, lv', hH', hB'⟩
      have hlr' := hlr lv' w1 hH' hB'
      clear hlr
      go_wp2_with fail
      refine hlr'.mono ?_
      rintro e w2 ⟨v, ⟨rfl, hE2, hr2⟩, hown, hnew⟩
      obtain ⟨va, vc, rfl⟩ := hown.slice
      have Hf : Hid (AnsB R lp W (.ok (d, rest2)) (.returned (.tuple #[.slice va d.length vc, .int .i64 0])) w2) := ⟨_, ⟨rfl, hE.trans hE2, hr2⟩, hown, fun k hk => Nat.le_trans hE.size (hnew k hk)⟩
      clear hown hr2
      go_wp2_with fail
      go_ret2
      exact Hf.out
set_option maxHeartbeats 1000000 in
theorem ltext_any (R : Nat → Prop) (lp : Nat) (lv : Value) (l : List UInt8) (most : Int) (W : World) (hH : Has W lp #[lv] 80) (hB : BytesAp (fun k => R k ∨ k = lp) W lv l) (hsm : l.length ≤ 10000000000) :
    Calls Try.prog 55 #[.pointer (some ⟨lp, 0, none⟩), .int .i64 most] W fun e w' => Ans R lp W (vS (lbyt most l)) e w' := by
  have hw := lbytes_any R lp lv l most W hH hB hsm
  have hlt := hH.lt
  generalize lbyt most l = x at *
  cases x with
  | error ec =>
    show Calls _ _ _ _ fun e w' => Failed lp W ec e w'
    go_enter Try.func55, Try.ntmps55
    go_wp2_with fail
    refine hw.mono ?_
    rintro e w1 ⟨rfl, hE⟩
    have hcv := bytes_string Try.underlying27 Try.underlying5 Try.underlying9 w1 _ [] (bytes_nil w1 (by have := hE.size; omega))
    have Hf : Hid (Failed lp W ec (.returned (.tuple #[.string ⟨#[]⟩, .int .i64 ec])) w1) := ⟨⟨_, rfl⟩, hE⟩
    go_wp2_with (refine wpList_convert_run rfl 27 9 _ rfl (.slice none 0 0) (.string ⟨#[]⟩) rfl hcv ?_)
    go_ret2
    exact Hf.out
  | ok p =>
    obtain ⟨d, rest⟩ := p
    show Calls _ _ _ _ fun e w' => Found R lp W rest (.string ⟨d.toArray⟩) e w'
    generalize hs : (⟨d.toArray⟩ : ByteArray) = s
    go_enter Try.func55, Try.ntmps55
    go_wp2_with fail
    refine hw.mono ?_
    rintro e w1 ⟨v, ⟨rfl, hE, hr1⟩, hown, hnew⟩
    have hcv := bytes_string Try.underlying27 Try.underlying5 Try.underlying9 w1 v d (hown.bytes (by have := hE.size; omega))
    rw [hs] at hcv
    obtain ⟨va, vc, rfl⟩ := hown.slice
    have Hf : Hid (Found R lp W rest (.string s) (.returned (.tuple #[.string s, .int .i64 0])) w1) := ⟨rfl, hE, hr1⟩
    clear hown hr1
    go_wp2_with (refine wpList_convert_run rfl 27 9 _ rfl (.slice va d.length vc) (.string s) rfl hcv ?_)
    go_ret2
    exact Hf.out
set_option maxHeartbeats 1000000 in
theorem ltruth_any (R : Nat → Prop) (lp : Nat) (lv : Value) (l : List UInt8) (W : World) (hH : Has W lp #[lv] 80) (hB : BytesAp (fun k => R k ∨ k = lp) W lv l) (hsm : l.length ≤ 10000000000) :
    Calls Try.prog 62 #[.pointer (some ⟨lp, 0, none⟩)] W fun e w' => Ans R lp W (vT (ltru l)) e w' := by
  have hw := lraw_any R lp lv l 1 W hH hB hsm
  cases l with
  | nil =>
    show Calls _ _ _ _ fun e w' => Failed lp W 120 e w'
    go_enter Try.func62, Try.ntmps62
    go_wp2_with fail
    refine hw.mono ?_
    rintro e w1 ⟨rfl, hE⟩
    have Hf : Hid (Failed lp W 120 (.returned (.tuple #[.bool false, .int .i64 120])) w1) := ⟨⟨_, rfl⟩, hE⟩
    go_wp2_with fail
    go_ret2
    exact Hf.out
  | cons b l =>
    have e1 : lraw 1 (b :: l) = .ok ([b], l) := by unfold lraw; rw [if_neg (by simp)]; rfl
    rw [e1] at hw
    have e2 : ltru (b :: l) = if 1 < b.toNat then .error 121 else .ok (b.toNat == 1, l) := rfl
    rw [e2]
    have hbv : Hid (bv b = (b.toNat : Int)) := rfl
    by_cases h1 : 1 < b.toNat
    · rw [if_pos h1]
      show Calls _ _ _ _ fun e w' => Failed lp W 121 e w'
      go_enter Try.func62, Try.ntmps62
      go_wp2_with fail
      refine hw.mono ?_
      rintro e w1 ⟨v, ⟨rfl, hE, hr1⟩, hown, hnew⟩
      have Hf : Hid (Failed lp W 121 (.returned (.tuple #[.bool false, .int .i64 121])) w1) := ⟨⟨_, rfl⟩, hE⟩
      obtain ⟨a, cap, db, o, rfl, _, ha, hin, _⟩ := hown.bytes (by have := hE.size; have := hH.lt; omega)
      obtain rfl := ha (by simp)
      have hc := hin 0 (by simp)
      simp only [List.getElem?_cons_zero, Option.getD_some, bc, Nat.add_zero] at hc
      have i1 : (1 : Int) < bv b := by have := hbv.out; omega
      clear hown hr1 hin
      go_wp2_with fail
      go_ret2
      exact Hf.out
    · rw [if_neg h1]
      show Calls _ _ _ _ fun e w' => Found R lp W l (.bool (b.toNat == 1)) e w'
      go_enter Try.func62, Try.ntmps62
      go_wp2_with fail
      refine hw.mono ?_
      rintro e w1 ⟨v, ⟨rfl, hE, hr1⟩, hown, hnew⟩
      have i2 : (bv b == 1) = (b.toNat == 1) := by rw [Bool.eq_iff_iff, beq_iff_eq, beq_iff_eq]; have := hbv.out; omega
      have Hf : Hid (Found R lp W l (.bool (bv b == 1)) (.returned (.tuple #[.bool (bv b == 1), .int .i64 0])) w1) := ⟨rfl, hE, hr1⟩
      obtain ⟨a, cap, db, o, rfl, _, ha, hin, _⟩ := hown.bytes (by have := hE.size; have := hH.lt; omega)
      obtain rfl := ha (by simp)
      have hc := hin 0 (by simp)
      simp only [List.getElem?_cons_zero, Option.getD_some, bc, Nat.add_zero] at hc
      have i1 : ¬ (1 : Int) < bv b := by have := hbv.out; omega
      have I2 : Hid ((bv b == 1) = (b.toNat == 1)) := i2
      clear hown hr1 hin i2
      go_wp2_with fail
      go_ret2
      rw [← I2.out]
      exact Hf.out
end Go.Proofs.Ytgoflpfafkmmgaa
/- A reader's take, by another kind of call. -/
namespace Go.Proofs.Ytgoflpfafkmmgaa
open Go.RowKit

set_option maxRecDepth 10000 in
set_option maxHeartbeats 1000000 in
theorem take44_49_ok (R : Nat → Prop) (r : Nat) (hRr : R r) (lv : Value) (rest rest' : List UInt8) (at_ : Nat) (w : World) (hR : Rd w r lv rest at_ 0) (n : Int) (hlen : rest'.length ≤ rest.length) (hat : at_ + rest.length ≤ 10000000000)
    (hF : ∀ W, Has W w.heap.size #[lv] 80 → Below w.heap.size w W → Calls Try.prog 49 #[.pointer (some ⟨w.heap.size, 0, none⟩)] W fun e w' => Found R w.heap.size W rest' (.int .i64 n) e w') : 
    Calls Try.prog 44 #[.pointer (some ⟨r, 0, none⟩), .func (Fn.func 49) #[] #[]] w fun e w' => e = .returned (.tuple #[.int .i64 n, .int .i64 0]) ∧ TookR R w w' r rest' (at_ + (rest.length - rest'.length)) := by
  have c0 := hR.has.cell 0
  have c1 := hR.has.cell 1
  have c2 := hR.has.cell 2
  have c3 := hR.has.cell 3
  have hrl := hR.lt
  obtain ⟨la, lc, lb, lo, rfl, _⟩ := id hR.by_
  simp at c0 c1 c2 c3
  go_enter Try.func44, Try.ntmps44
  go_wp2_with (first | (go_at_call 56; refine (rnone_any _ _ c3).mono ?_; rintro e w' ⟨rfl, hw⟩; obtain rfl := hw.symm) | fail)
  refine named (p := fun X => Calls _ _ _ X _) ?_
  intro W1 hW1
  have hB1 : Below w.heap.size w W1 := by rw [hW1]; exact (Below.refl _ _).alloc (Nat.le_refl _) _
  have hH1 : Has W1 w.heap.size #[.slice la rest.length lc] 80 := by rw [hW1]; exact has_new _ _ _ _ rfl
  clear hW1
  refine (hF W1 hH1 hB1).mono ?_
  rintro e W2 ⟨rfl, hE2, lv', hH2, hby2⟩
  have hE : Ex w.heap.size w W2 := (Ex.below hB1).trans ⟨hE2.os, hE2.tape, hE2.output, hE2.size, fun k hk hn => hE2.block k hk hn⟩
  have hR2 : Has W2 r #[.slice la rest.length lc, .int .i64 at_, .int .i64 0, .bool true] 82 := hR.has.ex hE (by omega)
  have d0 := hR2.cell 0
  have d1 := hR2.cell 1
  have d3 := hR2.free 1
  have d4 := hR2.free 0
  have f0 := hH2.cell 0
  obtain ⟨la', lc', lb', lo', rfl, hcap', ha', hin', hlt', hap'⟩ := hby2
  have HB : Hid (rest'.length ≤ lc' ∧ (rest' ≠ [] → la' = some ⟨lb', lo', none⟩) ∧ BytesIn W2 lb' lo' rest' ∧ lb' < W2.heap.size ∧ ¬ (R lb' ∨ lb' = w.heap.size)) := ⟨hcap', ha', hin', hlt', hap'⟩
  clear hcap' ha' hin' hlt' hap' c0 c1 c2 c3 hF
  simp at d0 d1 f0
  have hne : ¬ w.heap.size = r := by omega
  have hne' : ¬ r = w.heap.size := by omega
  have Hn : Hid (at_ + (rest.length - rest'.length) ≤ 10000000000) := by show _ ≤ _; omega
  have z1 : (rest.length : Int) - rest'.length = ((rest.length - rest'.length : Nat) : Int) := by omega
  have z2 : (at_ : Int) + ((rest.length : Int) - rest'.length) = ((at_ + (rest.length - rest'.length) : Nat) : Int) := by omega
  go_wp2_with fail
  go_region
  go_wp2_with fail
  go_ret2
  have hs1 := hR2.set 1 (.int .i64 ((at_ : Int) + ((rest.length - rest'.length : Nat) : Int)))
  have hs2 := hs1.set 0 (.slice la' rest'.length lc')
  simp at hs2
  have hne2 : ¬ lb' = r := fun e => HB.out.2.2.2.2 (.inl (by rw [e]; exact hRr))
  have hbR : BytesAp R ((W2.setCell ⟨r, 1, none⟩ (.int .i64 ((at_ : Int) + ((rest.length - rest'.length : Nat) : Int)))).setCell ⟨r, 0, none⟩ (.slice la' rest'.length lc')).drew (.slice la' rest'.length lc') rest' := by
    obtain ⟨h1, h2, h3, h4, h5⟩ := HB.out
    exact ⟨la', lc', lb', lo', rfl, h1, h2, fun j hj => cell_set_blk hne2 (cell_set_blk hne2 (h3 j hj)), by simpa using h4, fun e => h5 (.inl e)⟩
  refine ⟨rfl, .slice la' rest'.length lc', ⟨⟨?_, ?_⟩, hbR⟩, ?_⟩
  · exact hs2
  · obtain ⟨h1, h2, h3, h4, h5⟩ := HB.out
    refine ⟨la', lc', lb', lo', rfl, h1, h2, fun j hj => ?_, by simpa using h4, hne2⟩
    exact cell_set_blk hne2 (cell_set_blk hne2 (h3 j hj))
  · have hEr : Ex r w W2 := ⟨hE.os, hE.tape, hE.output, hE.size, fun k hk hn => hE.block k hk (by omega)⟩
    exact ((hEr.trans (Ex.set _ _ _ _)).trans (Ex.set _ _ _ _)).trans (Ex.drew _ _)
set_option maxRecDepth 10000 in
set_option maxHeartbeats 1000000 in
theorem take44_49_err (r : Nat) (lv : Value) (rest : List UInt8) (at_ ec : Nat) (w : World) (hR : Rd w r lv rest at_ 0) (hec : ec ≠ 0)
    (hF : ∀ W, Has W w.heap.size #[lv] 80 → Below w.heap.size w W → Calls Try.prog 49 #[.pointer (some ⟨w.heap.size, 0, none⟩)] W fun e w' => Failed w.heap.size W ec e w') : 
    Calls Try.prog 44 #[.pointer (some ⟨r, 0, none⟩), .func (Fn.func 49) #[] #[]] w fun e w' => e = .returned (.tuple #[.int .i64 0, .int .i64 ec]) ∧ Flaws w w' r lv rest at_ ec := by
  have c0 := hR.has.cell 0
  have c1 := hR.has.cell 1
  have c2 := hR.has.cell 2
  have c3 := hR.has.cell 3
  have hrl := hR.lt
  obtain ⟨la, lc, lb, lo, rfl, hBy⟩ := id hR.by_
  have HB : Hid (rest.length ≤ lc ∧ (rest ≠ [] → la = some ⟨lb, lo, none⟩) ∧ BytesIn w lb lo rest ∧ lb < w.heap.size ∧ ¬ lb = r) := hBy
  clear hBy
  simp at c0 c1 c2 c3
  have hec' : (ec : Int) ≠ 0 := by omega
  go_enter Try.func44, Try.ntmps44
  go_wp2_with (first | (go_at_call 56; refine (rnone_any _ _ c3).mono ?_; rintro e w' ⟨rfl, hw⟩; obtain rfl := hw.symm) | fail)
  refine named (p := fun X => Calls _ _ _ X _) ?_
  intro W1 hW1
  have hB1 : Below w.heap.size w W1 := by rw [hW1]; exact (Below.refl _ _).alloc (Nat.le_refl _) _
  have hH1 : Has W1 w.heap.size #[.slice la rest.length lc] 80 := by rw [hW1]; exact has_new _ _ _ _ rfl
  clear hW1
  refine (hF W1 hH1 hB1).mono ?_
  rintro e W2 ⟨⟨val, rfl⟩, hE2⟩
  have hE : Ex w.heap.size w W2 := (Ex.below hB1).trans ⟨hE2.os, hE2.tape, hE2.output, hE2.size, fun k hk hn => hE2.block k hk hn⟩
  have hR2 : Has W2 r #[.slice la rest.length lc, .int .i64 at_, .int .i64 0, .bool true] 82 := hR.has.ex hE (by omega)
  have d2 := hR2.cell 2
  have d3 := hR2.free 2
  clear c0 c1 c2 c3 hF
  simp at d2
  go_wp2_with fail
  go_ret2
  have hs1 := hR2.set 2 (.int .i64 ec)
  simp at hs1
  refine ⟨rfl, ⟨?_, ?_⟩, ?_⟩
  · exact hs1
  · obtain ⟨h1, h2, h3, h4, h5⟩ := HB.out
    refine ⟨la, lc, lb, lo, rfl, h1, h2, fun j hj => ?_, by have := hE.size; simp; omega, h5⟩
    exact cell_set_blk h5 ((World.cell?_of_block (w := w) (hE.block lb h4 (by omega))).trans (h3 j hj))
  · have hEr : Ex r w W2 := ⟨hE.os, hE.tape, hE.output, hE.size, fun k hk hn => hE.block k hk (by omega)⟩
    exact hEr.trans (Ex.set _ _ _ _)
set_option maxRecDepth 10000 in
set_option maxHeartbeats 1000000 in
theorem take44_49_flaw (r : Nat) (lv : Value) (rest : List UInt8) (at_ ec : Nat) (w : World) (hR : Rd w r lv rest at_ ec) (hec : ec ≠ 0) :
    Calls Try.prog 44 #[.pointer (some ⟨r, 0, none⟩), .func (Fn.func 49) #[] #[]] w fun e w' => e = .returned (.tuple #[.int .i64 0, .int .i64 ec]) ∧ ∃ k, w' = w.drewN k := by
  have c2 := hR.has.cell 2
  have c3 := hR.has.cell 3
  simp at c2 c3
  have hec' : (ec : Int) ≠ 0 := by omega
  go_enter Try.func44, Try.ntmps44
  go_wp2_with (first | (go_at_call 56; refine (rnone_any _ _ c3).mono ?_; rintro e w' ⟨rfl, hw⟩; obtain rfl := hw.symm) | fail)
  go_quiet (fail)
  go_wp2_with fail
  go_ret2
  exact ⟨rfl, _, rfl⟩
set_option maxHeartbeats 400000 in
theorem take44_49_nil (w : World) :
    Calls Try.prog 44 #[.pointer none, .func (Fn.func 49) #[] #[]] w fun e w' => e = .returned (.tuple #[.int .i64 0, .int .i64 1]) ∧ w' = w := by
  go_enter Try.func44, Try.ntmps44
  go_wp2_with (first | (go_at_call 56; refine (rnone_nil _).mono ?_; rintro e w' ⟨rfl, hw⟩; obtain rfl := hw.symm) | fail)
  go_ret2
  exact ⟨rfl, rfl⟩
set_option maxRecDepth 10000 in
set_option maxHeartbeats 1000000 in
theorem take61_62_ok (R : Nat → Prop) (r : Nat) (hRr : R r) (lv : Value) (rest rest' : List UInt8) (at_ : Nat) (w : World) (hR : Rd w r lv rest at_ 0) (n : Bool) (hlen : rest'.length ≤ rest.length) (hat : at_ + rest.length ≤ 10000000000)
    (hF : ∀ W, Has W w.heap.size #[lv] 80 → Below w.heap.size w W → Calls Try.prog 62 #[.pointer (some ⟨w.heap.size, 0, none⟩)] W fun e w' => Found R w.heap.size W rest' (.bool n) e w') : 
    Calls Try.prog 61 #[.pointer (some ⟨r, 0, none⟩), .func (Fn.func 62) #[] #[]] w fun e w' => e = .returned (.tuple #[.bool n, .int .i64 0]) ∧ TookR R w w' r rest' (at_ + (rest.length - rest'.length)) := by
  have c0 := hR.has.cell 0
  have c1 := hR.has.cell 1
  have c2 := hR.has.cell 2
  have c3 := hR.has.cell 3
  have hrl := hR.lt
  obtain ⟨la, lc, lb, lo, rfl, _⟩ := id hR.by_
  simp at c0 c1 c2 c3
  go_enter Try.func61, Try.ntmps61
  go_wp2_with (first | (go_at_call 56; refine (rnone_any _ _ c3).mono ?_; rintro e w' ⟨rfl, hw⟩; obtain rfl := hw.symm) | fail)
  refine named (p := fun X => Calls _ _ _ X _) ?_
  intro W1 hW1
  have hB1 : Below w.heap.size w W1 := by rw [hW1]; exact (Below.refl _ _).alloc (Nat.le_refl _) _
  have hH1 : Has W1 w.heap.size #[.slice la rest.length lc] 80 := by rw [hW1]; exact has_new _ _ _ _ rfl
  clear hW1
  refine (hF W1 hH1 hB1).mono ?_
  rintro e W2 ⟨rfl, hE2, lv', hH2, hby2⟩
  have hE : Ex w.heap.size w W2 := (Ex.below hB1).trans ⟨hE2.os, hE2.tape, hE2.output, hE2.size, fun k hk hn => hE2.block k hk hn⟩
  have hR2 : Has W2 r #[.slice la rest.length lc, .int .i64 at_, .int .i64 0, .bool true] 82 := hR.has.ex hE (by omega)
  have d0 := hR2.cell 0
  have d1 := hR2.cell 1
  have d3 := hR2.free 1
  have d4 := hR2.free 0
  have f0 := hH2.cell 0
  obtain ⟨la', lc', lb', lo', rfl, hcap', ha', hin', hlt', hap'⟩ := hby2
  have HB : Hid (rest'.length ≤ lc' ∧ (rest' ≠ [] → la' = some ⟨lb', lo', none⟩) ∧ BytesIn W2 lb' lo' rest' ∧ lb' < W2.heap.size ∧ ¬ (R lb' ∨ lb' = w.heap.size)) := ⟨hcap', ha', hin', hlt', hap'⟩
  clear hcap' ha' hin' hlt' hap' c0 c1 c2 c3 hF
  simp at d0 d1 f0
  have hne : ¬ w.heap.size = r := by omega
  have hne' : ¬ r = w.heap.size := by omega
  have Hn : Hid (at_ + (rest.length - rest'.length) ≤ 10000000000) := by show _ ≤ _; omega
  have z1 : (rest.length : Int) - rest'.length = ((rest.length - rest'.length : Nat) : Int) := by omega
  have z2 : (at_ : Int) + ((rest.length : Int) - rest'.length) = ((at_ + (rest.length - rest'.length) : Nat) : Int) := by omega
  go_wp2_with fail
  go_region
  go_wp2_with fail
  go_ret2
  have hs1 := hR2.set 1 (.int .i64 ((at_ : Int) + ((rest.length - rest'.length : Nat) : Int)))
  have hs2 := hs1.set 0 (.slice la' rest'.length lc')
  simp at hs2
  have hne2 : ¬ lb' = r := fun e => HB.out.2.2.2.2 (.inl (by rw [e]; exact hRr))
  have hbR : BytesAp R ((W2.setCell ⟨r, 1, none⟩ (.int .i64 ((at_ : Int) + ((rest.length - rest'.length : Nat) : Int)))).setCell ⟨r, 0, none⟩ (.slice la' rest'.length lc')).drew (.slice la' rest'.length lc') rest' := by
    obtain ⟨h1, h2, h3, h4, h5⟩ := HB.out
    exact ⟨la', lc', lb', lo', rfl, h1, h2, fun j hj => cell_set_blk hne2 (cell_set_blk hne2 (h3 j hj)), by simpa using h4, fun e => h5 (.inl e)⟩
  refine ⟨rfl, .slice la' rest'.length lc', ⟨⟨?_, ?_⟩, hbR⟩, ?_⟩
  · exact hs2
  · obtain ⟨h1, h2, h3, h4, h5⟩ := HB.out
    refine ⟨la', lc', lb', lo', rfl, h1, h2, fun j hj => ?_, by simpa using h4, hne2⟩
    exact cell_set_blk hne2 (cell_set_blk hne2 (h3 j hj))
  · have hEr : Ex r w W2 := ⟨hE.os, hE.tape, hE.output, hE.size, fun k hk hn => hE.block k hk (by omega)⟩
    exact ((hEr.trans (Ex.set _ _ _ _)).trans (Ex.set _ _ _ _)).trans (Ex.drew _ _)
set_option maxRecDepth 10000 in
set_option maxHeartbeats 1000000 in
theorem take61_62_err (r : Nat) (lv : Value) (rest : List UInt8) (at_ ec : Nat) (w : World) (hR : Rd w r lv rest at_ 0) (hec : ec ≠ 0)
    (hF : ∀ W, Has W w.heap.size #[lv] 80 → Below w.heap.size w W → Calls Try.prog 62 #[.pointer (some ⟨w.heap.size, 0, none⟩)] W fun e w' => Failed w.heap.size W ec e w') : 
    Calls Try.prog 61 #[.pointer (some ⟨r, 0, none⟩), .func (Fn.func 62) #[] #[]] w fun e w' => e = .returned (.tuple #[.bool false, .int .i64 ec]) ∧ Flaws w w' r lv rest at_ ec := by
  have c0 := hR.has.cell 0
  have c1 := hR.has.cell 1
  have c2 := hR.has.cell 2
  have c3 := hR.has.cell 3
  have hrl := hR.lt
  obtain ⟨la, lc, lb, lo, rfl, hBy⟩ := id hR.by_
  have HB : Hid (rest.length ≤ lc ∧ (rest ≠ [] → la = some ⟨lb, lo, none⟩) ∧ BytesIn w lb lo rest ∧ lb < w.heap.size ∧ ¬ lb = r) := hBy
  clear hBy
  simp at c0 c1 c2 c3
  have hec' : (ec : Int) ≠ 0 := by omega
  go_enter Try.func61, Try.ntmps61
  go_wp2_with (first | (go_at_call 56; refine (rnone_any _ _ c3).mono ?_; rintro e w' ⟨rfl, hw⟩; obtain rfl := hw.symm) | fail)
  refine named (p := fun X => Calls _ _ _ X _) ?_
  intro W1 hW1
  have hB1 : Below w.heap.size w W1 := by rw [hW1]; exact (Below.refl _ _).alloc (Nat.le_refl _) _
  have hH1 : Has W1 w.heap.size #[.slice la rest.length lc] 80 := by rw [hW1]; exact has_new _ _ _ _ rfl
  clear hW1
  refine (hF W1 hH1 hB1).mono ?_
  rintro e W2 ⟨⟨val, rfl⟩, hE2⟩
  have hE : Ex w.heap.size w W2 := (Ex.below hB1).trans ⟨hE2.os, hE2.tape, hE2.output, hE2.size, fun k hk hn => hE2.block k hk hn⟩
  have hR2 : Has W2 r #[.slice la rest.length lc, .int .i64 at_, .int .i64 0, .bool true] 82 := hR.has.ex hE (by omega)
  have d2 := hR2.cell 2
  have d3 := hR2.free 2
  clear c0 c1 c2 c3 hF
  simp at d2
  go_wp2_with fail
  go_ret2
  have hs1 := hR2.set 2 (.int .i64 ec)
  simp at hs1
  refine ⟨rfl, ⟨?_, ?_⟩, ?_⟩
  · exact hs1
  · obtain ⟨h1, h2, h3, h4, h5⟩ := HB.out
    refine ⟨la, lc, lb, lo, rfl, h1, h2, fun j hj => ?_, by have := hE.size; simp; omega, h5⟩
    exact cell_set_blk h5 ((World.cell?_of_block (w := w) (hE.block lb h4 (by omega))).trans (h3 j hj))
  · have hEr : Ex r w W2 := ⟨hE.os, hE.tape, hE.output, hE.size, fun k hk hn => hE.block k hk (by omega)⟩
    exact hEr.trans (Ex.set _ _ _ _)
set_option maxRecDepth 10000 in
set_option maxHeartbeats 1000000 in
theorem take61_62_flaw (r : Nat) (lv : Value) (rest : List UInt8) (at_ ec : Nat) (w : World) (hR : Rd w r lv rest at_ ec) (hec : ec ≠ 0) :
    Calls Try.prog 61 #[.pointer (some ⟨r, 0, none⟩), .func (Fn.func 62) #[] #[]] w fun e w' => e = .returned (.tuple #[.bool false, .int .i64 ec]) ∧ ∃ k, w' = w.drewN k := by
  have c2 := hR.has.cell 2
  have c3 := hR.has.cell 3
  simp at c2 c3
  have hec' : (ec : Int) ≠ 0 := by omega
  go_enter Try.func61, Try.ntmps61
  go_wp2_with (first | (go_at_call 56; refine (rnone_any _ _ c3).mono ?_; rintro e w' ⟨rfl, hw⟩; obtain rfl := hw.symm) | fail)
  go_quiet (fail)
  go_wp2_with fail
  go_ret2
  exact ⟨rfl, _, rfl⟩
set_option maxHeartbeats 400000 in
theorem take61_62_nil (w : World) :
    Calls Try.prog 61 #[.pointer none, .func (Fn.func 62) #[] #[]] w fun e w' => e = .returned (.tuple #[.bool false, .int .i64 1]) ∧ w' = w := by
  go_enter Try.func61, Try.ntmps61
  go_wp2_with (first | (go_at_call 56; refine (rnone_nil _).mono ?_; rintro e w' ⟨rfl, hw⟩; obtain rfl := hw.symm) | fail)
  go_ret2
  exact ⟨rfl, rfl⟩
end Go.Proofs.Ytgoflpfafkmmgaa
/- A reader's take, by another kind of call. -/
namespace Go.Proofs.Ytgoflpfafkmmgaa
open Go.RowKit

set_option maxRecDepth 10000 in
set_option maxHeartbeats 1000000 in
theorem take50_67_ok (R : Nat → Prop) (r : Nat) (hRr : R r) (lv : Value) (rest rest' : List UInt8) (at_ : Nat) (w : World) (hR : Rd w r lv rest at_ 0) (b k : Value) (d : List UInt8)  (hlen : rest'.length ≤ rest.length) (hat : at_ + rest.length ≤ 10000000000)
    (hF : ∀ W, Has W w.heap.size #[lv] 80 → Below w.heap.size w W → Calls Try.prog 67 #[.pointer (some ⟨w.heap.size, 0, none⟩), b, k] W fun e w' => ∃ val, Found R w.heap.size W rest' val e w' ∧ Own w' val d ∧ ∀ k, val.ownBlock = some k → w.heap.size < k) : 
    Calls Try.prog 50 #[.pointer (some ⟨r, 0, none⟩), .func (Fn.func 67) #[] #[b, k]] w fun e w' => ∃ val, e = .returned (.tuple #[val, .int .i64 0]) ∧ TookR R w w' r rest' (at_ + (rest.length - rest'.length)) ∧ Own w' val d ∧ ∀ k, val.ownBlock = some k → w.heap.size ≤ k := by
  have c0 := hR.has.cell 0
  have c1 := hR.has.cell 1
  have c2 := hR.has.cell 2
  have c3 := hR.has.cell 3
  have hrl := hR.lt
  obtain ⟨la, lc, lb, lo, rfl, _⟩ := id hR.by_
  simp at c0 c1 c2 c3
  go_enter Try.func50, Try.ntmps50
  go_wp2_with (first | (go_at_call 56; refine (rnone_any _ _ c3).mono ?_; rintro e w' ⟨rfl, hw⟩; obtain rfl := hw.symm) | fail)
  refine named (p := fun X => Calls _ _ _ X _) ?_
  intro W1 hW1
  have hB1 : Below w.heap.size w W1 := by rw [hW1]; exact (Below.refl _ _).alloc (Nat.le_refl _) _
  have hH1 : Has W1 w.heap.size #[.slice la rest.length lc] 80 := by rw [hW1]; exact has_new _ _ _ _ rfl
  clear hW1
  refine (hF W1 hH1 hB1).mono ?_
  rintro e W2 ⟨val, ⟨rfl, hE2, lv', hH2, hby2⟩, hown, hnew⟩
  obtain ⟨va, vc, rfl⟩ := hown.slice
  have HO : Hid (Own W2 (.slice va d.length vc) d ∧ ∀ k, (Value.slice va d.length vc).ownBlock = some k → w.heap.size < k) := ⟨hown, hnew⟩
  clear hown hnew
  have hE : Ex w.heap.size w W2 := (Ex.below hB1).trans ⟨hE2.os, hE2.tape, hE2.output, hE2.size, fun k hk hn => hE2.block k hk hn⟩
  have hR2 : Has W2 r #[.slice la rest.length lc, .int .i64 at_, .int .i64 0, .bool true] 82 := hR.has.ex hE (by omega)
  have d0 := hR2.cell 0
  have d1 := hR2.cell 1
  have d3 := hR2.free 1
  have d4 := hR2.free 0
  have f0 := hH2.cell 0
  obtain ⟨la', lc', lb', lo', rfl, hcap', ha', hin', hlt', hap'⟩ := hby2
  have HB : Hid (rest'.length ≤ lc' ∧ (rest' ≠ [] → la' = some ⟨lb', lo', none⟩) ∧ BytesIn W2 lb' lo' rest' ∧ lb' < W2.heap.size ∧ ¬ (R lb' ∨ lb' = w.heap.size)) := ⟨hcap', ha', hin', hlt', hap'⟩
  clear hcap' ha' hin' hlt' hap' c0 c1 c2 c3 hF
  simp at d0 d1 f0
  have hne : ¬ w.heap.size = r := by omega
  have hne' : ¬ r = w.heap.size := by omega
  have Hn : Hid (at_ + (rest.length - rest'.length) ≤ 10000000000) := by show _ ≤ _; omega
  have z1 : (rest.length : Int) - rest'.length = ((rest.length - rest'.length : Nat) : Int) := by omega
  have z2 : (at_ : Int) + ((rest.length : Int) - rest'.length) = ((at_ + (rest.length - rest'.length) : Nat) : Int) := by omega
  go_wp2_with fail
  go_region
  go_wp2_with fail
  go_ret2
  have hs1 := hR2.set 1 (.int .i64 ((at_ : Int) + ((rest.length - rest'.length : Nat) : Int)))
  have hs2 := hs1.set 0 (.slice la' rest'.length lc')
  simp at hs2
  have hne2 : ¬ lb' = r := fun e => HB.out.2.2.2.2 (.inl (by rw [e]; exact hRr))
  have hbR : BytesAp R ((W2.setCell ⟨r, 1, none⟩ (.int .i64 ((at_ : Int) + ((rest.length - rest'.length : Nat) : Int)))).setCell ⟨r, 0, none⟩ (.slice la' rest'.length lc')).drew (.slice la' rest'.length lc') rest' := by
    obtain ⟨h1, h2, h3, h4, h5⟩ := HB.out
    exact ⟨la', lc', lb', lo', rfl, h1, h2, fun j hj => cell_set_blk hne2 (cell_set_blk hne2 (h3 j hj)), by simpa using h4, fun e => h5 (.inl e)⟩
  refine ⟨_, rfl, ⟨.slice la' rest'.length lc', ⟨⟨?_, ?_⟩, hbR⟩, ?_⟩, ?_, fun k hk => Nat.le_of_lt (HO.out.2 k hk)⟩
  · exact hs2
  · obtain ⟨h1, h2, h3, h4, h5⟩ := HB.out
    refine ⟨la', lc', lb', lo', rfl, h1, h2, fun j hj => ?_, by simpa using h4, hne2⟩
    exact cell_set_blk hne2 (cell_set_blk hne2 (h3 j hj))
  · have hEr : Ex r w W2 := ⟨hE.os, hE.tape, hE.output, hE.size, fun k hk hn => hE.block k hk (by omega)⟩
    exact ((hEr.trans (Ex.set _ _ _ _)).trans (Ex.set _ _ _ _)).trans (Ex.drew _ _)
  · refine HO.out.1.fr (S := (· = r)) (Fr.of_ex (((Ex.set _ _ _ _).trans (Ex.set _ _ _ _)).trans (Ex.drew _ _))) (fun i hi e => ?_)
    have := HO.out.2 i hi
    omega
set_option maxRecDepth 10000 in
set_option maxHeartbeats 1000000 in
theorem take50_67_err (r : Nat) (lv : Value) (rest : List UInt8) (at_ ec : Nat) (w : World) (hR : Rd w r lv rest at_ 0) (b k : Value) (hec : ec ≠ 0)
    (hF : ∀ W, Has W w.heap.size #[lv] 80 → Below w.heap.size w W → Calls Try.prog 67 #[.pointer (some ⟨w.heap.size, 0, none⟩), b, k] W fun e w' => Failed w.heap.size W ec e w') : 
    Calls Try.prog 50 #[.pointer (some ⟨r, 0, none⟩), .func (Fn.func 67) #[] #[b, k]] w fun e w' => e = .returned (.tuple #[.slice none 0 0, .int .i64 ec]) ∧ Flaws w w' r lv rest at_ ec := by
  have c0 := hR.has.cell 0
  have c1 := hR.has.cell 1
  have c2 := hR.has.cell 2
  have c3 := hR.has.cell 3
  have hrl := hR.lt
  obtain ⟨la, lc, lb, lo, rfl, hBy⟩ := id hR.by_
  have HB : Hid (rest.length ≤ lc ∧ (rest ≠ [] → la = some ⟨lb, lo, none⟩) ∧ BytesIn w lb lo rest ∧ lb < w.heap.size ∧ ¬ lb = r) := hBy
  clear hBy
  simp at c0 c1 c2 c3
  have hec' : (ec : Int) ≠ 0 := by omega
  go_enter Try.func50, Try.ntmps50
  go_wp2_with (first | (go_at_call 56; refine (rnone_any _ _ c3).mono ?_; rintro e w' ⟨rfl, hw⟩; obtain rfl := hw.symm) | fail)
  refine named (p := fun X => Calls _ _ _ X _) ?_
  intro W1 hW1
  have hB1 : Below w.heap.size w W1 := by rw [hW1]; exact (Below.refl _ _).alloc (Nat.le_refl _) _
  have hH1 : Has W1 w.heap.size #[.slice la rest.length lc] 80 := by rw [hW1]; exact has_new _ _ _ _ rfl
  clear hW1
  refine (hF W1 hH1 hB1).mono ?_
  rintro e W2 ⟨⟨val, rfl⟩, hE2⟩
  have hE : Ex w.heap.size w W2 := (Ex.below hB1).trans ⟨hE2.os, hE2.tape, hE2.output, hE2.size, fun k hk hn => hE2.block k hk hn⟩
  have hR2 : Has W2 r #[.slice la rest.length lc, .int .i64 at_, .int .i64 0, .bool true] 82 := hR.has.ex hE (by omega)
  have d2 := hR2.cell 2
  have d3 := hR2.free 2
  clear c0 c1 c2 c3 hF
  simp at d2
  go_wp2_with fail
  go_ret2
  have hs1 := hR2.set 2 (.int .i64 ec)
  simp at hs1
  refine ⟨rfl, ⟨?_, ?_⟩, ?_⟩
  · exact hs1
  · obtain ⟨h1, h2, h3, h4, h5⟩ := HB.out
    refine ⟨la, lc, lb, lo, rfl, h1, h2, fun j hj => ?_, by have := hE.size; simp; omega, h5⟩
    exact cell_set_blk h5 ((World.cell?_of_block (w := w) (hE.block lb h4 (by omega))).trans (h3 j hj))
  · have hEr : Ex r w W2 := ⟨hE.os, hE.tape, hE.output, hE.size, fun k hk hn => hE.block k hk (by omega)⟩
    exact hEr.trans (Ex.set _ _ _ _)
set_option maxRecDepth 10000 in
set_option maxHeartbeats 1000000 in
theorem take50_67_flaw (r : Nat) (lv : Value) (rest : List UInt8) (at_ ec : Nat) (w : World) (hR : Rd w r lv rest at_ ec) (b k : Value) (hec : ec ≠ 0) :
    Calls Try.prog 50 #[.pointer (some ⟨r, 0, none⟩), .func (Fn.func 67) #[] #[b, k]] w fun e w' => e = .returned (.tuple #[.slice none 0 0, .int .i64 ec]) ∧ ∃ k, w' = w.drewN k := by
  have c2 := hR.has.cell 2
  have c3 := hR.has.cell 3
  simp at c2 c3
  have hec' : (ec : Int) ≠ 0 := by omega
  go_enter Try.func50, Try.ntmps50
  go_wp2_with (first | (go_at_call 56; refine (rnone_any _ _ c3).mono ?_; rintro e w' ⟨rfl, hw⟩; obtain rfl := hw.symm) | fail)
  go_quiet (fail)
  go_wp2_with fail
  go_ret2
  exact ⟨rfl, _, rfl⟩
set_option maxHeartbeats 400000 in
theorem take50_67_nil (w : World) (b k : Value) :
    Calls Try.prog 50 #[.pointer none, .func (Fn.func 67) #[] #[b, k]] w fun e w' => e = .returned (.tuple #[.slice none 0 0, .int .i64 1]) ∧ w' = w := by
  go_enter Try.func50, Try.ntmps50
  go_wp2_with (first | (go_at_call 56; refine (rnone_nil _).mono ?_; rintro e w' ⟨rfl, hw⟩; obtain rfl := hw.symm) | fail)
  go_ret2
  exact ⟨rfl, rfl⟩
end Go.Proofs.Ytgoflpfafkmmgaa
/- A reader's take, by another kind of call. -/
namespace Go.Proofs.Ytgoflpfafkmmgaa
open Go.RowKit

set_option maxRecDepth 10000 in
set_option maxHeartbeats 1000000 in
theorem take53_69_ok (R : Nat → Prop) (r : Nat) (hRr : R r) (lv : Value) (rest rest' : List UInt8) (at_ : Nat) (w : World) (hR : Rd w r lv rest at_ 0) (b k : Value) (n : ByteArray) (hlen : rest'.length ≤ rest.length) (hat : at_ + rest.length ≤ 10000000000)
    (hF : ∀ W, Has W w.heap.size #[lv] 80 → Below w.heap.size w W → Calls Try.prog 69 #[.pointer (some ⟨w.heap.size, 0, none⟩), b, k] W fun e w' => Found R w.heap.size W rest' (.string n) e w') : 
    Calls Try.prog 53 #[.pointer (some ⟨r, 0, none⟩), .func (Fn.func 69) #[] #[b, k]] w fun e w' => e = .returned (.tuple #[.string n, .int .i64 0]) ∧ TookR R w w' r rest' (at_ + (rest.length - rest'.length)) := by
  have c0 := hR.has.cell 0
  have c1 := hR.has.cell 1
  have c2 := hR.has.cell 2
  have c3 := hR.has.cell 3
  have hrl := hR.lt
  obtain ⟨la, lc, lb, lo, rfl, _⟩ := id hR.by_
  simp at c0 c1 c2 c3
  go_enter Try.func53, Try.ntmps53
  go_wp2_with (first | (go_at_call 56; refine (rnone_any _ _ c3).mono ?_; rintro e w' ⟨rfl, hw⟩; obtain rfl := hw.symm) | fail)
  refine named (p := fun X => Calls _ _ _ X _) ?_
  intro W1 hW1
  have hB1 : Below w.heap.size w W1 := by rw [hW1]; exact (Below.refl _ _).alloc (Nat.le_refl _) _
  have hH1 : Has W1 w.heap.size #[.slice la rest.length lc] 80 := by rw [hW1]; exact has_new _ _ _ _ rfl
  clear hW1
  refine (hF W1 hH1 hB1).mono ?_
  rintro e W2 ⟨rfl, hE2, lv', hH2, hby2⟩
  have hE : Ex w.heap.size w W2 := (Ex.below hB1).trans ⟨hE2.os, hE2.tape, hE2.output, hE2.size, fun k hk hn => hE2.block k hk hn⟩
  have hR2 : Has W2 r #[.slice la rest.length lc, .int .i64 at_, .int .i64 0, .bool true] 82 := hR.has.ex hE (by omega)
  have d0 := hR2.cell 0
  have d1 := hR2.cell 1
  have d3 := hR2.free 1
  have d4 := hR2.free 0
  have f0 := hH2.cell 0
  obtain ⟨la', lc', lb', lo', rfl, hcap', ha', hin', hlt', hap'⟩ := hby2
  have HB : Hid (rest'.length ≤ lc' ∧ (rest' ≠ [] → la' = some ⟨lb', lo', none⟩) ∧ BytesIn W2 lb' lo' rest' ∧ lb' < W2.heap.size ∧ ¬ (R lb' ∨ lb' = w.heap.size)) := ⟨hcap', ha', hin', hlt', hap'⟩
  clear hcap' ha' hin' hlt' hap' c0 c1 c2 c3 hF
  simp at d0 d1 f0
  have hne : ¬ w.heap.size = r := by omega
  have hne' : ¬ r = w.heap.size := by omega
  have Hn : Hid (at_ + (rest.length - rest'.length) ≤ 10000000000) := by show _ ≤ _; omega
  have z1 : (rest.length : Int) - rest'.length = ((rest.length - rest'.length : Nat) : Int) := by omega
  have z2 : (at_ : Int) + ((rest.length : Int) - rest'.length) = ((at_ + (rest.length - rest'.length) : Nat) : Int) := by omega
  go_wp2_with fail
  go_region
  go_wp2_with fail
  go_ret2
  have hs1 := hR2.set 1 (.int .i64 ((at_ : Int) + ((rest.length - rest'.length : Nat) : Int)))
  have hs2 := hs1.set 0 (.slice la' rest'.length lc')
  simp at hs2
  have hne2 : ¬ lb' = r := fun e => HB.out.2.2.2.2 (.inl (by rw [e]; exact hRr))
  have hbR : BytesAp R ((W2.setCell ⟨r, 1, none⟩ (.int .i64 ((at_ : Int) + ((rest.length - rest'.length : Nat) : Int)))).setCell ⟨r, 0, none⟩ (.slice la' rest'.length lc')).drew (.slice la' rest'.length lc') rest' := by
    obtain ⟨h1, h2, h3, h4, h5⟩ := HB.out
    exact ⟨la', lc', lb', lo', rfl, h1, h2, fun j hj => cell_set_blk hne2 (cell_set_blk hne2 (h3 j hj)), by simpa using h4, fun e => h5 (.inl e)⟩
  refine ⟨rfl, .slice la' rest'.length lc', ⟨⟨?_, ?_⟩, hbR⟩, ?_⟩
  · exact hs2
  · obtain ⟨h1, h2, h3, h4, h5⟩ := HB.out
    refine ⟨la', lc', lb', lo', rfl, h1, h2, fun j hj => ?_, by simpa using h4, hne2⟩
    exact cell_set_blk hne2 (cell_set_blk hne2 (h3 j hj))
  · have hEr : Ex r w W2 := ⟨hE.os, hE.tape, hE.output, hE.size, fun k hk hn => hE.block k hk (by omega)⟩
    exact ((hEr.trans (Ex.set _ _ _ _)).trans (Ex.set _ _ _ _)).trans (Ex.drew _ _)
set_option maxRecDepth 10000 in
set_option maxHeartbeats 1000000 in
theorem take53_69_err (r : Nat) (lv : Value) (rest : List UInt8) (at_ ec : Nat) (w : World) (hR : Rd w r lv rest at_ 0) (b k : Value) (hec : ec ≠ 0)
    (hF : ∀ W, Has W w.heap.size #[lv] 80 → Below w.heap.size w W → Calls Try.prog 69 #[.pointer (some ⟨w.heap.size, 0, none⟩), b, k] W fun e w' => Failed w.heap.size W ec e w') : 
    Calls Try.prog 53 #[.pointer (some ⟨r, 0, none⟩), .func (Fn.func 69) #[] #[b, k]] w fun e w' => e = .returned (.tuple #[.string ⟨#[]⟩, .int .i64 ec]) ∧ Flaws w w' r lv rest at_ ec := by
  have c0 := hR.has.cell 0
  have c1 := hR.has.cell 1
  have c2 := hR.has.cell 2
  have c3 := hR.has.cell 3
  have hrl := hR.lt
  obtain ⟨la, lc, lb, lo, rfl, hBy⟩ := id hR.by_
  have HB : Hid (rest.length ≤ lc ∧ (rest ≠ [] → la = some ⟨lb, lo, none⟩) ∧ BytesIn w lb lo rest ∧ lb < w.heap.size ∧ ¬ lb = r) := hBy
  clear hBy
  simp at c0 c1 c2 c3
  have hec' : (ec : Int) ≠ 0 := by omega
  go_enter Try.func53, Try.ntmps53
  go_wp2_with (first | (go_at_call 56; refine (rnone_any _ _ c3).mono ?_; rintro e w' ⟨rfl, hw⟩; obtain rfl := hw.symm) | fail)
  refine named (p := fun X => Calls _ _ _ X _) ?_
  intro W1 hW1
  have hB1 : Below w.heap.size w W1 := by rw [hW1]; exact (Below.refl _ _).alloc (Nat.le_refl _) _
  have hH1 : Has W1 w.heap.size #[.slice la rest.length lc] 80 := by rw [hW1]; exact has_new _ _ _ _ rfl
  clear hW1
  refine (hF W1 hH1 hB1).mono ?_
  rintro e W2 ⟨⟨val, rfl⟩, hE2⟩
  have hE : Ex w.heap.size w W2 := (Ex.below hB1).trans ⟨hE2.os, hE2.tape, hE2.output, hE2.size, fun k hk hn => hE2.block k hk hn⟩
  have hR2 : Has W2 r #[.slice la rest.length lc, .int .i64 at_, .int .i64 0, .bool true] 82 := hR.has.ex hE (by omega)
  have d2 := hR2.cell 2
  have d3 := hR2.free 2
  clear c0 c1 c2 c3 hF
  simp at d2
  go_wp2_with fail
  go_ret2
  have hs1 := hR2.set 2 (.int .i64 ec)
  simp at hs1
  refine ⟨rfl, ⟨?_, ?_⟩, ?_⟩
  · exact hs1
  · obtain ⟨h1, h2, h3, h4, h5⟩ := HB.out
    refine ⟨la, lc, lb, lo, rfl, h1, h2, fun j hj => ?_, by have := hE.size; simp; omega, h5⟩
    exact cell_set_blk h5 ((World.cell?_of_block (w := w) (hE.block lb h4 (by omega))).trans (h3 j hj))
  · have hEr : Ex r w W2 := ⟨hE.os, hE.tape, hE.output, hE.size, fun k hk hn => hE.block k hk (by omega)⟩
    exact hEr.trans (Ex.set _ _ _ _)
set_option maxRecDepth 10000 in
set_option maxHeartbeats 1000000 in
theorem take53_69_flaw (r : Nat) (lv : Value) (rest : List UInt8) (at_ ec : Nat) (w : World) (hR : Rd w r lv rest at_ ec) (b k : Value) (hec : ec ≠ 0) :
    Calls Try.prog 53 #[.pointer (some ⟨r, 0, none⟩), .func (Fn.func 69) #[] #[b, k]] w fun e w' => e = .returned (.tuple #[.string ⟨#[]⟩, .int .i64 ec]) ∧ ∃ k, w' = w.drewN k := by
  have c2 := hR.has.cell 2
  have c3 := hR.has.cell 3
  simp at c2 c3
  have hec' : (ec : Int) ≠ 0 := by omega
  go_enter Try.func53, Try.ntmps53
  go_wp2_with (first | (go_at_call 56; refine (rnone_any _ _ c3).mono ?_; rintro e w' ⟨rfl, hw⟩; obtain rfl := hw.symm) | fail)
  go_quiet (fail)
  go_wp2_with fail
  go_ret2
  exact ⟨rfl, _, rfl⟩
set_option maxHeartbeats 400000 in
theorem take53_69_nil (w : World) (b k : Value) :
    Calls Try.prog 53 #[.pointer none, .func (Fn.func 69) #[] #[b, k]] w fun e w' => e = .returned (.tuple #[.string ⟨#[]⟩, .int .i64 1]) ∧ w' = w := by
  go_enter Try.func53, Try.ntmps53
  go_wp2_with (first | (go_at_call 56; refine (rnone_nil _).mono ?_; rintro e w' ⟨rfl, hw⟩; obtain rfl := hw.symm) | fail)
  go_ret2
  exact ⟨rfl, rfl⟩
end Go.Proofs.Ytgoflpfafkmmgaa
