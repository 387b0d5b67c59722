/- Texts put together, in build order: U1, A1, KL, IL, B1, IM, B2, B3, B4, B5, M1, M4a. -/
import Derived.WalkKit
import Derived.WalkSpells
import Derived.WalkLawsBesides
import Derived.BigQuiet
import Derived.Deep.QuietTactic
import Derived.Laws.AppendOwn
import Derived.Deep.MidRow
import Derived.Lib.ConvBytes
import Derived.Test.YtodkehpldlmgaaaDoorProg
import Derived.Deep.RegionHeld3
import Derived.OrdersHeld
import Derived.OrdersIn
import Derived.Deep.Quiet
import Derived.Deep.Cut
import Derived.Maps.Keyed
import Derived.Carry
/- Memory and bytes: blocks, rows that are owned, slices of bytes; nothing of the program stands here. -/
namespace Go.Proofs.YtodkehpldlmgaaaDoor
open Go.RowKit

/-- A byte as the number that a slot holds. -/
def bv (x : UInt8) : Int := (x.toNat : Int)
theorem bv_nonneg (b : UInt8) : 0 ≤ bv b := Int.natCast_nonneg _
theorem bv_lt (b : UInt8) : bv b < 256 := by unfold bv; have := b.toNat_lt; omega
/-- A byte as a cell. -/
def bc (x : UInt8) : Value := .int .u8 (bv x)
def byteCells (bs : List UInt8) : Array Value := (bs.map bc).toArray
theorem byteCells_size (bs : List UInt8) : (byteCells bs).size = bs.length := by simp [byteCells]
theorem byteCells_at (bs : List UInt8) (j : Nat) (h : j < bs.length) : (byteCells bs)[j]? = some (bc (bs[j]?.getD 0)) := by
  simp [byteCells, h]

/-- But for block b, what was there is as it was; no block has gone. -/
structure Ex (b : Nat) (w w' : World) : Prop where
  os : w'.os = w.os
  tape : w'.tape = w.tape
  output : w'.output = w.output
  size : w.heap.size ≤ w'.heap.size
  block : ∀ k, k < w.heap.size → k ≠ b → w'.heap[k]? = w.heap[k]?

theorem Ex.refl (b : Nat) (w : World) : Ex b w w := ⟨rfl, rfl, rfl, Nat.le_refl _, fun _ _ _ => rfl⟩
theorem Ex.trans {b : Nat} {x y z : World} (h : Ex b x y) (k : Ex b y z) : Ex b x z :=
  ⟨k.os.trans h.os, k.tape.trans h.tape, k.output.trans h.output, Nat.le_trans h.size k.size, fun i hi hb => (k.block i (Nat.lt_of_lt_of_le hi h.size) hb).trans (h.block i hi hb)⟩
theorem Ex.below {b : Nat} {x y : World} (h : Below x.heap.size x y) : Ex b x y := ⟨h.os, h.tape, h.output, h.size, fun i hi _ => h.block i hi⟩
theorem Ex.set (b : Nat) (w : World) (p : Nat) (v : Value) : Ex b w (w.setCell ⟨b, p, none⟩ v) :=
  ⟨rfl, rfl, rfl, by simp [World.setCell], fun i _ hb => heap_setCell_other w ⟨b, p, none⟩ i v hb⟩
theorem Ex.drewN (b : Nat) (w : World) (k : Nat) : Ex b w (w.drewN k) := ⟨rfl, rfl, rfl, Nat.le_refl _, fun _ _ _ => rfl⟩
theorem Ex.drew (b : Nat) (w : World) : Ex b w w.drew := ⟨rfl, rfl, rfl, Nat.le_refl _, fun _ _ _ => rfl⟩
theorem Ex.alloc (b : Nat) (w : World) (o : Obj) : Ex b w (w.alloc o) := Ex.below ((Below.refl _ _).alloc (Nat.le_refl _) _)
/-- Where the block itself is new, all that was there is as it was. -/
theorem Below.ex {b B : Nat} {x y z : World} (h0 : Below B x y) (hB : B ≤ y.heap.size) (h : Ex b y z) (hb : B ≤ b) : Below B x z :=
  h0.trans ⟨h.os, h.tape, h.output, h.size, fun i hi => h.block i (by omega) (by omega)⟩
/-- A block of cells, none of them frozen. -/
def Has (w : World) (b : Nat) (cs : Array Value) (t : TypeId) : Prop := w.heap[b]? = some (.cells cs t (0, 0))
theorem Has.cell {w : World} {b t : Nat} {cs : Array Value} (h : Has w b cs t) (j : Nat) : w.cell? ⟨b, j, none⟩ = cs[j]? := cell_of_row w b j cs t (0, 0) h
theorem Has.free {w : World} {b t : Nat} {cs : Array Value} (h : Has w b cs t) (j : Nat) : w.frozen? ⟨b, j, none⟩ = false := frozen_of_row w b j cs t h
theorem Has.set {w : World} {b t : Nat} {cs : Array Value} (h : Has w b cs t) (p : Nat) (v : Value) : Has (w.setCell ⟨b, p, none⟩ v) b (cs.setIfInBounds p v) t := heap_setCell_same w b p cs t v h
theorem Has.lt {w : World} {b t : Nat} {cs : Array Value} (h : Has w b cs t) : b < w.heap.size := (Array.getElem?_eq_some_iff.1 h).1
theorem Has.ex {w w' : World} {b c t : Nat} {cs : Array Value} (h : Has w b cs t) (k : Ex c w w') (hb : b ≠ c) : Has w' b cs t := (k.block b h.lt hb).trans h
theorem Has.below {w w' : World} {b t B : Nat} {cs : Array Value} (h : Has w b cs t) (k : Below B w w') (hb : b < B) : Has w' b cs t := (k.block b hb).trans h
theorem Has.one {w : World} {b t : Nat} {v : Value} (h : Has w b #[v] t) : w.cell? ⟨b, 0, none⟩ = some v := h.cell 0
theorem alloc_get (w : World) (o : Obj) (k : Nat) : (w.alloc o).heap[k]? = if k = w.heap.size then some o else w.heap[k]? := by
  show (w.heap.push o)[k]? = _
  rw [Array.getElem?_push]
theorem has_new (w : World) (cs : Array Value) (t b : Nat) (h : b = w.heap.size) : Has (w.alloc (.cells cs t)) b cs t := by
  unfold Has; rw [alloc_get, if_pos h]
theorem has_old {w : World} {o : Obj} {cs : Array Value} {t b : Nat} (h : Has w b cs t) : Has (w.alloc o) b cs t := by
  have := h.lt
  unfold Has; rw [alloc_get, if_neg (by omega)]; exact h
theorem cell_set_off {w : World} {b p q : Nat} {v : Value} {x : Option Value} (hpq : ¬ p = q) (h : w.cell? ⟨b, p, none⟩ = x) : (w.setCell ⟨b, q, none⟩ v).cell? ⟨b, p, none⟩ = x := by
  have hne : (⟨b, q, none⟩ : Addr) ≠ ⟨b, p, none⟩ := by intro e; exact hpq (by injection e with _ e2; exact e2.symm)
  exact (World.cell?_setCell_other _ _ _ _ hne).trans h
theorem cell_set_blk {w : World} {b c p q : Nat} {v : Value} {x : Option Value} (hbc : ¬ c = b) (h : w.cell? ⟨c, p, none⟩ = x) : (w.setCell ⟨b, q, none⟩ v).cell? ⟨c, p, none⟩ = x := by
  have hne : (⟨b, q, none⟩ : Addr) ≠ ⟨c, p, none⟩ := by intro e; exact hbc (by injection e with e2; exact e2.symm)
  exact (World.cell?_setCell_other _ _ _ _ hne).trans h
theorem named {p : World → Prop} {W : World} (h : ∀ W0, W0 = W → p W0) : p W := h W rfl
theorem block_of_cell {w : World} {a : Addr} {v : Value} (h : w.cell? a = some v) : a.block < w.heap.size := World.block_lt_of_cell? w a h

/-- Bytes that lie in block d from o on. -/
def BytesIn (w : World) (d o : Nat) (l : List UInt8) : Prop := ∀ j, j < l.length → w.cell? ⟨d, o + j, none⟩ = some (bc (l[j]?.getD 0))
/-- A slice value whose bytes these are. -/
def Bytes (w : World) (v : Value) (d : List UInt8) : Prop :=
  ∃ a cap db o, v = .slice a d.length cap ∧ d.length ≤ cap ∧ (d ≠ [] → a = some ⟨db, o, none⟩) ∧ BytesIn w db o d ∧ db < w.heap.size
/-- .. and they don't lie in any of the blocks of which S tells. -/
def BytesAp (S : Nat → Prop) (w : World) (v : Value) (d : List UInt8) : Prop :=
  ∃ a cap db o, v = .slice a d.length cap ∧ d.length ≤ cap ∧ (d ≠ [] → a = some ⟨db, o, none⟩) ∧ BytesIn w db o d ∧ db < w.heap.size ∧ ¬ S db
theorem BytesAp.bytes {S : Nat → Prop} {w : World} {v : Value} {d : List UInt8} (h : BytesAp S w v d) : Bytes w v d := by
  obtain ⟨a, cap, db, o, h1, h2, h3, h4, h5, h6⟩ := h; exact ⟨a, cap, db, o, h1, h2, h3, h4, h5⟩
theorem BytesAp.mono {S S' : Nat → Prop} {w : World} {v : Value} {d : List UInt8} (h : BytesAp S w v d) (hs : ∀ k, k < w.heap.size → S' k → S k) : BytesAp S' w v d := by
  obtain ⟨a, cap, db, o, h1, h2, h3, h4, h5, h6⟩ := h; exact ⟨a, cap, db, o, h1, h2, h3, h4, h5, fun h => h6 (hs _ h5 h)⟩
theorem Bytes.ap {w : World} {v : Value} {d : List UInt8} (h : Bytes w v d) {S : Nat → Prop} (hs : ∀ k, k < w.heap.size → ¬ S k) : BytesAp S w v d := by
  obtain ⟨a, cap, db, o, h1, h2, h3, h4, h5⟩ := h; exact ⟨a, cap, db, o, h1, h2, h3, h4, h5, hs _ h5⟩
theorem Bytes.below {w w' : World} {v : Value} {d : List UInt8} (h : Bytes w v d) (k : Below w.heap.size w w') : Bytes w' v d := by
  obtain ⟨a, cap, db, o, h1, h2, h3, h4, h5⟩ := h
  exact ⟨a, cap, db, o, h1, h2, h3, fun j hj => (k.cell (p := ⟨db, o + j, none⟩) h5).trans (h4 j hj), Nat.lt_of_lt_of_le h5 k.size⟩
/-- But for blocks of S, what was there is as it was. -/
structure Fr (S : Nat → Prop) (w w' : World) : Prop where
  os : w'.os = w.os
  tape : w'.tape = w.tape
  output : w'.output = w.output
  size : w.heap.size ≤ w'.heap.size
  block : ∀ k, k < w.heap.size → ¬ S k → w'.heap[k]? = w.heap[k]?
theorem Fr.refl (S : Nat → Prop) (w : World) : Fr S w w := ⟨rfl, rfl, rfl, Nat.le_refl _, fun _ _ _ => rfl⟩
theorem Fr.mono {S S' : Nat → Prop} {w w' : World} (h : Fr S w w') (hs : ∀ k, k < w.heap.size → S k → S' k) : Fr S' w w' :=
  ⟨h.os, h.tape, h.output, h.size, fun k hk hn => h.block k hk (fun e => hn (hs k hk e))⟩
theorem Fr.trans {S : Nat → Prop} {x y z : World} (h : Fr S x y) (k : Fr S y z) : Fr S x z :=
  ⟨k.os.trans h.os, k.tape.trans h.tape, k.output.trans h.output, Nat.le_trans h.size k.size, fun i hi hb => (k.block i (Nat.lt_of_lt_of_le hi h.size) hb).trans (h.block i hi hb)⟩
/-- Two steps of which the second one writes into what the first one made, too. -/
theorem Fr.trans' {S S' : Nat → Prop} {x y z : World} (h : Fr S x y) (k : Fr S' y z) (hs : ∀ i, i < x.heap.size → S' i → S i) : Fr S x z :=
  ⟨k.os.trans h.os, k.tape.trans h.tape, k.output.trans h.output, Nat.le_trans h.size k.size, fun i hi hb => (k.block i (Nat.lt_of_lt_of_le hi h.size) (fun e => hb (hs i hi e))).trans (h.block i hi hb)⟩
theorem Fr.of_below {S : Nat → Prop} {x y : World} (h : Below x.heap.size x y) : Fr S x y := ⟨h.os, h.tape, h.output, h.size, fun i hi _ => h.block i hi⟩
theorem Fr.of_ex {b : Nat} {x y : World} (h : Ex b x y) : Fr (· = b) x y := ⟨h.os, h.tape, h.output, h.size, fun i hi hb => h.block i hi hb⟩
theorem Fr.ex {b : Nat} {x y : World} (h : Fr (· = b) x y) : Ex b x y := ⟨h.os, h.tape, h.output, h.size, fun i hi hb => h.block i hi hb⟩
theorem Fr.below {S : Nat → Prop} {B : Nat} {x y z : World} (h0 : Below B x y) (h : Fr S y z) (hB : B ≤ y.heap.size) (hs : ∀ k, k < B → ¬ S k) : Below B x z :=
  h0.trans ⟨h.os, h.tape, h.output, h.size, fun i hi => h.block i (by omega) (hs i hi)⟩
theorem Has.fr {S : Nat → Prop} {w w' : World} {b t : Nat} {cs : Array Value} (h : Has w b cs t) (k : Fr S w w') (hb : ¬ S b) : Has w' b cs t := (k.block b h.lt hb).trans h
theorem BytesAp.fr {S S' : Nat → Prop} {w w' : World} {v : Value} {d : List UInt8} (h : BytesAp S w v d) (k : Fr S' w w') (hs : ∀ i, i < w.heap.size → S' i → S i) : BytesAp S w' v d := by
  obtain ⟨a, cap, db, o, h1, h2, h3, h4, h5, h6⟩ := h
  exact ⟨a, cap, db, o, h1, h2, h3, fun j hj => (World.cell?_of_block (w := w) (k.block db h5 (fun e => h6 (hs _ h5 e)))).trans (h4 j hj), Nat.lt_of_lt_of_le h5 k.size, h6⟩

/-- A slice of bytes that the call owns. -/
abbrev Own (w : World) (v : Value) (d : List UInt8) : Prop := w.ownsRow 0 5 1 v d.length (d.map bc)
theorem Own.fr {S : Nat → Prop} {w w' : World} {v : Value} {d : List UInt8} (h : Own w v d) (k : Fr S w w') (hs : ∀ i, v.ownBlock = some i → ¬ S i) : Own w' v d := by
  refine ⟨h.1, ?_⟩
  rcases h.2 with h2 | ⟨g, cap, cur, a, b, c, e⟩
  · exact .inl h2
  · refine .inr ⟨g, cap, cur, a, b, ?_, e⟩
    rw [k.block g (Array.getElem?_eq_some_iff.1 c).1 (hs g (by rw [a]; rfl))]; exact c
theorem Own.bytesAp {w : World} {v : Value} {d : List UInt8} {S : Nat → Prop} (h : Own w v d) (hs : ∀ i, v.ownBlock = some i → ¬ S i) (h1 : v = .slice none 0 0 → ∃ i, i < w.heap.size ∧ ¬ S i) : BytesAp S w v d := by
  rcases h.2 with ⟨rfl, h2⟩ | ⟨g, cap, cur, rfl, b, c, e⟩
  · obtain ⟨i, hi, hn⟩ := h1 rfl
    have : d = [] := List.eq_nil_of_length_eq_zero h2
    subst this
    exact ⟨none, 0, i, 0, rfl, Nat.le_refl _, fun h => absurd rfl h, fun j hj => absurd hj (by simp), hi, hn⟩
  · refine ⟨_, cap, g, 0, rfl, e.1, fun _ => rfl, fun j hj => ?_, (Array.getElem?_eq_some_iff.1 c).1, hs g rfl⟩
    have := h.cells (g := g) rfl j (bc (d[j]?.getD 0)) (by simp [hj])
    rw [Addr.add_mid] at this
    exact this
theorem Own.bytes {w : World} {v : Value} {d : List UInt8} (h : Own w v d) (h0 : 0 < w.heap.size) : Bytes w v d :=
  (Own.bytesAp (S := fun _ => False) h (fun _ _ h => h) (fun _ => ⟨0, h0, fun h => h⟩)).bytes
theorem Own.has_ne {w : World} {v : Value} {d : List UInt8} (h : Own w v d) {b t : Nat} {cs : Array Value} (hh : Has w b cs t) (ht : t ≠ 5) : v.ownBlock ≠ some b := by
  intro e
  rcases h.2 with ⟨rfl, _⟩ | ⟨g, cap, cur, rfl, _, c, _⟩
  · cases e
  · simp [Value.ownBlock] at e
    subst e
    unfold Has at hh
    rw [c] at hh
    simp at hh
    exact ht hh.2.symm
theorem Own.lt' {w : World} {v : Value} {d : List UInt8} (h : Own w v d) {k : Nat} (hk : v.ownBlock = some k) : k < w.heap.size := (h.lt k hk).2
theorem Own.nil (w : World) : Own w (.slice none 0 0) [] := World.ownsRow_nil _ _ _ _
/-- An owned row: what a writer moves as it grows. -/
theorem grown_fr {w w' : World} {v : Value} (h : w.grownBy w' v.ownBlock) : Fr (fun k => v.ownBlock = some k) w w' :=
  ⟨h.os, h.tape, h.output, h.size, fun k hk hn => h.block k hk (fun e => hn e.symm)⟩

theorem foldl_push (ns : List UInt8) : ∀ s : ByteArray, (ns.map (fun b => bv b)).foldl (fun r n => r.push (UInt8.ofNat n.toNat)) s = ⟨s.data ++ ns.toArray⟩ := by
  induction ns with
  | nil => intro s; simp
  | cons b ns ih =>
    intro s
    rw [List.map_cons, List.foldl_cons, ih]
    simp [bv, ByteArray.push]
theorem bytes_nil (w : World) (h : 0 < w.heap.size) : Bytes w (.slice none 0 0) [] := ⟨none, 0, 0, 0, rfl, Nat.le_refl _, fun h => absurd rfl h, fun j hj => absurd hj (by simp), h⟩

theorem append_types {P : Program} {t u e e' : TypeId} {i : TypeInfo} (ty : TypeId) (ht : P.underlying t = some (.slice e)) (hu : P.underlying u = some (.slice e')) (hi : P.info? e = some i) (a : Option Addr) (n c : Nat) (x : Value) (w : World) :
    (Builtin.append_ #[t, u] ty #[.slice a n c, x]).run P w = (Builtin.append_ #[t, t] ty #[.slice a n c, x]).run P w := by
  simp [Builtin.append_, run_underlying ht, run_underlying hu, sizeOf, typeInfo, hi]
theorem Own.slice {w : World} {v : Value} {d : List UInt8} (h : Own w v d) : ∃ a c, v = .slice a d.length c := by
  rcases h.2 with ⟨rfl, h0⟩ | ⟨g, c, cur, rfl, _⟩
  · rw [h0]; exact ⟨_, _, rfl⟩
  · exact ⟨_, _, rfl⟩
theorem info_parts' {P : Program} {e : TypeId} {z : Value} {s b : Nat} (h : (P.info? e).map (fun i => (i.zero, i.size, i.bytes)) = some (some z, s, b)) : ∃ i, P.info? e = some i ∧ i.zero = some z ∧ i.size = s ∧ i.bytes = b := by
  cases hi : P.info? e with
  | none => rw [hi] at h; cases h
  | some i =>
    rw [hi] at h
    simp only [Option.map_some, Option.some.injEq, Prod.mk.injEq] at h
    exact ⟨i, rfl, h.1, h.2.1, h.2.2⟩
/-- What a row moves to as it grows: it stays, or is new. -/
def Loc (w : World) (v v' : Value) : Prop := ∀ k, v'.ownBlock = some k → v.ownBlock = some k ∨ w.heap.size ≤ k
theorem append_loc {P : Program} {t e : TypeId} (ty : TypeId) {i : TypeInfo} {z : Value} (ht : P.underlying t = some (.slice e)) (hi : P.info? e = some i) (hz : i.zero = some z) (hs1 : i.size = 1) (hb1 : i.bytes = 1) (w : World) (v : Value) (n : Nat) (xs : List Value) (hown : w.ownsRow 0 e 1 v n xs)
    (a : Addr) (m c : Nat) (news : List Value) (hl : news.length = m) (hnews : ∀ j u, news[j]? = some u → w.cell? (a.add j) = some u) (h1 : ∀ u ∈ news, u.oneCell' = true) (hsm : n + m ≤ 100000000000000) {v' : Value} {w' : World}
    (hr : (Builtin.append_ #[t, t] ty #[v, .slice (some a) m c]).run P w = .ok v' w') : Loc w v v' := by
  intro k hk
  rcases hown.2 with ⟨rfl, rfl⟩ | ⟨g, cap, cur, rfl, _, hg, hnc, hcm, hcs, htake⟩
  · by_cases hm : m = 0
    · subst hm
      have hn : news = [] := List.eq_nil_of_length_eq_zero hl
      subst hn
      have e1 : (Builtin.append_ #[t, t] ty #[.slice none 0 0, .slice (some a) 0 c]).run P w = .ok (.slice none 0 0) w := by
        simp [Builtin.append_, run_underlying ht, sizeOf, typeInfo, hi, Builtin.lenOf, Builtin.firstCells, loadCells, loadCellsFrom]
      rw [e1] at hr
      cases hr
      exact .inl hk
    · rw [run_append_nil (P := P) w t ty e i z ht hi hz a m c news (by rw [hs1]; omega) hnews (by omega) (by omega) (by rw [hb1]; omega)] at hr
      cases hr
      simp [Value.ownBlock] at hk
      exact .inr (by omega)
  · by_cases hroom : n + m ≤ cap
    · rw [run_append_room (P := P) w t ty e i ht hi g n cap cur hg a m c news (by rw [hs1]; omega) hnews h1 hroom (by rw [hs1, hcs]; omega)] at hr
      cases hr
      exact .inl hk
    · rw [run_append_grow (P := P) w t ty e i z ht hi hz ⟨g, 0, none⟩ n cap xs (by rw [hs1]; exact hown.1) (hown.cells (g := g) rfl) a m c news (by rw [hs1]; omega) hnews (by omega) (by omega) (growslice_fits (by omega) (by rw [hb1]; omega))] at hr
      cases hr
      simp [Value.ownBlock] at hk
      exact .inr (by omega)
/-- An append of bytes, wherever they lie, onto bytes that the call owns. -/
theorem run_append_bytes {P : Program} {t u : TypeId} (ty : TypeId) (h5 : (P.info? 5).map (fun i => (i.zero, i.size, i.bytes)) = some (some (.int .u8 0), 1, 1))
    (ht : P.underlying t = some (.slice 5)) (hu : P.underlying u = some (.slice 5)) (w : World) (v xv : Value) (d x : List UInt8) (hown : Own w v d) (hx : Bytes w xv x) (hsm : d.length + x.length ≤ 100000000000000) :
    ∃ v' w', (Builtin.append_ #[t, u] ty #[v, xv]).run P w = .ok v' w' ∧ Own w' v' (d ++ x) ∧ w.grownBy w' v.ownBlock ∧ Loc w v v' ∧ (v' = .slice none 0 0 ↔ v = .slice none 0 0 ∧ x = []) := by
  obtain ⟨i0, hi, hz0, hz1, hz2⟩ := info_parts' h5
  obtain ⟨a, cap, db, o, rfl, hcap, ha, hin, hlt⟩ := hx
  have hmx : d.length + x.length ≤ maxLen := by unfold maxLen; omega
  cases a with
  | some a0 =>
    have hcells : ∀ j u, (x.map bc)[j]? = some u → w.cell? (a0.add j) = some u := fun j u hu => by
      have hj : j < x.length := by have := (List.getElem?_eq_some_iff.1 hu).1; simpa using this
      obtain rfl := Option.some.inj (ha (by intro e; simp [e] at hj))
      rw [Addr.add_mid, hin j hj, ← hu]; simp [hj]
    obtain ⟨v', w', h1, h2, h3, h4⟩ := run_append_own (P := P) w 0 t ty 5 i0 (.int .u8 0) 1 1 ht hi hz0 hz1 hz2 rfl (by omega) v d.length (d.map bc) hown a0 x.length cap (x.map bc) (by simp) hcells
      (fun u hu => by simp at hu; obtain ⟨y, _, rfl⟩ := hu; rfl) hmx (by omega) (Nat.zero_le _)
    refine ⟨v', w', (by obtain ⟨a1, c1, rfl⟩ := hown.slice; exact (append_types ty ht hu hi _ _ _ _ _).trans h1), by unfold Own; rw [List.length_append, List.map_append]; exact h2, h3, append_loc ty ht hi hz0 hz1 hz2 w v d.length (d.map bc) hown a0 x.length cap (x.map bc) (by simp) hcells (fun u hu => by simp at hu; obtain ⟨y, _, rfl⟩ := hu; rfl) hsm h1, ?_⟩
    rw [h4]; simp
  | none =>
    have hx0 : x = [] := by
      cases x with
      | nil => rfl
      | cons b l => cases ha (by simp)
    subst hx0
    refine ⟨v, w, ?_, by simpa using hown, ⟨rfl, rfl, rfl, Nat.le_refl _, fun _ _ _ => rfl⟩, fun k hk => .inl hk, by simp⟩
    rcases hown.2 with ⟨rfl, h0⟩ | ⟨g, c, cur, rfl, _, hg, hnc, _⟩
    · simp [Builtin.append_, run_underlying ht, run_underlying hu, sizeOf, typeInfo, hi, Builtin.lenOf, Builtin.firstCells]
    · simp [Builtin.append_, run_underlying ht, run_underlying hu, sizeOf, typeInfo, hi, Builtin.lenOf, Builtin.firstCells, hnc, storeCells]
theorem wpList_append_bytes {P : Program} (w : World) {ops : Array Oper} {rest : List Oper} {o : Oper} {a : Act} {Q : Exit → Act → World → Prop} (hw : Region.wanted o (yielded ops a.tmps) = true) (s y : Operand) (t u : TypeId)
    (ho : o.op = .call { callee := .builtin .append, args := #[s, y], argTypes := #[t, u] }) (h5 : (P.info? 5).map (fun i => (i.zero, i.size, i.bytes)) = some (some (.int .u8 0), 1, 1))
    (ht : P.underlying t = some (.slice 5)) (hu : P.underlying u = some (.slice 5)) (v xv : Value) (d x : List UInt8) (hs : a.eval s = v) (hy : a.eval y = xv) (hown : Own w v d) (hx : Bytes w xv x) (hsm : d.length + x.length ≤ 100000000000000)
    (h : ∀ v' w', Own w' v' (d ++ x) → w.grownBy w' v.ownBlock → Loc w v v' → (v' = .slice none 0 0 ↔ v = .slice none 0 0 ∧ x = []) → wpList P ops Q rest (a.put o.dst v') w') : wpList P ops Q (o :: rest) a w := by
  obtain ⟨v', w', h1, h2, h3, h5', h4⟩ := run_append_bytes o.type h5 ht hu w v xv d x hown hx hsm
  unfold wpList
  rw [if_pos hw]
  refine .inl ?_
  unfold Oper.wp execOp
  simp only [ho, resolve, invoke, builtin, Sem.run_bind, Sem.run_pure, Result.andThen_ok, List.map_toArray, List.map_cons, List.map_nil, hs, hy, h1]
  exact h v' w' h2 h3 h5' h4
/-- Bytes as a text. -/
theorem bytes_string {P : Program} {t u : TypeId} (ht : P.underlying t = some (.slice 5)) (h5 : P.underlying 5 = some (.int .u8)) (hu : P.underlying u = some .string) (W : World) (v : Value) (l : List UInt8) (h : Bytes W v l) :
    (convert t u v).run P W = .ok (.string ⟨l.toArray⟩) W := by
  obtain ⟨a, cap, db, o, rfl, hcap, ha, hin, hlt⟩ := h
  rw [run_convert_bytes_string W t u 5 _ _ _ ht h5 hu]
  cases a with
  | none =>
    have hx0 : l = [] := by
      cases l with
      | nil => rfl
      | cons b l => cases ha (by simp)
    subst hx0
    simp [Conv.bytesToString]
    rfl
  | some a0 =>
    have hld := run_loadCells_list (P := P) (w := W) a0 ((l.map fun b => bv b).map (Value.int .u8)) (fun j v hv => by
      have hj : j < l.length := by
        have := (List.getElem?_eq_some_iff.1 hv).1
        simpa using this
      obtain rfl := Option.some.inj (ha (by intro e; simp [e] at hj))
      rw [Addr.add_mid, hin j hj, ← hv]
      simp [hj, bc])
    have e : ((l.map fun b => bv b).map (Value.int .u8)).length = l.length := by simp
    rw [e] at hld
    rw [run_bytesToString W a0 _ _ (l.map fun b => bv b) hld, foldl_push]
    simp
theorem wpList_run {P : Program} {ops : Array Oper} {rest : List Oper} {o : Oper} {a : Act} {w w' : World} {v : Value} {Q : Exit → Act → World → Prop} (hw : Region.wanted o (yielded ops a.tmps) = true)
    (hrun : (execOp a.eval o).run P w = .ok (.value v) w') (h : wpList P ops Q rest (a.put o.dst v) w') : wpList P ops Q (o :: rest) a w := by
  unfold wpList
  rw [if_pos hw]
  refine .inl ?_
  unfold Oper.wp
  rw [hrun]
  exact h
theorem wpList_convert_run {P : Program} {ops : Array Oper} {rest : List Oper} {o : Oper} {a : Act} {w w' : World} {Q : Exit → Act → World → Prop} (hw : Region.wanted o (yielded ops a.tmps) = true)
    (src dst : TypeId) (x : Operand) (ho : o.op = .convert src dst x) (v0 v : Value) (hx : a.eval x = v0) (hrun : (convert src dst v0).run P w = .ok v w') (h : wpList P ops Q rest (a.put o.dst v) w') : wpList P ops Q (o :: rest) a w := by
  refine wpList_run hw ?_ h
  unfold execOp
  simp only [ho, hx, Sem.run_bind, hrun, Sem.run_pure, Result.andThen_ok]
end Go.Proofs.YtodkehpldlmgaaaDoor
/- Ranges: what they are, and the small functions of ranges.go. -/
namespace Go.Proofs.YtodkehpldlmgaaaDoor
open Go.RowKit

/-- What is known of a register. -/
structure Rg where
  set : Bool
  least : Nat
  great : Nat
deriving DecidableEq
def allR : Rg := ⟨true, 0, 4294967295⟩
def noR : Rg := ⟨false, 0, 0⟩
def fromR (l g : Nat) : Rg := ⟨true, l, g⟩
def wideR (l g : Nat) : Rg := if 4294967295 < g then allR else fromR l g
def spanR (a b : Rg) : Rg := if a.set = true ∧ b.set = true then fromR (min a.least b.least) (max a.great b.great) else noR
def sumR (d s : Rg) : Rg := wideR (d.least + s.least) (d.great + s.great)
def diffR (d s : Rg) : Rg := if d.least < s.great then allR else fromR (d.least - s.great) (d.great - s.least)
def prodR (d s : Rg) : Rg := wideR (d.least * s.least) (d.great * s.great)
def quoR (d s : Rg) : Rg := fromR (d.least / s.great) (d.great / s.least)
def restR (d s : Rg) : Rg := fromR 0 (min d.great (s.great - 1))
def comR (d s : Rg) : Rg := fromR 0 (min d.great s.great)
/-- The least number that is 2 to some power less 1, and is not less. -/
def onesN (n : Nat) : Nat := if n = 0 then 0 else 2 ^ (n.log2 + 1) - 1
def eitR (d s : Rg) : Rg := fromR (max d.least s.least) (onesN (max d.great s.great))
def apaR (d s : Rg) : Rg := fromR 0 (onesN (max d.great s.great))
def hasR (r : Rg) (n : Nat) : Bool := decide (r.least ≤ n) && decide (n ≤ r.great)
def witR (r : Rg) (n : Nat) : Rg := if n = r.least then ⟨r.set, r.least + 1, r.great⟩ else if n = r.great then ⟨r.set, r.least, r.great - 1⟩ else r
def atMostR (r : Rg) (n : Nat) : Rg := fromR r.least (min r.great n)
def atLeastR (r : Rg) (n : Nat) : Rg := fromR (max r.least n) r.great
/-- The cells of a range. -/
def rgc (s : Bool) (l g : Nat) : Array Value := #[.bool s, .int .u32 (l : Int), .int .u32 (g : Int)]
abbrev Rg.v (r : Rg) : Value := .agg #[.bool r.set, .int .u32 (r.least : Int), .int .u32 (r.great : Int)]
structure Rg.Ok (r : Rg) : Prop where
  least : r.least < 4294967296
  great : r.great < 4294967296
theorem bcell {W w1 : World} (hb : Below W.heap.size W w1) : (∀ b o, b < W.heap.size → w1.cell? ⟨b, o, none⟩ = W.cell? ⟨b, o, none⟩) ∧ (∀ b o, b < W.heap.size → w1.frozen? ⟨b, o, none⟩ = W.frozen? ⟨b, o, none⟩) :=
  ⟨fun b o h => hb.cell (p := ⟨b, o, none⟩) h, fun b o h => hb.frozen (p := ⟨b, o, none⟩) h⟩
theorem ret_v {r s : Rg} (h : r = s) : Ending.returned r.v = .returned s.v := by rw [h]

set_option maxHeartbeats 400000 in
theorem from_any (l g : Int) (w : World) (h1 : 0 ≤ l) (h2 : 0 ≤ g) :
    Calls Tryd.prog 83 #[.int .u32 l, .int .u32 g] w fun e w' => e = .returned (fromR l.toNat g.toNat).v ∧ Below w.heap.size w w' := by
  obtain ⟨l, rfl⟩ := Int.eq_ofNat_of_zero_le h1
  obtain ⟨g, rfl⟩ := Int.eq_ofNat_of_zero_le h2
  clear h1 h2
  go_enter Tryd.func83, Tryd.ntmps83
  go_wp2
  exact bodyPost_ret (v := .agg #[.bool true, .int .u32 (l : Int), .int .u32 (g : Int)]) (by simp [results, Tryd.results83, go_sem]) rfl ⟨rfl, (Below.refl _ _).alloc (Nat.le_refl _) _⟩
set_option maxHeartbeats 400000 in
theorem nothing_any (w : World) :
    Calls Tryd.prog 43 #[] w fun e w' => e = .returned noR.v ∧ Below w.heap.size w w' := by
  go_enter Tryd.func43, Tryd.ntmps43
  go_wp2
  exact bodyPost_ret (v := .agg #[.bool false, .int .u32 0, .int .u32 0]) (by simp [results, Tryd.results43, go_sem]) rfl ⟨rfl, (Below.refl _ _).alloc (Nat.le_refl _) _⟩
set_option maxHeartbeats 1000000 in
theorem all_any  (w : World) :
    Calls Tryd.prog 82 #[] w fun e w' => e = .returned (allR).v ∧ Below w.heap.size w w' := by
  go_enter Tryd.func82, Tryd.ntmps82
  go_wp2_with (go_at_call 83;  refine (from_any 0 4294967295 _ (by omega) (by omega)).mono ?_; rintro e W1 ⟨rfl, hB1⟩; obtain ⟨hc, hf⟩ := bcell hB1; have hz := hB1.size; simp at hz)
  refine bodyPost_ret (v := Rg.v (fromR 0 4294967295)) (by simp [results, Tryd.results82, go_sem, hc]) rfl ⟨rfl, (((((((Below.refl _ _).alloc (by simp) _)).trans (hB1.mono (by simp)))).setCell (by simp) _).setCell (by simp) _).setCell (by simp) _⟩
set_option maxHeartbeats 1000000 in
theorem octet_any  (w : World) :
    Calls Tryd.prog 87 #[] w fun e w' => e = .returned (fromR 0 255).v ∧ Below w.heap.size w w' := by
  go_enter Tryd.func87, Tryd.ntmps87
  go_wp2_with (go_at_call 83;  refine (from_any 0 255 _ (by omega) (by omega)).mono ?_; rintro e W1 ⟨rfl, hB1⟩; obtain ⟨hc, hf⟩ := bcell hB1; have hz := hB1.size; simp at hz)
  refine bodyPost_ret (v := Rg.v (fromR 0 255)) (by simp [results, Tryd.results87, go_sem, hc]) rfl ⟨rfl, (((((((Below.refl _ _).alloc (by simp) _)).trans (hB1.mono (by simp)))).setCell (by simp) _).setCell (by simp) _).setCell (by simp) _⟩
set_option maxHeartbeats 1000000 in
theorem just_any (n : Int) (w : World) (h1 : 0 ≤ n) :
    Calls Tryd.prog 77 #[.int .u32 n] w fun e w' => e = .returned (fromR n.toNat n.toNat).v ∧ Below w.heap.size w w' := by
  go_enter Tryd.func77, Tryd.ntmps77
  go_wp2_with (go_at_call 83;  refine (from_any n n _ h1 h1).mono ?_; rintro e W1 ⟨rfl, hB1⟩; obtain ⟨hc, hf⟩ := bcell hB1; have hz := hB1.size; simp at hz)
  refine bodyPost_ret (v := Rg.v (fromR n.toNat n.toNat)) (by simp [results, Tryd.results77, go_sem, hc]) rfl ⟨rfl, (((((((Below.refl _ _).alloc (by simp) _)).trans (hB1.mono (by simp)))).setCell (by simp) _).setCell (by simp) _).setCell (by simp) _⟩
theorem wideR_all {l g : Nat} (h : 4294967295 < g) : wideR l g = allR := by unfold wideR; rw [if_pos h]
theorem wideR_in {l g : Nat} (h : ¬ 4294967295 < g) : wideR l g = fromR l g := by unfold wideR; rw [if_neg h]
set_option maxRecDepth 10000 in
set_option maxHeartbeats 1000000 in
theorem wide_any (l g : Int) (w : World) (h1 : 0 ≤ l) (h2 : l ≤ g) (h3 : g.toNat < 18446744073709551616) :
    Calls Tryd.prog 81 #[.int .u64 l, .int .u64 g] w fun e w' => e = .returned (wideR l.toNat g.toNat).v ∧ Below w.heap.size w w' := by
  obtain ⟨l, rfl⟩ := Int.eq_ofNat_of_zero_le h1
  obtain ⟨g, rfl⟩ := Int.eq_ofNat_of_zero_le (Int.le_trans h1 h2)
  have h2' : l ≤ g := by omega
  simp only [Int.toNat_natCast] at h3 ⊢
  clear h1 h2 h3
  by_cases h : 4294967295 < g
  · rw [wideR_all h]
    have h' : (4294967295 : Int) < (g : Int) := by omega
    go_enter Tryd.func81, Tryd.ntmps81
    go_wp2_with (go_at_call 82;  refine (all_any _).mono ?_; rintro e W1 ⟨rfl, hB1⟩; obtain ⟨hc, hf⟩ := bcell hB1; have hz := hB1.size; simp at hz)
    refine bodyPost_ret (v := Rg.v (allR)) (by simp [results, Tryd.results81, go_sem, hc]) rfl ⟨rfl, (((((((Below.refl _ _).alloc (by simp) _)).trans (hB1.mono (by simp)))).setCell (by simp) _).setCell (by simp) _).setCell (by simp) _⟩
  · rw [wideR_in h]
    have h' : ¬ (4294967295 : Int) < (g : Int) := by omega
    have e1 : IntKind.u32.wrap (l : Int) = l := by rw [IntKind.wrap_u32]; omega
    have e2 : IntKind.u32.wrap (g : Int) = g := by rw [IntKind.wrap_u32]; omega
    go_enter Tryd.func81, Tryd.ntmps81
    go_wp2_with (go_at_call 83;  refine (from_any _ _ _ (by omega) (by omega)).mono ?_; rintro e W1 ⟨rfl, hB1⟩; obtain ⟨hc, hf⟩ := bcell hB1; have hz := hB1.size; simp at hz)
    refine bodyPost_ret (v := Rg.v (fromR l g)) (by simp [results, Tryd.results81, go_sem, hc]) rfl ⟨rfl, (((((((Below.refl _ _).alloc (by simp) _)).trans (hB1.mono (by simp)))).setCell (by simp) _).setCell (by simp) _).setCell (by simp) _⟩
end Go.Proofs.YtodkehpldlmgaaaDoor
/- Regions that draw their order: what is held is asked behind those operations alone that may come up ahead of one that leans on it; an end of one's own, two operations that may come up, one that is not wanted. -/
namespace Go.Proofs.YtodkehpldlmgaaaDoor
open Go.RowKit
/-- To the end, or not at all. -/
def onlyN (Q : Exit → Act → World → Prop) : Exit → Act → World → Prop := fun e a w => e = .normal ∧ Q .normal a w
variable {P : Program} {ops : Array Oper} {Q : Exit → Act → World → Prop} {S : World → Prop} {kp : Nat → Bool}

/-- Whatever order: S holds behind each operation that kp tells. -/
def anyK (P : Program) (ops : Array Oper) (Q : Exit → Act → World → Prop) (S : World → Prop) (kp : Nat → Bool) : Nat → Array Bool → Act → World → Prop
  | 0, listed, a, w => Region.ready .any ops listed = [] ∧ Q .normal a w
  | fuel + 1, listed, a, w => (Region.ready .any ops listed = [] → Q .normal a w) ∧
    ∀ i ∈ Region.ready .any ops listed, wpOp P ops Q i (fun a' w' => (kp i = true → S w') ∧ anyK P ops Q S kp fuel (listed.setIfInBounds i true) a' w') a w
theorem any_of_K : ∀ (fuel : Nat) (listed : Array Bool) (a : Act) (w : World), anyK P ops Q S kp fuel listed a w → wpAny P .any ops Q fuel listed a w
  | 0, _, _, _, h => h
  | fuel + 1, _, _, _, h => ⟨h.1, fun i hi => wpOp_mono (fun a' w' h' => any_of_K fuel _ a' w' h'.2) (h.2 i hi)⟩
/-- Does an operation wait for i? -/
def waitsFor (ops : Array Oper) (j i : Nat) : Bool := ((ops[j]?).map fun o => o.after.any fun e => Region.binds .any e && e.on == i).getD false
/-- Does an operation wait for i, by way of others too? -/
def reach (ops : Array Oper) : Nat → Nat → Nat → Bool
  | 0, j, i => waitsFor ops j i
  | f + 1, j, i => waitsFor ops j i || (List.range ops.size).any fun m => waitsFor ops j m && reach ops f m i
/-- Behind each operation that does not wait for i S is asked. -/
def asksAll (ops : Array Oper) (kp : Nat → Bool) (i : Nat) : Bool := (List.range ops.size).all fun j => j == i || kp j || reach ops 6 j i
/-- What is listed has listed what it waits for. -/
def Closed (ops : Array Oper) (listed : Array Bool) : Prop := ∀ (m : Nat) (om : Oper), ops[m]? = some om → listed.getD m false = true → ∀ e ∈ om.after, Region.binds .any e = true → listed.getD e.on false = true
def closedB (ops : Array Oper) (listed : Array Bool) : Bool := (List.range ops.size).all fun m => !listed.getD m false || ((ops[m]?).map fun o => o.after.all fun e => !Region.binds .any e || listed.getD e.on false).getD true
theorem closed_of {listed : Array Bool} (h : closedB ops listed = true) : Closed ops listed := fun m om hm hl e he hb => by
  unfold closedB at h
  rw [List.all_eq_true] at h
  have h1 := h m (by simp; exact (Array.getElem?_eq_some_iff.1 hm).1)
  rw [hl, hm] at h1
  simp only [Bool.not_true, Bool.false_or, Option.map_some, Option.getD_some, Array.all_eq_true', Bool.or_eq_true, Bool.not_eq_true'] at h1
  rcases h1 e he with h2 | h2
  · rw [hb] at h2; cases h2
  · exact h2
theorem waits_at {j i : Nat} {oj : Oper} (hj : ops[j]? = some oj) (h : waitsFor ops j i = true) : ∃ e ∈ oj.after, Region.binds .any e = true ∧ e.on = i := by
  unfold waitsFor at h
  rw [hj] at h
  simp only [Option.map_some, Option.getD_some, Array.any_eq_true', Bool.and_eq_true, beq_iff_eq] at h
  exact h
theorem reach_listed {i : Nat} {listed : Array Bool} (hcl : Closed ops listed) : ∀ (f j : Nat) (oj : Oper), ops[j]? = some oj → (∀ e ∈ oj.after, Region.binds .any e = true → listed.getD e.on false = true) → reach ops f j i = true → listed.getD i false = true := by
  have direct : ∀ (j : Nat) (oj : Oper), ops[j]? = some oj → (∀ e ∈ oj.after, Region.binds .any e = true → listed.getD e.on false = true) → ∀ m, waitsFor ops j m = true → listed.getD m false = true := fun j oj hj hall m h => by
    obtain ⟨e, he, hb, ho⟩ := waits_at hj h
    exact ho ▸ hall e he hb
  intro f
  induction f with
  | zero => intro j oj hj hall h; exact direct j oj hj hall i h
  | succ f ih =>
    intro j oj hj hall h
    simp only [reach, Bool.or_eq_true, List.any_eq_true, Bool.and_eq_true, List.mem_range] at h
    rcases h with h | ⟨m, hm, h1, h2⟩
    · exact direct j oj hj hall i h
    · have hml := direct j oj hj hall m h1
      exact ih m _ (Array.getElem?_eq_getElem hm) (fun e he hb => hcl m _ (Array.getElem?_eq_getElem hm) hml e he hb) h2
theorem asksAll_at {i : Nat} {listed : Array Bool} (h : asksAll ops kp i = true) (hcl : Closed ops listed) (hun : listed.getD i false ≠ true) (j : Nat) (oj : Oper) (hj : ops[j]? = some oj) (hne : j ≠ i) (hall : ∀ e ∈ oj.after, Region.binds .any e = true → listed.getD e.on false = true) : kp j = true := by
  unfold asksAll at h
  rw [List.all_eq_true] at h
  have h1 := h j (by simp; exact (Array.getElem?_eq_some_iff.1 hj).1)
  simp only [Bool.or_eq_true, beq_iff_eq, hne, false_or] at h1
  rcases h1 with h1 | h1
  · exact h1
  · exact absurd (reach_listed hcl 6 j oj hj hall h1) hun
theorem anyK_first {i : Nat} {oi : Oper} {v : Value} (hi : ops[i]? = some oi) (hsel : ∀ (j : Nat) (o : Oper) cs b, ops[j]? = some o → o.op ≠ .select cs b)
    (hQ : ∀ c a w, Q (.panic c) (a.put oi.dst v) w → Q (.panic c) a w) (hk : asksAll ops kp i = true) :
    ∀ (fuel : Nat) (listed : Array Bool) (a : Act) (w : World), Closed ops listed →
      (∀ j oj, ops[j]? = some oj → j ≠ i → listed.getD j true = false → (∀ e ∈ oj.after, Region.binds .any e = true → e.on ≠ i) → oi.apart ops oj = true) →
      i ∈ Region.ready .any ops listed → YieldsIf P ops S oi v a → S w →
      anyK P ops Q S kp fuel (listed.setIfInBounds i true) (a.put oi.dst v) w → anyK P ops Q S kp (fuel + 1) listed a w := by
  intro fuel
  induction fuel with
  | zero =>
    intro listed a w _ _ hr hy hS H
    refine ⟨fun h => (by rw [h] at hr; cases hr), fun j hj => ?_⟩
    by_cases hji : j = i
    · subst hji; exact hy.wpOp hi hS ⟨fun _ => hS, H⟩
    · have := ready_mono hj hji
      rw [H.1] at this
      cases this
  | succ fuel ih =>
    intro listed a w hcl hfree hr hy hS H
    refine ⟨fun h => (by rw [h] at hr; cases hr), fun j hj => ?_⟩
    by_cases hji : j = i
    · subst hji; exact hy.wpOp hi hS ⟨fun _ => hS, H⟩
    · have h1 := H.2 j (ready_mono hj hji)
      obtain ⟨hjun, oj, hoj, hall⟩ := Go.mem_ready.1 hj
      have hnot : ∀ e ∈ oj.after, Region.binds .any e = true → e.on ≠ i := fun e he hb heq => by
        have h1 := hall e he hb
        have h0 := (Go.mem_ready.1 hr).1
        rw [heq] at h1
        rcases Nat.lt_or_ge i listed.size with h' | h'
        · simp [h'] at h0 h1; rw [h0] at h1; cases h1
        · simp [Array.getElem?_eq_none h'] at h1
      have hun : listed.getD i false ≠ true := by
        have h0 := (Go.mem_ready.1 hr).1
        rcases Nat.lt_or_ge i listed.size with h' | h'
        · simp [h'] at h0 ⊢; exact h0
        · simp [Array.getElem?_eq_none h']
      have hkj := asksAll_at hk hcl hun j oj hoj hji hall
      have hcl' : Closed ops (listed.setIfInBounds j true) := fun m om hm hl e he hb => by
        have key : ∀ q, listed.getD q false = true → (listed.setIfInBounds j true).getD q false = true := fun q hq => by
          rw [Array.getD_eq_getD_getElem?, Array.getElem?_setIfInBounds]
          by_cases e : j = q
          · subst e
            rw [if_pos rfl]
            split
            · rfl
            · rename_i hh; rw [Array.getD_eq_getD_getElem?, Array.getElem?_eq_none (by omega)] at hq; cases hq
          · rw [if_neg e, ← Array.getD_eq_getD_getElem?]; exact hq
        by_cases hjm : j = m
        · subst hjm
          rw [hoj] at hm
          cases hm
          exact key _ (hall e he hb)
        · refine key _ (hcl m om hm ?_ e he hb)
          rwa [Array.getD_eq_getD_getElem?, Array.getElem?_setIfInBounds, if_neg hjm, ← Array.getD_eq_getD_getElem?] at hl
      have h2 := wpOp_putIf hoj (hfree j oj hoj hji hjun hnot) (fun cs b => hsel i oi cs b hi) (fun cs b => hsel j oj cs b hoj) hQ hy h1
      have hfree' : ∀ k ok, ops[k]? = some ok → k ≠ i → (listed.setIfInBounds j true).getD k true = false →
          (∀ e ∈ ok.after, Region.binds .any e = true → e.on ≠ i) → oi.apart ops ok = true := fun k ok hk hki hun hno => by
        refine hfree k ok hk hki ?_ hno
        by_cases hjk : j = k
        · subst hjk; exact hjun
        · rw [getD_set_ne true hjk] at hun; exact hun
      refine wpOp_mono (fun a' w' h3 => ⟨h3.2.1, ih (listed.setIfInBounds j true) a' w' hcl' hfree' (ready_mono hr (Ne.symm hji)) h3.1 (h3.2.1 hkj) ?_⟩) h2
      rw [Array.setIfInBounds_comm _ _ hji]
      exact h3.2.2
/-- The operation i is taken first. -/
theorem K_take {i : Nat} {oi : Oper} {v : Value} {fuel : Nat} {listed : Array Bool} {a : Act} {w : World} (hi : ops[i]? = some oi)
    (hs : Region.noSelect ops = true) (hf : Region.free .any ops listed i = true) (hr : (Region.ready .any ops listed).contains i = true) (hk : asksAll ops kp i = true) (hc : closedB ops listed = true)
    (hw : Region.wanted oi (yielded ops a.tmps) = true) (hy : ∀ w', S w' → (execOp a.eval oi).run P w' = .ok (.value v) w') (hS : S w)
    (h : anyK P ops (onlyN Q) S kp fuel (listed.setIfInBounds i true) (a.put oi.dst v) w) : anyK P ops (onlyN Q) S kp (fuel + 1) listed a w :=
  anyK_first hi (Region.noSelect_spec hs) (fun _ _ _ h => absurd h.1 (by simp)) hk fuel listed a w (closed_of hc) (Region.free_spec hi hf) (by simpa using hr) (.inl ⟨hw, hy⟩) hS h
/-- The operation i comes up alone. -/
theorem K_next {i : Nat} {o : Oper} {fuel : Nat} {listed : Array Bool} {a : Act} {w : World} (hr : Region.ready .any ops listed = [i]) (ho : ops[i]? = some o) (hw : Region.wanted o (yielded ops a.tmps) = true)
    (h : ∀ K : Act → World → Prop, (∀ a' w', (kp i = true → S w') → anyK P ops Q S kp fuel (listed.setIfInBounds i true) a' w' → K a' w') → o.wp P a w K Q) : anyK P ops Q S kp (fuel + 1) listed a w :=
  ⟨fun h0 => (by rw [h0] at hr; cases hr), fun j hj => by
    rw [hr] at hj
    obtain rfl : j = i := by simpa using hj
    unfold wpOp
    rw [ho]
    simp only []
    rw [if_pos hw]
    exact .inl (h _ fun a' w' h1 h2 => ⟨h1, h2⟩)⟩
theorem K_done {listed : Array Bool} {a : Act} {w : World} (hr : Region.ready .any ops listed = []) (h : Q .normal a w) : anyK P ops (onlyN Q) S kp 0 listed a w := ⟨hr, rfl, h⟩
theorem wp_region_K {id : Nat} {a : Act} {w : World} (S : World → Prop) (kp : Nat → Bool) (hm : P.follows .mixedOrders = true) 
    (h : anyK P ops (onlyN Q) S kp ops.size (Array.replicate ops.size false) a w.drew) : (Code.region id ops true).wp P Q a w :=
  wp_mono (wp_region_any hm (any_of_K _ _ _ _ h)) (by rintro e a w ⟨rfl, h⟩; exact h)
/-- A region that draws its order, its end told by a relation of one's own. -/
theorem wp_region_via {id : Nat} {a : Act} {w : World} (S : World → Prop) (kp : Nat → Bool) (R : Act → Act → World → Prop) (hm : P.follows .mixedOrders = true)
    (h : anyK P ops (onlyN fun _ a' w' => R a a' w') S kp ops.size (Array.replicate ops.size false) a w.drew) (hQ : ∀ a' w', R a a' w' → Q .normal a' w') : (Code.region id ops true).wp P Q a w := by
  refine wp_mono (wp_region_any hm (any_of_K _ _ _ _ h)) ?_
  rintro e a' w' ⟨rfl, h⟩
  exact hQ a' w' h
/-- Two operations may come up. -/
theorem K_fork {i j : Nat} {oi oj : Oper} {fuel : Nat} {listed : Array Bool} {a : Act} {w : World} (hr : Region.ready .any ops listed = [i, j])
    (hi : ops[i]? = some oi) (hj : ops[j]? = some oj) (hwi : Region.wanted oi (yielded ops a.tmps) = true) (hwj : Region.wanted oj (yielded ops a.tmps) = true)
    (h1 : ∀ K : Act → World → Prop, (∀ a' w', (kp i = true → S w') → anyK P ops Q S kp fuel (listed.setIfInBounds i true) a' w' → K a' w') → oi.wp P a w K Q)
    (h2 : ∀ K : Act → World → Prop, (∀ a' w', (kp j = true → S w') → anyK P ops Q S kp fuel (listed.setIfInBounds j true) a' w' → K a' w') → oj.wp P a w K Q) : anyK P ops Q S kp (fuel + 1) listed a w :=
  ⟨fun h0 => (by rw [h0] at hr; cases hr), fun q hq => by
    rw [hr] at hq
    have : q = i ∨ q = j := by simpa using hq
    unfold wpOp
    rcases this with rfl | rfl
    · rw [hi]
      simp only []
      rw [if_pos hwi]
      exact .inl (h1 _ fun a' w' x y => ⟨x, y⟩)
    · rw [hj]
      simp only []
      rw [if_pos hwj]
      exact .inl (h2 _ fun a' w' x y => ⟨x, y⟩)⟩
/-- An operation that is not wanted. -/
theorem K_skip {i : Nat} {oi : Oper} {fuel : Nat} {listed : Array Bool} {a : Act} {w : World} (hi : ops[i]? = some oi)
    (hs : Region.noSelect ops = true) (hf : Region.free .any ops listed i = true) (hr : (Region.ready .any ops listed).contains i = true) (hk : asksAll ops kp i = true) (hc : closedB ops listed = true)
    (hw : Region.wanted oi (yielded ops a.tmps) = false) (hS : S w)
    (h : anyK P ops (onlyN Q) S kp fuel (listed.setIfInBounds i true) (a.put oi.dst undef) w) : anyK P ops (onlyN Q) S kp (fuel + 1) listed a w :=
  anyK_first hi (Region.noSelect_spec hs) (fun _ _ _ h => absurd h.1 (by simp)) hk fuel listed a w (closed_of hc) (Region.free_spec hi hf) (by simpa using hr) (.inr ⟨hw, rfl⟩) hS h
end Go.Proofs.YtodkehpldlmgaaaDoor
/- Regions that draw their order, by an invariant over what is listed: each operation is shown once, whatever the order; it may make memory, or give up by a panic. -/
namespace Go.Proofs.YtodkehpldlmgaaaDoor
open Go.RowKit
variable {P : Program}

/-- To the end, or to a panic that one knows. -/
def onlyP (R : Act → World → Prop) (PQ : List PanicEntry → World → Prop) : Exit → Act → World → Prop
  | .normal, a, w => R a w
  | .panic c, _, w => PQ c w
  | _, _, _ => False

theorem put_swap (a : Act) {d1 d2 : Option Tmp} (v1 v2 : Value) (h : d1.isNone = true ∨ d1 ≠ d2) : (a.put d1 v1).put d2 v2 = (a.put d2 v2).put d1 v1 := by
  cases d1 with
  | none => rfl
  | some x =>
    cases d2 with
    | none => rfl
    | some y =>
      have hne : x ≠ y := fun e => by rcases h with h | h; exact absurd h (by simp); exact h (by rw [e])
      show ({ a with tmps := (a.tmps.setIfInBounds x v1).setIfInBounds y v2 } : Act) = { a with tmps := (a.tmps.setIfInBounds y v2).setIfInBounds x v1 }
      rw [Array.setIfInBounds_comm _ _ hne]

/-- The slots as they stand when the operations are listed that l tells, by the values that vs tells. -/
def canonL : List Oper → Nat → (Nat → Bool) → (Nat → Value) → Act → Act
  | [], _, _, _, a => a
  | o :: os, k, l, vs, a => canonL os (k + 1) l vs (if l k then a.put o.dst (vs k) else a)
def upd {α : Type} (f : Nat → α) (i : Nat) (v : α) : Nat → α := fun j => if j = i then v else f j
theorem upd_same {α : Type} (f : Nat → α) (i : Nat) (v : α) : upd f i v i = v := by simp [upd]
theorem upd_other {α : Type} (f : Nat → α) {i j : Nat} (v : α) (h : j ≠ i) : upd f i v j = f j := by simp [upd, h]
/-- No two operations write one slot. -/
def dstsApart : List Oper → Bool
  | [] => true
  | o :: os => (o.dst.isNone || os.all fun p => p.dst != o.dst) && dstsApart os

theorem canonL_put (d : Option Tmp) (v : Value) : ∀ (os : List Oper) (k : Nat) (l : Nat → Bool) (vs : Nat → Value) (a : Act), (d.isNone || os.all fun p => p.dst != d) = true →
    canonL os k l vs (a.put d v) = (canonL os k l vs a).put d v
  | [], _, _, _, _, _ => rfl
  | o :: os, k, l, vs, a, h => by
    have h1 : d.isNone = true ∨ d ≠ o.dst := by
      rcases hd : d.isNone with _ | _
      · right
        rw [hd] at h
        simp only [Bool.false_or, List.all_cons, Bool.and_eq_true, bne_iff_ne] at h
        exact fun e => h.1 e.symm
      · exact .inl rfl
    have h2 : (d.isNone || os.all fun p => p.dst != d) = true := by
      rcases hd : d.isNone with _ | _
      · rw [hd] at h
        simp only [Bool.false_or, List.all_cons, Bool.and_eq_true] at h
        rw [h.2]; rfl
      · rfl
    show canonL os (k + 1) l vs (if l k then (a.put d v).put o.dst (vs k) else a.put d v) = _
    cases hl : l k
    · simp only [Bool.false_eq_true, if_false]
      rw [canonL_put d v os _ l vs a h2]
      simp only [canonL, hl, Bool.false_eq_true, if_false]
    · simp only [if_true]
      rw [put_swap a v (vs k) h1, canonL_put d v os _ l vs _ h2]
      simp only [canonL, hl, if_true]
theorem canonL_congr : ∀ (os : List Oper) (k : Nat) (l l' : Nat → Bool) (vs vs' : Nat → Value) (a : Act), (∀ j, k ≤ j → l j = l' j ∧ (l j = true → vs j = vs' j)) → canonL os k l vs a = canonL os k l' vs' a
  | [], _, _, _, _, _, _, _ => rfl
  | o :: os, k, l, l', vs, vs', a, h => by
    have h0 := h k (Nat.le_refl _)
    show canonL os (k + 1) l vs (if l k then _ else a) = canonL os (k + 1) l' vs' (if l' k then _ else a)
    rw [canonL_congr os (k + 1) l l' vs vs' _ (fun j hj => h j (by omega)), ← h0.1]
    cases hl : l k
    · rfl
    · rw [h0.2 hl]
theorem canonL_step : ∀ (os : List Oper) (k i : Nat) (o : Oper) (l : Nat → Bool) (vs : Nat → Value) (v : Value) (a : Act), dstsApart os = true → os[i]? = some o → l (k + i) = false →
    canonL os k (upd l (k + i) true) (upd vs (k + i) v) a = (canonL os k l vs a).put o.dst v
  | [], _, _, _, _, _, _, _, _, h, _ => by simp at h
  | p :: os, k, 0, o, l, vs, v, a, hd, h, hl => by
    obtain rfl : p = o := by simpa using h
    simp only [dstsApart, Bool.and_eq_true] at hd
    simp only [Nat.add_zero] at hl ⊢
    simp only [canonL, upd_same, if_true, hl, Bool.false_eq_true, if_false]
    rw [canonL_congr os (k + 1) (upd l k true) l (upd vs k v) vs _ (fun j hj => ⟨upd_other _ _ (by omega), fun _ => upd_other _ _ (by omega)⟩), canonL_put p.dst v os _ l vs a hd.1]
  | p :: os, k, i + 1, o, l, vs, v, a, hd, h, hl => by
    simp only [dstsApart, Bool.and_eq_true] at hd
    have e : k + (i + 1) = k + 1 + i := by omega
    rw [e] at hl ⊢
    simp only [canonL]
    rw [upd_other l true (show k ≠ k + 1 + i by omega), upd_other vs v (show k ≠ k + 1 + i by omega)]
    exact canonL_step os (k + 1) i o l vs v _ hd.2 (by simpa using h) hl
theorem put_defers (a : Act) (d : Option Tmp) (v : Value) : (a.put d v).defers = a.defers := by cases d <;> rfl
theorem put_size (a : Act) (d : Option Tmp) (v : Value) : (a.put d v).tmps.size = a.tmps.size := by cases d <;> simp [Act.put]
theorem canonL_defers : ∀ (os : List Oper) (k : Nat) (l : Nat → Bool) (vs : Nat → Value) (a : Act), (canonL os k l vs a).defers = a.defers
  | [], _, _, _, _ => rfl
  | o :: os, k, l, vs, a => by
    simp only [canonL]
    rw [canonL_defers os]
    split
    · exact put_defers _ _ _
    · rfl
theorem get_put (a : Act) (d t : Nat) (v : Value) (h : d < a.tmps.size) : (a.put (some d) v).tmps.getD t undef = if t = d then v else a.tmps.getD t undef := by
  show (a.tmps.setIfInBounds d v).getD t undef = _
  rw [Array.getD_eq_getD_getElem?, Array.getElem?_setIfInBounds]
  by_cases e : d = t
  · subst e; simp [h]
  · rw [if_neg e, if_neg (Ne.symm e), Array.getD_eq_getD_getElem?]
theorem canonL_old (t : Nat) : ∀ (os : List Oper) (k : Nat) (l : Nat → Bool) (vs : Nat → Value) (a : Act), (os.all fun p => p.dst != some t) = true → (canonL os k l vs a).eval (.tmp t) = a.eval (.tmp t)
  | [], _, _, _, _, _ => rfl
  | o :: os, k, l, vs, a, h => by
    simp only [List.all_cons, Bool.and_eq_true, bne_iff_ne] at h
    simp only [canonL]
    rw [canonL_old t os _ _ _ _ h.2]
    split
    · cases hd : o.dst with
      | none => rfl
      | some d =>
        have hne : d ≠ t := fun e => h.1 (by rw [hd, e])
        show (a.tmps.setIfInBounds d (vs k)).getD t undef = a.tmps.getD t undef
        rw [Array.getD_eq_getD_getElem?, Array.getElem?_setIfInBounds, if_neg hne, ← Array.getD_eq_getD_getElem?]
    · rfl
theorem canonL_new (t : Nat) : ∀ (os : List Oper) (k i : Nat) (o : Oper) (l : Nat → Bool) (vs : Nat → Value) (a : Act), dstsApart os = true → os[i]? = some o → o.dst = some t → l (k + i) = true → t < a.tmps.size →
    (canonL os k l vs a).eval (.tmp t) = vs (k + i)
  | [], _, _, _, _, _, _, _, h, _, _, _ => by simp at h
  | p :: os, k, 0, o, l, vs, a, hd, h, ht, hl, hs => by
    obtain rfl : p = o := by simpa using h
    simp only [dstsApart, Bool.and_eq_true] at hd
    simp only [Nat.add_zero] at hl ⊢
    simp only [canonL, hl, if_true]
    have h1 : (os.all fun q => q.dst != some t) = true := by
      have := hd.1
      rw [ht] at this
      simpa using this
    rw [canonL_old t os _ _ _ _ h1, ht]
    show (a.put (some t) (vs k)).tmps.getD t undef = _
    rw [get_put a t t _ hs, if_pos rfl]
  | p :: os, k, i + 1, o, l, vs, a, hd, h, ht, hl, hs => by
    simp only [dstsApart, Bool.and_eq_true] at hd
    have e : k + (i + 1) = k + 1 + i := by omega
    rw [e] at hl ⊢
    simp only [canonL]
    exact canonL_new t os (k + 1) i o l vs _ hd.2 (by simpa using h) ht hl (by split; rw [put_size]; exact hs; exact hs)

/-- For which operations an operation waits. -/
def depsOf (o : Oper) : List Nat := (o.after.toList.filter fun e => Region.binds .any e).map (·.on)
def topoL (ops : Array Oper) : Bool := (List.range ops.size).all fun i => ((ops[i]?).map fun o => (depsOf o).all fun j => decide (j < i)).getD true
def plainL (ops : Array Oper) : Bool := ops.toList.all fun o => o.guard.isNone
/-- What is shown of each operation. -/
def Shown (P : Program) (l0 : List Oper) (a : Act) (Φ : (Nat → Bool) → (Nat → Value) → World → Prop) (PQ : List PanicEntry → World → Prop) (i : Nat) (o : Oper) : Prop :=
  ∀ (l : Nat → Bool) (vs : Nat → Value) (X : World) (A : Act), A = canonL l0 0 l vs a → Φ l vs X → l i = false → (∀ j, (depsOf o).contains j = true → l j = true) → (∀ k j, reach l0.toArray 6 k j = true → l k = true → l j = true) →
    o.wp P A X (fun a' X' => ∃ v, a' = A.put o.dst v ∧ Φ (upd l i true) (upd vs i v) X') (onlyP (fun _ _ => False) PQ)
def ShownAll (P : Program) (l0 : List Oper) (a : Act) (Φ : (Nat → Bool) → (Nat → Value) → World → Prop) (PQ : List PanicEntry → World → Prop) : Nat → List Oper → Prop
  | _, [] => True
  | k, o :: os => Shown P l0 a Φ PQ k o ∧ ShownAll P l0 a Φ PQ (k + 1) os
theorem ShownAll.at {l0 : List Oper} {a : Act} {Φ : (Nat → Bool) → (Nat → Value) → World → Prop} {PQ : List PanicEntry → World → Prop} : ∀ (os : List Oper) (k : Nat), ShownAll P l0 a Φ PQ k os → ∀ (i : Nat) (o : Oper), os[i]? = some o → Shown P l0 a Φ PQ (k + i) o
  | [], _, _, _, _, h => by simp at h
  | p :: os, k, hs, 0, o, h => by
    obtain rfl : p = o := by simpa using h
    exact hs.1
  | p :: os, k, hs, i + 1, o, h => by
    have := ShownAll.at os (k + 1) hs.2 i o (by simpa using h)
    rwa [show k + 1 + i = k + (i + 1) by omega] at this
theorem wp_both {o : Oper} {a : Act} {w : World} {K K' : Act → World → Prop} {PQ : List PanicEntry → World → Prop} {Q' : Exit → Act → World → Prop} {R : Act → World → Prop} (h : o.wp P a w K (onlyP R PQ)) (hk : ∀ a w, K a w → K' a w) (hq : ∀ c w, PQ c w → Q' (.panic c) a w) : o.wp P a w K' Q' := by
  unfold Oper.wp at *
  generalize (execOp a.eval o).run P w = r at *
  cases r with
  | ok x w' =>
    cases x <;> simp only [Oper.upon] at h ⊢
    case value => exact hk _ _ h
    case skip => exact hk _ _ h
    case defer => exact hk _ _ h
    case enter =>
      refine h.mono fun e w'' he => ?_
      cases e with
      | returned v => exact hk _ _ he
      | panicked c => exact hq _ _ he
      | outgrown => obtain ⟨_, _, hf⟩ := he; exact hf.elim
    case row => exact h.mono fun v w'' he => hk _ _ he
  | halt x w' =>
    cases x <;> simp only [Oper.upon] at h ⊢
    case panic => exact hq _ _ h
theorem closed_step {ops : Array Oper} {listed : Array Bool} {i : Nat} {o : Oper} (hcl : Closed ops listed) (ho : ops[i]? = some o) (hall : ∀ e ∈ o.after, Region.binds .any e = true → listed.getD e.on false = true) : Closed ops (listed.setIfInBounds i true) := fun m om hm hl e he hb => by
  have key : ∀ q, listed.getD q false = true → (listed.setIfInBounds i true).getD q false = true := fun q hq => getD_set_true hq
  by_cases him : i = m
  · subst him
    rw [ho] at hm
    cases hm
    exact key _ (hall e he hb)
  · refine key _ (hcl m om hm ?_ e he hb)
    rwa [getD_set_ne false him] at hl
theorem reach_of {ops : Array Oper} {listed : Array Bool} (hcl : Closed ops listed) {k j : Nat} (h : reach ops 6 k j = true) (hk : listed.getD k false = true) : listed.getD j false = true := by
  cases ho : ops[k]? with
  | none =>
    exfalso
    have hw : ∀ m, waitsFor ops k m = false := fun m => by unfold waitsFor; rw [ho]; rfl
    simp [reach, hw] at h
  | some o => exact reach_listed hcl 6 k o ho (fun e he hb => hcl k o ho hk e he hb) h
/-- What is listed, as a function. -/
def lis (listed : Array Bool) : Nat → Bool := fun i => listed.getD i false
theorem lis_set {listed : Array Bool} {i : Nat} (h : i < listed.size) : lis (listed.setIfInBounds i true) = upd (lis listed) i true := by
  funext j
  unfold lis upd
  rw [Array.getD_eq_getD_getElem?, Array.getElem?_setIfInBounds]
  by_cases e : i = j
  · subst e; simp [h]
  · rw [if_neg e, if_neg (Ne.symm e), ← Array.getD_eq_getD_getElem?]
theorem wp_region_inv {id : Nat} {ops : Array Oper} {a0 : Act} {W0 : World} {Q : Exit → Act → World → Prop} (Φ : (Nat → Bool) → (Nat → Value) → World → Prop) (PQ : List PanicEntry → World → Prop) (hm : P.follows .mixedOrders = true)
    (ht : topoL ops = true) (hp : plainL ops = true) (hd : dstsApart ops.toList = true)
    (h0 : Φ (fun _ => false) (fun _ => undef) W0.drew)
    (hop : ShownAll P ops.toList a0 Φ PQ 0 ops.toList)
    (hend : ∀ l vs X, (∀ i, i < ops.size → l i = true) → Φ l vs X → Q .normal (canonL ops.toList 0 (fun _ => true) vs a0) X)
    (hpan : ∀ c a X, a.defers = a0.defers → PQ c X → Q (.panic c) a X) :
    (Code.region id ops true).wp P Q a0 W0 := by
  refine wp_region_any hm ?_
  have hsz0 : ops.toList.length = ops.size := by simp
  have main : ∀ (fuel : Nat) (listed : Array Bool) (vs : Nat → Value) (w : World), listed.size = ops.size → Closed ops listed → Φ (lis listed) vs w → ((List.range ops.size).filter fun i => !lis listed i).length ≤ fuel → wpAny P .any ops Q fuel listed (canonL ops.toList 0 (lis listed) vs a0) w := by
    have last : ∀ (listed : Array Bool) (vs : Nat → Value) (w : World), listed.size = ops.size → Φ (lis listed) vs w → Region.ready .any ops listed = [] → Q .normal (canonL ops.toList 0 (lis listed) vs a0) w := fun listed vs w hsz h hrd => by
      have hall : ∀ i, i < ops.size → lis listed i = true := by
        intro i
        induction i using Nat.strongRecOn with
        | ind i ih =>
          intro hi
          cases hv : lis listed i with
          | true => rfl
          | false =>
            have hin : i ∈ Region.ready .any ops listed := by
              rw [mem_ready]
              refine ⟨?_, ops[i], by simp [hi], fun e he hb => ?_⟩
              · unfold lis at hv
                rw [Array.getD_eq_getD_getElem?, Array.getElem?_eq_getElem (by omega)] at hv ⊢; exact hv
              · unfold topoL at ht
                rw [List.all_eq_true] at ht
                have := ht i (by simpa using hi)
                rw [Array.getElem?_eq_getElem hi] at this
                simp only [Option.map_some, Option.getD_some, List.all_eq_true, decide_eq_true_eq] at this
                have := this e.on (by unfold depsOf; rw [List.mem_map]; exact ⟨e, by rw [List.mem_filter]; exact ⟨by simpa using he, hb⟩, rfl⟩)
                exact ih e.on this (by omega)
            rw [hrd] at hin; cases hin
      have e : canonL ops.toList 0 (lis listed) vs a0 = canonL ops.toList 0 (fun _ => true) vs a0 := by
        have key : ∀ (os : List Oper) (k : Nat) (a : Act), (∀ j, k ≤ j → j < k + os.length → lis listed j = true) → canonL os k (lis listed) vs a = canonL os k (fun _ => true) vs a := by
          intro os
          induction os with
          | nil => intro k a _; rfl
          | cons o os ih =>
            intro k a h
            simp only [canonL]
            rw [h k (Nat.le_refl _) (by simp), ih (k + 1) _ (fun j hj hlt => h j (by omega) (by simp; omega))]
            simp
        exact key _ _ _ (fun j _ hj => hall j (by simpa using hj))
      rw [e]
      exact hend _ vs w hall h
    intro fuel
    induction fuel with
    | zero =>
      intro listed vs w hsz hcl h hc
      have hrd : Region.ready .any ops listed = [] := by
        rw [List.eq_nil_iff_forall_not_mem]
        intro i hi
        obtain ⟨h2, o, ho, _⟩ := mem_ready.1 hi
        have h1 := (Array.getElem?_eq_some_iff.1 ho).1
        have hin : i ∈ (List.range ops.size).filter fun i => !lis listed i := by
          rw [List.mem_filter]
          refine ⟨by simpa using h1, ?_⟩
          unfold lis
          rw [Array.getD_eq_getD_getElem?, Array.getElem?_eq_getElem (by omega)] at h2 ⊢
          simp at h2 ⊢; exact h2
        have : 0 < ((List.range ops.size).filter fun i => !lis listed i).length := List.length_pos_of_mem hin
        omega
      exact ⟨hrd, last listed vs w hsz h hrd⟩
    | succ fuel ih =>
      intro listed vs w hsz hcl h hc
      refine ⟨last listed vs w hsz h, fun i hi => ?_⟩
      obtain ⟨h2, o, ho, hdir⟩ := mem_ready.1 hi
      have h1 := (Array.getElem?_eq_some_iff.1 ho).1
      have hil : i < listed.size := by omega
      have hun : lis listed i = false := by
        unfold lis
        rw [Array.getD_eq_getD_getElem?, Array.getElem?_eq_getElem hil] at h2 ⊢; exact h2
      have hcount : ((List.range ops.size).filter fun q => !lis (listed.setIfInBounds i true) q).length ≤ fuel := by
        have e : ((List.range ops.size).filter fun q => !lis (listed.setIfInBounds i true) q) = ((List.range ops.size).filter fun q => !lis listed q).filter (fun q => q != i) := by
          rw [List.filter_filter, lis_set hil]
          apply List.filter_congr
          intro q _
          by_cases e : q = i
          · subst e; simp [upd]
          · simp [upd, e]
        rw [e]
        have hmem : i ∈ (List.range ops.size).filter fun q => !lis listed q := by
          rw [List.mem_filter]; exact ⟨by simpa using h1, by simp [hun]⟩
        have : (((List.range ops.size).filter fun q => !lis listed q).filter (fun q => q != i)).length < ((List.range ops.size).filter fun q => !lis listed q).length :=
          List.length_filter_lt_length_iff_exists.2 ⟨i, hmem, by simp⟩
        omega
      have hol : ops.toList[i]? = some o := by simpa using ho
      have hguard : o.guard = none := by
        unfold plainL at hp
        rw [List.all_eq_true] at hp
        have := hp o (List.mem_of_getElem? hol)
        simpa using this
      unfold wpOp
      rw [ho]
      simp only []
      rw [if_pos (by simp [Region.wanted, hguard])]
      left
      have hs := ShownAll.at _ _ hop i o hol
      rw [Nat.zero_add] at hs
      refine wp_both (hs (lis listed) vs w _ rfl h hun (fun j hj => ?_) (fun k j hr hk => by rw [Array.toArray_toList] at hr; exact reach_of hcl hr hk)) ?_ (fun c X => hpan c _ X (canonL_defers _ _ _ _ _))
      · unfold depsOf at hj
        rw [List.contains_iff_mem, List.mem_map] at hj
        obtain ⟨e, he, rfl⟩ := hj
        rw [List.mem_filter] at he
        exact hdir e (by simpa using he.1) he.2
      · rintro a' w' ⟨v, rfl, hΦ⟩
        have := canonL_step ops.toList 0 i o (lis listed) vs v a0 hd hol (by rw [Nat.zero_add]; exact hun)
        rw [Nat.zero_add] at this
        rw [← this, ← lis_set hil]
        exact ih _ _ _ (by simpa using hsz) (closed_step hcl ho hdir) (by rw [lis_set hil]; exact hΦ) hcount
  have e0 : lis (Array.replicate ops.size false) = fun _ => false := by
    funext j
    unfold lis
    rw [Array.getD_eq_getD_getElem?, Array.getElem?_replicate]
    split <;> rfl
  have e1 : a0 = canonL ops.toList 0 (lis (Array.replicate ops.size false)) (fun _ => undef) a0 := by
    rw [e0]
    have key : ∀ (os : List Oper) (k : Nat) (a : Act), a = canonL os k (fun _ => false) (fun _ => undef) a := by
      intro os
      induction os with
      | nil => intro k a; rfl
      | cons o os ih => intro k a; exact ih (k + 1) a
    exact key _ _ _
  have hc0 : Closed ops (Array.replicate ops.size false) := by
    intro m om _ hl
    have h9 : lis (Array.replicate ops.size false) m = false := by rw [e0]
    have h8 : lis (Array.replicate ops.size false) m = true := hl
    rw [h9] at h8
    cases h8
  have := main ops.size (Array.replicate ops.size false) (fun _ => undef) W0.drew (by simp) hc0 (by rw [e0]; exact h0) (Nat.le_trans (List.length_filter_le _ _) (by simp))
  rw [← e1] at this
  exact this
/-- An operation that yields a value. -/
theorem show_value {o : Oper} {A : Act} {X X' : World} {v : Value} {Ψ : Value → World → Prop} {PQ : List PanicEntry → World → Prop} (hrun : (execOp A.eval o).run P X = .ok (.value v) X') (h : Ψ v X') :
    o.wp P A X (fun a' X' => ∃ v, a' = A.put o.dst v ∧ Ψ v X') (onlyP (fun _ _ => False) PQ) := by
  unfold Oper.wp
  rw [hrun]
  exact ⟨v, rfl, h⟩
/-- .. one that yields none. -/
theorem show_skip {o : Oper} {A : Act} {X X' : World} {Ψ : Value → World → Prop} {PQ : List PanicEntry → World → Prop} (hrun : (execOp A.eval o).run P X = .ok .skip X') (h : Ψ undef X') :
    o.wp P A X (fun a' X' => ∃ v, a' = A.put o.dst v ∧ Ψ v X') (onlyP (fun _ _ => False) PQ) := by
  unfold Oper.wp
  rw [hrun]
  exact ⟨undef, rfl, h⟩
/-- .. one that calls a function. -/
theorem show_call {o : Oper} {A : Act} {X : World} {f : FuncId} {args : Array Value} {Ψ : Value → World → Prop} {PQ : List PanicEntry → World → Prop} (hrun : (execOp A.eval o).run P X = .ok (.enter f args) X)
    {R : Ending → World → Prop} (hc : Calls P f args X R) (h : ∀ e X', R e X' → (∃ v, e = .returned v ∧ Ψ v X') ∨ (∃ c, e = .panicked c ∧ PQ c X')) :
    o.wp P A X (fun a' X' => ∃ v, a' = A.put o.dst v ∧ Ψ v X') (onlyP (fun _ _ => False) PQ) := by
  unfold Oper.wp
  rw [hrun]
  refine hc.mono fun e X' hr => ?_
  rcases h e X' hr with ⟨v, rfl, hv⟩ | ⟨c, rfl, hv⟩
  · exact ⟨v, rfl, hv⟩
  · exact hv
/-- What is known of values: those that val tells. -/
def Vals (val : Nat → Option Value) (l : Nat → Bool) (vs : Nat → Value) : Prop := ∀ i v, l i = true → val i = some v → vs i = v
theorem Vals.none (val : Nat → Option Value) (vs : Nat → Value) : Vals val (fun _ => false) vs := fun _ _ h => by cases h
theorem Vals.upd {val : Nat → Option Value} {l : Nat → Bool} {vs : Nat → Value} (h : Vals val l vs) {i : Nat} {v : Value} (hv : ∀ v', val i = some v' → v = v') : Vals val (Go.Proofs.YtodkehpldlmgaaaDoor.upd l i true) (Go.Proofs.YtodkehpldlmgaaaDoor.upd vs i v) := fun j v' hl hj => by
  by_cases e : j = i
  · subst e; rw [upd_same]; exact hv v' hj
  · rw [upd_other _ _ e] at hl ⊢; exact h j v' hl hj
theorem eval_old {os : List Oper} {l : Nat → Bool} {vs : Nat → Value} {a A : Act} (hA : A = canonL os 0 l vs a) (t : Nat) (h : (os.all fun p => p.dst != some t) = true) {v : Value} (ha : a.eval (.tmp t) = v) : A.eval (.tmp t) = v := by
  rw [hA, canonL_old t os 0 l vs a h, ha]
theorem eval_new {os : List Oper} {l : Nat → Bool} {vs : Nat → Value} {a A : Act} (hA : A = canonL os 0 l vs a) (t i : Nat) (hd : dstsApart os = true) (ho : ((os[i]?).map fun o => o.dst == some t) = some true) (hs : (decide (t < a.tmps.size)) = true) (hl : l i = true) {v : Value} (hv : vs i = v) : A.eval (.tmp t) = v := by
  cases hx : os[i]? with
  | none => rw [hx] at ho; cases ho
  | some o =>
    rw [hx] at ho
    have := canonL_new t os 0 i o l vs a hd hx (by simpa using ho) (by rw [Nat.zero_add]; exact hl) (of_decide_eq_true hs)
    rw [Nat.zero_add] at this
    rw [hA, this, hv]
theorem notYet {l : Nat → Bool} {ops : Array Oper} {k i : Nat} (hcl : ∀ k j, reach ops 6 k j = true → l k = true → l j = true) (hr : reach ops 6 k i = true) (hl : l i = false) : l k = false := by
  cases h : l k with
  | false => rfl
  | true => rw [hcl k i hr h] at hl; cases hl
/-- The world ahead of the last store, and behind it. -/
def Pre1 (k : Nat) (S T : World → Prop) (l : Nat → Bool) (X : World) : Prop := (l k = false → S X) ∧ (l k = true → T X)
theorem Pre1.start {k : Nat} {S T : World → Prop} {X : World} (h : S X) : Pre1 k S T (fun _ => false) X := ⟨fun _ => h, fun h => by cases h⟩
theorem Pre1.keep {k i : Nat} {S T : World → Prop} {l : Nat → Bool} {X' : World} (hk : l k = false) (hi : k ≠ i) (h : S X') : Pre1 k S T (upd l i true) X' :=
  ⟨fun _ => h, fun h => by rw [upd_other _ _ hi, hk] at h; cases h⟩
theorem Pre1.last {k : Nat} {S T : World → Prop} {l : Nat → Bool} {X' : World} (h : T X') : Pre1 k S T (upd l k true) X' :=
  ⟨(fun h => by rw [upd_same] at h; cases h), fun _ => h⟩
/-- The world ahead of two stores, between them, and behind both. -/
def Pre2 (j k : Nat) (S T U : World → Prop) (l : Nat → Bool) (X : World) : Prop := (l j = false → S X) ∧ (l j = true → l k = false → T X) ∧ (l k = true → U X)
theorem Pre2.start {j k : Nat} {S T U : World → Prop} {X : World} (h : S X) : Pre2 j k S T U (fun _ => false) X := ⟨fun _ => h, (fun h => by cases h), fun h => by cases h⟩
theorem Pre2.keep {j k i : Nat} {S T U : World → Prop} {l : Nat → Bool} {X' : World} (hj : l j = false) (hk : l k = false) (h1 : j ≠ i) (h2 : k ≠ i) (h : S X') : Pre2 j k S T U (upd l i true) X' :=
  ⟨fun _ => h, (fun h => by rw [upd_other _ _ h1, hj] at h; cases h), fun h => by rw [upd_other _ _ h2, hk] at h; cases h⟩
theorem Pre2.keepMid {j k i : Nat} {S T U : World → Prop} {l : Nat → Bool} {X' : World} (hj : l j = true) (hk : l k = false) (h1 : j ≠ i) (h2 : k ≠ i) (h : T X') : Pre2 j k S T U (upd l i true) X' :=
  ⟨(fun h => by rw [upd_other _ _ h1, hj] at h; cases h), fun _ _ => h, (fun h => by rw [upd_other _ _ h2, hk] at h; cases h)⟩
theorem Pre2.mid {j k : Nat} {S T U : World → Prop} {l : Nat → Bool} {X' : World} (hk : l k = false) (h1 : k ≠ j) (h : T X') : Pre2 j k S T U (upd l j true) X' :=
  ⟨(fun h => by rw [upd_same] at h; cases h), fun _ _ => h, (fun h => by rw [upd_other _ _ h1, hk] at h; cases h)⟩
theorem Pre2.last {j k : Nat} {S T U : World → Prop} {l : Nat → Bool} {X' : World} (hj : l j = true) (h : U X') : Pre2 j k S T U (upd l k true) X' :=
  ⟨(fun h => by unfold upd at h; split at h <;> simp_all), (fun _ h => by rw [upd_same] at h; cases h), fun _ => h⟩
theorem nY {l : Nat → Bool} {ops : Array Oper} {i : Nat} (k : Nat) (hcl : ∀ k j, reach ops 6 k j = true → l k = true → l j = true) (hl : l i = false) (hr : reach ops 6 k i = true := by kernel_rfl) : l k = false := notYet hcl hr hl
theorem eO {os : List Oper} {l : Nat → Bool} {vs : Nat → Value} {a A : Act} (hA : A = canonL os 0 l vs a) (t : Nat) {v : Value} (ha : a.eval (.tmp t) = v) (h : (os.all fun p => p.dst != some t) = true := by kernel_rfl) : A.eval (.tmp t) = v := eval_old hA t h ha
theorem eN {os : List Oper} {l : Nat → Bool} {vs : Nat → Value} {a A : Act} {D : Nat → Bool} {T : Nat → Option Value} (hA : A = canonL os 0 l vs a) (t i : Nat) (hd : ∀ j, D j = true → l j = true) (hV : Vals T l vs) {v : Value} (hT : T i = some v) (h1 : dstsApart os = true := by kernel_rfl) (h2 : ((os[i]?).map fun o => o.dst == some t) = some true := by kernel_rfl)
    (h3 : (decide (t < a.tmps.size)) = true := by kernel_rfl) (h4 : D i = true := by kernel_rfl) : A.eval (.tmp t) = v := eval_new hA t i h1 h2 h3 (hd i h4) (hV i v (hd i h4) hT)
end Go.Proofs.YtodkehpldlmgaaaDoor
/- What is known, instructions, steps: their cells, and loads and stores of them. -/
namespace Go.Proofs.YtodkehpldlmgaaaDoor
open Go.RowKit

/-- An instruction. -/
structure Ins where
  op : Int
  dst : Int
  src : Int
  off : Int
  imm : Nat
def Ins.cells (i : Ins) : List Value := [.int .i64 i.op, .int .i64 i.dst, .int .i64 i.src, .int .i64 i.off, .int .u32 i.imm]
def Rg.cells (r : Rg) : List Value := [.bool r.set, .int .u32 (r.least : Int), .int .u32 (r.great : Int)]
/-- What is known ahead of an instruction. -/
structure Kn where
  come : Bool
  r : Nat → Rg
def Kn.cells (k : Kn) : List Value := .bool k.come :: (List.range 10).flatMap fun n => (k.r n).cells
def stCells (i : Ins) (c : Int) (k : Kn) : List Value := i.cells ++ .int .i64 c :: k.cells
/-- The same as arrays; not to be laid open by a walk. -/
def Kn.a (k : Kn) : Array Value := k.cells.toArray
def stA (i : Ins) (c : Int) (k : Kn) : Array Value := (stCells i c k).toArray
def Rg.a (r : Rg) : Array Value := r.cells.toArray
def Ins.a (i : Ins) : Array Value := i.cells.toArray
theorem Rg.v_a (r : Rg) : r.v = .agg r.a := rfl
theorem Kn.a_size (k : Kn) : k.a.size = 31 := rfl
theorem stA_size (i : Ins) (c : Int) (k : Kn) : (stA i c k).size = 37 := rfl
theorem Rg.a_size (r : Rg) : r.a.size = 3 := rfl
theorem Ins.a_size (i : Ins) : i.a.size = 5 := rfl
def Kn.set (k : Kn) (n : Nat) (r : Rg) : Kn := ⟨k.come, fun m => if m = n then r else k.r m⟩
/-- Nothing is come to. -/
def noK : Kn := ⟨false, fun _ => noR⟩
theorem Rg.a_one (r : Rg) : r.a.all (·.oneCell') = true := by simp [Rg.a, Rg.cells, Value.oneCell']
theorem Kn.a_one (k : Kn) : k.a.all (·.oneCell') = true := by
  refine all_oneCell_toArray fun v hv => ?_
  unfold Kn.cells at hv
  rcases List.mem_cons.1 hv with rfl | hv
  · rfl
  · obtain ⟨n, _, hn⟩ := List.mem_flatMap.1 hv
    simp only [Rg.cells, List.mem_cons, List.not_mem_nil, or_false] at hn
    rcases hn with rfl | rfl | rfl <;> rfl
theorem stA_one (i : Ins) (c : Int) (k : Kn) : (stA i c k).all (·.oneCell') = true := by
  refine all_oneCell_toArray fun v hv => ?_
  unfold stCells at hv
  rcases List.mem_append.1 hv with h | h
  · simp only [Ins.cells, List.mem_cons, List.not_mem_nil, or_false] at h
    rcases h with rfl | rfl | rfl | rfl | rfl <;> rfl
  · rcases List.mem_cons.1 h with rfl | h
    · rfl
    · have := (Array.all_eq_true_iff_forall_mem.1 (Kn.a_one k)) v (by unfold Kn.a; simpa using h)
      exact this
theorem Ins.a_one (i : Ins) : i.a.all (·.oneCell') = true := by simp [Ins.a, Ins.cells, Value.oneCell']
/-- A register's range within what is known. -/
theorem kn_at (k : Kn) (n j : Nat) (hn : n < 10) (hj : j < 3) : k.cells[1 + 3 * n + j]? = (k.r n).cells[j]? := by
  match n, hn, j, hj with
  | 0, _, 0, _ | 0, _, 1, _ | 0, _, 2, _ | 1, _, 0, _ | 1, _, 1, _ | 1, _, 2, _ | 2, _, 0, _ | 2, _, 1, _ | 2, _, 2, _ | 3, _, 0, _ | 3, _, 1, _ | 3, _, 2, _ | 4, _, 0, _ | 4, _, 1, _ | 4, _, 2, _
  | 5, _, 0, _ | 5, _, 1, _ | 5, _, 2, _ | 6, _, 0, _ | 6, _, 1, _ | 6, _, 2, _ | 7, _, 0, _ | 7, _, 1, _ | 7, _, 2, _ | 8, _, 0, _ | 8, _, 1, _ | 8, _, 2, _ | 9, _, 0, _ | 9, _, 1, _ | 9, _, 2, _ => rfl
theorem st_kn (i : Ins) (c : Int) (k : Kn) (j : Nat) : (stCells i c k)[6 + j]? = k.cells[j]? := by
  unfold stCells
  rw [show i.cells ++ Value.int .i64 c :: k.cells = (i.cells ++ [Value.int .i64 c]) ++ k.cells by simp, List.getElem?_append_right (by simp [Ins.cells])]
  simp [Ins.cells]
/-- Cells that lie in a block from a place on. -/
theorem has_range {X : World} {b t : Nat} {cs : Array Value} (h : Has X b cs t) (o : Nat) (l : List Value) (hl : ∀ j, j < l.length → cs[o + j]? = l[j]?) : X.rangeAt b o l := fun j v hv => by
  have hj := (List.getElem?_eq_some_iff.1 hv).1
  rw [h.cell, hl j hj, hv]
theorem st_range {X : World} {b t : Nat} {i : Ins} {c : Int} {k : Kn} (h : Has X b (stA i c k) t) : X.rangeAt b 6 k.cells :=
  has_range h 6 _ fun j _ => by unfold stA; rw [List.getElem?_toArray, st_kn]
theorem st_ins {X : World} {b t : Nat} {i : Ins} {c : Int} {k : Kn} (h : Has X b (stA i c k) t) : X.rangeAt b 0 i.cells :=
  has_range h 0 _ fun j hj => by
    unfold stA stCells
    rw [List.getElem?_toArray, Nat.zero_add, List.getElem?_append_left hj]
theorem st_reg {X : World} {b t : Nat} {i : Ins} {c : Int} {k : Kn} (h : Has X b (stA i c k) t) (n : Nat) (hn : n < 10) : X.rangeAt b (7 + n * 3) (k.r n).cells :=
  has_range h _ _ fun j hj => by
    unfold stA
    rw [List.getElem?_toArray, show 7 + n * 3 + j = 6 + (1 + 3 * n + j) by omega, st_kn, kn_at k n j hn hj]
theorem kn_reg {X : World} {b t : Nat} {k : Kn} (h : Has X b k.a t) (n : Nat) (hn : n < 10) : X.rangeAt b (1 + n * 3) (k.r n).cells :=
  has_range h _ _ fun j hj => by
    unfold Kn.a
    rw [List.getElem?_toArray, show 1 + n * 3 + j = 1 + 3 * n + j by omega, kn_at k n j hn hj]
theorem has_whole {X : World} {b t : Nat} {l : List Value} (h : Has X b l.toArray t) : X.rangeAt b 0 l := has_range h 0 _ fun j _ => by simp
/-- Whole rows, of the types of this layer. -/
def rowOk (P : Program) (ty n : Nat) : Bool := ((P.underlying ty).map fun d => d.isRow).getD false && ((P.info? ty).map (·.size) == some n)
theorem ld_row {ty : Nat} {X : World} {b o : Nat} {l : List Value} (h : X.rangeAt b o l) (hk : rowOk Tryd.prog ty l.length = true) : (loadVar ty ⟨b, o, none⟩).run Tryd.prog X = .ok (.agg l.toArray) X := by
  unfold rowOk at hk
  cases hu : Tryd.prog.underlying ty with
  | none => rw [hu] at hk; simp at hk
  | some d =>
    rw [hu] at hk
    simp only [Bool.and_eq_true, beq_iff_eq, Option.map_some, Option.getD_some] at hk
    exact run_loadVar_mid X b o ty l d h hu hk.1 hk.2
theorem run_ld {o : Oper} {ρ : Operand → Value} {X : World} {v : Value} (ty : Nat) (x : Operand) (ho : o.op = .load ty x) (a : Addr) (hx : ρ x = .pointer (some a)) (hl : (loadVar ty a).run Tryd.prog X = .ok v X) : (execOp ρ o).run Tryd.prog X = .ok (.value v) X := by
  unfold execOp
  simp only [ho, hx, Instr.loadAt, Instr.sureAddr, Sem.run_bind, Sem.run_pure, Result.andThen_ok, hl]
theorem run_st_row {o : Oper} {ρ : Operand → Value} {X : World} (ty : Nat) (x y : Operand) (ho : o.op = .store ty x y) (g : Nat) (cs z : Array Value) (t : Nat) (hx : ρ x = .pointer (some ⟨g, 0, none⟩)) (hy : ρ y = .agg cs) (hz : Has X g z t) (hi : (Tryd.prog.info? ty).map (·.size) = some cs.size) (hs : z.size = cs.size) (h1 : cs.all (·.oneCell') = true) :
    (execOp ρ o).run Tryd.prog X = .ok .skip (X.setRow g cs) := by
  unfold execOp
  simp only [ho, hx, hy, Instr.storeAt, Instr.sureAddr, Sem.run_bind, Sem.run_pure, Result.andThen_ok, run_storeVar_row (P := Tryd.prog) X g t ty z cs hz hi hs h1]
theorem set_cells (k : Kn) (n : Nat) (r : Rg) (hn : n < 10) : ((k.cells.set (1 + n * 3) (.bool r.set)).set (1 + n * 3 + 1) (.int .u32 (r.least : Int))).set (1 + n * 3 + 1 + 1) (.int .u32 (r.great : Int)) = (k.set n r).cells := by
  match n, hn with
  | 0, _ | 1, _ | 2, _ | 3, _ | 4, _ | 5, _ | 6, _ | 7, _ | 8, _ | 9, _ => rfl
/-- A range is stored into what is known. -/
theorem setReg {X : World} {b t : Nat} {k : Kn} (h : Has X b k.a t) (n : Nat) (hn : n < 10) (r : Rg) : Has (X.setCells b (1 + n * 3) r.cells) b (k.set n r).a t ∧ Ex b X (X.setCells b (1 + n * 3) r.cells) := by
  constructor
  · have h1 := ((h.set (1 + n * 3) (.bool r.set)).set (1 + n * 3 + 1) (.int .u32 (r.least : Int))).set (1 + n * 3 + 1 + 1) (.int .u32 (r.great : Int))
    have e : ((k.a.setIfInBounds (1 + n * 3) (.bool r.set)).setIfInBounds (1 + n * 3 + 1) (.int .u32 (r.least : Int))).setIfInBounds (1 + n * 3 + 1 + 1) (.int .u32 (r.great : Int)) = (k.set n r).a := by
      unfold Kn.a
      rw [← set_cells k n r hn]
      generalize k.cells = l
      generalize 1 + n * 3 = p
      simp
    rw [e] at h1
    exact h1
  · exact ((Ex.set b X (1 + n * 3) (.bool r.set)).trans (Ex.set b _ (1 + n * 3 + 1) (.int .u32 (r.least : Int)))).trans (Ex.set b _ (1 + n * 3 + 1 + 1) (.int .u32 (r.great : Int)))
theorem run_st_reg {o : Oper} {ρ : Operand → Value} {X : World} (x y : Operand) (ho : o.op = .store 40 x y) (b n t : Nat) (k : Kn) (r : Rg) (hx : ρ x = .pointer (some ⟨b, 1 + n * 3, none⟩)) (hy : ρ y = r.v) (h : Has X b k.a t) (hn : n < 10) :
    (execOp ρ o).run Tryd.prog X = .ok .skip (X.setCells b (1 + n * 3) r.cells) := by
  unfold execOp
  rw [Rg.v_a] at hy
  simp only [ho, hx, hy, Instr.storeAt, Instr.sureAddr, Sem.run_bind, Sem.run_pure, Result.andThen_ok, run_storeVar_mid (P := Tryd.prog) X b (1 + n * 3) 40 r.a (fun j hj => ⟨by rw [h.cell]; rw [Rg.a_size] at hj; rw [Array.getElem?_eq_getElem (by rw [Kn.a_size]; omega)]; rfl, h.free _⟩) (by rw [Rg.a_size]; kernel_rfl) (Rg.a_one r)]
  rfl
end Go.Proofs.YtodkehpldlmgaaaDoor
/- Regions by an invariant: variables that are made in any order, and their stores. -/
namespace Go.Proofs.YtodkehpldlmgaaaDoor
open Go.RowKit

/-- A variable is made. -/
def NewAt (B ty : Nat) (z : Array Value) (v : Value) (X : World) : Prop := ∃ b, v = .pointer (some ⟨b, 0, none⟩) ∧ B ≤ b ∧ Has X b z ty
theorem NewAt.grow {B ty : Nat} {z : Array Value} {v : Value} {X X' : World} (h : NewAt B ty z v X) (k : Below X.heap.size X X') : NewAt B ty z v X' := by
  obtain ⟨b, h1, h2, h3⟩ := h
  exact ⟨b, h1, h2, h3.below k h3.lt⟩
/-- Two variables are made, in any order. -/
structure Two (B ty : Nat) (z : Array Value) (W : World) (i j : Nat) (l : Nat → Bool) (vs : Nat → Value) (X : World) : Prop where
  below : Below B W X
  size : B ≤ X.heap.size
  fst : l i = true → NewAt B ty z (vs i) X
  snd : l j = true → NewAt B ty z (vs j) X
  apart : l i = true → l j = true → vs i ≠ vs j
theorem Two.start {B ty : Nat} {z : Array Value} {W : World} {i j : Nat} {vs : Nat → Value} {X : World} (h : Below B W X) (hB : B ≤ W.heap.size) : Two B ty z W i j (fun _ => false) vs X :=
  ⟨h, Nat.le_trans hB h.size, (fun h => by cases h), (fun h => by cases h), (fun h => by cases h)⟩
theorem Two.grow {B ty : Nat} {z : Array Value} {W : World} {i j : Nat} {l : Nat → Bool} {vs : Nat → Value} {X X' : World} (h : Two B ty z W i j l vs X) (k : Below X.heap.size X X') {q : Nat} (hi : i ≠ q) (hj : j ≠ q) (v : Value) : Two B ty z W i j (upd l q true) (upd vs q v) X' := by
  refine ⟨h.below.trans (k.mono h.size), Nat.le_trans h.size k.size, fun h1 => ?_, fun h1 => ?_, fun h1 h2 => ?_⟩
  · rw [upd_other _ _ hi] at h1 ⊢; exact (h.fst h1).grow k
  · rw [upd_other _ _ hj] at h1 ⊢; exact (h.snd h1).grow k
  · rw [upd_other _ _ hi] at h1 ⊢; rw [upd_other _ _ hj] at h2 ⊢; exact h.apart h1 h2
theorem newAt_ne {B ty : Nat} {z : Array Value} {v : Value} {X : World} (h : NewAt B ty z v X) : v ≠ .pointer (some ⟨X.heap.size, 0, none⟩) := by
  obtain ⟨b, rfl, _, h3⟩ := h
  intro e
  have := h3.lt
  simp at e
theorem Two.mkFst {B ty : Nat} {z : Array Value} {W : World} {i j : Nat} {l : Nat → Bool} {vs : Nat → Value} {X : World} (h : Two B ty z W i j l vs X) (hij : j ≠ i) : Two B ty z W i j (upd l i true) (upd vs i (.pointer (some ⟨X.heap.size, 0, none⟩))) (X.alloc (.cells z ty)) := by
  have k : Below X.heap.size X (X.alloc (.cells z ty)) := (Below.refl _ _).alloc (Nat.le_refl _) _
  refine ⟨h.below.trans (k.mono h.size), Nat.le_trans h.size k.size, fun _ => ?_, fun h1 => ?_, fun _ h2 => ?_⟩
  · rw [upd_same]; exact ⟨_, rfl, h.size, has_new _ _ _ _ rfl⟩
  · rw [upd_other _ _ hij] at h1 ⊢; exact (h.snd h1).grow k
  · rw [upd_other _ _ hij] at h2 ⊢; rw [upd_same]; exact (newAt_ne (h.snd h2)).symm
theorem Two.mkSnd {B ty : Nat} {z : Array Value} {W : World} {i j : Nat} {l : Nat → Bool} {vs : Nat → Value} {X : World} (h : Two B ty z W i j l vs X) (hij : i ≠ j) : Two B ty z W i j (upd l j true) (upd vs j (.pointer (some ⟨X.heap.size, 0, none⟩))) (X.alloc (.cells z ty)) := by
  have k : Below X.heap.size X (X.alloc (.cells z ty)) := (Below.refl _ _).alloc (Nat.le_refl _) _
  refine ⟨h.below.trans (k.mono h.size), Nat.le_trans h.size k.size, fun h1 => ?_, fun _ => ?_, fun h1 _ => ?_⟩
  · rw [upd_other _ _ hij] at h1 ⊢; exact (h.fst h1).grow k
  · rw [upd_same]; exact ⟨_, rfl, h.size, has_new _ _ _ _ rfl⟩
  · rw [upd_other _ _ hij] at h1 ⊢; rw [upd_same]; exact newAt_ne (h.fst h1)
/-- Both are made, the first one holds x, the second one y. -/
def Both (B ty : Nat) (x y : Array Value) (W : World) (u v : Value) (X : World) : Prop :=
  ∃ b c, u = .pointer (some ⟨b, 0, none⟩) ∧ v = .pointer (some ⟨c, 0, none⟩) ∧ B ≤ b ∧ B ≤ c ∧ b ≠ c ∧ Has X b x ty ∧ Has X c y ty ∧ Below B W X
theorem Two.both {B ty : Nat} {z : Array Value} {W : World} {i j : Nat} {l : Nat → Bool} {vs : Nat → Value} {X : World} (h : Two B ty z W i j l vs X) (hi : l i = true) (hj : l j = true) : Both B ty z z W (vs i) (vs j) X := by
  obtain ⟨b, b1, b2, b3⟩ := h.fst hi
  obtain ⟨c, c1, c2, c3⟩ := h.snd hj
  refine ⟨b, c, b1, c1, b2, c2, fun e => ?_, b3, c3, h.below⟩
  exact h.apart hi hj (by rw [b1, c1, e])
theorem setRow_ex (X : World) (g : Nat) (cs : Array Value) : Ex g X (X.setRow g cs) := ⟨rfl, rfl, rfl, by simp, fun i _ hb => setRow_other _ _ _ _ hb⟩
theorem setRow_has {X : World} {g t : Nat} {z : Array Value} (h : Has X g z t) (cs : Array Value) : Has (X.setRow g cs) g cs t := setRow_heap _ _ _ _ _ _ h
theorem setRow_below {B : Nat} {W X : World} (h : Below B W X) {g : Nat} (hg : B ≤ g) (cs : Array Value) : Below B W (X.setRow g cs) :=
  h.trans ⟨rfl, rfl, rfl, by simp, fun j hj => setRow_other _ _ _ _ (by omega)⟩
theorem Both.setFst {B ty : Nat} {x y x' : Array Value} {W : World} {u v : Value} {X : World} (h : Both B ty x y W u v X) : ∃ b, u = .pointer (some ⟨b, 0, none⟩) ∧ Has X b x ty ∧ Both B ty x' y W u v (X.setRow b x') := by
  obtain ⟨b, c, h1, h2, h3, h4, h5, h6, h7, h8⟩ := h
  exact ⟨b, h1, h6, b, c, h1, h2, h3, h4, h5, setRow_has h6 _, h7.ex (setRow_ex _ _ _) (Ne.symm h5), setRow_below h8 h3 _⟩
theorem Both.setSnd {B ty : Nat} {x y y' : Array Value} {W : World} {u v : Value} {X : World} (h : Both B ty x y W u v X) : ∃ c, v = .pointer (some ⟨c, 0, none⟩) ∧ Has X c y ty ∧ Both B ty x y' W u v (X.setRow c y') := by
  obtain ⟨b, c, h1, h2, h3, h4, h5, h6, h7, h8⟩ := h
  exact ⟨c, h2, h7, b, c, h1, h2, h3, h4, h5, h6.ex (setRow_ex _ _ _) h5, setRow_has h7 _, setRow_below h8 h4 _⟩
/-- The world ahead of two stores (by what is listed, and its values), between them, and behind both. -/
def Ph2 (j k : Nat) (S : (Nat → Bool) → (Nat → Value) → World → Prop) (T U : (Nat → Value) → World → Prop) (l : Nat → Bool) (vs : Nat → Value) (X : World) : Prop := (l j = false → S l vs X) ∧ (l j = true → l k = false → T vs X) ∧ (l k = true → U vs X)
theorem Ph2.start {j k : Nat} {S : (Nat → Bool) → (Nat → Value) → World → Prop} {T U : (Nat → Value) → World → Prop} {vs : Nat → Value} {X : World} (h : S (fun _ => false) vs X) : Ph2 j k S T U (fun _ => false) vs X := ⟨fun _ => h, (fun h => by cases h), (fun h => by cases h)⟩
theorem Ph2.keep {j k i : Nat} {S : (Nat → Bool) → (Nat → Value) → World → Prop} {T U : (Nat → Value) → World → Prop} {l : Nat → Bool} {vs : Nat → Value} {v : Value} {X' : World} (hj : l j = false) (hk : l k = false) (h1 : j ≠ i) (h2 : k ≠ i) (h : S (upd l i true) (upd vs i v) X') : Ph2 j k S T U (upd l i true) (upd vs i v) X' :=
  ⟨fun _ => h, (fun h => by rw [upd_other _ _ h1, hj] at h; cases h), (fun h => by rw [upd_other _ _ h2, hk] at h; cases h)⟩
theorem Ph2.mid {j k : Nat} {S : (Nat → Bool) → (Nat → Value) → World → Prop} {T U : (Nat → Value) → World → Prop} {l : Nat → Bool} {vs : Nat → Value} {v : Value} {X' : World} (hk : l k = false) (h1 : k ≠ j) (h : T (upd vs j v) X') : Ph2 j k S T U (upd l j true) (upd vs j v) X' :=
  ⟨(fun h => by rw [upd_same] at h; cases h), fun _ _ => h, (fun h => by rw [upd_other _ _ h1, hk] at h; cases h)⟩
theorem Ph2.last {j k : Nat} {S : (Nat → Bool) → (Nat → Value) → World → Prop} {T U : (Nat → Value) → World → Prop} {l : Nat → Bool} {vs : Nat → Value} {v : Value} {X' : World} (hj : l j = true) (h : U (upd vs k v) X') : Ph2 j k S T U (upd l k true) (upd vs k v) X' :=
  ⟨(fun h => by unfold upd at h; split at h <;> simp_all), (fun _ h => by rw [upd_same] at h; cases h), fun _ => h⟩
/-- The world ahead of one store (by what is listed, and its values), and behind it. -/
def Ph1 (k : Nat) (S : (Nat → Bool) → (Nat → Value) → World → Prop) (T : (Nat → Value) → World → Prop) (l : Nat → Bool) (vs : Nat → Value) (X : World) : Prop := (l k = false → S l vs X) ∧ (l k = true → T vs X)
theorem Ph1.start {k : Nat} {S : (Nat → Bool) → (Nat → Value) → World → Prop} {T : (Nat → Value) → World → Prop} {vs : Nat → Value} {X : World} (h : S (fun _ => false) vs X) : Ph1 k S T (fun _ => false) vs X := ⟨fun _ => h, (fun h => by cases h)⟩
theorem Ph1.keep {k i : Nat} {S : (Nat → Bool) → (Nat → Value) → World → Prop} {T : (Nat → Value) → World → Prop} {l : Nat → Bool} {vs : Nat → Value} {v : Value} {X' : World} (hk : l k = false) (h1 : k ≠ i) (h : S (upd l i true) (upd vs i v) X') : Ph1 k S T (upd l i true) (upd vs i v) X' :=
  ⟨fun _ => h, (fun h => by rw [upd_other _ _ h1, hk] at h; cases h)⟩
theorem Ph1.keepT {k i : Nat} {S : (Nat → Bool) → (Nat → Value) → World → Prop} {T : (Nat → Value) → World → Prop} {l : Nat → Bool} {vs : Nat → Value} {v : Value} {X' : World} (hk : l k = true) (h1 : k ≠ i) (h : T (upd vs i v) X') : Ph1 k S T (upd l i true) (upd vs i v) X' :=
  ⟨(fun h => by rw [upd_other _ _ h1, hk] at h; cases h), fun _ => h⟩
theorem Ph1.last {k : Nat} {S : (Nat → Bool) → (Nat → Value) → World → Prop} {T : (Nat → Value) → World → Prop} {l : Nat → Bool} {vs : Nat → Value} {v : Value} {X' : World} (h : T (upd vs k v) X') : Ph1 k S T (upd l k true) (upd vs k v) X' :=
  ⟨(fun h => by rw [upd_same] at h; cases h), fun _ => h⟩
/-- One variable is made, and holds x. -/
def Held (B ty : Nat) (x : Array Value) (W : World) (u : Value) (X : World) : Prop := ∃ b, u = .pointer (some ⟨b, 0, none⟩) ∧ B ≤ b ∧ Has X b x ty ∧ Below B W X
theorem Two.held {B ty : Nat} {z : Array Value} {W : World} {i j : Nat} {l : Nat → Bool} {vs : Nat → Value} {X : World} (h : Two B ty z W i j l vs X) (hi : l i = true) (x : Array Value) : ∃ b, vs i = .pointer (some ⟨b, 0, none⟩) ∧ Has X b z ty ∧ Held B ty x W (vs i) (X.setRow b x) := by
  obtain ⟨b, b1, b2, b3⟩ := h.fst hi
  exact ⟨b, b1, b3, b, b1, b2, setRow_has b3 _, setRow_below h.below b2 _⟩
end Go.Proofs.YtodkehpldlmgaaaDoor
/- What a step needs to be known. -/
namespace Go.Proofs.YtodkehpldlmgaaaDoor
open Go.RowKit

/-- What an instruction is given up by. -/
inductive Wrong where
  | unset
  | zero
  | beyond
deriving DecidableEq
def Wrong.entry : Wrong → List PanicEntry
  | .unset => [{ v := .iface 92 (.agg #[]), recovered := false }]
  | .zero => [{ v := .iface 93 (.agg #[]), recovered := false }]
  | .beyond => [{ v := .iface 94 (.agg #[]), recovered := false }]
theorem reg_ne {r : Rg} (h : r ≠ noR) : ((r.set == false) && ((r.least : Int) == 0) && ((r.great : Int) == 0)) = false := by
  obtain ⟨s, l, g⟩ := r
  rcases s with _ | _
  · by_cases h1 : l = 0
    · by_cases h2 : g = 0
      · subst h1 h2; exact absurd rfl h
      · have : ((g : Int) == 0) = false := by simp; omega
        simp [this]
    · have : ((l : Int) == 0) = false := by simp; omega
      simp [this]
  · simp

theorem need_regs {w : World} {i : Ins} {c : Int} {k : Kn} {n : Nat} (hn : n < 10) (o : Obj) :
    ((w.alloc (.cells (stA i c k) 82)).alloc o).cell? ⟨w.heap.size, 7 + n * 3, none⟩ = some (.bool (k.r n).set) ∧ ((w.alloc (.cells (stA i c k) 82)).alloc o).cell? ⟨w.heap.size, 7 + n * 3 + 1, none⟩ = some (.int .u32 ((k.r n).least : Int)) ∧ ((w.alloc (.cells (stA i c k) 82)).alloc o).cell? ⟨w.heap.size, 7 + n * 3 + 2, none⟩ = some (.int .u32 ((k.r n).great : Int)) := by
  have hst : Has ((w.alloc (.cells (stA i c k) 82)).alloc o) w.heap.size (stA i c k) 82 := has_old (has_new _ _ _ _ rfl)
  have hr := st_reg hst n hn
  exact ⟨hr 0 _ rfl, hr 1 _ rfl, hr 2 _ rfl⟩
/-- The test of a register that is known, or not. -/
def isNo (r : Rg) : Bool := decide (r = noR)
theorem isNo_eq (r : Rg) : (r.set == false && ((r.least : Int) == 0 && (r.great : Int) == 0)) = isNo r := by
  obtain ⟨s, l, g⟩ := r
  unfold isNo noR
  rw [Bool.eq_iff_iff]
  simp
set_option maxRecDepth 10000 in
set_option maxHeartbeats 1000000 in
theorem need_ok (i : Ins) (c : Int) (k : Kn) (n : Nat) (w : World) (hn : n < 10) (hs : k.r n ≠ noR) :
    Calls Tryd.prog 78 #[.agg (stA i c k), .int .i64 (n : Int)] w fun e w' => e = .returned (k.r n).v ∧ Below w.heap.size w w' := by
  obtain ⟨c0, c1, c2⟩ := need_regs (w := w) (i := i) (c := c) (k := k) hn (.cells #[.bool false, .int .u32 0, .int .u32 0] 40)
  have hn' : (n : Int) < 10 := by omega
  clear hn
  generalize k.r n = r at *
  generalize stA i c k = cs at *
  obtain ⟨rs, rl, rg⟩ := r
  simp only at c0 c1 c2
  go_enter Tryd.func78, Tryd.ntmps78
  go_wp2_with fail
  clear c0 c1 c2
  refine named (p := fun X => Code.wp _ _ _ _ X) ?_
  intro W0 hW0
  have h4 : Has W0 (w.heap.size + 1) #[.bool false, .int .u32 0, .int .u32 0] 40 := by rw [hW0]; exact has_old (has_new _ _ _ _ (by simp))
  have h5 : Has W0 (w.heap.size + 2) #[.bool rs, .int .u32 (rl : Int), .int .u32 (rg : Int)] 40 := by rw [hW0]; exact has_new _ _ _ _ (by simp)
  have hB0 : Below w.heap.size w W0 := by rw [hW0]; exact (((Below.refl _ _).alloc (Nat.le_refl _) _).alloc (by simp) _).alloc (by simp; omega) _
  clear hW0
  have HQ : Hid ((⟨rs, rl, rg⟩ : Rg) ≠ noR) := hs
  clear hs
  refine wp_region_inv (Φ := fun l vs X => Vals (fun q => match q with | 0 => some (.agg #[.bool rs, .int .u32 (rl : Int), .int .u32 (rg : Int)]) | 1 => some (noR.v) | 2 => some (.bool false) | _ => none) l vs ∧ Below W0.heap.size W0 X) (PQ := fun _ _ => False)
    (by kernel_rfl) (by kernel_rfl) (by kernel_rfl) (by kernel_rfl) ⟨Vals.none _ _, ((Below.refl _ _).drew)⟩ ?hop ?hend (fun _ _ _ _ h => h.elim)
  case hop =>
    refine ⟨?_, ?_, ?_, trivial⟩
    · intro l vs X A hA ⟨hV, hS⟩ hl hd hcl
      have hX := hS
      have hB := hX
      have a5 := eO hA 5 rfl
      refine show_value (v := .agg #[.bool rs, .int .u32 (rl : Int), .int .u32 (rg : Int)]) (X' := X) (run_ld 40 _ rfl _ a5 (ld_row (l := (⟨rs, rl, rg⟩ : Rg).cells) (has_whole (h5.below hB h5.lt)) (by kernel_rfl))) ⟨hV.upd (fun _ h => Option.some.inj h), (hX)⟩
    · intro l vs X A hA ⟨hV, hS⟩ hl hd hcl
      have hX := hS
      have hB := hX
      have aF0 : A.eval (.func 43) = .func (.func 43) #[] #[] := rfl
      refine show_call (f := 43) (args := #[]) ?_ (nothing_any X) ?_
      · generalize A.eval = ρ at *
        clear hA hl hd hcl hV hS
        go_simp
      · rintro e X' ⟨rfl, hB1⟩
        exact .inl ⟨_, rfl, hV.upd (fun _ h => Option.some.inj h), (hX.trans (hB1.mono hX.size))⟩
    · intro l vs X A hA ⟨hV, hS⟩ hl hd hcl
      have hX := hS
      have hB := hX
      have a11 := eN hA 11 0 hd hV rfl
      have a12 := eN hA 12 1 hd hV rfl
      refine show_value (v := .bool false) (X' := X) ?_ ⟨hV.upd (fun _ h => Option.some.inj h), (hX)⟩
      generalize A.eval = ρ at *
      clear hA hl hd hcl hV hS
      go_simp
      intro e1 e2 e3
      have q1 : noR.set = false := rfl
      have q2 : noR.least = 0 := rfl
      have q3 : noR.great = 0 := rfl
      have e2' : rl = 0 := by omega
      have e3' : rg = 0 := by omega
      exact HQ.out (by rw [e1, e2', e3']; rfl)
  case hend =>
    intro l vs X hl ⟨hV, hS⟩
    have hX := hS
    have v0 := hV 0 _ (hl 0 (by decide)) rfl
    have v1 := hV 1 _ (hl 1 (by decide)) rfl
    have v2 := hV 2 _ (hl 2 (by decide)) rfl
    clear hV hS hl
    simp only [canonL, if_true, v0, v1, v2]
    clear v0 v1 v2
    go_simp
    have c0 := (h5.below hX h5.lt).cell 0
    have c1 := (h5.below hX h5.lt).cell 1
    have c2 := (h5.below hX h5.lt).cell 2
    have d0 := (h4.below hX h4.lt).cell 0
    have d1 := (h4.below hX h4.lt).cell 1
    have d2 := (h4.below hX h4.lt).cell 2
    have e0 := (h4.below hX h4.lt).free 0
    have e1 := (h4.below hX h4.lt).free 1
    have e2 := (h4.below hX h4.lt).free 2
    have hz := hX.size
    go_wp2_with fail
    refine bodyPost_ret (v := .agg #[.bool rs, .int .u32 (rl : Int), .int .u32 (rg : Int)]) (by simp [results, Tryd.results78, go_sem, d0, d1, d2]) rfl ⟨rfl, (((hB0.trans (hX.mono hB0.size)).setCell (by simp <;> omega) _).setCell (by simp <;> omega) _).setCell (by simp <;> omega) _⟩
set_option maxRecDepth 10000 in
set_option maxHeartbeats 1000000 in
theorem need_no (i : Ins) (c : Int) (k : Kn) (n : Nat) (w : World) (hn : n < 10) (hs : k.r n = noR) :
    Calls Tryd.prog 78 #[.agg (stA i c k), .int .i64 (n : Int)] w fun e w' => e = .panicked Wrong.unset.entry ∧ Below w.heap.size w w' := by
  obtain ⟨c0, c1, c2⟩ := need_regs (w := w) (i := i) (c := c) (k := k) hn (.cells #[.bool false, .int .u32 0, .int .u32 0] 40)
  have hn' : (n : Int) < 10 := by omega
  clear hn
  rw [hs] at c0 c1 c2
  clear hs
  generalize stA i c k = cs at *
  obtain ⟨rs, hrs⟩ : ∃ b, b = false := ⟨_, rfl⟩
  obtain ⟨rl, hrl⟩ : ∃ b : Nat, b = 0 := ⟨_, rfl⟩
  obtain ⟨rg, hrg⟩ : ∃ b : Nat, b = 0 := ⟨_, rfl⟩
  have q1 : noR.set = rs := hrs.symm
  have q2 : noR.least = rl := hrl.symm
  have q3 : noR.great = rg := hrg.symm
  rw [q1] at c0
  rw [q2] at c1
  rw [q3] at c2
  have HQ : Hid ((⟨rs, rl, rg⟩ : Rg) = noR) := by show _ = _; rw [hrs, hrl, hrg]; rfl
  clear q1 q2 q3 hrs hrl hrg
  go_enter Tryd.func78, Tryd.ntmps78
  go_wp2_with fail
  clear c0 c1 c2
  refine named (p := fun X => Code.wp _ _ _ _ X) ?_
  intro W0 hW0
  have h4 : Has W0 (w.heap.size + 1) #[.bool false, .int .u32 0, .int .u32 0] 40 := by rw [hW0]; exact has_old (has_new _ _ _ _ (by simp))
  have h5 : Has W0 (w.heap.size + 2) #[.bool rs, .int .u32 (rl : Int), .int .u32 (rg : Int)] 40 := by rw [hW0]; exact has_new _ _ _ _ (by simp)
  have hB0 : Below w.heap.size w W0 := by rw [hW0]; exact (((Below.refl _ _).alloc (Nat.le_refl _) _).alloc (by simp) _).alloc (by simp; omega) _
  clear hW0
  refine wp_region_inv (Φ := fun l vs X => Vals (fun q => match q with | 0 => some (.agg #[.bool rs, .int .u32 (rl : Int), .int .u32 (rg : Int)]) | 1 => some (noR.v) | 2 => some (.bool true) | _ => none) l vs ∧ Below W0.heap.size W0 X) (PQ := fun _ _ => False)
    (by kernel_rfl) (by kernel_rfl) (by kernel_rfl) (by kernel_rfl) ⟨Vals.none _ _, ((Below.refl _ _).drew)⟩ ?hop ?hend (fun _ _ _ _ h => h.elim)
  case hop =>
    refine ⟨?_, ?_, ?_, trivial⟩
    · intro l vs X A hA ⟨hV, hS⟩ hl hd hcl
      have hX := hS
      have hB := hX
      have a5 := eO hA 5 rfl
      refine show_value (v := .agg #[.bool rs, .int .u32 (rl : Int), .int .u32 (rg : Int)]) (X' := X) (run_ld 40 _ rfl _ a5 (ld_row (l := (⟨rs, rl, rg⟩ : Rg).cells) (has_whole (h5.below hB h5.lt)) (by kernel_rfl))) ⟨hV.upd (fun _ h => Option.some.inj h), (hX)⟩
    · intro l vs X A hA ⟨hV, hS⟩ hl hd hcl
      have hX := hS
      have hB := hX
      have aF0 : A.eval (.func 43) = .func (.func 43) #[] #[] := rfl
      refine show_call (f := 43) (args := #[]) ?_ (nothing_any X) ?_
      · generalize A.eval = ρ at *
        clear hA hl hd hcl hV hS
        go_simp
      · rintro e X' ⟨rfl, hB1⟩
        exact .inl ⟨_, rfl, hV.upd (fun _ h => Option.some.inj h), (hX.trans (hB1.mono hX.size))⟩
    · intro l vs X A hA ⟨hV, hS⟩ hl hd hcl
      have hX := hS
      have hB := hX
      have a11 := eN hA 11 0 hd hV rfl
      have a12 := eN hA 12 1 hd hV rfl
      refine show_value (v := .bool true) (X' := X) ?_ ⟨hV.upd (fun _ h => Option.some.inj h), (hX)⟩
      generalize A.eval = ρ at *
      clear hA hl hd hcl hV hS
      go_simp
      have e1 := congrArg Rg.set HQ.out
      have e2 := congrArg Rg.least HQ.out
      have e3 := congrArg Rg.great HQ.out
      simp only at e1 e2 e3
      rw [if_pos e1, if_pos (by rw [e2]), if_pos (by rw [e3])]
  case hend =>
    intro l vs X hl ⟨hV, hS⟩
    have hX := hS
    have v0 := hV 0 _ (hl 0 (by decide)) rfl
    have v1 := hV 1 _ (hl 1 (by decide)) rfl
    have v2 := hV 2 _ (hl 2 (by decide)) rfl
    clear hV hS hl
    simp only [canonL, if_true, v0, v1, v2]
    clear v0 v1 v2
    go_simp
    have c0 := (h5.below hX h5.lt).cell 0
    have c1 := (h5.below hX h5.lt).cell 1
    have c2 := (h5.below hX h5.lt).cell 2
    have d0 := (h4.below hX h4.lt).cell 0
    have d1 := (h4.below hX h4.lt).cell 1
    have d2 := (h4.below hX h4.lt).cell 2
    have e0 := (h4.below hX h4.lt).free 0
    have e1 := (h4.below hX h4.lt).free 1
    have e2 := (h4.below hX h4.lt).free 2
    have hz := hX.size
    clear c0 c1 c2 d0 d1 d2 e0 e1 e2
    go_wp2_with fail
    exact ⟨rfl, rfl, hB0.trans (hX.mono hB0.size)⟩
end Go.Proofs.YtodkehpldlmgaaaDoor
/- The step's parts: what is known of D, of S, of Imm, of 2 to the Imm. -/
namespace Go.Proofs.YtodkehpldlmgaaaDoor
open Go.RowKit

/-- The world of a step that is boxed, with a result's range. -/
theorem step_world (i : Ins) (c : Int) (k : Kn) (w : World) : Has ((w.alloc (.cells (stA i c k) 82)).alloc (.cells #[.bool false, .int .u32 0, .int .u32 0] 40)) w.heap.size (stA i c k) 82 ∧
    Has ((w.alloc (.cells (stA i c k) 82)).alloc (.cells #[.bool false, .int .u32 0, .int .u32 0] 40)) (w.heap.size + 1) #[.bool false, .int .u32 0, .int .u32 0] 40 ∧
    Below w.heap.size w ((w.alloc (.cells (stA i c k) 82)).alloc (.cells #[.bool false, .int .u32 0, .int .u32 0] 40)) :=
  ⟨has_old (has_new _ _ _ _ rfl), has_new _ _ _ _ (by simp), ((Below.refl _ _).alloc (Nat.le_refl _) _).alloc (by simp) _⟩
set_option maxRecDepth 10000 in
set_option maxHeartbeats 1000000 in
theorem dst_ok (i : Ins) (c : Int) (k : Kn) (d : Nat) (w : World) (hd : i.dst = (d : Int)) (hn : d < 10) (hs : k.r d ≠ noR) :
    Calls Tryd.prog 80 #[.agg (stA i c k)] w fun e w' => e = .returned (k.r d).v ∧ Below w.heap.size w w' := by
  obtain ⟨hst, hr, hB⟩ := step_world i c k w
  have c1 := hst.cell 1
  rw [show (stA i c k)[1]? = some (.int .i64 (d : Int)) from (by rw [← hd]; rfl)] at c1
  have hq : ∀ X, _ := fun X => need_ok i c k d X hn hs
  have hz : (stA i c k).size = 37 := rfl
  clear hd hn hs
  generalize k.r d = r at *
  generalize stA i c k = cs at *
  have q1 : (Tryd.prog.info? 82).map (·.size) = some cs.size := by rw [hz]; kernel_rfl
  have HQ : Hid ((Tryd.prog.info? 82).map (·.size) = some cs.size) := q1
  clear q1 hz
  go_enter Tryd.func80, Tryd.ntmps80
  go_wp2_with (first | (refine wpList_load_row rfl 82 _ rfl w.heap.size rfl 82 cs (0, 0) _ hst Tryd.underlying82 rfl HQ.out ?_) | (go_at_call 78; refine (hq _).mono ?_; rintro e W1 ⟨rfl, hB1⟩; clear c1 hst hq; have d0 := (hr.below hB1 hr.lt).cell 0; have d1 := (hr.below hB1 hr.lt).cell 1; have d2 := (hr.below hB1 hr.lt).cell 2; have e0 := (hr.below hB1 hr.lt).free 0; have e1 := (hr.below hB1 hr.lt).free 1; have e2 := (hr.below hB1 hr.lt).free 2; have hz := hB1.size; simp at hz))
  refine bodyPost_ret (v := r.v) (by simp [results, Tryd.results80, go_sem, d0, d1, d2]) rfl ⟨rfl, (((hB.trans (hB1.mono hB.size)).setCell (by simp <;> omega) _).setCell (by simp <;> omega) _).setCell (by simp <;> omega) _⟩
set_option maxRecDepth 10000 in
set_option maxHeartbeats 1000000 in
theorem dst_no (i : Ins) (c : Int) (k : Kn) (d : Nat) (w : World) (hd : i.dst = (d : Int)) (hn : d < 10) (hs : k.r d = noR) :
    Calls Tryd.prog 80 #[.agg (stA i c k)] w fun e w' => e = .panicked Wrong.unset.entry ∧ Below w.heap.size w w' := by
  obtain ⟨hst, hr, hB⟩ := step_world i c k w
  have c1 := hst.cell 1
  rw [show (stA i c k)[1]? = some (.int .i64 (d : Int)) from (by rw [← hd]; rfl)] at c1
  have hq : ∀ X, _ := fun X => need_no i c k d X hn hs
  have hz : (stA i c k).size = 37 := rfl
  clear hd hn hs
  generalize k.r d = r at *
  generalize stA i c k = cs at *
  have q1 : (Tryd.prog.info? 82).map (·.size) = some cs.size := by rw [hz]; kernel_rfl
  have HQ : Hid ((Tryd.prog.info? 82).map (·.size) = some cs.size) := q1
  clear q1 hz
  go_enter Tryd.func80, Tryd.ntmps80
  go_wp2_with (first | (refine wpList_load_row rfl 82 _ rfl w.heap.size rfl 82 cs (0, 0) _ hst Tryd.underlying82 rfl HQ.out ?_) | (go_at_call 78; refine (hq _).mono ?_; rintro e W1 ⟨rfl, hB1⟩; clear c1 hst hq))
  exact ⟨rfl, rfl, hB.trans (hB1.mono hB.size)⟩
set_option maxRecDepth 10000 in
set_option maxHeartbeats 1000000 in
theorem src_ok (i : Ins) (c : Int) (k : Kn) (d : Nat) (w : World) (hd : i.src = (d : Int)) (hn : d < 10) (hs : k.r d ≠ noR) :
    Calls Tryd.prog 46 #[.agg (stA i c k)] w fun e w' => e = .returned (k.r d).v ∧ Below w.heap.size w w' := by
  obtain ⟨hst, hr, hB⟩ := step_world i c k w
  have c1 := hst.cell 2
  rw [show (stA i c k)[2]? = some (.int .i64 (d : Int)) from (by rw [← hd]; rfl)] at c1
  have hq : ∀ X, _ := fun X => need_ok i c k d X hn hs
  have hz : (stA i c k).size = 37 := rfl
  clear hd hn hs
  generalize k.r d = r at *
  generalize stA i c k = cs at *
  have q1 : (Tryd.prog.info? 82).map (·.size) = some cs.size := by rw [hz]; kernel_rfl
  have HQ : Hid ((Tryd.prog.info? 82).map (·.size) = some cs.size) := q1
  clear q1 hz
  go_enter Tryd.func46, Tryd.ntmps46
  go_wp2_with (first | (refine wpList_load_row rfl 82 _ rfl w.heap.size rfl 82 cs (0, 0) _ hst Tryd.underlying82 rfl HQ.out ?_) | (go_at_call 78; refine (hq _).mono ?_; rintro e W1 ⟨rfl, hB1⟩; clear c1 hst hq; have d0 := (hr.below hB1 hr.lt).cell 0; have d1 := (hr.below hB1 hr.lt).cell 1; have d2 := (hr.below hB1 hr.lt).cell 2; have e0 := (hr.below hB1 hr.lt).free 0; have e1 := (hr.below hB1 hr.lt).free 1; have e2 := (hr.below hB1 hr.lt).free 2; have hz := hB1.size; simp at hz))
  refine bodyPost_ret (v := r.v) (by simp [results, Tryd.results46, go_sem, d0, d1, d2]) rfl ⟨rfl, (((hB.trans (hB1.mono hB.size)).setCell (by simp <;> omega) _).setCell (by simp <;> omega) _).setCell (by simp <;> omega) _⟩
set_option maxRecDepth 10000 in
set_option maxHeartbeats 1000000 in
theorem src_no (i : Ins) (c : Int) (k : Kn) (d : Nat) (w : World) (hd : i.src = (d : Int)) (hn : d < 10) (hs : k.r d = noR) :
    Calls Tryd.prog 46 #[.agg (stA i c k)] w fun e w' => e = .panicked Wrong.unset.entry ∧ Below w.heap.size w w' := by
  obtain ⟨hst, hr, hB⟩ := step_world i c k w
  have c1 := hst.cell 2
  rw [show (stA i c k)[2]? = some (.int .i64 (d : Int)) from (by rw [← hd]; rfl)] at c1
  have hq : ∀ X, _ := fun X => need_no i c k d X hn hs
  have hz : (stA i c k).size = 37 := rfl
  clear hd hn hs
  generalize k.r d = r at *
  generalize stA i c k = cs at *
  have q1 : (Tryd.prog.info? 82).map (·.size) = some cs.size := by rw [hz]; kernel_rfl
  have HQ : Hid ((Tryd.prog.info? 82).map (·.size) = some cs.size) := q1
  clear q1 hz
  go_enter Tryd.func46, Tryd.ntmps46
  go_wp2_with (first | (refine wpList_load_row rfl 82 _ rfl w.heap.size rfl 82 cs (0, 0) _ hst Tryd.underlying82 rfl HQ.out ?_) | (go_at_call 78; refine (hq _).mono ?_; rintro e W1 ⟨rfl, hB1⟩; clear c1 hst hq))
  exact ⟨rfl, rfl, hB.trans (hB1.mono hB.size)⟩
set_option maxRecDepth 10000 in
set_option maxHeartbeats 1000000 in
theorem imm_any (i : Ins) (c : Int) (k : Kn) (w : World) :
    Calls Tryd.prog 45 #[.agg (stA i c k)] w fun e w' => e = .returned (fromR (i.imm) (i.imm)).v ∧ Below w.heap.size w w' := by
  obtain ⟨hst, hr, hB⟩ := step_world i c k w
  have c1 := hst.cell 4
  rw [show (stA i c k)[4]? = some (.int .u32 (i.imm : Int)) from rfl] at c1
  clear hst
  generalize stA i c k = cs at *
  generalize i.imm = m at *
  go_enter Tryd.func45, Tryd.ntmps45
  go_wp2_with (go_at_call 77; refine (just_any _ _ (by omega)).mono ?_; rintro e W1 ⟨rfl, hB1⟩; clear c1; have d0 := (hr.below hB1 hr.lt).cell 0; have d1 := (hr.below hB1 hr.lt).cell 1; have d2 := (hr.below hB1 hr.lt).cell 2; have e0 := (hr.below hB1 hr.lt).free 0; have e1 := (hr.below hB1 hr.lt).free 1; have e2 := (hr.below hB1 hr.lt).free 2; have hz := hB1.size; simp at hz)
  refine bodyPost_ret (v := (fromR m m).v) (by simp [results, Tryd.results45, go_sem, d0, d1, d2]) rfl ⟨rfl, (((hB.trans (hB1.mono hB.size)).setCell (by simp <;> omega) _).setCell (by simp <;> omega) _).setCell (by simp <;> omega) _⟩
set_option maxRecDepth 10000 in
set_option maxHeartbeats 1000000 in
theorem power_any (i : Ins) (c : Int) (k : Kn) (w : World) (hp : i.imm ≤ 31) :
    Calls Tryd.prog 54 #[.agg (stA i c k)] w fun e w' => e = .returned (fromR (2 ^ i.imm) (2 ^ i.imm)).v ∧ Below w.heap.size w w' := by
  obtain ⟨hst, hr, hB⟩ := step_world i c k w
  have c1 := hst.cell 4
  rw [show (stA i c k)[4]? = some (.int .u32 (i.imm : Int)) from rfl] at c1
  clear hst
  generalize stA i c k = cs at *
  generalize i.imm = m at *
  obtain ⟨p, hp'⟩ : ∃ p, p = 2 ^ m := ⟨_, rfl⟩
  have hpw : IntKind.u32.wrap (2 ^ m) = (p : Int) := by
    have key : ∀ q : Fin 32, IntKind.u32.wrap (2 ^ q.val) = ((2 ^ q.val : Nat) : Int) := by decide +kernel
    rw [hp']; exact key ⟨m, by omega⟩
  rw [← hp']
  clear hp'
  go_enter Tryd.func54, Tryd.ntmps54
  go_wp2_with (go_at_call 77; refine (just_any _ _ (by omega)).mono ?_; rintro e W1 ⟨rfl, hB1⟩; clear c1; have d0 := (hr.below hB1 hr.lt).cell 0; have d1 := (hr.below hB1 hr.lt).cell 1; have d2 := (hr.below hB1 hr.lt).cell 2; have e0 := (hr.below hB1 hr.lt).free 0; have e1 := (hr.below hB1 hr.lt).free 1; have e2 := (hr.below hB1 hr.lt).free 2; have hz := hB1.size; simp at hz)
  refine bodyPost_ret (v := (fromR p p).v) (by simp [results, Tryd.results54, go_sem, d0, d1, d2]) rfl ⟨rfl, (((hB.trans (hB1.mono hB.size)).setCell (by simp <;> omega) _).setCell (by simp <;> omega) _).setCell (by simp <;> omega) _⟩
end Go.Proofs.YtodkehpldlmgaaaDoor
/- What is known, with another range of a register. -/
namespace Go.Proofs.YtodkehpldlmgaaaDoor
open Go.RowKit

theorem wpList_skip {P : Program} {ops : Array Oper} {rest : List Oper} {o : Oper} {a : Act} {w w' : World} {Q : Exit → Act → World → Prop} (hg : o.guard = none) (hr : (execOp a.eval o).run P w = .ok .skip w') (h : wpList P ops Q rest (a.put o.dst undef) w') : wpList P ops Q (o :: rest) a w :=
  wpList_plain hg fun _ hK => by
    unfold Oper.wp
    rw [hr]
    exact hK _ _ h
theorem wpList_val {P : Program} {ops : Array Oper} {rest : List Oper} {o : Oper} {a : Act} {w w' : World} {v : Value} {Q : Exit → Act → World → Prop} (hg : o.guard = none) (hr : (execOp a.eval o).run P w = .ok (.value v) w') (h : wpList P ops Q rest (a.put o.dst v) w') : wpList P ops Q (o :: rest) a w :=
  wpList_plain hg fun _ hK => by
    unfold Oper.wp
    rw [hr]
    exact hK _ _ h
theorem named2 {p : World → Prop} {W : World} (h : ∀ W0, W0 = W → p W0) : p W := h W rfl
set_option maxRecDepth 10000 in
set_option maxHeartbeats 1000000 in
theorem with_any (i : Ins) (c : Int) (k : Kn) (d : Nat) (r : Rg) (w : World) (hd : i.dst = (d : Int)) (hn : d < 10) :
    Calls Tryd.prog 76 #[.agg (stA i c k), r.v] w fun e w' => e = .returned (.agg (k.set d r).a) ∧ Below w.heap.size w w' := by
  obtain ⟨W0, hW0⟩ : ∃ W0, W0 = ((w.alloc (.cells (stA i c k) 82)).alloc (.cells #[.bool r.set, .int .u32 (r.least : Int), .int .u32 (r.great : Int)] 40)).alloc (.cells noK.a 43) := ⟨_, rfl⟩
  have hst : Has W0 w.heap.size (stA i c k) 82 := by rw [hW0]; exact has_old (has_old (has_new _ _ _ _ rfl))
  have hr : Has W0 (w.heap.size + 1) r.a 40 := by rw [hW0]; exact has_old (has_new _ _ _ _ (by simp))
  have hk : Has W0 (w.heap.size + 2) noK.a 43 := by rw [hW0]; exact has_new _ _ _ _ (by simp)
  have hz0 : W0.heap.size = w.heap.size + 3 := by rw [hW0]; simp
  have hB0 : Below w.heap.size w W0 := by rw [hW0]; exact (((Below.refl _ _).alloc (Nat.le_refl _) _).alloc (by simp) _).alloc (by simp <;> omega) _
  have HC : Hid ((stA i c k)[1]? = some (.int .i64 (d : Int))) := by show _ = _; rw [← hd]; rfl
  have hn' : (d : Int) < 10 := by omega
  obtain ⟨ks, hks⟩ : ∃ ks, ks = (k.set d r).a := ⟨_, rfl⟩
  rw [← hks]
  have hz : ks.size = 31 := by rw [hks]; rfl
  have HO : Hid (ks.all (·.oneCell') = true) := by show _ = _; rw [hks]; exact Kn.a_one _
  have HQ : Hid ((Tryd.prog.info? 43).map (·.size) = some ks.size) := by show _ = _; rw [hz]; kernel_rfl
  have HS : Hid (noK.a.size = ks.size) := by show _ = _; rw [hz]; rfl
  have HK : Hid (ks = (k.set d r).a) := hks
  clear hz hks
  go_enter Tryd.func76, Tryd.ntmps76
  go_upto_region 1 with fail
  refine named2 (p := fun X => Code.wp _ _ _ _ X) ?_
  intro W1 hW1
  have hW : W1 = W0 := hW1.trans hW0.symm
  subst hW
  clear hW1 hW0
  have HZ : Hid (W1.heap.size = w.heap.size + 3) := hz0
  clear hz0
  have hkr := st_range hst
  go_upto_region 2 with (first | refine wpList_load_mid rfl 43 _ rfl w.heap.size 6 rfl k.cells _ hkr Tryd.underlying43 rfl (by kernel_rfl) ?_ | refine wpList_store_row rfl 43 _ _ rfl W1.heap.size k.a rfl rfl 43 noK.a (has_new _ _ _ _ rfl) (by kernel_rfl) (by kernel_rfl) (Kn.a_one k) ?_)
  refine named2 (p := fun X => Code.wp _ _ _ _ X) ?_
  intro W2 hW2
  have hE : Ex W1.heap.size (W1.alloc (.cells noK.a 43)) W2 := by rw [hW2]; exact setRow_ex _ _ _
  have hA : Below W1.heap.size W1 (W1.alloc (.cells noK.a 43)) := (Below.refl _ _).alloc (Nat.le_refl _) _
  have h5 : Has W2 W1.heap.size k.a 43 := by rw [hW2]; exact setRow_has (has_new _ _ _ _ rfl) _
  have hst2 : Has W2 w.heap.size (stA i c k) 82 := (hst.below hA hst.lt).ex hE (by have := hst.lt; omega)
  have hr2 : Has W2 (w.heap.size + 1) r.a 40 := (hr.below hA hr.lt).ex hE (by have := hr.lt; omega)
  have hk2 : Has W2 (w.heap.size + 2) noK.a 43 := (hk.below hA hk.lt).ex hE (by have := hk.lt; omega)
  have hB2 : Below w.heap.size w W2 := Below.ex (hB0.trans (hA.mono (by have := HZ.out; omega))) (by simp; have := HZ.out; omega) hE (by have := HZ.out; omega)
  clear hW2 hE hA hst hr hk hB0 hkr
  have c1 := hst2.cell 1
  rw [HC.out] at c1
  have r0 : W2.cell? ⟨w.heap.size + 1, 0, none⟩ = some (.bool r.set) := hr2.cell 0
  have r1 : W2.cell? ⟨w.heap.size + 1, 1, none⟩ = some (.int .u32 (r.least : Int)) := hr2.cell 1
  have r2 : W2.cell? ⟨w.heap.size + 1, 2, none⟩ = some (.int .u32 (r.great : Int)) := hr2.cell 2
  have HB : Hid (w.heap.size + 2 < W1.heap.size) := by show _ < _; have := HZ.out; omega
  clear HZ
  generalize W1.heap.size = g at *
  go_upto_region 3 with (refine wpList_skip rfl (run_st_reg _ _ rfl g d 43 k r rfl rfl h5 hn) ?_)
  refine named2 (p := fun X => Code.wp _ _ _ _ X) ?_
  intro W3 hW3
  have hs := setReg h5 d hn r
  rw [← hW3, ← HK.out] at hs
  have hk3 : Has W3 (w.heap.size + 2) noK.a 43 := hk2.ex hs.2 (by have := HB.out; omega)
  have hB3 : Below w.heap.size w W3 := Below.ex hB2 hB2.size hs.2 (by have := HB.out; omega)
  obtain ⟨h6, _⟩ := hs
  clear hW3 h5 hst2 hr2 hk2 hB2 c1 r0 r1 r2 HC
  go_wp2_with (first | refine wpList_load_row rfl 43 _ rfl g rfl 43 ks (0, 0) _ h6 Tryd.underlying43 rfl HQ.out ?_ | refine wpList_store_row rfl 43 _ _ rfl (w.heap.size + 2) ks rfl rfl 43 noK.a hk3 HQ.out HS.out HO.out ?_)
  refine bodyPost_ret (results_cell_row rfl _ _ (w.heap.size + 2) 43 _ (0, 0) _ rfl (setRow_heap _ _ _ ks _ _ hk3) Tryd.underlying43 rfl HQ.out) rfl ?_
  exact ⟨rfl, setRow_below hB3 (by omega) _⟩
set_option maxRecDepth 10000 in
set_option maxHeartbeats 1000000 in
theorem both_any (i : Ins) (c : Int) (k : Kn) (m d : Nat) (q r : Rg) (w : World) (he : i.dst = (m : Int)) (hm : m < 10) (hd : i.src = (d : Int)) (hn : d < 10) :
    Calls Tryd.prog 92 #[.agg (stA i c k), q.v, r.v] w fun e w' => e = .returned (.agg ((k.set m q).set d r).a) ∧ Below w.heap.size w w' := by
  obtain ⟨W0, hW0⟩ : ∃ W0, W0 = (((w.alloc (.cells (stA i c k) 82)).alloc (.cells #[.bool q.set, .int .u32 (q.least : Int), .int .u32 (q.great : Int)] 40)).alloc (.cells #[.bool r.set, .int .u32 (r.least : Int), .int .u32 (r.great : Int)] 40)).alloc (.cells noK.a 43) := ⟨_, rfl⟩
  have hst : Has W0 w.heap.size (stA i c k) 82 := by rw [hW0]; exact has_old (has_old (has_old (has_new _ _ _ _ rfl)))
  have hq : Has W0 (w.heap.size + 1) q.a 40 := by rw [hW0]; exact has_old (has_old (has_new _ _ _ _ (by simp)))
  have hr : Has W0 (w.heap.size + 2) r.a 40 := by rw [hW0]; exact has_old (has_new _ _ _ _ (by simp))
  have hk : Has W0 (w.heap.size + 3) noK.a 43 := by rw [hW0]; exact has_new _ _ _ _ (by simp)
  have hz0 : W0.heap.size = w.heap.size + 4 := by rw [hW0]; simp
  have hB0 : Below w.heap.size w W0 := by rw [hW0]; exact ((((Below.refl _ _).alloc (Nat.le_refl _) _).alloc (by simp) _).alloc (by simp <;> omega) _).alloc (by simp <;> omega) _
  have HC : Hid ((stA i c k)[2]? = some (.int .i64 (d : Int))) := by show _ = _; rw [← hd]; rfl
  have hn' : (d : Int) < 10 := by omega
  obtain ⟨ks, hks⟩ : ∃ ks, ks = ((k.set m q).set d r).a := ⟨_, rfl⟩
  rw [← hks]
  have hz : ks.size = 31 := by rw [hks]; rfl
  have HO : Hid (ks.all (·.oneCell') = true) := by show _ = _; rw [hks]; exact Kn.a_one _
  have HQ : Hid ((Tryd.prog.info? 43).map (·.size) = some ks.size) := by show _ = _; rw [hz]; kernel_rfl
  have HS : Hid (noK.a.size = ks.size) := by show _ = _; rw [hz]; rfl
  have HK : Hid (ks = ((k.set m q).set d r).a) := hks
  clear hz hks
  go_enter Tryd.func92, Tryd.ntmps92
  go_upto_region 1 with fail
  refine named2 (p := fun X => Code.wp _ _ _ _ X) ?_
  intro W1 hW1
  have hW : W1 = W0 := hW1.trans hW0.symm
  subst hW
  clear hW1 hW0
  have HZ : Hid (W1.heap.size = w.heap.size + 4) := hz0
  clear hz0
  have q0 : W1.cell? ⟨w.heap.size + 1, 0, none⟩ = some (.bool q.set) := hq.cell 0
  have q1 : W1.cell? ⟨w.heap.size + 1, 1, none⟩ = some (.int .u32 (q.least : Int)) := hq.cell 1
  have q2 : W1.cell? ⟨w.heap.size + 1, 2, none⟩ = some (.int .u32 (q.great : Int)) := hq.cell 2
  obtain ⟨k2, hk2⟩ : ∃ k2, k2 = k.set m q := ⟨_, rfl⟩
  rw [← hk2] at HK
  obtain ⟨W2, hW2⟩ : ∃ W2 : World → World, W2 = fun X => (X.alloc (.cells noK.a 43)).setRow X.heap.size k2.a := ⟨_, rfl⟩
  have hc : ∀ X, _ := fun X => with_any i c k m q X he hm
  rw [← hk2] at hc
  clear hk2 he hW2
  go_upto_region 2 with (first | refine wpList_load_row rfl 82 _ rfl w.heap.size rfl 82 (stA i c k) (0, 0) _ hst Tryd.underlying82 rfl (by kernel_rfl) ?_ | (go_at_call 76; refine (hc _).mono ?_; rintro e W9 ⟨rfl, hB9⟩; clear hc q0 q1 q2) | refine wpList_store_row rfl 43 _ _ rfl W9.heap.size k2.a rfl rfl 43 noK.a (has_new _ _ _ _ rfl) (by kernel_rfl) (by kernel_rfl) (Kn.a_one k2) ?_)
  refine named2 (p := fun X => Code.wp _ _ _ _ X) ?_
  intro W2 hW2
  have hE : Ex W9.heap.size (W9.alloc (.cells noK.a 43)) W2 := by rw [hW2]; exact setRow_ex _ _ _
  have hA : Below W1.heap.size W1 (W9.alloc (.cells noK.a 43)) := hB9.alloc hB9.size _
  have h5 : Has W2 W9.heap.size k2.a 43 := by rw [hW2]; exact setRow_has (has_new _ _ _ _ rfl) _
  have h9 := hB9.size
  have hst2 : Has W2 w.heap.size (stA i c k) 82 := (hst.below hA hst.lt).ex hE (by have := hst.lt; omega)
  have hr2 : Has W2 (w.heap.size + 2) r.a 40 := (hr.below hA hr.lt).ex hE (by have := hr.lt; omega)
  have hk2 : Has W2 (w.heap.size + 3) noK.a 43 := (hk.below hA hk.lt).ex hE (by have := hk.lt; omega)
  have hB2 : Below w.heap.size w W2 := Below.ex (hB0.trans (hA.mono (by have := HZ.out; omega))) (by simp; have := HZ.out; omega) hE (by have := HZ.out; omega)
  have HB : Hid (w.heap.size + 3 < W9.heap.size) := by show _ < _; have := HZ.out; omega
  clear hW2 hE hA hst hr hq hk hB0 hB9 h9 HZ
  have c1 := hst2.cell 2
  rw [HC.out] at c1
  have r0 : W2.cell? ⟨w.heap.size + 2, 0, none⟩ = some (.bool r.set) := hr2.cell 0
  have r1 : W2.cell? ⟨w.heap.size + 2, 1, none⟩ = some (.int .u32 (r.least : Int)) := hr2.cell 1
  have r2 : W2.cell? ⟨w.heap.size + 2, 2, none⟩ = some (.int .u32 (r.great : Int)) := hr2.cell 2
  generalize W9.heap.size = g at *
  go_upto_region 3 with (refine wpList_skip rfl (run_st_reg _ _ rfl g d 43 k2 r rfl rfl h5 hn) ?_)
  refine named2 (p := fun X => Code.wp _ _ _ _ X) ?_
  intro W3 hW3
  have hs := setReg h5 d hn r
  rw [← hW3, ← HK.out] at hs
  have hk3 : Has W3 (w.heap.size + 3) noK.a 43 := hk2.ex hs.2 (by have := HB.out; omega)
  have hB3 : Below w.heap.size w W3 := Below.ex hB2 hB2.size hs.2 (by have := HB.out; omega)
  obtain ⟨h6, _⟩ := hs
  clear hW3 h5 hst2 hr2 hk2 hB2 c1 r0 r1 r2 HC
  go_wp2_with (first | refine wpList_load_row rfl 43 _ rfl g rfl 43 ks (0, 0) _ h6 Tryd.underlying43 rfl HQ.out ?_ | refine wpList_store_row rfl 43 _ _ rfl (w.heap.size + 3) ks rfl rfl 43 noK.a hk3 HQ.out HS.out HO.out ?_)
  refine bodyPost_ret (results_cell_row rfl _ _ (w.heap.size + 3) 43 _ (0, 0) _ rfl (setRow_heap _ _ _ ks _ _ hk3) Tryd.underlying43 rfl HQ.out) rfl ?_
  exact ⟨rfl, setRow_below hB3 (by omega) _⟩
end Go.Proofs.YtodkehpldlmgaaaDoor
/- What makes D of a step. -/
namespace Go.Proofs.YtodkehpldlmgaaaDoor
open Go.RowKit

theorem results_rows2 {P : Program} {fn : Func} {p q : Tmp} {ty : TypeId} (h : fn.results = #[.cell p ty, .cell q ty]) (tmps : Array Value) (w : World) (g g' : Nat) (t : TypeId) (cs cs' : Array Value) (d : TypeDesc)
    (hp : tmps.getD p undef = .pointer (some ⟨g, 0, none⟩)) (hq : tmps.getD q undef = .pointer (some ⟨g', 0, none⟩)) (hg : Has w g cs t) (hg' : Has w g' cs' t)
    (hu : P.underlying ty = some d) (hd : (match d with | .struct _ | .array _ _ => true | _ => false) = true) (hi : (P.info? ty).map (·.size) = some cs.size) (hi' : (P.info? ty).map (·.size) = some cs'.size) :
    (results fn tmps).run P w = .ok (.tuple #[.agg cs, .agg cs']) w := by
  have hp' : tmps[p]?.getD undef = .pointer (some ⟨g, 0, none⟩) := by simpa using hp
  have hq' : tmps[q]?.getD undef = .pointer (some ⟨g', 0, none⟩) := by simpa using hq
  simp [results, h, hp', hq', asAddr, run_loadVar_row w g t ty cs (0, 0) d hg hu hd hi, run_loadVar_row w g' t ty cs' (0, 0) d hg' hu hd hi']
/-- What both ways come to. -/
def two (n j : Kn) : Value := .tuple #[.agg n.a, .agg j.a]
/-- A step that is boxed, and what both ways will be. -/
theorem ways_world (i : Ins) (c : Int) (k : Kn) (w W0 : World) (hW0 : W0 = ((w.alloc (.cells (stA i c k) 82)).alloc (.cells noK.a 43)).alloc (.cells noK.a 43)) :
    Has W0 w.heap.size (stA i c k) 82 ∧ Has W0 (w.heap.size + 1) noK.a 43 ∧ Has W0 (w.heap.size + 2) noK.a 43 ∧ Below w.heap.size w W0 ∧ W0.heap.size = w.heap.size + 3 := by
  rw [hW0]
  exact ⟨has_old (has_old (has_new _ _ _ _ rfl)), has_old (has_new _ _ _ _ (by simp)), has_new _ _ _ _ (by simp), (((Below.refl _ _).alloc (Nat.le_refl _) _).alloc (by simp) _).alloc (by simp <;> omega) _, by simp⟩
set_option maxRecDepth 10000 in
set_option maxHeartbeats 2000000 in
theorem set1_ok (i : Ins) (c : Int) (k : Kn) (d G bb : Nat) (o : Rg) (w : World) (hdst : i.dst = (d : Int)) (hdn : d < 10) (hbox : Has w bb #[.func (.func G) #[] #[]] 103) (he : ∀ args X, (callFunc G args).run Tryd.prog X = .ok (.enter G args) X)
    (hG : ∀ X, Below w.heap.size w X → Calls Tryd.prog G #[.agg (stA i c k)] X fun e X' => e = .returned o.v ∧ Below X.heap.size X X') :
    Calls Tryd.prog 75 #[.agg (stA i c k), .pointer (some ⟨bb, 0, none⟩)] w fun e w' => e = .returned (two (k.set d o) noK) ∧ Below w.heap.size w w' := by
  obtain ⟨W0, hW0⟩ : ∃ W0, W0 = ((w.alloc (.cells (stA i c k) 82)).alloc (.cells noK.a 43)).alloc (.cells noK.a 43) := ⟨_, rfl⟩
  obtain ⟨hst, h3, h4, hB0, hz0⟩ := ways_world i c k w W0 hW0
  have HZ : Hid (W0.heap.size = w.heap.size + 3) := hz0
  clear hz0
  have hbx := hbox.below hB0 hbox.lt
  have hbne := hbox.lt
  go_enter Tryd.func75, Tryd.ntmps75
  go_upto_region 1 with fail
  refine named2 (p := fun X => Code.wp _ _ _ _ X) ?_
  intro W9 hW9
  have hW : W0 = W9 := hW0.trans hW9.symm
  subst hW
  clear hW9 hW0
  refine wp_region_inv (Φ := fun l vs X => Vals (fun q => match q with | 0 => some (.agg (stA i c k)) | 1 => some (.func (.func G) #[] #[]) | 2 => some (.agg (stA i c k)) | 3 => some (o.v) | 4 => some (.agg (k.set d o).a) | 5 => some (.agg noK.a) | _ => none) l vs ∧ Pre2 6 7 (Below W0.heap.size W0) (fun X => Below w.heap.size w X ∧ Has X (w.heap.size + 1) ((k.set d o).a) 43 ∧ Has X (w.heap.size + 2) (noK.a) 43) (fun X => Below w.heap.size w X ∧ Has X (w.heap.size + 1) ((k.set d o).a) 43 ∧ Has X (w.heap.size + 2) (noK.a) 43) l X) (PQ := fun _ _ => False)
    (by kernel_rfl) (by kernel_rfl) (by kernel_rfl) (by kernel_rfl) ⟨Vals.none _ _, Pre2.start ((Below.refl _ _).drew)⟩ ?hop ?hend (fun _ _ _ _ h => h.elim)
  case hop =>
    refine ⟨?_, ?_, ?_, ?_, ?_, ?_, ?_, ?_, trivial⟩
    · intro l vs X A hA ⟨hV, hS⟩ hl hd hcl
      have hj := nY 6 hcl hl
      have hk := nY 7 hcl hl
      have hX := hS.1 hj
      have hB := hX
      have a2 := eO hA 2 rfl
      refine show_value (v := .agg (stA i c k)) (X' := X) (run_ld 82 _ rfl _ a2 (ld_row (l := stCells i c k) (has_whole (hst.below hB hst.lt)) (by kernel_rfl))) ⟨hV.upd (fun _ h => Option.some.inj h), Pre2.keep hj hk (by decide) (by decide) (hX)⟩
    · intro l vs X A hA ⟨hV, hS⟩ hl hd hcl
      have hj := nY 6 hcl hl
      have hk := nY 7 hcl hl
      have hX := hS.1 hj
      have hB := hX
      have a1 := eO hA 1 rfl
      have cc := (hbx.below hB hbx.lt).cell 0
      refine show_value (v := .func (.func G) #[] #[]) (X' := X) ?_ ⟨hV.upd (fun _ h => Option.some.inj h), Pre2.keep hj hk (by decide) (by decide) (hX)⟩
      generalize A.eval = ρ at *
      clear hA hl hd hcl hV hS
      go_simp
    · intro l vs X A hA ⟨hV, hS⟩ hl hd hcl
      have hj := nY 6 hcl hl
      have hk := nY 7 hcl hl
      have hX := hS.1 hj
      have hB := hX
      have a2 := eO hA 2 rfl
      refine show_value (v := .agg (stA i c k)) (X' := X) (run_ld 82 _ rfl _ a2 (ld_row (l := stCells i c k) (has_whole (hst.below hB hst.lt)) (by kernel_rfl))) ⟨hV.upd (fun _ h => Option.some.inj h), Pre2.keep hj hk (by decide) (by decide) (hX)⟩
    · intro l vs X A hA ⟨hV, hS⟩ hl hd hcl
      have hj := nY 6 hcl hl
      have hk := nY 7 hcl hl
      have hX := hS.1 hj
      have hB := hX
      have a6 := eN hA 6 1 hd hV rfl
      have a7 := eN hA 7 2 hd hV rfl
      refine show_call (f := G) (args := #[.agg (stA i c k)]) ?_ (hG X (hB0.trans (hB.mono hB0.size))) ?_
      · generalize A.eval = ρ at *
        clear hA hl hd hcl hV hS
        go_simp
      · rintro e X' ⟨rfl, hB1⟩
        exact .inl ⟨_, rfl, hV.upd (fun _ h => Option.some.inj h), Pre2.keep hj hk (by decide) (by decide) (hX.trans (hB1.mono hX.size))⟩
    · intro l vs X A hA ⟨hV, hS⟩ hl hd hcl
      have hj := nY 6 hcl hl
      have hk := nY 7 hcl hl
      have hX := hS.1 hj
      have hB := hX
      have a5 := eN hA 5 0 hd hV rfl
      have a8 := eN hA 8 3 hd hV rfl
      have aF0 : A.eval (.func 76) = .func (.func 76) #[] #[] := rfl
      refine show_call (f := 76) (args := #[.agg (stA i c k), o.v]) ?_ (with_any i c k d o X hdst hdn) ?_
      · generalize A.eval = ρ at *
        clear hA hl hd hcl hV hS
        go_simp
      · rintro e X' ⟨rfl, hB1⟩
        exact .inl ⟨_, rfl, hV.upd (fun _ h => Option.some.inj h), Pre2.keep hj hk (by decide) (by decide) (hX.trans (hB1.mono hX.size))⟩
    · intro l vs X A hA ⟨hV, hS⟩ hl hd hcl
      have hk := nY 7 hcl hl
      have a4 := eO hA 4 rfl
      cases hj : l 6 with
      | true =>
        have hX := hS.2.1 hj hk
        exact show_value (v := .agg noK.a) (X' := X) (run_ld 43 _ rfl _ a4 (ld_row (l := noK.cells) (has_whole hX.2.2) (by kernel_rfl))) ⟨hV.upd (fun _ h => Option.some.inj h), Pre2.keepMid hj hk (by decide) (by decide) hX⟩
      | false =>
        have hX := hS.1 hj
        have hB := hX
        exact show_value (v := .agg noK.a) (X' := X) (run_ld 43 _ rfl _ a4 (ld_row (l := noK.cells) (has_whole (h4.below hB h4.lt)) (by kernel_rfl))) ⟨hV.upd (fun _ h => Option.some.inj h), Pre2.keep hj hk (by decide) (by decide) hX⟩
    · intro l vs X A hA ⟨hV, hS⟩ hl hd hcl
      have hk := nY 7 hcl hl
      have hX := hS.1 hl
      have a3 := eO hA 3 rfl
      have a9 := eN hA 9 4 hd hV rfl
      refine show_skip (X' := X.setRow (w.heap.size + 1) ((k.set d o).a)) (run_st_row 43 _ _ rfl (w.heap.size + 1) _ _ _ a3 a9 (h3.below hX h3.lt) (by kernel_rfl) (by kernel_rfl) (Kn.a_one _)) ⟨hV.upd (fun _ h => by cases h), Pre2.mid hk (by decide) ⟨setRow_below (hB0.trans (hX.mono hB0.size)) (by omega) _, setRow_has (h3.below hX h3.lt) _, (h4.below hX h4.lt).ex (setRow_ex _ _ _) (by omega)⟩⟩
    · intro l vs X A hA ⟨hV, hS⟩ hl hd hcl
      have hX := hS.2.1 (hd 6 (by kernel_rfl)) hl
      have a4 := eO hA 4 rfl
      have a10 := eN hA 10 5 hd hV rfl
      refine show_skip (X' := X.setRow (w.heap.size + 2) (noK.a)) (run_st_row 43 _ _ rfl (w.heap.size + 2) _ _ _ a4 a10 (hX.2.2) (by kernel_rfl) (by kernel_rfl) (Kn.a_one _)) ⟨hV.upd (fun _ h => by cases h), Pre2.last (hd 6 (by kernel_rfl)) ⟨setRow_below hX.1 (by omega) _, hX.2.1.ex (setRow_ex _ _ _) (by omega), setRow_has hX.2.2 _⟩⟩
  case hend =>
    intro l vs X hl ⟨hV, hS⟩
    have hX := hS.2.2 (hl 7 (by decide))
    have v0 := hV 0 _ (hl 0 (by decide)) rfl
    have v1 := hV 1 _ (hl 1 (by decide)) rfl
    have v2 := hV 2 _ (hl 2 (by decide)) rfl
    have v3 := hV 3 _ (hl 3 (by decide)) rfl
    have v4 := hV 4 _ (hl 4 (by decide)) rfl
    have v5 := hV 5 _ (hl 5 (by decide)) rfl
    clear hV hS hl
    simp only [canonL, if_true, v0, v1, v2, v3, v4, v5]
    clear v0 v1 v2 v3 v4 v5
    go_simp
    obtain ⟨hB9, h5, h6⟩ := hX
    go_wp2_with fail
    refine bodyPost_ret (results_rows2 rfl _ _ (w.heap.size + 1) (w.heap.size + 2) 43 _ _ _ rfl rfl h5 h6 Tryd.underlying43 rfl (by kernel_rfl) (by kernel_rfl)) rfl ?_
    exact ⟨rfl, hB9⟩
set_option maxRecDepth 10000 in
set_option maxHeartbeats 2000000 in
theorem set1_no (i : Ins) (c : Int) (k : Kn) (G bb : Nat) (x : Wrong) (w : World) (hbox : Has w bb #[.func (.func G) #[] #[]] 103) (he : ∀ args X, (callFunc G args).run Tryd.prog X = .ok (.enter G args) X)
    (hG : ∀ X, Below w.heap.size w X → Calls Tryd.prog G #[.agg (stA i c k)] X fun e X' => e = .panicked x.entry ∧ Below X.heap.size X X') :
    Calls Tryd.prog 75 #[.agg (stA i c k), .pointer (some ⟨bb, 0, none⟩)] w fun e w' => e = .panicked x.entry ∧ Below w.heap.size w w' := by
  obtain ⟨W0, hW0⟩ : ∃ W0, W0 = ((w.alloc (.cells (stA i c k) 82)).alloc (.cells noK.a 43)).alloc (.cells noK.a 43) := ⟨_, rfl⟩
  obtain ⟨hst, h3, h4, hB0, hz0⟩ := ways_world i c k w W0 hW0
  have HZ : Hid (W0.heap.size = w.heap.size + 3) := hz0
  clear hz0
  have hbx := hbox.below hB0 hbox.lt
  have hbne := hbox.lt
  go_enter Tryd.func75, Tryd.ntmps75
  go_upto_region 1 with fail
  refine named2 (p := fun X => Code.wp _ _ _ _ X) ?_
  intro W9 hW9
  have hW : W0 = W9 := hW0.trans hW9.symm
  subst hW
  clear hW9 hW0
  refine wp_region_inv (Φ := fun l vs X => Vals (fun q => match q with | 0 => some (.agg (stA i c k)) | 1 => some (.func (.func G) #[] #[]) | 2 => some (.agg (stA i c k)) | 5 => some (.agg noK.a) | _ => none) l vs ∧ Pre2 6 7 (Below W0.heap.size W0) (fun X => Below w.heap.size w X ∧ Has X (w.heap.size + 1) (noK.a) 43 ∧ Has X (w.heap.size + 2) (noK.a) 43) (fun X => Below w.heap.size w X ∧ Has X (w.heap.size + 1) (noK.a) 43 ∧ Has X (w.heap.size + 2) (noK.a) 43) l X ∧ l 3 = false) (PQ := fun q X => q = x.entry ∧ Below W0.heap.size W0 X)
    (by kernel_rfl) (by kernel_rfl) (by kernel_rfl) (by kernel_rfl) ⟨Vals.none _ _, Pre2.start ((Below.refl _ _).drew), rfl⟩ ?hop ?hend (fun c a X hq hp => ⟨hq, by rw [hp.1]; exact ⟨rfl, hB0.trans (hp.2.mono hB0.size)⟩⟩)
  case hop =>
    refine ⟨?_, ?_, ?_, ?_, ?_, ?_, ?_, ?_, trivial⟩
    · intro l vs X A hA ⟨hV, hS, hN3⟩ hl hd hcl
      have hj := nY 6 hcl hl
      have hk := nY 7 hcl hl
      have hX := hS.1 hj
      have hB := hX
      have a2 := eO hA 2 rfl
      refine show_value (v := .agg (stA i c k)) (X' := X) (run_ld 82 _ rfl _ a2 (ld_row (l := stCells i c k) (has_whole (hst.below hB hst.lt)) (by kernel_rfl))) ⟨hV.upd (fun _ h => Option.some.inj h), Pre2.keep hj hk (by decide) (by decide) (hX), (upd_other _ _ (by decide)).trans hN3⟩
    · intro l vs X A hA ⟨hV, hS, hN3⟩ hl hd hcl
      have hj := nY 6 hcl hl
      have hk := nY 7 hcl hl
      have hX := hS.1 hj
      have hB := hX
      have a1 := eO hA 1 rfl
      have cc := (hbx.below hB hbx.lt).cell 0
      refine show_value (v := .func (.func G) #[] #[]) (X' := X) ?_ ⟨hV.upd (fun _ h => Option.some.inj h), Pre2.keep hj hk (by decide) (by decide) (hX), (upd_other _ _ (by decide)).trans hN3⟩
      generalize A.eval = ρ at *
      clear hA hl hd hcl hV hS
      go_simp
    · intro l vs X A hA ⟨hV, hS, hN3⟩ hl hd hcl
      have hj := nY 6 hcl hl
      have hk := nY 7 hcl hl
      have hX := hS.1 hj
      have hB := hX
      have a2 := eO hA 2 rfl
      refine show_value (v := .agg (stA i c k)) (X' := X) (run_ld 82 _ rfl _ a2 (ld_row (l := stCells i c k) (has_whole (hst.below hB hst.lt)) (by kernel_rfl))) ⟨hV.upd (fun _ h => Option.some.inj h), Pre2.keep hj hk (by decide) (by decide) (hX), (upd_other _ _ (by decide)).trans hN3⟩
    · intro l vs X A hA ⟨hV, hS, hN3⟩ hl hd hcl
      have hj := nY 6 hcl hl
      have hk := nY 7 hcl hl
      have hX := hS.1 hj
      have hB := hX
      have a6 := eN hA 6 1 hd hV rfl
      have a7 := eN hA 7 2 hd hV rfl
      refine show_call (f := G) (args := #[.agg (stA i c k)]) ?_ (hG X (hB0.trans (hB.mono hB0.size))) ?_
      · generalize A.eval = ρ at *
        clear hA hl hd hcl hV hS
        go_simp
      · rintro e X' ⟨rfl, hB1⟩
        exact .inr ⟨_, rfl, rfl, hB.trans (hB1.mono (Nat.le_trans hB.size (Nat.le_refl _)))⟩
    · intro l vs X A hA ⟨hV, hS, hN3⟩ hl hd hcl
      have hj := nY 6 hcl hl
      have hk := nY 7 hcl hl
      have hX := hS.1 hj
      have hB := hX
      exact absurd (hd 3 (by kernel_rfl)) (by rw [hN3]; decide)
    · intro l vs X A hA ⟨hV, hS, hN3⟩ hl hd hcl
      have hk := nY 7 hcl hl
      have a4 := eO hA 4 rfl
      cases hj : l 6 with
      | true =>
        have hX := hS.2.1 hj hk
        exact show_value (v := .agg noK.a) (X' := X) (run_ld 43 _ rfl _ a4 (ld_row (l := noK.cells) (has_whole hX.2.2) (by kernel_rfl))) ⟨hV.upd (fun _ h => Option.some.inj h), Pre2.keepMid hj hk (by decide) (by decide) hX, (upd_other _ _ (by decide)).trans hN3⟩
      | false =>
        have hX := hS.1 hj
        have hB := hX
        exact show_value (v := .agg noK.a) (X' := X) (run_ld 43 _ rfl _ a4 (ld_row (l := noK.cells) (has_whole (h4.below hB h4.lt)) (by kernel_rfl))) ⟨hV.upd (fun _ h => Option.some.inj h), Pre2.keep hj hk (by decide) (by decide) hX, (upd_other _ _ (by decide)).trans hN3⟩
    · intro l vs X A hA ⟨hV, hS, hN3⟩ hl hd hcl
      have hk := nY 7 hcl hl
      have hX := hS.1 hl
      exact absurd (hd 3 (by kernel_rfl)) (by rw [hN3]; decide)
    · intro l vs X A hA ⟨hV, hS, hN3⟩ hl hd hcl
      have hX := hS.2.1 (hd 6 (by kernel_rfl)) hl
      exact absurd (hd 3 (by kernel_rfl)) (by rw [hN3]; decide)
  case hend =>
    intro l vs X hl ⟨hV, hS, hN3⟩
    exact absurd (hl 3 (by decide)) (by rw [hN3]; decide)
end Go.Proofs.YtodkehpldlmgaaaDoor
/- The table of what each Op makes. -/
namespace Go.Proofs.YtodkehpldlmgaaaDoor
open Go.RowKit

/-- Of which functions an Op's maker is put together: of set: what D is; of fold: what makes, and of what else. -/
def setOf : Nat → Option Nat
  | 1 => some 45
  | 2 => some 46
  | _ => none
def foldOf : Nat → Option (Nat × Nat)
  | 3 => some (48, 45)
  | 4 => some (48, 46)
  | 5 => some (49, 46)
  | 6 => some (50, 45)
  | 7 => some (50, 46)
  | 8 => some (51, 45)
  | 9 => some (51, 46)
  | 10 => some (52, 46)
  | 11 => some (53, 46)
  | 12 => some (50, 54)
  | 13 => some (55, 54)
  | 14 => some (55, 46)
  | 15 => some (56, 46)
  | _ => none
def fnV (f : Nat) : Value := .func (.func f) #[] #[]
/-- What stands in the table at an Op. -/
inductive IsMake (W : World) : Nat → Value → Prop
  | set (n G b : Nat) (h : setOf n = some G) (hb : Has W b #[fnV G] 103) : IsMake W n (.func (.func 75) #[] #[.pointer (some ⟨b, 0, none⟩)])
  | fold (n F G bf bg : Nat) (h : foldOf n = some (F, G)) (hf : Has W bf #[fnV F] 105) (hg : Has W bg #[fnV G] 103) : IsMake W n (.func (.func 79) #[] #[.pointer (some ⟨bg, 0, none⟩), .pointer (some ⟨bf, 0, none⟩)])
  | fn (n : Nat) (h : 16 ≤ n) : IsMake W n (fnV (n + 41))
theorem IsMake.grow {W W' : World} {n : Nat} {v : Value} (h : IsMake W n v) (k : Below W.heap.size W W') : IsMake W' n v := by
  cases h with
  | set G b h hb => exact .set n G b h (hb.below k hb.lt)
  | fold F G bf bg h hf hg => exact .fold n F G bf bg h (hf.below k hf.lt) (hg.below k hg.lt)
  | fn h => exact .fn n h
theorem IsMake.ex {W W' : World} {n mb : Nat} {v : Value} {es : Array MapEntry} {cl : Nat} (h : IsMake W n v) (hm : W.heap[mb]? = some (.map es cl)) (k : Ex mb W W') : IsMake W' n v := by
  have ne : ∀ {b t : Nat} {cs : Array Value}, Has W b cs t → b ≠ mb := fun hb e => by
    subst e
    have := hb.symm.trans hm
    simp at this
  cases h with
  | set G b h hb => exact .set n G b h (hb.ex k (ne hb))
  | fold F G bf bg h hf hg => exact .fold n F G bf bg h (hf.ex k (ne hf)) (hg.ex k (ne hg))
  | fn h => exact .fn n h
/-- The entries of a table that is laid in order, from 1 on. -/
def entFrom : Nat → List Value → List MapEntry
  | _, [] => []
  | n, v :: vs => ⟨.int .i64 ((n + 1 : Nat) : Int), v, n⟩ :: entFrom (n + 1) vs
theorem entFrom_snoc : ∀ (vs : List Value) (n : Nat) (v : Value), entFrom n (vs ++ [v]) = entFrom n vs ++ [⟨.int .i64 ((n + vs.length + 1 : Nat) : Int), v, n + vs.length⟩]
  | [], n, v => rfl
  | u :: vs, n, v => by
    show _ :: entFrom (n + 1) (vs ++ [v]) = _ :: (entFrom (n + 1) vs ++ _)
    rw [entFrom_snoc vs (n + 1) v]
    simp only [List.length_cons]
    rw [show n + 1 + vs.length = n + (vs.length + 1) by omega]
theorem same_int (a b : Int) : Instr.sameNow (.int .i64) (.int .i64 a) (.int .i64 b) = some (a == b) := rfl
theorem find_none : ∀ (vs : List Value) (n i : Nat) (k : Int), ((n + vs.length : Nat) : Int) < k → Instr.findNow (.int .i64) (.int .i64 k) (entFrom n vs) i = some none
  | [], _, _, _, _ => rfl
  | v :: vs, n, i, k, h => by
    simp only [List.length_cons] at h
    show (match Instr.sameNow (.int .i64) (.int .i64 k) (.int .i64 ((n + 1 : Nat) : Int)) with | some true => _ | some false => _ | none => _) = _
    rw [same_int, show (k == ((n + 1 : Nat) : Int)) = false by simp; omega]
    exact find_none vs (n + 1) (i + 1) k (by omega)
theorem find_some : ∀ (vs : List Value) (n i j : Nat) (v : Value), vs[j]? = some v → Instr.findNow (.int .i64) (.int .i64 ((n + j + 1 : Nat) : Int)) (entFrom n vs) i = some (some (i + j, v))
  | [], _, _, _, _, h => by simp at h
  | u :: vs, n, i, 0, v, h => by
    obtain rfl : u = v := by simpa using h
    show (match Instr.sameNow (.int .i64) (.int .i64 ((n + 0 + 1 : Nat) : Int)) (.int .i64 ((n + 1 : Nat) : Int)) with | some true => _ | some false => _ | none => _) = _
    rw [same_int, show (((n + 0 + 1 : Nat) : Int) == ((n + 1 : Nat) : Int)) = true by simp]
    rfl
  | u :: vs, n, i, j + 1, v, h => by
    show (match Instr.sameNow (.int .i64) (.int .i64 ((n + (j + 1) + 1 : Nat) : Int)) (.int .i64 ((n + 1 : Nat) : Int)) with | some true => _ | some false => _ | none => _) = _
    rw [same_int, show (((n + (j + 1) + 1 : Nat) : Int) == ((n + 1 : Nat) : Int)) = false by simp; omega]
    have := find_some vs (n + 1) (i + 1) j v (by simpa using h)
    rw [show n + (j + 1) + 1 = n + 1 + j + 1 by omega, show i + (j + 1) = i + 1 + j by omega]
    exact this
theorem key35 (k : Int) (h : (Lit.int .i64 k).wf = true) (em : Bool) (W : World) : (Instr.checkKey em 10000 35 (.int .i64 k)).run Tryd.prog W = .ok () W := (Maps.int_keyed (P := Tryd.prog) Tryd.underlying35).check W em (Maps.keyOf_int_mk Tryd.underlying35 h)
theorem find35 (k : Int) (es : List MapEntry) (r : Option (Nat × Value)) (hf : Instr.findNow (.int .i64) (.int .i64 k) es 0 = some r) (W : World) : (Instr.findKey 35 (.int .i64 k) es).run Tryd.prog W = .ok r W := by
  unfold Instr.findKey
  simp [run_underlying Tryd.underlying35, hf]
theorem look79 {W : World} {mb : Nat} {es : Array MapEntry} {clock : Nat} (h : W.heap[mb]? = some (.map es clock)) (k : Int) (hk : (Lit.int .i64 k).wf = true) (v : Value) (i : Nat) (hf : Instr.findNow (.int .i64) (.int .i64 k) es.toList 0 = some (some (i, v))) :
    (Instr.lookup 79 (.map (some mb)) (.int .i64 k) false).run Tryd.prog W = .ok v W := by
  simp [Instr.lookup, run_underlying Tryd.underlying79, MapKept.run_getObj_map h, key35 k hk, find35 k _ _ hf, Result.andThen]
theorem put79 {W : World} {mb : Nat} {es : Array MapEntry} {clock : Nat} (h : W.heap[mb]? = some (.map es clock)) (k : Int) (hk : (Lit.int .i64 k).wf = true) (v : Value) (hf : Instr.findNow (.int .i64) (.int .i64 k) es.toList 0 = some none) :
    (Instr.mapUpdate 79 (.map (some mb)) (.int .i64 k) v).run Tryd.prog W = .ok () (ChangeMaps.setBlock W mb (.map (es.push ⟨.int .i64 k, v, clock⟩) (clock + 1))) := by
  simp [Instr.mapUpdate, run_underlying Tryd.underlying79, MapKept.run_getObj_map h, key35 k hk, find35 k _ _ hf, MapKept.run_setObj_map _ h, Result.andThen, ChangeMaps.setBlock]
theorem setB_other {W : World} {mb : Nat} {es : Array MapEntry} {clock : Nat} (h : W.heap[mb]? = some (.map es clock)) (o : Obj) {i : Nat} (hi : i ≠ mb) : (ChangeMaps.setBlock W mb o).heap[i]? = W.heap[i]? := ChangeMaps.heap_setBlock_other h o hi
theorem setB_ex (W : World) {mb : Nat} {es : Array MapEntry} {clock : Nat} (h : W.heap[mb]? = some (.map es clock)) (o : Obj) : Ex mb W (ChangeMaps.setBlock W mb o) :=
  ⟨rfl, rfl, rfl, by unfold ChangeMaps.setBlock; simp, fun _ _ hi => setB_other h o hi⟩
/-- A table under way: of Op 1 to m. -/
structure MS (w : World) (mb m : Nat) (W : World) : Prop where
  ex : ∃ vs : List Value, vs.length = m ∧ W.heap[mb]? = some (.map (entFrom 0 vs).toArray m) ∧ ∀ j v, vs[j]? = some v → IsMake W (j + 1) v
  below : Below w.heap.size w W
  le : w.heap.size ≤ mb
theorem MS.grow {w W W' : World} {mb m : Nat} (h : MS w mb m W) (k : Below W.heap.size W W') : MS w mb m W' := by
  obtain ⟨⟨vs, h1, h2, h3⟩, h4, h5⟩ := h
  exact ⟨⟨vs, h1, (k.block mb (Array.getElem?_eq_some_iff.1 h2).1).trans h2, fun j v hj => (h3 j v hj).grow k⟩, h4.trans (k.mono h4.size), h5⟩
theorem MS.put {w W : World} {mb m : Nat} (h : MS w mb m W) (v : Value) (hv : IsMake W (m + 1) v) (k : Int) (hk : k = ((m + 1 : Nat) : Int)) (hm : m < 1000) :
    ∃ W', (Instr.mapUpdate 79 (.map (some mb)) (.int .i64 k) v).run Tryd.prog W = .ok () W' ∧ MS w mb (m + 1) W' := by
  obtain ⟨⟨vs, h1, h2, h3⟩, h4, h5⟩ := h
  subst h1 hk
  refine ⟨_, put79 h2 _ (WalkArith.wf_i64 (by omega)) v (by simpa using find_none vs 0 0 _ (by omega)), ⟨vs ++ [v], by simp, ?_, fun j u hj => ?_⟩, ?_, h5⟩
  · rw [ChangeMaps.heap_setBlock_same h2]
    congr 2
    rw [entFrom_snoc]
    simp
  · have hE := setB_ex W h2 (.map (((entFrom 0 vs).toArray).push ⟨.int .i64 ((vs.length + 1 : Nat) : Int), v, vs.length⟩) (vs.length + 1))
    by_cases e : j < vs.length
    · rw [List.getElem?_append_left e] at hj
      exact (h3 j u hj).ex h2 hE
    · have ej : j = vs.length := by
        have := (List.getElem?_eq_some_iff.1 hj).1
        simp at this; omega
      subst ej
      obtain rfl : v = u := by simpa using hj
      exact hv.ex h2 hE
  · exact Below.ex h4 h4.size (setB_ex W h2 _) h5
/-- The whole table. -/
structure Table (mb : Nat) (W : World) : Prop where
  at_ : ∀ n, 1 ≤ n → n ≤ 24 → ∃ v, IsMake W n v ∧ (Instr.lookup 79 (.map (some mb)) (.int .i64 (n : Int)) false).run Tryd.prog W = .ok v W
theorem MS.table {w W : World} {mb : Nat} (h : MS w mb 24 W) : Table mb W := by
  obtain ⟨⟨vs, h1, h2, h3⟩, h4, h5⟩ := h
  refine ⟨fun n hn1 hn2 => ?_⟩
  obtain ⟨j, rfl⟩ : ∃ j, n = j + 1 := ⟨n - 1, by omega⟩
  have hj : vs[j]? = some vs[j] := List.getElem?_eq_getElem (by omega)
  refine ⟨vs[j], h3 j _ hj, look79 h2 _ (WalkArith.wf_i64 (by omega)) _ (0 + j) ?_⟩
  have := find_some vs 0 0 j _ hj
  rw [Nat.zero_add] at this
  simpa using this
end Go.Proofs.YtodkehpldlmgaaaDoor
/- The registers as an array. -/
namespace Go.Proofs.YtodkehpldlmgaaaDoor
open Go.RowKit

def Kn.regs (k : Kn) : List Value := (List.range 10).flatMap fun n => (k.r n).cells
def Kn.ra (k : Kn) : Array Value := k.regs.toArray
theorem kn_regs {X : World} {b t : Nat} {k : Kn} (h : Has X b k.a t) : X.rangeAt b 1 k.regs :=
  has_range h 1 _ fun j _ => by unfold Kn.a; rw [List.getElem?_toArray, Nat.add_comm]; rfl
theorem index_reg (k : Kn) (n : Nat) (hn : n < 10) (W : World) : (Instr.index 41 (.agg k.ra) (.int .i64 (n : Int))).run Tryd.prog W = .ok (k.r n).v W := by
  obtain rfl | rfl | rfl | rfl | rfl | rfl | rfl | rfl | rfl | rfl : n = 0 ∨ n = 1 ∨ n = 2 ∨ n = 3 ∨ n = 4 ∨ n = 5 ∨ n = 6 ∨ n = 7 ∨ n = 8 ∨ n = 9 := by omega
  all_goals kernel_rfl
end Go.Proofs.YtodkehpldlmgaaaDoor
