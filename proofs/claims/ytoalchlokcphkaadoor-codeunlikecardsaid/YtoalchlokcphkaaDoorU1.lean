/- Memory and bytes: blocks, rows that are owned, slices of bytes; nothing of the program stands here. -/
import Derived.WalkKit
import Derived.WalkSpells
import Derived.WalkLawsBesides
import Derived.BigQuiet
import Derived.Deep.QuietTactic
import Derived.Laws.AppendOwn
import Derived.Deep.MidRow
import Derived.Lib.ConvBytes
namespace Go.Proofs.YtoalchlokcphkaaDoor
open Go.RowKit

/-- A byte as the number that a slot holds. -/
def bv (x : UInt8) : Int := (x.toNat : Int)
theorem bv_nonneg (b : UInt8) : 0 ≤ bv b := Int.natCast_nonneg _
theorem bv_lt (b : UInt8) : bv b < 256 := by unfold bv; have := b.toNat_lt; omega
/-- A byte as a cell. -/
def bc (x : UInt8) : Value := .int .u8 (bv x)
def byteCells (bs : List UInt8) : Array Value := (bs.map bc).toArray
theorem byteCells_size (bs : List UInt8) : (byteCells bs).size = bs.length := by simp [byteCells]
theorem byteCells_at (bs : List UInt8) (j : Nat) (h : j < bs.length) : (byteCells bs)[j]? = some (bc (bs[j]?.getD 0)) := by
  simp [byteCells, h]

/-- But for block b, what was there is as it was; no block has gone. -/
structure Ex (b : Nat) (w w' : World) : Prop where
  os : w'.os = w.os
  tape : w'.tape = w.tape
  output : w'.output = w.output
  size : w.heap.size ≤ w'.heap.size
  block : ∀ k, k < w.heap.size → k ≠ b → w'.heap[k]? = w.heap[k]?

theorem Ex.refl (b : Nat) (w : World) : Ex b w w := ⟨rfl, rfl, rfl, Nat.le_refl _, fun _ _ _ => rfl⟩
theorem Ex.trans {b : Nat} {x y z : World} (h : Ex b x y) (k : Ex b y z) : Ex b x z :=
  ⟨k.os.trans h.os, k.tape.trans h.tape, k.output.trans h.output, Nat.le_trans h.size k.size, fun i hi hb => (k.block i (Nat.lt_of_lt_of_le hi h.size) hb).trans (h.block i hi hb)⟩
theorem Ex.below {b : Nat} {x y : World} (h : Below x.heap.size x y) : Ex b x y := ⟨h.os, h.tape, h.output, h.size, fun i hi _ => h.block i hi⟩
theorem Ex.set (b : Nat) (w : World) (p : Nat) (v : Value) : Ex b w (w.setCell ⟨b, p, none⟩ v) :=
  ⟨rfl, rfl, rfl, by simp [World.setCell], fun i _ hb => heap_setCell_other w ⟨b, p, none⟩ i v hb⟩
theorem Ex.drewN (b : Nat) (w : World) (k : Nat) : Ex b w (w.drewN k) := ⟨rfl, rfl, rfl, Nat.le_refl _, fun _ _ _ => rfl⟩
theorem Ex.drew (b : Nat) (w : World) : Ex b w w.drew := ⟨rfl, rfl, rfl, Nat.le_refl _, fun _ _ _ => rfl⟩
theorem Ex.alloc (b : Nat) (w : World) (o : Obj) : Ex b w (w.alloc o) := Ex.below ((Below.refl _ _).alloc (Nat.le_refl _) _)
/-- Where the block itself is new, all that was there is as it was. -/
theorem Below.ex {b B : Nat} {x y z : World} (h0 : Below B x y) (hB : B ≤ y.heap.size) (h : Ex b y z) (hb : B ≤ b) : Below B x z :=
  h0.trans ⟨h.os, h.tape, h.output, h.size, fun i hi => h.block i (by omega) (by omega)⟩
/-- A block of cells, none of them frozen. -/
def Has (w : World) (b : Nat) (cs : Array Value) (t : TypeId) : Prop := w.heap[b]? = some (.cells cs t (0, 0))
theorem Has.cell {w : World} {b t : Nat} {cs : Array Value} (h : Has w b cs t) (j : Nat) : w.cell? ⟨b, j, none⟩ = cs[j]? := cell_of_row w b j cs t (0, 0) h
theorem Has.free {w : World} {b t : Nat} {cs : Array Value} (h : Has w b cs t) (j : Nat) : w.frozen? ⟨b, j, none⟩ = false := frozen_of_row w b j cs t h
theorem Has.set {w : World} {b t : Nat} {cs : Array Value} (h : Has w b cs t) (p : Nat) (v : Value) : Has (w.setCell ⟨b, p, none⟩ v) b (cs.setIfInBounds p v) t := heap_setCell_same w b p cs t v h
theorem Has.lt {w : World} {b t : Nat} {cs : Array Value} (h : Has w b cs t) : b < w.heap.size := (Array.getElem?_eq_some_iff.1 h).1
theorem Has.ex {w w' : World} {b c t : Nat} {cs : Array Value} (h : Has w b cs t) (k : Ex c w w') (hb : b ≠ c) : Has w' b cs t := (k.block b h.lt hb).trans h
theorem Has.below {w w' : World} {b t B : Nat} {cs : Array Value} (h : Has w b cs t) (k : Below B w w') (hb : b < B) : Has w' b cs t := (k.block b hb).trans h
theorem Has.one {w : World} {b t : Nat} {v : Value} (h : Has w b #[v] t) : w.cell? ⟨b, 0, none⟩ = some v := h.cell 0
theorem alloc_get (w : World) (o : Obj) (k : Nat) : (w.alloc o).heap[k]? = if k = w.heap.size then some o else w.heap[k]? := by
  show (w.heap.push o)[k]? = _
  rw [Array.getElem?_push]
theorem has_new (w : World) (cs : Array Value) (t b : Nat) (h : b = w.heap.size) : Has (w.alloc (.cells cs t)) b cs t := by
  unfold Has; rw [alloc_get, if_pos h]
theorem has_old {w : World} {o : Obj} {cs : Array Value} {t b : Nat} (h : Has w b cs t) : Has (w.alloc o) b cs t := by
  have := h.lt
  unfold Has; rw [alloc_get, if_neg (by omega)]; exact h
theorem cell_set_off {w : World} {b p q : Nat} {v : Value} {x : Option Value} (hpq : ¬ p = q) (h : w.cell? ⟨b, p, none⟩ = x) : (w.setCell ⟨b, q, none⟩ v).cell? ⟨b, p, none⟩ = x := by
  have hne : (⟨b, q, none⟩ : Addr) ≠ ⟨b, p, none⟩ := by intro e; exact hpq (by injection e with _ e2; exact e2.symm)
  exact (World.cell?_setCell_other _ _ _ _ hne).trans h
theorem cell_set_blk {w : World} {b c p q : Nat} {v : Value} {x : Option Value} (hbc : ¬ c = b) (h : w.cell? ⟨c, p, none⟩ = x) : (w.setCell ⟨b, q, none⟩ v).cell? ⟨c, p, none⟩ = x := by
  have hne : (⟨b, q, none⟩ : Addr) ≠ ⟨c, p, none⟩ := by intro e; exact hbc (by injection e with e2; exact e2.symm)
  exact (World.cell?_setCell_other _ _ _ _ hne).trans h
theorem named {p : World → Prop} {W : World} (h : ∀ W0, W0 = W → p W0) : p W := h W rfl
theorem block_of_cell {w : World} {a : Addr} {v : Value} (h : w.cell? a = some v) : a.block < w.heap.size := World.block_lt_of_cell? w a h

/-- Bytes that lie in block d from o on. -/
def BytesIn (w : World) (d o : Nat) (l : List UInt8) : Prop := ∀ j, j < l.length → w.cell? ⟨d, o + j, none⟩ = some (bc (l[j]?.getD 0))
/-- A slice value whose bytes these are. -/
def Bytes (w : World) (v : Value) (d : List UInt8) : Prop :=
  ∃ a cap db o, v = .slice a d.length cap ∧ d.length ≤ cap ∧ (d ≠ [] → a = some ⟨db, o, none⟩) ∧ BytesIn w db o d ∧ db < w.heap.size
/-- .. and they don't lie in any of the blocks of which S tells. -/
def BytesAp (S : Nat → Prop) (w : World) (v : Value) (d : List UInt8) : Prop :=
  ∃ a cap db o, v = .slice a d.length cap ∧ d.length ≤ cap ∧ (d ≠ [] → a = some ⟨db, o, none⟩) ∧ BytesIn w db o d ∧ db < w.heap.size ∧ ¬ S db
theorem BytesAp.bytes {S : Nat → Prop} {w : World} {v : Value} {d : List UInt8} (h : BytesAp S w v d) : Bytes w v d := by
  obtain ⟨a, cap, db, o, h1, h2, h3, h4, h5, h6⟩ := h; exact ⟨a, cap, db, o, h1, h2, h3, h4, h5⟩
theorem BytesAp.mono {S S' : Nat → Prop} {w : World} {v : Value} {d : List UInt8} (h : BytesAp S w v d) (hs : ∀ k, k < w.heap.size → S' k → S k) : BytesAp S' w v d := by
  obtain ⟨a, cap, db, o, h1, h2, h3, h4, h5, h6⟩ := h; exact ⟨a, cap, db, o, h1, h2, h3, h4, h5, fun h => h6 (hs _ h5 h)⟩
theorem Bytes.ap {w : World} {v : Value} {d : List UInt8} (h : Bytes w v d) {S : Nat → Prop} (hs : ∀ k, k < w.heap.size → ¬ S k) : BytesAp S w v d := by
  obtain ⟨a, cap, db, o, h1, h2, h3, h4, h5⟩ := h; exact ⟨a, cap, db, o, h1, h2, h3, h4, h5, hs _ h5⟩
theorem Bytes.below {w w' : World} {v : Value} {d : List UInt8} (h : Bytes w v d) (k : Below w.heap.size w w') : Bytes w' v d := by
  obtain ⟨a, cap, db, o, h1, h2, h3, h4, h5⟩ := h
  exact ⟨a, cap, db, o, h1, h2, h3, fun j hj => (k.cell (p := ⟨db, o + j, none⟩) h5).trans (h4 j hj), Nat.lt_of_lt_of_le h5 k.size⟩
/-- But for blocks of S, what was there is as it was. -/
structure Fr (S : Nat → Prop) (w w' : World) : Prop where
  os : w'.os = w.os
  tape : w'.tape = w.tape
  output : w'.output = w.output
  size : w.heap.size ≤ w'.heap.size
  block : ∀ k, k < w.heap.size → ¬ S k → w'.heap[k]? = w.heap[k]?
theorem Fr.refl (S : Nat → Prop) (w : World) : Fr S w w := ⟨rfl, rfl, rfl, Nat.le_refl _, fun _ _ _ => rfl⟩
theorem Fr.mono {S S' : Nat → Prop} {w w' : World} (h : Fr S w w') (hs : ∀ k, k < w.heap.size → S k → S' k) : Fr S' w w' :=
  ⟨h.os, h.tape, h.output, h.size, fun k hk hn => h.block k hk (fun e => hn (hs k hk e))⟩
theorem Fr.trans {S : Nat → Prop} {x y z : World} (h : Fr S x y) (k : Fr S y z) : Fr S x z :=
  ⟨k.os.trans h.os, k.tape.trans h.tape, k.output.trans h.output, Nat.le_trans h.size k.size, fun i hi hb => (k.block i (Nat.lt_of_lt_of_le hi h.size) hb).trans (h.block i hi hb)⟩
/-- Two steps of which the second one writes into what the first one made, too. -/
theorem Fr.trans' {S S' : Nat → Prop} {x y z : World} (h : Fr S x y) (k : Fr S' y z) (hs : ∀ i, i < x.heap.size → S' i → S i) : Fr S x z :=
  ⟨k.os.trans h.os, k.tape.trans h.tape, k.output.trans h.output, Nat.le_trans h.size k.size, fun i hi hb => (k.block i (Nat.lt_of_lt_of_le hi h.size) (fun e => hb (hs i hi e))).trans (h.block i hi hb)⟩
theorem Fr.of_below {S : Nat → Prop} {x y : World} (h : Below x.heap.size x y) : Fr S x y := ⟨h.os, h.tape, h.output, h.size, fun i hi _ => h.block i hi⟩
theorem Fr.of_ex {b : Nat} {x y : World} (h : Ex b x y) : Fr (· = b) x y := ⟨h.os, h.tape, h.output, h.size, fun i hi hb => h.block i hi hb⟩
theorem Fr.ex {b : Nat} {x y : World} (h : Fr (· = b) x y) : Ex b x y := ⟨h.os, h.tape, h.output, h.size, fun i hi hb => h.block i hi hb⟩
theorem Fr.below {S : Nat → Prop} {B : Nat} {x y z : World} (h0 : Below B x y) (h : Fr S y z) (hB : B ≤ y.heap.size) (hs : ∀ k, k < B → ¬ S k) : Below B x z :=
  h0.trans ⟨h.os, h.tape, h.output, h.size, fun i hi => h.block i (by omega) (hs i hi)⟩
theorem Has.fr {S : Nat → Prop} {w w' : World} {b t : Nat} {cs : Array Value} (h : Has w b cs t) (k : Fr S w w') (hb : ¬ S b) : Has w' b cs t := (k.block b h.lt hb).trans h
theorem BytesAp.fr {S S' : Nat → Prop} {w w' : World} {v : Value} {d : List UInt8} (h : BytesAp S w v d) (k : Fr S' w w') (hs : ∀ i, i < w.heap.size → S' i → S i) : BytesAp S w' v d := by
  obtain ⟨a, cap, db, o, h1, h2, h3, h4, h5, h6⟩ := h
  exact ⟨a, cap, db, o, h1, h2, h3, fun j hj => (World.cell?_of_block (w := w) (k.block db h5 (fun e => h6 (hs _ h5 e)))).trans (h4 j hj), Nat.lt_of_lt_of_le h5 k.size, h6⟩

/-- A slice of bytes that the call owns. -/
abbrev Own (w : World) (v : Value) (d : List UInt8) : Prop := w.ownsRow 0 5 1 v d.length (d.map bc)
theorem Own.fr {S : Nat → Prop} {w w' : World} {v : Value} {d : List UInt8} (h : Own w v d) (k : Fr S w w') (hs : ∀ i, v.ownBlock = some i → ¬ S i) : Own w' v d := by
  refine ⟨h.1, ?_⟩
  rcases h.2 with h2 | ⟨g, cap, cur, a, b, c, e⟩
  · exact .inl h2
  · refine .inr ⟨g, cap, cur, a, b, ?_, e⟩
    rw [k.block g (Array.getElem?_eq_some_iff.1 c).1 (hs g (by rw [a]; rfl))]; exact c
theorem Own.bytesAp {w : World} {v : Value} {d : List UInt8} {S : Nat → Prop} (h : Own w v d) (hs : ∀ i, v.ownBlock = some i → ¬ S i) (h1 : v = .slice none 0 0 → ∃ i, i < w.heap.size ∧ ¬ S i) : BytesAp S w v d := by
  rcases h.2 with ⟨rfl, h2⟩ | ⟨g, cap, cur, rfl, b, c, e⟩
  · obtain ⟨i, hi, hn⟩ := h1 rfl
    have : d = [] := List.eq_nil_of_length_eq_zero h2
    subst this
    exact ⟨none, 0, i, 0, rfl, Nat.le_refl _, fun h => absurd rfl h, fun j hj => absurd hj (by simp), hi, hn⟩
  · refine ⟨_, cap, g, 0, rfl, e.1, fun _ => rfl, fun j hj => ?_, (Array.getElem?_eq_some_iff.1 c).1, hs g rfl⟩
    have := h.cells (g := g) rfl j (bc (d[j]?.getD 0)) (by simp [hj])
    rw [Addr.add_mid] at this
    exact this
theorem Own.bytes {w : World} {v : Value} {d : List UInt8} (h : Own w v d) (h0 : 0 < w.heap.size) : Bytes w v d :=
  (Own.bytesAp (S := fun _ => False) h (fun _ _ h => h) (fun _ => ⟨0, h0, fun h => h⟩)).bytes
theorem Own.has_ne {w : World} {v : Value} {d : List UInt8} (h : Own w v d) {b t : Nat} {cs : Array Value} (hh : Has w b cs t) (ht : t ≠ 5) : v.ownBlock ≠ some b := by
  intro e
  rcases h.2 with ⟨rfl, _⟩ | ⟨g, cap, cur, rfl, _, c, _⟩
  · cases e
  · simp [Value.ownBlock] at e
    subst e
    unfold Has at hh
    rw [c] at hh
    simp at hh
    exact ht hh.2.symm
theorem Own.lt' {w : World} {v : Value} {d : List UInt8} (h : Own w v d) {k : Nat} (hk : v.ownBlock = some k) : k < w.heap.size := (h.lt k hk).2
theorem Own.nil (w : World) : Own w (.slice none 0 0) [] := World.ownsRow_nil _ _ _ _
/-- An owned row: what a writer moves as it grows. -/
theorem grown_fr {w w' : World} {v : Value} (h : w.grownBy w' v.ownBlock) : Fr (fun k => v.ownBlock = some k) w w' :=
  ⟨h.os, h.tape, h.output, h.size, fun k hk hn => h.block k hk (fun e => hn e.symm)⟩

theorem foldl_push (ns : List UInt8) : ∀ s : ByteArray, (ns.map (fun b => bv b)).foldl (fun r n => r.push (UInt8.ofNat n.toNat)) s = ⟨s.data ++ ns.toArray⟩ := by
  induction ns with
  | nil => intro s; simp
  | cons b ns ih =>
    intro s
    rw [List.map_cons, List.foldl_cons, ih]
    simp [bv, ByteArray.push]
theorem bytes_nil (w : World) (h : 0 < w.heap.size) : Bytes w (.slice none 0 0) [] := ⟨none, 0, 0, 0, rfl, Nat.le_refl _, fun h => absurd rfl h, fun j hj => absurd hj (by simp), h⟩

theorem append_types {P : Program} {t u e e' : TypeId} {i : TypeInfo} (ty : TypeId) (ht : P.underlying t = some (.slice e)) (hu : P.underlying u = some (.slice e')) (hi : P.info? e = some i) (a : Option Addr) (n c : Nat) (x : Value) (w : World) :
    (Builtin.append_ #[t, u] ty #[.slice a n c, x]).run P w = (Builtin.append_ #[t, t] ty #[.slice a n c, x]).run P w := by
  simp [Builtin.append_, run_underlying ht, run_underlying hu, sizeOf, typeInfo, hi]
theorem Own.slice {w : World} {v : Value} {d : List UInt8} (h : Own w v d) : ∃ a c, v = .slice a d.length c := by
  rcases h.2 with ⟨rfl, h0⟩ | ⟨g, c, cur, rfl, _⟩
  · rw [h0]; exact ⟨_, _, rfl⟩
  · exact ⟨_, _, rfl⟩
theorem info_parts' {P : Program} {e : TypeId} {z : Value} {s b : Nat} (h : (P.info? e).map (fun i => (i.zero, i.size, i.bytes)) = some (some z, s, b)) : ∃ i, P.info? e = some i ∧ i.zero = some z ∧ i.size = s ∧ i.bytes = b := by
  cases hi : P.info? e with
  | none => rw [hi] at h; cases h
  | some i =>
    rw [hi] at h
    simp only [Option.map_some, Option.some.injEq, Prod.mk.injEq] at h
    exact ⟨i, rfl, h.1, h.2.1, h.2.2⟩
/-- What a row moves to as it grows: it stays, or is new. -/
def Loc (w : World) (v v' : Value) : Prop := ∀ k, v'.ownBlock = some k → v.ownBlock = some k ∨ w.heap.size ≤ k
theorem append_loc {P : Program} {t e : TypeId} (ty : TypeId) {i : TypeInfo} {z : Value} (ht : P.underlying t = some (.slice e)) (hi : P.info? e = some i) (hz : i.zero = some z) (hs1 : i.size = 1) (hb1 : i.bytes = 1) (w : World) (v : Value) (n : Nat) (xs : List Value) (hown : w.ownsRow 0 e 1 v n xs)
    (a : Addr) (m c : Nat) (news : List Value) (hl : news.length = m) (hnews : ∀ j u, news[j]? = some u → w.cell? (a.add j) = some u) (h1 : ∀ u ∈ news, u.oneCell' = true) (hsm : n + m ≤ 100000000000000) {v' : Value} {w' : World}
    (hr : (Builtin.append_ #[t, t] ty #[v, .slice (some a) m c]).run P w = .ok v' w') : Loc w v v' := by
  intro k hk
  rcases hown.2 with ⟨rfl, rfl⟩ | ⟨g, cap, cur, rfl, _, hg, hnc, hcm, hcs, htake⟩
  · by_cases hm : m = 0
    · subst hm
      have hn : news = [] := List.eq_nil_of_length_eq_zero hl
      subst hn
      have e1 : (Builtin.append_ #[t, t] ty #[.slice none 0 0, .slice (some a) 0 c]).run P w = .ok (.slice none 0 0) w := by
        simp [Builtin.append_, run_underlying ht, sizeOf, typeInfo, hi, Builtin.lenOf, Builtin.firstCells, loadCells, loadCellsFrom]
      rw [e1] at hr
      cases hr
      exact .inl hk
    · rw [run_append_nil (P := P) w t ty e i z ht hi hz a m c news (by rw [hs1]; omega) hnews (by omega) (by omega) (by rw [hb1]; omega)] at hr
      cases hr
      simp [Value.ownBlock] at hk
      exact .inr (by omega)
  · by_cases hroom : n + m ≤ cap
    · rw [run_append_room (P := P) w t ty e i ht hi g n cap cur hg a m c news (by rw [hs1]; omega) hnews h1 hroom (by rw [hs1, hcs]; omega)] at hr
      cases hr
      exact .inl hk
    · rw [run_append_grow (P := P) w t ty e i z ht hi hz ⟨g, 0, none⟩ n cap xs (by rw [hs1]; exact hown.1) (hown.cells (g := g) rfl) a m c news (by rw [hs1]; omega) hnews (by omega) (by omega) (growslice_fits (by omega) (by rw [hb1]; omega))] at hr
      cases hr
      simp [Value.ownBlock] at hk
      exact .inr (by omega)
/-- An append of bytes, wherever they lie, onto bytes that the call owns. -/
theorem run_append_bytes {P : Program} {t u : TypeId} (ty : TypeId) (h5 : (P.info? 5).map (fun i => (i.zero, i.size, i.bytes)) = some (some (.int .u8 0), 1, 1))
    (ht : P.underlying t = some (.slice 5)) (hu : P.underlying u = some (.slice 5)) (w : World) (v xv : Value) (d x : List UInt8) (hown : Own w v d) (hx : Bytes w xv x) (hsm : d.length + x.length ≤ 100000000000000) :
    ∃ v' w', (Builtin.append_ #[t, u] ty #[v, xv]).run P w = .ok v' w' ∧ Own w' v' (d ++ x) ∧ w.grownBy w' v.ownBlock ∧ Loc w v v' ∧ (v' = .slice none 0 0 ↔ v = .slice none 0 0 ∧ x = []) := by
  obtain ⟨i0, hi, hz0, hz1, hz2⟩ := info_parts' h5
  obtain ⟨a, cap, db, o, rfl, hcap, ha, hin, hlt⟩ := hx
  have hmx : d.length + x.length ≤ maxLen := by unfold maxLen; omega
  cases a with
  | some a0 =>
    have hcells : ∀ j u, (x.map bc)[j]? = some u → w.cell? (a0.add j) = some u := fun j u hu => by
      have hj : j < x.length := by have := (List.getElem?_eq_some_iff.1 hu).1; simpa using this
      obtain rfl := Option.some.inj (ha (by intro e; simp [e] at hj))
      rw [Addr.add_mid, hin j hj, ← hu]; simp [hj]
    obtain ⟨v', w', h1, h2, h3, h4⟩ := run_append_own (P := P) w 0 t ty 5 i0 (.int .u8 0) 1 1 ht hi hz0 hz1 hz2 rfl (by omega) v d.length (d.map bc) hown a0 x.length cap (x.map bc) (by simp) hcells
      (fun u hu => by simp at hu; obtain ⟨y, _, rfl⟩ := hu; rfl) hmx (by omega) (Nat.zero_le _)
    refine ⟨v', w', (by obtain ⟨a1, c1, rfl⟩ := hown.slice; exact (append_types ty ht hu hi _ _ _ _ _).trans h1), by unfold Own; rw [List.length_append, List.map_append]; exact h2, h3, append_loc ty ht hi hz0 hz1 hz2 w v d.length (d.map bc) hown a0 x.length cap (x.map bc) (by simp) hcells (fun u hu => by simp at hu; obtain ⟨y, _, rfl⟩ := hu; rfl) hsm h1, ?_⟩
    rw [h4]; simp
  | none =>
    have hx0 : x = [] := by
      cases x with
      | nil => rfl
      | cons b l => cases ha (by simp)
    subst hx0
    refine ⟨v, w, ?_, by simpa using hown, ⟨rfl, rfl, rfl, Nat.le_refl _, fun _ _ _ => rfl⟩, fun k hk => .inl hk, by simp⟩
    rcases hown.2 with ⟨rfl, h0⟩ | ⟨g, c, cur, rfl, _, hg, hnc, _⟩
    · simp [Builtin.append_, run_underlying ht, run_underlying hu, sizeOf, typeInfo, hi, Builtin.lenOf, Builtin.firstCells]
    · simp [Builtin.append_, run_underlying ht, run_underlying hu, sizeOf, typeInfo, hi, Builtin.lenOf, Builtin.firstCells, hnc, storeCells]
theorem wpList_append_bytes {P : Program} (w : World) {ops : Array Oper} {rest : List Oper} {o : Oper} {a : Act} {Q : Exit → Act → World → Prop} (hw : Region.wanted o (yielded ops a.tmps) = true) (s y : Operand) (t u : TypeId)
    (ho : o.op = .call { callee := .builtin .append, args := #[s, y], argTypes := #[t, u] }) (h5 : (P.info? 5).map (fun i => (i.zero, i.size, i.bytes)) = some (some (.int .u8 0), 1, 1))
    (ht : P.underlying t = some (.slice 5)) (hu : P.underlying u = some (.slice 5)) (v xv : Value) (d x : List UInt8) (hs : a.eval s = v) (hy : a.eval y = xv) (hown : Own w v d) (hx : Bytes w xv x) (hsm : d.length + x.length ≤ 100000000000000)
    (h : ∀ v' w', Own w' v' (d ++ x) → w.grownBy w' v.ownBlock → Loc w v v' → (v' = .slice none 0 0 ↔ v = .slice none 0 0 ∧ x = []) → wpList P ops Q rest (a.put o.dst v') w') : wpList P ops Q (o :: rest) a w := by
  obtain ⟨v', w', h1, h2, h3, h5', h4⟩ := run_append_bytes o.type h5 ht hu w v xv d x hown hx hsm
  unfold wpList
  rw [if_pos hw]
  refine .inl ?_
  unfold Oper.wp execOp
  simp only [ho, resolve, invoke, builtin, Sem.run_bind, Sem.run_pure, Result.andThen_ok, List.map_toArray, List.map_cons, List.map_nil, hs, hy, h1]
  exact h v' w' h2 h3 h5' h4
/-- Bytes as a text. -/
theorem bytes_string {P : Program} {t u : TypeId} (ht : P.underlying t = some (.slice 5)) (h5 : P.underlying 5 = some (.int .u8)) (hu : P.underlying u = some .string) (W : World) (v : Value) (l : List UInt8) (h : Bytes W v l) :
    (convert t u v).run P W = .ok (.string ⟨l.toArray⟩) W := by
  obtain ⟨a, cap, db, o, rfl, hcap, ha, hin, hlt⟩ := h
  rw [run_convert_bytes_string W t u 5 _ _ _ ht h5 hu]
  cases a with
  | none =>
    have hx0 : l = [] := by
      cases l with
      | nil => rfl
      | cons b l => cases ha (by simp)
    subst hx0
    simp [Conv.bytesToString]
    rfl
  | some a0 =>
    have hld := run_loadCells_list (P := P) (w := W) a0 ((l.map fun b => bv b).map (Value.int .u8)) (fun j v hv => by
      have hj : j < l.length := by
        have := (List.getElem?_eq_some_iff.1 hv).1
        simpa using this
      obtain rfl := Option.some.inj (ha (by intro e; simp [e] at hj))
      rw [Addr.add_mid, hin j hj, ← hv]
      simp [hj, bc])
    have e : ((l.map fun b => bv b).map (Value.int .u8)).length = l.length := by simp
    rw [e] at hld
    rw [run_bytesToString W a0 _ _ (l.map fun b => bv b) hld, foldl_push]
    simp
theorem wpList_run {P : Program} {ops : Array Oper} {rest : List Oper} {o : Oper} {a : Act} {w w' : World} {v : Value} {Q : Exit → Act → World → Prop} (hw : Region.wanted o (yielded ops a.tmps) = true)
    (hrun : (execOp a.eval o).run P w = .ok (.value v) w') (h : wpList P ops Q rest (a.put o.dst v) w') : wpList P ops Q (o :: rest) a w := by
  unfold wpList
  rw [if_pos hw]
  refine .inl ?_
  unfold Oper.wp
  rw [hrun]
  exact h
theorem wpList_convert_run {P : Program} {ops : Array Oper} {rest : List Oper} {o : Oper} {a : Act} {w w' : World} {Q : Exit → Act → World → Prop} (hw : Region.wanted o (yielded ops a.tmps) = true)
    (src dst : TypeId) (x : Operand) (ho : o.op = .convert src dst x) (v0 v : Value) (hx : a.eval x = v0) (hrun : (convert src dst v0).run P w = .ok v w') (h : wpList P ops Q rest (a.put o.dst v) w') : wpList P ops Q (o :: rest) a w := by
  refine wpList_run hw ?_ h
  unfold execOp
  simp only [ho, hx, Sem.run_bind, hrun, Sem.run_pure, Result.andThen_ok]
end Go.Proofs.YtoalchlokcphkaaDoor
