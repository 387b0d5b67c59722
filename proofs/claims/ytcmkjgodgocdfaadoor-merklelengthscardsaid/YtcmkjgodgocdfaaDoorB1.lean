/- (*Hash).Sum, Of, Sum: the digest of bytes. -/
import Derived.Test.YtcmkjgodgocdfaaDoorA9
namespace Go.Proofs.YtcmkjgodgocdfaaDoor
open Go.RowKit

theorem Below.ex {B b : Nat} {x y z : World} (h0 : Below B x y) (hB : B ≤ y.heap.size) (h : Ex b y z) (hb : B ≤ b) : Below B x z := Ex.to_below h0 hB h hb

theorem shaL_length (m : List UInt8) : (shaL m).length = 32 := digL_length _

set_option maxRecDepth 100000 in
set_option maxHeartbeats 1000000 in
theorem sum_any (hb : Nat) (m : List UInt8) (w : World) (hH : HashAt w hb m) (hg : Glob w) (hsm : m.length < 100000000000) :
    Calls Tryd.prog 52 #[.pointer (some ⟨hb, 0, none⟩)] w fun e w' => e = .returned (.agg (byteCells (shaL m))) ∧ Below w.heap.size w w' := by
  have hlt := hH.lt
  have hgs := hg.size
  go_enter Tryd.func52, Tryd.ntmps52
  go_wp2_with fail
  refine named (p := fun X => Calls _ _ _ X _) ?_
  intro W0 hW0
  have hB0 : Below w.heap.size w W0 := by rw [hW0]; exact (Below.refl _ _).alloc (Nat.le_refl _) _
  have hz0 : W0.heap.size = w.heap.size + 1 := by rw [hW0]; simp
  have hr0 : Has W0 w.heap.size (zeroCells 32) 30 := by rw [hW0]; exact has_new _ _ _ _ rfl
  have hH0 := hH.below hB0 hlt
  clear hW0
  obtain ⟨cs, hcs, hC⟩ := id hH0
  have c73 := (hcs.cell 73).trans hC.made
  have c72 := (hcs.cell 72).trans hC.len
  refine (none_any hb _ c73).mono ?_
  rintro e w' ⟨rfl, hw⟩
  obtain rfl := hw.symm
  go_wp2_with fail
  refine (copy_any hb m _ hH0).mono ?_
  rintro e W1 ⟨rfl, hB1, hH1⟩
  have hlt0 : hb < W0.heap.size := by omega
  have d72 := (hB1.cell (p := ⟨hb, 72, none⟩) hlt0).trans c72
  have hg1 := hg.below (hB0.trans (hB1.mono (by omega))) hgs
  have hs1 := hH1.lt
  clear c72 c73 hcs
  go_wp2_with fail
  refine (tail_any m.length (by omega) _).mono ?_
  rintro e W2 ⟨hB2, hlt2, rfl, hT2⟩
  have hg2 := hg1.below hB2 hg1.size
  have hH2 := hH1.below hB2 hs1
  have htl : (tailL m.length).length ≤ 100 := by rw [tailL_length]; omega
  go_wp2_with fail
  have hsl : SliceOf W2 (w.heap.size + 1) (.slice (some ⟨W1.heap.size, 0, none⟩) (tailL m.length).length (tailL m.length).length) (tailL m.length) :=
    ⟨_, _, W1.heap.size, 0, rfl, Nat.le_refl _, fun _ => rfl, fun j hj => by rw [hT2.cell, Nat.zero_add]; exact byteCells_at _ j hj, hlt2, by omega⟩
  rw [hz0] at hH1 hs1 hH2
  refine (write_any (w.heap.size + 1) m (tailL m.length) _ W2 hH2 hsl hg2 (by omega) (by omega)).mono ?_
  rintro e W3 ⟨rfl, hE3, hH3⟩
  obtain ⟨c3, hc3, hC3⟩ := hH3
  go_wp2_with fail
  refine (digest_any _ _ 101 c3 W3 hc3 hC3.st).mono ?_
  rintro e W4 ⟨rfl, hB4⟩
  rw [show digL (stN (m ++ tailL m.length) ((m ++ tailL m.length).length / 64)) = shaL m from rfl]
  have hE2 : Ex (w.heap.size + 1) W1 W3 := (Ex.below hB2).trans hE3
  have hr1 : Has W1 w.heap.size (zeroCells 32) 30 := hr0.below hB1 (by omega)
  have hr3 := hr1.ex hE2 (by omega)
  have hr4 := hr3.below hB4 hr3.lt
  have hb32 : (byteCells (shaL m)).size = 32 := by rw [byteCells_size, shaL_length]
  go_wp2_with (refine wpList_store_row rfl 30 _ _ rfl w.heap.size _ rfl rfl 30 _ hr4 (by rw [hb32]; kernel_rfl) (by rw [hb32, zeroCells_size]) (byteCells_one _) ?_)
  refine bodyPost_ret (results_cell_row rfl _ _ w.heap.size 30 _ (0, 0) _ rfl (setRow_heap _ _ _ _ _ _ hr4) Tryd.underlying30 rfl (by rw [hb32]; kernel_rfl)) rfl ?_
  have hBa : Below w.heap.size w W1 := hB0.trans (hB1.mono (by omega))
  have hBb : Below w.heap.size w W3 := Below.ex hBa hBa.size hE2 (by omega)
  exact ⟨rfl, (hBb.trans (hB4.mono hBb.size)).trans ⟨rfl, rfl, rfl, by simp, fun j hj => setRow_other _ _ _ _ (by omega)⟩⟩

set_option maxRecDepth 100000 in
set_option maxHeartbeats 400000 in
theorem sum_nil (w : World) :
    Calls Tryd.prog 52 #[.pointer none] w fun e w' => e = .returned (.agg (zeroCells 32)) ∧ Below w.heap.size w w' := by
  go_enter Tryd.func52, Tryd.ntmps52
  have hn := has_new w (zeroCells 32) 30 w.heap.size rfl
  go_wp2_with (first
    | (go_at_call 57; refine (none_nil _).mono ?_; rintro e w' ⟨rfl, hw⟩; obtain rfl := hw.symm)
    | refine wpList_store_row rfl 30 _ _ rfl w.heap.size (zeroCells 32) rfl rfl 30 _ hn (by kernel_rfl) rfl (by kernel_rfl) ?_)
  refine bodyPost_ret (results_cell_row rfl _ _ w.heap.size 30 _ (0, 0) _ rfl (setRow_heap _ _ _ _ _ _ hn) Tryd.underlying30 rfl (by kernel_rfl)) rfl ?_
  exact ⟨rfl, ((Below.refl _ _).alloc (Nat.le_refl _) _).trans ⟨rfl, rfl, rfl, by simp, fun j hj => setRow_other _ _ _ _ (by omega)⟩⟩

/-- A slice value whose bytes these are. -/
def Bytes (w : World) (v : Value) (d : List UInt8) : Prop :=
  ∃ a cap db o, v = .slice a d.length cap ∧ d.length ≤ cap ∧ (d ≠ [] → a = some ⟨db, o, none⟩) ∧ BytesIn w db o d ∧ db < w.heap.size
theorem Bytes.of {w : World} {v : Value} {d : List UInt8} (h : Bytes w v d) (b : Nat) (hb : w.heap.size ≤ b) : SliceOf w b v d := by
  obtain ⟨a, cap, db, o, h1, h2, h3, h4, h5⟩ := h
  exact ⟨a, cap, db, o, h1, h2, h3, h4, h5, by omega⟩
theorem SliceOf.ex {w w' : World} {b : Nat} {v : Value} {d : List UInt8} (h : SliceOf w b v d) (k : Ex b w w') : SliceOf w' b v d := by
  obtain ⟨a, cap, db, o, h1, h2, h3, h4, h5, h6⟩ := h
  exact ⟨a, cap, db, o, h1, h2, h3, fun j hj => (World.cell?_of_block (w := w) (k.block db h5 h6)).trans (h4 j hj), Nat.lt_of_lt_of_le h5 k.size, h6⟩
theorem SliceOf.below {w w' : World} {b : Nat} {v : Value} {d : List UInt8} (h : SliceOf w b v d) (k : Below w.heap.size w w') : SliceOf w' b v d := by
  obtain ⟨a, cap, db, o, h1, h2, h3, h4, h5, h6⟩ := h
  exact ⟨a, cap, db, o, h1, h2, h3, fun j hj => (k.cell (p := ⟨db, o + j, none⟩) h5).trans (h4 j hj), Nat.lt_of_lt_of_le h5 k.size, h6⟩
theorem Bytes.below {w w' : World} {v : Value} {d : List UInt8} (h : Bytes w v d) (k : Below w.heap.size w w') : Bytes w' v d := by
  obtain ⟨a, cap, db, o, h1, h2, h3, h4, h5⟩ := h
  exact ⟨a, cap, db, o, h1, h2, h3, fun j hj => (k.cell (p := ⟨db, o + j, none⟩) h5).trans (h4 j hj), Nat.lt_of_lt_of_le h5 k.size⟩
end Go.Proofs.YtcmkjgodgocdfaaDoor
