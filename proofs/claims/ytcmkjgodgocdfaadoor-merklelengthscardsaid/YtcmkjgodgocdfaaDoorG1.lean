/- The document's block: the state behind a block. -/
import Derived.Test.YtcmkjgodgocdfaaDoorG2
import Derived.Deep.RegionHeld3
import Derived.BigQuiet
namespace Go.Proofs.YtcmkjgodgocdfaaDoor
open Go.RowKit
attribute [local go_sem] wm_and wm_xor wm_or

theorem grown_low {wr X w2 : World} {base e size n : Nat} {v : Value} {xs : List Value} (how : wr.ownsRow base e size v n xs) (hgr : X.grownBy w2 v.ownBlock) (hX : ∃ ob, X = (wr.alloc ob).drew) (b : Nat) (hb : b < base) (hbr : b < wr.heap.size) : w2.heap[b]? = wr.heap[b]? := by
  obtain ⟨ob, rfl⟩ := hX
  have := hgr.block b (by show b < (wr.alloc ob).heap.size; simp; omega) (fun e => by have := (how.lt b e.symm).1; omega)
  rw [this]
  show (wr.alloc ob).heap[b]? = _
  rw [alloc_get, if_neg (by omega)]
theorem grown_below {B : Nat} {w wr X w2 : World} {row : Option Nat} (h : Below B w wr) (hgr : X.grownBy w2 row) (hX : ∃ ob, X = (wr.alloc ob).drew) (hrow : ∀ k, row = some k → B ≤ k) (hs : B ≤ w.heap.size := by exact Nat.le_refl _) : Below B w w2 := by
  obtain ⟨ob, rfl⟩ := hX
  have h1 : (wr.alloc ob).grownBy w2 row := ⟨hgr.os, hgr.tape, hgr.output, hgr.size, hgr.block⟩
  exact below_grown h h1 hrow hs
/-- The first k words of a block, as a row that the call owns. -/
def wrow (bs : List UInt8) (k : Nat) : List Value := (List.range k).map fun j => w32 (Wat bs j)
theorem wrow_next (bs : List UInt8) (k : Nat) : wrow bs (k + 1) = wrow bs k ++ [w32 (Wat bs k)] := by simp [wrow, List.range_succ]
theorem wrow_get (bs : List UInt8) (k j : Nat) (h : j < k) : (wrow bs k)[j]? = some (w32 (Wat bs j)) := by simp [wrow, h]
/-- Where a row of words lies. -/
theorem wrow_at {W : World} {base : Nat} {v : Value} {bs : List UInt8} {k : Nat} (h : W.ownsRow base 87 1 v k (wrow bs k)) (hk : 0 < k) :
    ∃ g cap, v = .slice (some ⟨g, 0, none⟩) k cap ∧ base ≤ g ∧ g < W.heap.size ∧ k ≤ cap ∧ ∀ j, j < k → W.cell? ⟨g, j, none⟩ = some (.int .u32 (wv (Wat bs j))) := by
  obtain ⟨hl, hc⟩ := id h
  rcases hc with ⟨rfl, h0⟩ | ⟨g, cap, cur, rfl, hb, hg, hle, _, _, _⟩
  · omega
  · refine ⟨g, cap, rfl, hb, (h.lt g rfl).2, hle, fun j hj => ?_⟩
    have := h.cells (g := g) rfl j _ (wrow_get bs k j hj)
    rwa [Addr.add_mid, Nat.zero_add] at this
theorem four_rd (b0 b1 b2 b3 : UInt8) : rd [b0, b1, b2, b3] = zx b0 <<< 24 + zx b1 <<< 16 + zx b2 <<< 8 + zx b3 := by
  have key : ∀ (x : Wd) (y : UInt8) , ((x <<< 8) ||| zx y) = x <<< 8 + zx y := by
    intro x y
    rw [← BitVec.add_eq_or_of_and_eq_zero]
    apply BitVec.eq_of_getLsbD_eq
    intro i hi
    simp only [BitVec.getLsbD_and, BitVec.getLsbD_shiftLeft, BitVec.getLsbD_zero]
    by_cases h : i < 8
    · simp [h]
    · have : (zx y).getLsbD i = false := by
        unfold zx
        rw [BitVec.getLsbD_ofNat]
        have hy := y.toNat_lt
        rw [Nat.testBit_lt_two_pow (Nat.lt_of_lt_of_le hy (Nat.pow_le_pow_right (by omega) (by omega)))]
        simp
      rw [this]; simp
  show ((((((0 : Wd) <<< 8 ||| zx b0) <<< 8) ||| zx b1) <<< 8 ||| zx b2) <<< 8 ||| zx b3) = _
  rw [key, key, key, key]
  apply BitVec.eq_of_toNat_eq
  simp only [BitVec.toNat_add, BitVec.toNat_shiftLeft, Nat.shiftLeft_eq, zx, BitVec.toNat_ofNat]
  have h0 := b0.toNat_lt
  have h1 := b1.toNat_lt
  have h2 := b2.toNat_lt
  have h3 := b3.toNat_lt
  omega
theorem Wat_four (bs : List UInt8) (hbs : bs.length = 64) (k : Nat) (h : k < 16) : Wat bs k = zx (bs[4 * k]?.getD 0) <<< 24 + zx (bs[4 * k + 1]?.getD 0) <<< 16 + zx (bs[4 * k + 2]?.getD 0) <<< 8 + zx (bs[4 * k + 3]?.getD 0) := by
  rw [Wat_lo bs k h, ← four_rd]
  congr 1
  apply List.ext_getElem?
  intro j
  unfold four
  rw [List.getElem?_take, List.getElem?_drop]
  have : ∀ m, m < 64 → bs[m]? = some (bs[m]?.getD 0) := fun m hm => by rw [List.getElem?_eq_getElem (by omega)]; rfl
  match j with
  | 0 => simpa using this (4 * k) (by omega)
  | 1 => simpa using this (4 * k + 1) (by omega)
  | 2 => simpa using this (4 * k + 2) (by omega)
  | 3 => simpa using this (4 * k + 3) (by omega)
  | n + 4 => simp; omega
theorem tdiv_shr (x : Wd) (n : Nat) (m : Int) (hm : m = 2 ^ n) : (wv x).tdiv m % 4294967296 = wv (x >>> n) := by
  have h0 := wv_nonneg x
  rw [Int.tdiv_eq_ediv_of_nonneg h0, hm, wm_shr]
  have h1 := wv_nonneg (x >>> n)
  have h2 := wv_lt (x >>> n)
  omega
def srow (s : St) : List Value := (List.range 8).map fun j => w32 (s.get j)
theorem srow_get (s : St) (j : Nat) (h : j < 8) : (srow s)[j]? = some (w32 (s.get j)) := by simp [srow, h]
theorem srow_at {W : World} {base : Nat} {v : Value} {s : St} (h : W.ownsRow base 87 1 v 8 (srow s)) :
    ∃ g cap, v = .slice (some ⟨g, 0, none⟩) 8 cap ∧ base ≤ g ∧ g < W.heap.size ∧ 8 ≤ cap ∧ ∀ j, j < 8 → W.cell? ⟨g, j, none⟩ = some (.int .u32 (wv (s.get j))) := by
  obtain ⟨hl, hc⟩ := id h
  rcases hc with ⟨rfl, h0⟩ | ⟨g, cap, cur, rfl, hb, hg, hle, _, _, _⟩
  · omega
  · refine ⟨g, cap, rfl, hb, (h.lt g rfl).2, hle, fun j hj => ?_⟩
    have := h.cells (g := g) rfl j _ (srow_get s j hj)
    rwa [Addr.add_mid, Nat.zero_add] at this
theorem wm_neg (x : Wd) : (4294967295 - wv x) % (4294967296 : Int) = wv (~~~x) := by
  unfold wv
  rw [BitVec.toNat_not]
  have := x.isLt
  omega
theorem wr_neg (x : Wd) : IntKind.u32.wrap (4294967295 - wv x) = wv (~~~x) := by rw [IntKind.wrap_u32]; exact wm_neg x
theorem refturned_int (x : Wd) (n : Int) (h0 : 0 ≤ n) (hn : n < 32) (w : World) :
    Calls Tryd.prog 56 #[.int .u32 (wv x), .int .i64 n] w fun e w' => e = .returned (.int .u32 (wv (x.rotateRight n.toNat))) ∧ w' = w := by
  obtain ⟨m, rfl⟩ : ∃ m : Nat, n = m := ⟨n.toNat, by omega⟩
  exact refturned_any x m (by omega) w
def mrow (s r : St) (k : Nat) : List Value := (List.range 8).map fun j => w32 (if j < k then r.get j + s.get j else r.get j)
theorem mrow_zero (s r : St) : mrow s r 0 = srow r := by simp [mrow, srow]
theorem mrow_get (s r : St) (k j : Nat) (h : j < 8) : (mrow s r k)[j]? = some (w32 (if j < k then r.get j + s.get j else r.get j)) := by simp [mrow, h]
theorem mrow_next (s r : St) (k : Nat) (h : k < 8) : mrow s r (k + 1) = (mrow s r k).set k (w32 (r.get k + s.get k)) := by
  apply List.ext_getElem?
  intro j
  by_cases hj : j < 8
  · rw [mrow_get s r (k + 1) j hj, List.getElem?_set]
    by_cases e : k = j
    · subst e
      have hlen : (mrow s r k).length = 8 := by simp [mrow]
      rw [if_pos (show k < k + 1 by omega), if_pos rfl, if_pos (show k < (mrow s r k).length by omega)]
    · rw [if_neg e, mrow_get s r k j hj]
      by_cases e2 : j < k
      · rw [if_pos e2, if_pos (by omega)]
      · rw [if_neg e2, if_neg (by omega)]
  · rw [List.getElem?_eq_none (by simp [mrow]; omega), List.getElem?_eq_none (by simp [mrow]; omega)]
theorem comp_mrow (s : St) (bs : List UInt8) : srow (comp s bs) = mrow s (rnds s bs 64) 8 := by
  unfold srow mrow
  apply List.map_congr_left
  intro j hj
  have hj8 : j < 8 := by simpa using hj
  rw [if_pos hj8]
  congr 1
  have e : (comp s bs).get j = s.get j + (rnds s bs 64).get j := by
    match j with
    | 0 | 1 | 2 | 3 | 4 | 5 | 6 => rfl
    | n + 7 => rfl
  rw [e, BitVec.add_comm]
theorem ownsRow_set {w : World} {base e g n cap : Nat} {xs : List Value} (h : w.ownsRow base e 1 (.slice (some ⟨g, 0, none⟩) n cap) n xs) (k : Nat) (u : Value) :
    (w.drew.setCell ⟨g, k, none⟩ u).ownsRow base e 1 (.slice (some ⟨g, 0, none⟩) n cap) n (xs.set k u) := by
  obtain ⟨hl, hc⟩ := h
  rcases hc with ⟨e1, _⟩ | ⟨g', cap', cur, e1, hb, hg, hle, hm, hs, ht⟩
  · simp at e1
  · simp at e1
    obtain ⟨rfl, rfl⟩ := e1
    have hh : Has w.drew g cur e := hg
    refine ⟨by simpa using hl, .inr ⟨g, cap, _, rfl, hb, hh.set k u, hle, hm, by simpa using hs, ?_⟩⟩
    rw [← ht]
    simp [List.take_set]
theorem ownsRow_free {w : World} {base e g n cap : Nat} {xs : List Value} (h : w.ownsRow base e 1 (.slice (some ⟨g, 0, none⟩) n cap) n xs) (k : Nat) : w.frozen? ⟨g, k, none⟩ = false := by
  obtain ⟨hl, hc⟩ := h
  rcases hc with ⟨e1, _⟩ | ⟨g', cap', cur, e1, hb, hg, hle, hm, hs, ht⟩
  · simp at e1
  · simp at e1
    obtain ⟨rfl, rfl⟩ := e1
    have hh : Has w g cur e := hg
    exact hh.free k

set_option maxRecDepth 10000 in
set_option maxHeartbeats 4000000 in
theorem block_any (s : St) (bs : List UInt8) (hbs : bs.length = 64) (g0 c0 g1 c1 db o cb : Nat) (w : World)
    (h0 : ∀ j, j < 8 → w.cell? ⟨g0, j, none⟩ = some (.int .u32 (wv (s.get j)))) (hg0 : g0 < w.heap.size)
    (h1 : ∀ j, j < 64 → w.cell? ⟨g1, j, none⟩ = some (.int .u32 (wv (cubeW j)))) (hg1 : g1 < w.heap.size)
    (hd : BytesIn w db o bs) (hdl : db < w.heap.size) :
    Calls Tryd.prog 49 #[.slice (some ⟨g0, 0, none⟩) 8 c0, .slice (some ⟨g1, 0, none⟩) 64 c1, .slice (some ⟨db, o, none⟩) 64 cb] w fun e w' => ∃ v, e = .returned v ∧ w'.ownsRow w.heap.size 87 1 v 8 (srow (comp s bs)) ∧ Below w.heap.size w w' := by
  go_enter Tryd.func49, Tryd.ntmps49
  go_wp2_with fail
  go_loopw [7, 8] (fun v i wr => ∃ k : Nat, k ≤ 16 ∧ i = .int .i64 k ∧ wr.ownsRow w.heap.size 87 1 v k (wrow bs k) ∧ Below w.heap.size w wr) (fun _ i _ => 16 - (intOf i).toNat)
  case atStart => exact ⟨0, by omega, rfl, World.ownsRow_nil _ _ _ _, Below.refl _ _⟩
  case round =>
    obtain ⟨k, hk, rfl, how, hB⟩ := hrel
    by_cases hk16 : k < 16
    · have i1 : (k : Int) < 16 := by omega
      have HW := Wat_four bs hbs k hk16
      have cel : ∀ m, m < 64 → wr.cell? ⟨db, o + m, none⟩ = some (.int .u8 (bv (bs[m]?.getD 0))) := fun m hm => by
        rw [World.cell?_of_block (w := w) (hB.block db hdl)]; exact hd m (by omega)
      obtain ⟨m0, hm0⟩ : ∃ m : Nat, m = 4 * k := ⟨_, rfl⟩
      obtain ⟨m1, hm1⟩ : ∃ m : Nat, m = 4 * k + 1 := ⟨_, rfl⟩
      obtain ⟨m2, hm2⟩ : ∃ m : Nat, m = 4 * k + 2 := ⟨_, rfl⟩
      obtain ⟨m3, hm3⟩ : ∃ m : Nat, m = 4 * k + 3 := ⟨_, rfl⟩
      have e0 : IntKind.i64.wrap (4 * (k : Int)) = (m0 : Int) := by rw [IntKind.wrap_i64]; omega
      have e1 : IntKind.i64.wrap ((m0 : Int) + 1) = (m1 : Int) := by rw [IntKind.wrap_i64]; omega
      have e2 : IntKind.i64.wrap ((m0 : Int) + 2) = (m2 : Int) := by rw [IntKind.wrap_i64]; omega
      have e3 : IntKind.i64.wrap ((m0 : Int) + 3) = (m3 : Int) := by rw [IntKind.wrap_i64]; omega
      rw [← hm1, ← hm2, ← hm3, ← hm0] at HW
      have c0' := cel m0 (by omega)
      have c1' := cel m1 (by omega)
      have c2' := cel m2 (by omega)
      have c3' := cel m3 (by omega)
      have l0 : (m0 : Int) < 64 := by omega
      have l1 : (m1 : Int) < 64 := by omega
      have l2 : (m2 : Int) < 64 := by omega
      have l3 : (m3 : Int) < 64 := by omega
      generalize bs[m0]?.getD 0 = b0 at *
      generalize bs[m1]?.getD 0 = b1 at *
      generalize bs[m2]?.getD 0 = b2 at *
      generalize bs[m3]?.getD 0 = b3 at *
      clear hm0 hm1 hm2 hm3 cel
      have z0 := bm_zx' b0
      have z1 := bm_zx' b1
      have z2 := bm_zx' b2
      have z3 := bm_zx' b3
      have f0 := wr_shl (zx b0) 24 16777216 (by decide)
      have f1 := wr_shl (zx b1) 16 65536 (by decide)
      have f2 := wr_shl (zx b2) 8 256 (by decide)
      have s1 := wr_add (zx b0 <<< 24) (zx b1 <<< 16)
      have s2 := wr_add (zx b0 <<< 24 + zx b1 <<< 16) (zx b2 <<< 8)
      have s3 := wr_add (zx b0 <<< 24 + zx b1 <<< 16 + zx b2 <<< 8) (zx b3)
      have HW' : Hid (Wat bs k = zx b0 <<< 24 + zx b1 <<< 16 + zx b2 <<< 8 + zx b3) := HW
      clear HW
      generalize zx b0 <<< 24 + zx b1 <<< 16 + zx b2 <<< 8 + zx b3 = T at *
      generalize zx b0 <<< 24 + zx b1 <<< 16 + zx b2 <<< 8 = T2 at *
      generalize zx b0 <<< 24 + zx b1 <<< 16 = T1 at *
      generalize zx b0 <<< 24 = X0 at *
      generalize zx b1 <<< 16 = X1 at *
      generalize zx b2 <<< 8 = X2 at *
      obtain ⟨i0, hi, hz0, hz1, hz2⟩ := info_parts info65
      have hdr : db < wr.heap.size := Nat.lt_of_lt_of_le hdl hB.size
      have hal : ∀ (ob : Obj) (a : Addr), a.block < wr.heap.size → ((wr.alloc ob).drew).cell? a = wr.cell? a := fun ob a ha => by
        refine World.cell?_of_block (w := wr) ?_
        show (wr.alloc ob).heap[a.block]? = _
        rw [alloc_get, if_neg (by omega)]
      have hn1 := has_new wr #[.int .u32 (wv T)] 87 wr.heap.size rfl
      have hwo := how.lt
      have hsz : Hid (w.heap.size ≤ wr.heap.size) := hB.size
      clear h0 h1 hg0 hg1
      go_wp2_with fail
      go_region_held3 (fun W => W.cell? ⟨db, o + m0, none⟩ = some (.int .u8 (bv b0)) ∧ W.cell? ⟨db, o + m1, none⟩ = some (.int .u8 (bv b1)) ∧ W.cell? ⟨db, o + m2, none⟩ = some (.int .u8 (bv b2)) ∧ W.cell? ⟨db, o + m3, none⟩ = some (.int .u8 (bv b3))) (first | exact ⟨c0', c1', c2', c3'⟩ | exact ⟨(hal _ _ hdr).trans c0', (hal _ _ hdr).trans c1', (hal _ _ hdr).trans c2', (hal _ _ hdr).trans c3'⟩ | exact ⟨(World.cell?_of_block (w := wr) hkp).trans c0', (World.cell?_of_block (w := wr) hkp).trans c1', (World.cell?_of_block (w := wr) hkp).trans c2', (World.cell?_of_block (w := wr) hkp).trans c3'⟩) ((refine step_append_own rfl _ _ 84 rfl w.heap.size 87 i0 (.int .u32 0) 1 4 Tryd.underlying84 hi hz0 hz1 hz2 rfl (by omega) _ k _ rfl (how.alloc _) ⟨wr.heap.size, 0, none⟩ 1 1 [w32 T] rfl rfl (fun j u hu => by rw [Addr.add_mid, Nat.zero_add]; refine (hn1.cell j).trans ?_; rw [← hu]; simp [w32]) (fun u hu => by simp at hu; subst hu; rfl) (by simp only [maxLen]; omega) (by omega) (by have := hB.size; simp; omega) ?_; intro v' w2 hown2 hgr; have hkp : w2.heap[db]? = wr.heap[db]? := grown_low how hgr ⟨_, rfl⟩ db hdl hdr))
      go_wp2_with fail
      go_roundw
      case rel => exact ⟨k + 1, by omega, by go_num, by rw [wrow_next, HW'.out]; exact hown2, grown_below hB hgr ⟨_, rfl⟩ (fun k hk => (hwo k hk).1)⟩
      case measure => simp [intOf]; omega
    · obtain rfl : k = 16 := by omega
      clear hd hdl hk16 hk
      rw [show (((16 : Nat) : Int)) = 16 from rfl]
      go_wp2_with fail
      rename_i wr0
      go_loopw [7, 9] (fun v i wr => ∃ k : Nat, 16 ≤ k ∧ k ≤ 64 ∧ i = .int .i64 k ∧ wr.ownsRow w.heap.size 87 1 v k (wrow bs k) ∧ Below w.heap.size w wr) (fun _ i _ => 64 - (intOf i).toNat)
      case atStart => exact ⟨16, by omega, by omega, rfl, how, hB⟩
      case round =>
        clear how hB
        obtain ⟨k, hk0, hk, rfl, how, hB⟩ := hrel
        obtain ⟨g, cap, rfl, hgb, hgs, hgc, hcell⟩ := wrow_at how (by omega)
        by_cases hk64 : k < 64
        · obtain ⟨m15, h15⟩ : ∃ m : Nat, m = k - 15 := ⟨_, rfl⟩
          obtain ⟨m2, h2⟩ : ∃ m : Nat, m = k - 2 := ⟨_, rfl⟩
          obtain ⟨m16, h16⟩ : ∃ m : Nat, m = k - 16 := ⟨_, rfl⟩
          obtain ⟨m7, h7⟩ : ∃ m : Nat, m = k - 7 := ⟨_, rfl⟩
          have HW := Wat_hi bs k hk0 hk64
          rw [← h15, ← h2, ← h16, ← h7] at HW
          have c15 := hcell m15 (by omega)
          have c2 := hcell m2 (by omega)
          have c16 := hcell m16 (by omega)
          have c7 := hcell m7 (by omega)
          have w15 : IntKind.i64.wrap ((k : Int) - 15) = (m15 : Int) := by rw [IntKind.wrap_i64]; omega
          have w2 : IntKind.i64.wrap ((k : Int) - 2) = (m2 : Int) := by rw [IntKind.wrap_i64]; omega
          have w16 : IntKind.i64.wrap ((k : Int) - 16) = (m16 : Int) := by rw [IntKind.wrap_i64]; omega
          have w7 : IntKind.i64.wrap ((k : Int) - 7) = (m7 : Int) := by rw [IntKind.wrap_i64]; omega
          have v15 : (k : Int) - 15 = (m15 : Int) := by omega
          have v2 : (k : Int) - 2 = (m2 : Int) := by omega
          have v16 : (k : Int) - 16 = (m16 : Int) := by omega
          have v7 : (k : Int) - 7 = (m7 : Int) := by omega
          have l15 : (m15 : Int) < k := by omega
          have l2 : (m2 : Int) < k := by omega
          have l16 : (m16 : Int) < k := by omega
          have l7 : (m7 : Int) < k := by omega
          have n15 : m15 < k := by omega
          have n16 : m16 < k := by omega
          have n7 : m7 < k := by omega
          have HK : Hid (16 ≤ k ∧ k < 64) := ⟨hk0, hk64⟩
          have i1 : (k : Int) < 64 := by omega
          have hr16 := wrow_get bs k m16 n16
          have hr7 := wrow_get bs k m7 n7
          generalize Wat bs m15 = x at *
          generalize Wat bs m2 = y at *
          generalize Wat bs m16 = p at *
          generalize Wat bs m7 = q at *
          have HW' : Hid (Wat bs k = p + s0 x + q + s1 y) := HW
          have t7 : ∀ W, Calls Tryd.prog 56 #[.int .u32 (wv x), .int .i64 7] W fun e w' => e = .returned (.int .u32 (wv (x.rotateRight 7))) ∧ w' = W := fun W => refturned_any x 7 (by decide) W
          have t18 : ∀ W, Calls Tryd.prog 56 #[.int .u32 (wv x), .int .i64 18] W fun e w' => e = .returned (.int .u32 (wv (x.rotateRight 18))) ∧ w' = W := fun W => refturned_any x 18 (by decide) W
          have t17 : ∀ W, Calls Tryd.prog 56 #[.int .u32 (wv y), .int .i64 17] W fun e w' => e = .returned (.int .u32 (wv (y.rotateRight 17))) ∧ w' = W := fun W => refturned_any y 17 (by decide) W
          have t19 : ∀ W, Calls Tryd.prog 56 #[.int .u32 (wv y), .int .i64 19] W fun e w' => e = .returned (.int .u32 (wv (y.rotateRight 19))) ∧ w' = W := fun W => refturned_any y 19 (by decide) W
          have d8 : (wv x).tdiv 8 % (4294967296 : Int) = wv (x >>> 3) := tdiv_shr x 3 8 rfl
          have d1024 : (wv y).tdiv 1024 % (4294967296 : Int) = wv (y >>> 10) := tdiv_shr y 10 1024 rfl
          obtain ⟨A, hA⟩ : ∃ A, s0 x = A := ⟨_, rfl⟩
          obtain ⟨B, hB'⟩ : ∃ B, s1 y = B := ⟨_, rfl⟩
          rw [hA, hB'] at HW'
          have hA' : BitVec.rotateRight x 7 ^^^ BitVec.rotateRight x 18 ^^^ x >>> 3 = A := hA
          have hB'' : BitVec.rotateRight y 17 ^^^ BitVec.rotateRight y 19 ^^^ y >>> 10 = B := hB'
          clear hA hB'
          have a1 := wr_add p A
          have a2 := wr_add (p + A) q
          have a3 := wr_add (p + A + q) B
          generalize p + A + q + B = T at *
          generalize p + A + q = T2 at *
          generalize p + A = T1 at *
          clear HW h15 h2 h16 h7 hk hk64 hk0 hcell h0 h1 hg0 hg1
          go_wp2_with fail
          go_quiet (fail)
          go_wp2_with fail
          refine (t7 _).mono ?_
          rintro e w' ⟨rfl, hw⟩; obtain rfl := hw.symm; clear hw
          go_wp2_with fail
          refine (t18 _).mono ?_
          rintro e w' ⟨rfl, hw⟩; obtain rfl := hw.symm; clear hw
          go_wp2_with fail
          refine (t17 _).mono ?_
          rintro e w' ⟨rfl, hw⟩; obtain rfl := hw.symm; clear hw
          go_wp2_with fail
          refine (t19 _).mono ?_
          rintro e w' ⟨rfl, hw⟩; obtain rfl := hw.symm; clear hw
          go_wp2_with fail
          clear v16 v7 t7 t18 t17 t19 d8 d1024 hA' hB'' c15 c2 w15 w2 v15 v2 l15 l2
          have how' : (wr.drewN nq).ownsRow w.heap.size 87 1 (.slice (some ⟨g, 0, none⟩) k cap) k (wrow bs k) := how
          have hBX : Below w.heap.size w (wr.drewN nq) := ⟨hB.os, hB.tape, hB.output, hB.size, hB.block⟩
          have c16' : (wr.drewN nq).cell? ⟨g, m16, none⟩ = some (.int .u32 (wv p)) := c16
          have c7' : (wr.drewN nq).cell? ⟨g, m7, none⟩ = some (.int .u32 (wv q)) := c7
          have hgX : g < (wr.drewN nq).heap.size := hgs
          have hsX : w.heap.size ≤ (wr.drewN nq).heap.size := hB.size
          clear how hB c16 c7 hgs
          generalize wr.drewN nq = X at *
          obtain ⟨i0, hi, hz0, hz1, hz2⟩ := info_parts info65
          have hal : ∀ (ob : Obj) (a : Addr), a.block < X.heap.size → ((X.alloc ob).drew).cell? a = X.cell? a := fun ob a ha => by
            refine World.cell?_of_block (w := X) ?_
            show (X.alloc ob).heap[a.block]? = _
            rw [alloc_get, if_neg (by omega)]
          have hn1 := has_new X #[.int .u32 (wv T)] 87 X.heap.size rfl
          have HK63 : Hid (k + 1 ≤ maxLen ∧ (k + 1) * 4 ≤ 140737488355328) := ⟨by have := HK.out.2; simp only [maxLen]; omega, by have := HK.out.2; omega⟩
          go_region_held3 (fun W => W.cell? ⟨g, m16, none⟩ = some (.int .u32 (wv p)) ∧ W.cell? ⟨g, m7, none⟩ = some (.int .u32 (wv q))) (first | exact ⟨c16', c7'⟩ | exact ⟨(hal _ _ hgX).trans c16', (hal _ _ hgX).trans c7'⟩ | exact ⟨hkp g rfl _ _ hr16, hkp g rfl _ _ hr7⟩) ((refine step_append_own2 rfl _ _ 84 rfl w.heap.size 87 i0 (.int .u32 0) 1 4 Tryd.underlying84 hi hz0 hz1 hz2 rfl (by omega) _ k _ rfl (how'.alloc _) ⟨X.heap.size, 0, none⟩ 1 1 [w32 T] rfl rfl (fun j u hu => by rw [Addr.add_mid, Nat.zero_add]; refine (hn1.cell j).trans ?_; rw [← hu]; simp [w32]) (fun u hu => by simp at hu; subst hu; rfl) HK63.out.1 HK63.out.2 (by simp; omega) ?_; intro v' w2 hown2 hgr hkp))
          go_wp2_with fail
          go_roundw
          case rel => exact ⟨k + 1, by have := HK.out; omega, by have := HK.out; omega, by go_num, by rw [wrow_next, HW'.out]; exact hown2, grown_below hBX hgr ⟨_, rfl⟩ (fun k hk => by cases hk; exact hgb)⟩
          case measure => have := HK.out; simp [intOf]; omega
        · obtain rfl : k = 64 := by omega
          rw [show (((64 : Nat) : Int)) = 64 from rfl]
          clear hk hk0 hk64
          obtain ⟨i0, hi, hz0, hz1, hz2⟩ := info_parts info65
          have hsw : Hid (w.heap.size ≤ wr.heap.size) := hB.size
          have hn8 : ∀ j u, (srow s)[j]? = some u → wr.cell? ⟨g0, j, none⟩ = some u := fun j u hu => by
            rw [World.cell?_of_block (w := w) (hB.block g0 hg0)]
            have hj : j < 8 := by have := (List.getElem?_eq_some_iff.1 hu).1; simpa [srow] using this
            rw [h0 j hj, ← hu, srow_get s j hj]; rfl
          have hg0r : g0 < wr.heap.size := Nat.lt_of_lt_of_le hg0 hB.size
          have hal0 : ∀ j u, (srow s)[j]? = some u → (wr.alloc (.cells #[] 87)).cell? ((⟨g0, 0, none⟩ : Addr).add j) = some u := fun j u hu => by
            rw [Addr.add_mid, Nat.zero_add, World.cell?_of_block (w := wr) (show (wr.alloc (.cells #[] 87)).heap[g0]? = wr.heap[g0]? by rw [alloc_get, if_neg (by omega)])]
            exact hn8 j u hu
          go_wp2_with (refine wpList_append_own _ rfl _ _ 84 rfl w.heap.size 87 i0 (.int .u32 0) 1 4 Tryd.underlying84 hi hz0 hz1 hz2 rfl (by omega) _ 0 [] rfl (World.ownsRow_made wr #[] 0 hsw.out (by simp only [maxLen]; omega) rfl) ⟨g0, 0, none⟩ 8 c0 (srow s) rfl (by simp [srow]) hal0 (fun u hu => by obtain ⟨j, _, rfl⟩ := List.mem_map.1 hu; rfl) (by simp only [maxLen]; omega) (by omega) (by have := hsw.out; simp; omega) ?_; intro v' w2 hown2 hgr hnil; clear hnil)
          have hB2 : Below w.heap.size w w2 := below_grown hB hgr (fun k hk => by cases hk; exact hsw.out)
          have hc2 : Hid (∀ j, j < 64 → w2.cell? ⟨g, j, none⟩ = some (.int .u32 (wv (Wat bs j)))) := fun j hj => by
            rw [World.cell?_of_block (w := wr) (by rw [hgr.block g (by simp; omega) (fun e => by have := Option.some.inj e; simp at this; omega), alloc_get, if_neg (by omega)])]; exact hcell j hj
          have hg2 : Hid (g < w2.heap.size) := by show _ < _; have := hgr.size; simp at this; omega
          have hs2 : Hid (w.heap.size ≤ w2.heap.size) := hB2.size
          clear hn8 hgr hcell how hB hsw hgs hg0r
          rw [Nat.zero_add, List.nil_append] at hown2
          go_loopw [14, 15] (fun v i wr => ∃ k : Nat, k ≤ 64 ∧ i = .int .i64 k ∧ wr.ownsRow w.heap.size 87 1 v 8 (srow (rnds s bs k)) ∧ Below w2.heap.size w2 wr) (fun _ i _ => 64 - (intOf i).toNat)
          case atStart => exact ⟨0, by omega, rfl, hown2, Below.refl _ _⟩
          case round =>
            clear hown2
            obtain ⟨k, hk, rfl, how, hBr⟩ := hrel
            obtain ⟨gs, cs, rfl, hgs0, hgs1, hcs, hcel⟩ := srow_at how
            by_cases hk64 : k < 64
            · have HK : Hid (k < 64) := hk64
              have i1 : (k : Int) < 64 := by omega
              have ck : wr.cell? ⟨g1, k, none⟩ = some (.int .u32 (wv (cubeW k))) := by
                rw [World.cell?_of_block (w := w2) (hBr.block g1 (Nat.lt_of_lt_of_le hg1 hs2.out)), World.cell?_of_block (w := w) (hB2.block g1 hg1)]; exact h1 k hk64
              have cw : wr.cell? ⟨g, k, none⟩ = some (.int .u32 (wv (Wat bs k))) := by
                rw [World.cell?_of_block (w := w2) (hBr.block g hg2.out)]; exact hc2.out k hk64
              have Hst : Hid (rnds s bs (k + 1) = rnd (rnds s bs k) (cubeW k) (Wat bs k)) := rfl
              generalize rnds s bs k = r at *
              generalize cubeW k = C at *
              generalize Wat bs k = Wk at *
              obtain ⟨a, b, c, d, e, f, gg, h⟩ := r
              have f0 : wr.cell? ⟨gs, 0, none⟩ = some (.int .u32 (wv a)) := hcel 0 (by omega)
              have f1 : wr.cell? ⟨gs, 1, none⟩ = some (.int .u32 (wv b)) := hcel 1 (by omega)
              have f2 : wr.cell? ⟨gs, 2, none⟩ = some (.int .u32 (wv c)) := hcel 2 (by omega)
              have f3 : wr.cell? ⟨gs, 3, none⟩ = some (.int .u32 (wv d)) := hcel 3 (by omega)
              have f4 : wr.cell? ⟨gs, 4, none⟩ = some (.int .u32 (wv e)) := hcel 4 (by omega)
              have f5 : wr.cell? ⟨gs, 5, none⟩ = some (.int .u32 (wv f)) := hcel 5 (by omega)
              have f6 : wr.cell? ⟨gs, 6, none⟩ = some (.int .u32 (wv gg)) := hcel 6 (by omega)
              have f7 : wr.cell? ⟨gs, 7, none⟩ = some (.int .u32 (wv h)) := hcel 7 (by omega)
              obtain ⟨ne, hne⟩ : ∃ x, ~~~e = x := ⟨_, rfl⟩
              have nE := wr_neg e
              have nE' := wm_neg e
              rw [hne] at nE nE'
              obtain ⟨S, hS⟩ : ∃ x, BitVec.rotateRight e 6 ^^^ BitVec.rotateRight e 11 ^^^ BitVec.rotateRight e 25 = x := ⟨_, rfl⟩
              obtain ⟨A1, hA1⟩ : ∃ x, e &&& f = x := ⟨_, rfl⟩
              obtain ⟨A2, hA2⟩ : ∃ x, ne &&& gg = x := ⟨_, rfl⟩
              obtain ⟨CH, hCH⟩ : ∃ x, A1 ^^^ A2 = x := ⟨_, rfl⟩
              obtain ⟨S', hS'⟩ : ∃ x, BitVec.rotateRight a 2 ^^^ BitVec.rotateRight a 13 ^^^ BitVec.rotateRight a 22 = x := ⟨_, rfl⟩
              obtain ⟨B1, hB1⟩ : ∃ x, a &&& b = x := ⟨_, rfl⟩
              obtain ⟨B2, hB2'⟩ : ∃ x, a &&& c = x := ⟨_, rfl⟩
              obtain ⟨B3, hB3⟩ : ∃ x, b &&& c = x := ⟨_, rfl⟩
              obtain ⟨MJ, hMJ⟩ : ∃ x, B1 ^^^ B2 ^^^ B3 = x := ⟨_, rfl⟩
              have p1 := wr_add h S
              have p2 := wr_add (h + S) CH
              have p3 := wr_add (h + S + CH) C
              have p4 := wr_add (h + S + CH + C) Wk
              have q1 := wr_add S' MJ
              have q2 := wr_add (h + S + CH + C + Wk) (S' + MJ)
              have q3 := wr_add d (h + S + CH + C + Wk)
              have Hend : Hid (rnds s bs (k + 1) = ⟨h + S + CH + C + Wk + (S' + MJ), a, b, c, d + (h + S + CH + C + Wk), e, f, gg⟩) := by
                show _ = _
                rw [Hst.out, ← hMJ, ← hB1, ← hB2', ← hB3, ← hS', ← hCH, ← hA1, ← hA2, ← hne, ← hS]; rfl
              clear Hst hne
              generalize d + (h + S + CH + C + Wk) = DT at *
              generalize h + S + CH + C + Wk + (S' + MJ) = TU at *
              generalize h + S + CH + C + Wk = T at *
              generalize h + S + CH + C = T3 at *
              generalize h + S + CH = T2 at *
              generalize h + S = T1 at *
              generalize S' + MJ = U at *
              clear hcel h0 h1 hg0 hg1 hB2 hc2
              go_wp2_with fail
              go_quiet ((go_at_call 56; exact Calls.quiet_of_same (refturned_int _ _ (by decide) (by decide) _)))
              have y0 : (wr.drewN nq).cell? ⟨gs, 0, none⟩ = some (.int .u32 (wv a)) := f0
              have y1 : (wr.drewN nq).cell? ⟨gs, 1, none⟩ = some (.int .u32 (wv b)) := f1
              have y2 : (wr.drewN nq).cell? ⟨gs, 2, none⟩ = some (.int .u32 (wv c)) := f2
              have y3 : (wr.drewN nq).cell? ⟨gs, 3, none⟩ = some (.int .u32 (wv d)) := f3
              have y4 : (wr.drewN nq).cell? ⟨gs, 4, none⟩ = some (.int .u32 (wv e)) := f4
              have y5 : (wr.drewN nq).cell? ⟨gs, 5, none⟩ = some (.int .u32 (wv f)) := f5
              have y6 : (wr.drewN nq).cell? ⟨gs, 6, none⟩ = some (.int .u32 (wv gg)) := f6
              have y7 : (wr.drewN nq).cell? ⟨gs, 7, none⟩ = some (.int .u32 (wv h)) := f7
              have hBX : Below w2.heap.size w2 (wr.drewN nq) := ⟨hBr.os, hBr.tape, hBr.output, hBr.size, hBr.block⟩
              have hgX : gs < (wr.drewN nq).heap.size := hgs1
              clear f0 f1 f2 f3 f4 f5 f6 f7 hBr hgs1 how ck cw
              generalize wr.drewN nq = X at *
              go_wp2_with fail
              go_quiet ((go_at_call 56; exact Calls.quiet_of_same (refturned_int _ _ (by decide) (by decide) _)))
              clear nE nE' hS hA1 hA2 hCH hS' hB1 hB2' hB3 hMJ p1 p2 p3 p4 q1
              have z0 : (X.drewN nq).cell? ⟨gs, 0, none⟩ = some (.int .u32 (wv a)) := y0
              have z1 : (X.drewN nq).cell? ⟨gs, 1, none⟩ = some (.int .u32 (wv b)) := y1
              have z2 : (X.drewN nq).cell? ⟨gs, 2, none⟩ = some (.int .u32 (wv c)) := y2
              have z3 : (X.drewN nq).cell? ⟨gs, 3, none⟩ = some (.int .u32 (wv d)) := y3
              have z4 : (X.drewN nq).cell? ⟨gs, 4, none⟩ = some (.int .u32 (wv e)) := y4
              have z5 : (X.drewN nq).cell? ⟨gs, 5, none⟩ = some (.int .u32 (wv f)) := y5
              have z6 : (X.drewN nq).cell? ⟨gs, 6, none⟩ = some (.int .u32 (wv gg)) := y6
              have z7 : (X.drewN nq).cell? ⟨gs, 7, none⟩ = some (.int .u32 (wv h)) := y7
              have hBY : Below w2.heap.size w2 (X.drewN nq) := ⟨hBX.os, hBX.tape, hBX.output, hBX.size, hBX.block⟩
              have hgY : gs < (X.drewN nq).heap.size := hgX
              clear y0 y1 y2 y3 y4 y5 y6 y7 hBX hgX
              generalize X.drewN nq = Y at *
              have hal : ∀ (ob : Obj) (a : Addr), a.block < Y.heap.size → ((Y.alloc ob).drew).cell? a = Y.cell? a := fun ob a ha => by
                refine World.cell?_of_block (w := Y) ?_
                show (Y.alloc ob).heap[a.block]? = _
                rw [alloc_get, if_neg (by omega)]
              go_wp2_with fail
              go_region_held3 (fun W => W.cell? ⟨gs, 0, none⟩ = some (.int .u32 (wv a)) ∧ W.cell? ⟨gs, 1, none⟩ = some (.int .u32 (wv b)) ∧ W.cell? ⟨gs, 2, none⟩ = some (.int .u32 (wv c)) ∧ W.cell? ⟨gs, 3, none⟩ = some (.int .u32 (wv d)) ∧ W.cell? ⟨gs, 4, none⟩ = some (.int .u32 (wv e)) ∧ W.cell? ⟨gs, 5, none⟩ = some (.int .u32 (wv f)) ∧ W.cell? ⟨gs, 6, none⟩ = some (.int .u32 (wv gg))) (first | exact ⟨z0, z1, z2, z3, z4, z5, z6⟩ | exact ⟨(hal _ _ hgY).trans z0, (hal _ _ hgY).trans z1, (hal _ _ hgY).trans z2, (hal _ _ hgY).trans z3, (hal _ _ hgY).trans z4, (hal _ _ hgY).trans z5, (hal _ _ hgY).trans z6⟩) (fail)
              go_wp2_with fail
              go_roundw
              case rel => exact ⟨k + 1, by have := HK.out; omega, by go_num, by rw [Hend.out]; exact ⟨rfl, .inr ⟨Y.heap.size, 8, _, rfl, (by have := hBY.size; have := hs2.out; omega), heap_alloc_new Y _, by omega, by simp only [maxLen]; omega, rfl, rfl⟩⟩, (by have hb := hBY.alloc hBY.size (Obj.cells #[Value.int IntKind.u32 (wv TU), Value.int IntKind.u32 (wv a), Value.int IntKind.u32 (wv b), Value.int IntKind.u32 (wv c), Value.int IntKind.u32 (wv DT), Value.int IntKind.u32 (wv e), Value.int IntKind.u32 (wv f), Value.int IntKind.u32 (wv gg)] 87); exact ⟨hb.os, hb.tape, hb.output, hb.size, hb.block⟩)⟩
              case measure => have := HK.out; simp [intOf]; omega
            · obtain rfl : k = 64 := by omega
              rw [show (((64 : Nat) : Int)) = 64 from rfl]
              have hBw : Below w.heap.size w wr := hB2.trans (hBr.mono hs2.out)
              have Hc : Hid (srow (comp s bs) = mrow s (rnds s bs 64) 8) := comp_mrow s bs
              have how0 := how
              rw [← mrow_zero s] at how0
              clear how hcel hk hk64 hBr hB2 hc2 hg2 hs2 h1 hg1 hal0
              generalize rnds s bs 64 = r at *
              have hg0w : Hid (g0 < wr.heap.size) := Nat.lt_of_lt_of_le hg0 hBw.size
              have h0w : Hid (∀ j, j < 8 → wr.cell? ⟨g0, j, none⟩ = some (.int .u32 (wv (s.get j)))) := fun j hj => by
                rw [World.cell?_of_block (w := w) (hBw.block g0 hg0)]; exact h0 j hj
              have hne : Hid (g0 ≠ gs) := by show _ ≠ _; omega
              clear h0
              generalize wr = W4 at *
              go_wp2_with fail
              go_loopw [18] (fun i wr => ∃ k : Nat, k ≤ 8 ∧ i = .int .i64 k ∧ wr.ownsRow w.heap.size 87 1 (.slice (some ⟨gs, 0, none⟩) 8 cs) 8 (mrow s r k) ∧ Ex gs W4 wr) (fun i _ => 8 - (intOf i).toNat)
              case atStart => exact ⟨0, by omega, rfl, how0, Ex.refl _ _⟩
              case round =>
                clear how0
                obtain ⟨k, hk, rfl, how, hE⟩ := hrel
                by_cases hk8 : k < 8
                · have i1 : (k : Int) < 8 := by omega
                  have d1 : wr.cell? ⟨gs, k, none⟩ = some (.int .u32 (wv (r.get k))) := by
                    have := how.cells (g := gs) rfl k _ (mrow_get s r k k hk8)
                    rw [Addr.add_mid, Nat.zero_add, if_neg (by omega)] at this
                    exact this
                  have d2 : wr.cell? ⟨g0, k, none⟩ = some (.int .u32 (wv (s.get k))) := by
                    rw [World.cell?_of_block (w := W4) (hE.block g0 hg0w.out hne.out)]; exact h0w.out k hk8
                  have d3 := ownsRow_free how k
                  have p1 := wr_add (r.get k) (s.get k)
                  have Hm : Hid (mrow s r (k + 1) = (mrow s r k).set k (w32 (r.get k + s.get k))) := mrow_next s r k hk8
                  have HK : Hid (k < 8) := hk8
                  have hset := ownsRow_set how k (w32 (r.get k + s.get k))
                  rw [← Hm.out] at hset
                  generalize r.get k = rk at *
                  generalize s.get k = sk at *
                  generalize rk + sk = tk at *
                  go_wp2_with fail
                  go_region
                  all_goals
                    go_wp2
                    go_roundw
                    case rel => exact ⟨k + 1, by have := HK.out; omega, by go_num, hset, (hE.trans (Ex.drewN _ _ 1)).trans (Ex.set _ _ _ _)⟩
                    case measure => simp [intOf]; omega
                · obtain rfl : k = 8 := by omega
                  rw [← Hc.out] at how
                  have hBe : Below w.heap.size w wr := Ex.to_below hBw hBw.size hE hgs0
                  clear Hc hE
                  go_wp2_with fail
                  go_ret
                  exact ⟨_, rfl, how, hBe⟩
end Go.Proofs.YtcmkjgodgocdfaaDoor
