/- Memory: one block that is written, all others kept; 'lay' fills a slice with a number's bytes. -/
import Derived.Test.YtcmkjgodgocdfaaDoorA1
namespace Go.Proofs.YtcmkjgodgocdfaaDoor
open Go.RowKit

/-- But for block b, what was there is as it was; no block has gone. -/
structure Ex (b : Nat) (w w' : World) : Prop where
  os : w'.os = w.os
  tape : w'.tape = w.tape
  output : w'.output = w.output
  size : w.heap.size ≤ w'.heap.size
  block : ∀ k, k < w.heap.size → k ≠ b → w'.heap[k]? = w.heap[k]?

theorem Ex.refl (b : Nat) (w : World) : Ex b w w := ⟨rfl, rfl, rfl, Nat.le_refl _, fun _ _ _ => rfl⟩
theorem Ex.trans {b : Nat} {x y z : World} (h : Ex b x y) (k : Ex b y z) : Ex b x z :=
  ⟨k.os.trans h.os, k.tape.trans h.tape, k.output.trans h.output, Nat.le_trans h.size k.size, fun i hi hb => (k.block i (Nat.lt_of_lt_of_le hi h.size) hb).trans (h.block i hi hb)⟩
theorem Ex.below {b : Nat} {x y : World} (h : Below x.heap.size x y) : Ex b x y := ⟨h.os, h.tape, h.output, h.size, fun i hi _ => h.block i hi⟩
theorem Ex.set (b : Nat) (w : World) (p : Nat) (v : Value) : Ex b w (w.setCell ⟨b, p, none⟩ v) :=
  ⟨rfl, rfl, rfl, by simp [World.setCell], fun i _ hb => heap_setCell_other w ⟨b, p, none⟩ i v hb⟩
theorem Ex.drewN (b : Nat) (w : World) (k : Nat) : Ex b w (w.drewN k) := ⟨rfl, rfl, rfl, Nat.le_refl _, fun _ _ _ => rfl⟩
/-- Where the block itself is new, all that was there is as it was. -/
theorem Ex.to_below {b B : Nat} {x y z : World} (h0 : Below B x y) (hB : B ≤ y.heap.size) (h : Ex b y z) (hb : B ≤ b) : Below B x z :=
  h0.trans ⟨h.os, h.tape, h.output, h.size, fun i hi => h.block i (by omega) (by omega)⟩
/-- A block of cells, none of them frozen. -/
def Has (w : World) (b : Nat) (cs : Array Value) (t : TypeId) : Prop := w.heap[b]? = some (.cells cs t (0, 0))
theorem Has.cell {w : World} {b t : Nat} {cs : Array Value} (h : Has w b cs t) (j : Nat) : w.cell? ⟨b, j, none⟩ = cs[j]? := cell_of_row w b j cs t (0, 0) h
theorem Has.free {w : World} {b t : Nat} {cs : Array Value} (h : Has w b cs t) (j : Nat) : w.frozen? ⟨b, j, none⟩ = false := frozen_of_row w b j cs t h
theorem Has.set {w : World} {b t : Nat} {cs : Array Value} (h : Has w b cs t) (p : Nat) (v : Value) : Has (w.setCell ⟨b, p, none⟩ v) b (cs.setIfInBounds p v) t := heap_setCell_same w b p cs t v h
theorem Has.lt {w : World} {b t : Nat} {cs : Array Value} (h : Has w b cs t) : b < w.heap.size := (Array.getElem?_eq_some_iff.1 h).1
theorem Has.ex {w w' : World} {b c t : Nat} {cs : Array Value} (h : Has w b cs t) (k : Ex c w w') (hb : b ≠ c) : Has w' b cs t := (k.block b h.lt hb).trans h
theorem Has.below {w w' : World} {b t B : Nat} {cs : Array Value} (h : Has w b cs t) (k : Below B w w') (hb : b < B) : Has w' b cs t := (k.block b hb).trans h

/-- The cells from o on, n of them, hold what f says; all others are as they were. -/
structure Upd (cs cs' : Array Value) (o n : Nat) (f : Nat → Value) : Prop where
  size : cs'.size = cs.size
  at_ : ∀ j, cs'[j]? = if o ≤ j ∧ j < o + n then some (f (j - o)) else cs[j]?
theorem Upd.zero (cs : Array Value) (o : Nat) (f : Nat → Value) : Upd cs cs o 0 f := ⟨rfl, fun j => by rw [if_neg (by omega)]⟩
theorem Upd.next {cs cs' : Array Value} {o n : Nat} {f : Nat → Value} (h : Upd cs cs' o n f) (hs : o + n < cs.size) (v : Value) (hv : v = f n) : Upd cs (cs'.setIfInBounds (o + n) v) o (n + 1) f := by
  subst hv
  refine ⟨by simp [h.size], fun j => ?_⟩
  rw [Array.getElem?_setIfInBounds, h.at_ j, h.size]
  by_cases e : o + n = j
  · subst e
    rw [if_pos rfl, if_pos hs, if_pos (by omega), show o + n - o = n by omega]
  · rw [if_neg e]
    by_cases e2 : o ≤ j ∧ j < o + n
    · rw [if_pos e2, if_pos (by omega)]
    · rw [if_neg e2, if_neg (by omega)]
/-- The last k of n, from behind. -/
def UpdB (cs cs' : Array Value) (o n k : Nat) (f : Nat → Value) : Prop := Upd cs cs' (o + (n - k)) k (fun j => f (n - k + j))
theorem UpdB.prev {cs cs' : Array Value} {o n k : Nat} {f : Nat → Value} (h : UpdB cs cs' o n k f) (hk : k < n) (hs : o + n ≤ cs.size) (v : Value) (hv : v = f (n - 1 - k)) : UpdB cs (cs'.setIfInBounds (o + (n - 1 - k)) v) o n (k + 1) f := by
  subst hv
  refine ⟨by simp [h.size], fun j => ?_⟩
  rw [Array.getElem?_setIfInBounds, h.at_ j, h.size]
  by_cases e : o + (n - 1 - k) = j
  · subst e
    rw [if_pos rfl, if_pos (by omega), if_pos (by omega)]
    congr 2; omega
  · rw [if_neg e]
    by_cases e2 : o + (n - k) ≤ j ∧ j < o + (n - k) + k
    · rw [if_pos e2, if_pos (by omega)]
      congr 2; omega
    · rw [if_neg e2, if_neg (by omega)]
theorem UpdB.all {cs cs' : Array Value} {o n : Nat} {f : Nat → Value} (h : UpdB cs cs' o n n f) : Upd cs cs' o n f := by
  refine ⟨h.size, fun j => ?_⟩
  rw [h.at_ j]
  simp
theorem Upd.ex {cs cs' : Array Value} {o n : Nat} {f : Nat → Value} (h : Upd cs cs' o n f) (j : Nat) (hj : j < cs.size) : ∃ v, cs'[j]? = some v := by
  have : j < cs'.size := by rw [h.size]; exact hj
  exact ⟨_, Array.getElem?_eq_getElem this⟩

attribute [local go_sem] wm_add wm_shl wm_shr wm_and wm_xor wm_or wv_nonneg bm_zx bm_lo wm_shl8 wm_shr8
/-- A word's bytes, the highest ahead. -/
def be32 (x : Wd) (n j : Nat) : Value := .int .u8 (bv (lo (x >>> (8 * (n - 1 - j)))))
set_option maxHeartbeats 400000 in
theorem lay32_any (x : Wd) (n b o cap t : Nat) (cs : Array Value) (w : World) (hn : n ≤ 8) (hsz : o + n ≤ cs.size) (hh : Has w b cs t) :
    Calls Tryd.prog 70 #[.slice (some ⟨b, o, none⟩) n cap, .int .u32 (wv x)] w fun e w' => e = .returned (.tuple #[]) ∧ Ex b w w' ∧ w.heap.size = w'.heap.size ∧
      ∃ cs', Has w' b cs' t ∧ Upd cs cs' o n (be32 x n) := by
  go_enter Tryd.func70, Tryd.ntmps70
  go_wp2
  go_loopw [1, 7] (fun m i wr => ∃ k : Nat, k ≤ n ∧ i = .int .i64 k ∧ m = .int .u32 (wv (x >>> (8 * k))) ∧ Ex b w wr ∧ Hid (w.heap.size = wr.heap.size) ∧
      ∃ cs', Has wr b cs' t ∧ UpdB cs cs' o n k (be32 x n)) (fun _ i _ => n - (intOf i).toNat)
  case atStart => exact ⟨0, Nat.zero_le _, rfl, rfl, Ex.refl _ _, rfl, cs, hh, Upd.zero _ _ _⟩
  case round =>
    obtain ⟨k, hk, rfl, rfl, hex, hs, cs', hh', hcs⟩ := hrel
    by_cases hlt : k < n
    · obtain ⟨v0, hv0⟩ := Upd.ex hcs (o + (n - 1 - k)) (by omega)
      have hcell := (hh'.cell (o + (n - 1 - k))).trans hv0
      have hfree := hh'.free (o + (n - 1 - k))
      clear hv0
      go_wp2
      go_roundw
      case rel => exact ⟨k + 1, by omega, by go_num, by rw [← BitVec.shiftRight_add]; congr 3, hex.trans (Ex.set _ _ _ _), by show _ = _; rw [hs.out]; simp [World.setCell], _, hh'.set _ _, hcs.prev hlt hsz _ (by unfold be32; congr 6; omega)⟩
      case measure => simp [intOf]; omega
    · go_wp2
      go_end0
      have e : k = n := by omega
      subst e
      exact ⟨rfl, hex, hs, cs', hh', UpdB.all hcs⟩

/-- A number's bytes, the highest ahead. -/
def be64 (m n j : Nat) : Value := .int .u8 (bv (UInt8.ofNat (m / 256 ^ (n - 1 - j))))
attribute [local go_sem] nv_nonneg nm_shr8 nm_lo
set_option maxHeartbeats 400000 in
theorem lay64_any (m n b o cap t : Nat) (cs : Array Value) (w : World) (hn : n ≤ 8) (hsz : o + n ≤ cs.size) (hh : Has w b cs t) :
    Calls Tryd.prog 69 #[.slice (some ⟨b, o, none⟩) n cap, .int .u64 (nv m)] w fun e w' => e = .returned (.tuple #[]) ∧ Ex b w w' ∧ w.heap.size = w'.heap.size ∧
      ∃ cs', Has w' b cs' t ∧ Upd cs cs' o n (be64 m n) := by
  go_enter Tryd.func69, Tryd.ntmps69
  go_wp2
  go_loopw [1, 7] (fun v i wr => ∃ k : Nat, k ≤ n ∧ i = .int .i64 k ∧ v = .int .u64 (nv (m / 256 ^ k)) ∧ Ex b w wr ∧ Hid (w.heap.size = wr.heap.size) ∧
      ∃ cs', Has wr b cs' t ∧ UpdB cs cs' o n k (be64 m n)) (fun _ i _ => n - (intOf i).toNat)
  case atStart => exact ⟨0, Nat.zero_le _, rfl, by simp, Ex.refl _ _, rfl, cs, hh, Upd.zero _ _ _⟩
  case round =>
    obtain ⟨k, hk, rfl, rfl, hex, hs, cs', hh', hcs⟩ := hrel
    by_cases hlt : k < n
    · obtain ⟨v0, hv0⟩ := Upd.ex hcs (o + (n - 1 - k)) (by omega)
      have hcell := (hh'.cell (o + (n - 1 - k))).trans hv0
      have hfree := hh'.free (o + (n - 1 - k))
      clear hv0
      go_wp2
      go_roundw
      case rel => exact ⟨k + 1, by omega, by go_num, by rw [Nat.div_div_eq_div_mul, ← Nat.pow_succ], hex.trans (Ex.set _ _ _ _), by show _ = _; rw [hs.out]; simp [World.setCell], _, hh'.set _ _, hcs.prev hlt hsz _ (by unfold be64; congr 6; omega)⟩
      case measure => simp [intOf]; omega
    · go_wp2
      go_end0
      have e : k = n := by omega
      subst e
      exact ⟨rfl, hex, hs, cs', hh', UpdB.all hcs⟩
end Go.Proofs.YtcmkjgodgocdfaaDoor
