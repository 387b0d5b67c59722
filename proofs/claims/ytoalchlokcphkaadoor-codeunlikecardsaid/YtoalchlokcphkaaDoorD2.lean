/- Numbers as bytes (low), and the closure that lays bytes (laid$1). -/
import Derived.Test.YtoalchlokcphkaaDoorD1
import Derived.Handy
namespace Go.Proofs.YtoalchlokcphkaaDoor
open Go.RowKit

theorem info5 : (Tryd.prog.info? 5).map (fun i => (i.zero, i.size, i.bytes)) = some (some (.int .u8 0), 1, 1) := by kernel_rfl
theorem bv_of (n : Nat) : bv (UInt8.ofNat n) = ((n % 256 : Nat) : Int) := by
  unfold bv; rw [UInt8.toNat_ofNat']
/-- The two, the four lowest bytes of a number. -/
def low2L (n : Nat) : List UInt8 := [UInt8.ofNat n, UInt8.ofNat (n / 256)]
def low4L (n : Nat) : List UInt8 := [UInt8.ofNat n, UInt8.ofNat (n / 256), UInt8.ofNat (n / 65536), UInt8.ofNat (n / 16777216)]
theorem bytes_block (w : World) (d : List UInt8) (n : Nat) (hn : n = d.length) (cs : Array Value) (hc : cs = byteCells d) : Bytes (w.alloc (.cells cs 5)) (.slice (some ⟨w.heap.size, 0, none⟩) n n) d := by
  subst hn hc
  refine ⟨_, _, w.heap.size, 0, rfl, Nat.le_refl _, fun _ => rfl, fun j hj => ?_, by simp⟩
  rw [Nat.zero_add]
  exact ((has_new w (byteCells d) 5 w.heap.size rfl).cell j).trans (byteCells_at d j hj)
theorem own_alloc {w : World} {v : Value} {d : List UInt8} (h : Own w v d) (o : Obj) : Own (w.alloc o) v d := World.ownsRow.alloc h o

set_option maxRecDepth 10000 in
set_option maxHeartbeats 2000000 in
theorem low2_any (n : Nat) (_hn : n < 4294967296) (w : World) :
    Calls Tryd.prog 39 #[.int .u32 n, .int .i64 2] w fun e w' => ∃ v, e = .returned v ∧ Bytes w' v (low2L n) ∧ Below w.heap.size w w' := by
  have hmk : ∀ w, (Instr.makeSlice 27 (.int .i64 2) (.int .i64 2)).run Tryd.prog w = .ok (.slice (some ⟨w.heap.size, 0, none⟩) 2 2) (w.alloc (.cells #[.int .u8 0, .int .u8 0] 5)) := fun _ => by kernel_rfl
  go_enter Tryd.func39, Tryd.ntmps39
  go_wp2
  go_rounds 3
  go_ret
  exact ⟨_, rfl, bytes_block w (low2L n) 2 rfl _ (by
    show _ = #[Value.int .u8 (bv (UInt8.ofNat n)), Value.int .u8 (bv (UInt8.ofNat (n / 256)))]
    rw [bv_of, bv_of]; rfl), (Below.refl _ _).alloc (Nat.le_refl _) _⟩
set_option maxRecDepth 10000 in
set_option maxHeartbeats 2000000 in
theorem low4_any (n : Nat) (hn : n < 4294967296) (w : World) :
    Calls Tryd.prog 39 #[.int .u32 n, .int .i64 4] w fun e w' => ∃ v, e = .returned v ∧ Bytes w' v (low4L n) ∧ Below w.heap.size w w' := by
  have hmk : ∀ w, (Instr.makeSlice 27 (.int .i64 4) (.int .i64 4)).run Tryd.prog w = .ok (.slice (some ⟨w.heap.size, 0, none⟩) 4 4) (w.alloc (.cells #[.int .u8 0, .int .u8 0, .int .u8 0, .int .u8 0] 5)) := fun _ => by kernel_rfl
  have h3 : Hid ((n : Int) / 16777216 = ((n / 16777216 % 256 : Nat) : Int)) := by show _ = _; omega
  go_enter Tryd.func39, Tryd.ntmps39
  go_wp2
  go_rounds 5
  go_ret
  exact ⟨_, rfl, bytes_block w (low4L n) 4 rfl _ (by
    show _ = #[Value.int .u8 (bv (UInt8.ofNat n)), Value.int .u8 (bv (UInt8.ofNat (n / 256))), Value.int .u8 (bv (UInt8.ofNat (n / 65536))), Value.int .u8 (bv (UInt8.ofNat (n / 16777216)))]
    rw [bv_of, bv_of, bv_of, bv_of, h3.out]; rfl), (Below.refl _ _).alloc (Nat.le_refl _) _⟩

/-- Bytes under way: block bp holds a slice of bytes of one's own; nothing of it lies below B. -/
structure Lay (B : Nat) (w : World) (bp : Nat) (d : List UInt8) : Prop where
  ex : ∃ v, Has w bp #[v] 27 ∧ Own w v d ∧ ∀ k, v.ownBlock = some k → B ≤ k
  le : B ≤ bp
/-- What is neither a row of bytes nor a slice's box stays. -/
def KeepT (w w' : World) : Prop := ∀ b cs t, Has w b cs t → t ≠ 27 → t ≠ 5 → Has w' b cs t
theorem KeepT.refl (w : World) : KeepT w w := fun _ _ _ h _ _ => h
theorem KeepT.trans {x y z : World} (h : KeepT x y) (k : KeepT y z) : KeepT x z := fun b cs t hh h1 h2 => k b cs t (h b cs t hh h1 h2) h1 h2
theorem KeepT.below {w w' : World} (h : Below w.heap.size w w') : KeepT w w' := fun _ _ _ hh _ _ => hh.below h hh.lt
theorem Lay.below {B : Nat} {w w' : World} {bp : Nat} {d : List UInt8} (h : Lay B w bp d) (k : Below w.heap.size w w') : Lay B w' bp d := by
  obtain ⟨⟨v, h1, h2, h3⟩, h4⟩ := h
  refine ⟨⟨v, h1.below k h1.lt, ?_, h3⟩, h4⟩
  exact h2.fr (S := fun _ => False) (Fr.of_below k) (fun _ _ h => h)

theorem Own.sl {w : World} {v : Value} {d : List UInt8} (h : Own w v d) : ∃ a c n, v = .slice a n c := by obtain ⟨a, c, e⟩ := h.slice; exact ⟨a, c, _, e⟩

set_option maxHeartbeats 1000000 in
theorem lay1_any {B : Nat} {W : World} {bp : Nat} {d x : List UInt8} {xv : Value} (hL : Lay B W bp d) (hx : Bytes W xv x) (hsm : d.length + x.length ≤ 100000000000000) :
    Calls Tryd.prog 38 #[xv, .pointer (some ⟨bp, 0, none⟩)] W fun e w' => e = .returned (.tuple #[]) ∧ Lay B w' bp (d ++ x) ∧ Below B W w' ∧ KeepT W w' := by
  obtain ⟨⟨v, h1, h2, h3⟩, h4⟩ := hL
  have hne := h2.has_ne h1 (by decide)
  have c1 := h1.one
  go_enter Tryd.func38, Tryd.ntmps38
  go_wp2_with (refine wpList_append_bytes _ rfl _ _ 27 27 rfl info5 Tryd.underlying27 Tryd.underlying27 v xv d x rfl rfl h2 hx hsm ?_; intro v' w2 hown2 hgr hloc hnil; clear hnil; obtain ⟨a', c', m, hv'⟩ := hown2.sl; subst hv'; have hH2 := h1.fr (grown_fr hgr) hne; have c2 := hH2.one; have f2 := hH2.free 0)
  go_end0
  have hs := hH2.set 0 (.slice a' m c')
  have hne2 : (Value.slice a' m c').ownBlock ≠ some bp := hown2.has_ne hH2 (by decide)
  refine ⟨rfl, ⟨⟨_, hs, ?_, fun k hk => ?_⟩, h4⟩, ?_, ?_⟩
  · exact hown2.fr (Fr.of_ex (Ex.set bp w2 0 _)) (fun i hi e => hne2 (by rw [hi, e]))
  · rcases hloc k hk with e | e
    · exact h3 k e
    · have := h1.lt; omega
  · have hE := Ex.set bp w2 0 (.slice a' m c')
    refine ⟨hE.os.trans hgr.os, hE.tape.trans hgr.tape, hE.output.trans hgr.output, Nat.le_trans hgr.size hE.size, fun k hk => ?_⟩
    have hkW : k < W.heap.size := by have := h1.lt; omega
    rw [hE.block k (Nat.lt_of_lt_of_le hkW hgr.size) (by omega)]
    exact hgr.block k hkW (fun e => by have := h3 k e.symm; omega)
  · intro b cs t hb h27 h5
    have e1 := h2.has_ne hb h5
    have hb2 : Has w2 b cs t := hb.fr (grown_fr hgr) e1
    refine hb2.ex (Ex.set bp w2 0 _) (fun e => h27 ?_)
    subst e
    have := hb2.symm.trans hH2
    simp at this
    exact this.2
end Go.Proofs.YtoalchlokcphkaaDoor
