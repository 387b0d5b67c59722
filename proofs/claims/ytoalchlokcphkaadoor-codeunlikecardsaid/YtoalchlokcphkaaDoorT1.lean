/- What takes numbers off bytes. -/
import Derived.Test.YtoalchlokcphkaaDoorD2
import Derived.Maps.Keyed
import Derived.Carry
namespace Go.Proofs.YtoalchlokcphkaaDoor
open Go.RowKit

/-- The number of bytes, the lowest first. -/
def numL : List UInt8 → Nat
  | [] => 0
  | x :: l => x.toNat + 256 * numL l
theorem or32 (acc m c k : Nat) (h : acc < 2 ^ k) (hm : m = c * 2 ^ k) (h1 : acc < 4294967296) (h2 : m < 4294967296) (h3 : acc + m < 4294967296) : bits .or .u32 (acc : Int) (m : Int) = ((acc + m : Nat) : Int) := by
  have hor : acc ||| m = acc + m := by
    have := Nat.shiftLeft_add_eq_or_of_lt h c
    rw [Nat.shiftLeft_eq] at this
    rw [hm, Nat.or_comm, ← this, Nat.add_comm]
  have e3 : BitVec.ofInt 32 (acc : Int) = BitVec.ofNat 32 acc := by simp
  have e4 : BitVec.ofInt 32 (m : Int) = BitVec.ofNat 32 m := by simp
  show IntKind.u32.wrap _ = _
  simp only [IntKind.bits]
  rw [e3, e4]
  show IntKind.u32.wrap ((BitVec.ofNat 32 acc ||| BitVec.ofNat 32 m).toNat : Int) = _
  rw [BitVec.toNat_or, BitVec.toNat_ofNat, BitVec.toNat_ofNat, Nat.mod_eq_of_lt (by omega), Nat.mod_eq_of_lt (by omega), hor, IntKind.wrap_u32]
  omega
theorem or0 (x : UInt8) : bits .or .u32 0 (bv x) = ((x.toNat : Nat) : Int) := by
  have hx := x.toNat_lt
  have := or32 0 x.toNat x.toNat 0 (by decide) (by simp) (by decide) (by omega) (by omega)
  rw [Nat.zero_add] at this
  exact this
theorem orN (acc : Nat) (x : UInt8) (k : Nat) (p : Nat) (hp : p = 2 ^ k) (pi : Int) (hpi : pi = (p : Int)) (ha : acc < p) (hb : p ≤ 16777216) : bits .or .u32 (acc : Int) (bv x * pi) = ((acc + x.toNat * p : Nat) : Int) := by
  have hx := x.toNat_lt
  subst hpi
  have hm : x.toNat * p ≤ 255 * p := Nat.mul_le_mul_right _ (by omega)
  have := or32 acc (x.toNat * p) x.toNat k (by omega) (by rw [hp]) (by omega) (by omega) (by omega)
  rw [← this]
  unfold bv
  push_cast
  rfl
/-- Bytes that lie below B. -/
abbrev BytesLo (B : Nat) (w : World) (v : Value) (d : List UInt8) : Prop := BytesAp (fun k => B ≤ k) w v d
theorem BytesLo.box {B : Nat} {W : World} {bp : Nat} (hB : B ≤ bp) {x y : Value} {d : List UInt8} (h : BytesLo B W x d) : BytesLo B (W.setCell ⟨bp, 0, none⟩ y) x d := by
  obtain ⟨a', cap, db, o, h1, h2, h3, h4, h5, h6⟩ := h
  exact ⟨a', cap, db, o, h1, h2, h3, fun j hj => cell_set_blk (by omega) (h4 j hj), Nat.lt_of_lt_of_le h5 (Ex.set bp W 0 y).size, h6⟩
theorem bytes_tail {W : World} {b o k : Nat} {d r : List UInt8} (hin : BytesIn W b o d) (hr : d.drop k = r) (hb : b < W.heap.size) (m c' : Nat) (a : Option Addr) (hm : m = r.length) (hc : r.length ≤ c') (ha : r ≠ [] → a = some ⟨b, o + k, none⟩) : Bytes W (.slice a m c') r := by
  subst hm hr
  refine ⟨a, c', b, o + k, rfl, hc, ha, fun j hj => ?_, hb⟩
  rw [List.length_drop] at hj
  have := hin (k + j) (by omega)
  rw [← Nat.add_assoc] at this
  rw [this, List.getElem?_drop]
theorem bytes_tailA {B : Nat} {W : World} {b o k : Nat} {d r : List UInt8} (hin : BytesIn W b o d) (hr : d.drop k = r) (hb : b < W.heap.size) (hB : b < B) (m c' : Nat) (a : Option Addr) (hm : m = r.length) (hc : r.length ≤ c') (ha : r ≠ [] → a = some ⟨b, o + k, none⟩) : BytesLo B W (.slice a m c') r := by
  subst hm hr
  refine ⟨a, c', b, o + k, rfl, hc, ha, fun j hj => ?_, hb, by omega⟩
  rw [List.length_drop] at hj
  have := hin (k + j) (by omega)
  rw [← Nat.add_assoc] at this
  rw [this, List.getElem?_drop]
/-- What a taker is. -/
def tkF (bp bk : Nat) : Value := .func (.func 51) #[] #[.pointer (some ⟨bp, 0, none⟩), .pointer (some ⟨bk, 0, none⟩)]
def tkM (bp b1 b2 b4 : Nat) : Array MapEntry := #[⟨.int .i64 1, tkF bp b1, 0⟩, ⟨.int .i64 2, tkF bp b2, 1⟩, ⟨.int .i64 4, tkF bp b4, 2⟩]
/-- Takers, and the bytes that are left. -/
structure Tk (B bp b1 b2 b4 mb : Nat) (W : World) (d : List UInt8) : Prop where
  box : ∃ a n c, Has W bp #[.slice a n c] 27 ∧ BytesLo B W (.slice a n c) d
  w1 : Has W b1 #[.int .i64 1] 3
  w2 : Has W b2 #[.int .i64 2] 3
  w4 : Has W b4 #[.int .i64 4] 3
  map : W.heap[mb]? = some (.map (tkM bp b1 b2 b4) 3)
  le : B ≤ bp
theorem Tk.below {B bp b1 b2 b4 mb : Nat} {W W' : World} {d : List UInt8} (h : Tk B bp b1 b2 b4 mb W d) (k : Below W.heap.size W W') : Tk B bp b1 b2 b4 mb W' d := by
  obtain ⟨⟨a, n, c, h1, h2⟩, h3, h4, h5, h6, h7⟩ := h
  exact ⟨⟨a, n, c, h1.below k h1.lt, BytesAp.fr h2 (Fr.of_below (S := fun _ => False) k) (fun _ _ h => h.elim)⟩, h3.below k h3.lt, h4.below k h4.lt, h5.below k h5.lt, (k.block mb (Array.getElem?_eq_some_iff.1 h6).1).trans h6, h7⟩
theorem Tk.fr {S : Nat → Prop} {B bp b1 b2 b4 mb : Nat} {W W' : World} {d : List UInt8} (h : Tk B bp b1 b2 b4 mb W d) (k : Fr S W W') (hs : ∀ g, S g → B ≤ g ∧ ∃ cs : Array Value, ∃ t, Has W g cs t ∧ t ≠ 27 ∧ t ≠ 3) : Tk B bp b1 b2 b4 mb W' d := by
  obtain ⟨⟨a, n, c, k1, k2⟩, k3, k4, k5, k6, k7⟩ := h
  have ne : ∀ {b u : Nat} {cs' : Array Value}, Has W b cs' u → (u = 27 ∨ u = 3) → ¬ S b := fun hb hu e => by
    obtain ⟨_, cs, t, hg, t1, t2⟩ := hs _ e
    have := hb.symm.trans hg
    simp only [Option.some.injEq, Obj.cells.injEq] at this
    rcases hu with hu | hu
    · exact t1 (this.2.1.symm.trans hu)
    · exact t2 (this.2.1.symm.trans hu)
  refine ⟨⟨a, n, c, k1.fr k (ne k1 (.inl rfl)), ?_⟩, k3.fr k (ne k3 (.inr rfl)), k4.fr k (ne k4 (.inr rfl)), k5.fr k (ne k5 (.inr rfl)), (k.block mb (Array.getElem?_eq_some_iff.1 k6).1 (fun e => by
    obtain ⟨_, cs, t, hg, _⟩ := hs _ e
    have := k6.symm.trans hg; simp at this)).trans k6, k7⟩
  exact BytesAp.fr k2 k (fun i _ e => (hs i e).1)
theorem Tk.ex {B bp b1 b2 b4 mb g t : Nat} {cs : Array Value} {W W' : World} {d : List UInt8} (h : Tk B bp b1 b2 b4 mb W d) (hg : Has W g cs t) (h27 : t ≠ 27) (h3 : t ≠ 3) (hB : B ≤ g) (k : Ex g W W') : Tk B bp b1 b2 b4 mb W' d :=
  h.fr (Fr.of_ex k) (fun i e => by subst e; exact ⟨hB, cs, t, hg, h27, h3⟩)
theorem Tk.set {B bp b1 b2 b4 mb : Nat} {W : World} {d r : List UInt8} (h : Tk B bp b1 b2 b4 mb W d) (a : Option Addr) (n c : Nat) (hb : BytesLo B W (.slice a n c) r) : Tk B bp b1 b2 b4 mb (W.setCell ⟨bp, 0, none⟩ (.slice a n c)) r := by
  obtain ⟨⟨a', n', c', k1, k2⟩, k3, k4, k5, k6, k7⟩ := h
  have hE := Ex.set bp W 0 (.slice a n c)
  have ne : ∀ {b u : Nat} {cs' : Array Value}, Has W b cs' u → u ≠ 27 → b ≠ bp := fun hb hu e => by
    subst e
    have := hb.symm.trans k1
    simp only [Option.some.injEq, Obj.cells.injEq] at this
    exact hu this.2.1
  exact ⟨⟨a, n, c, k1.set 0 _, BytesLo.box k7 hb⟩, k3.ex hE (ne k3 (by decide)), k4.ex hE (ne k4 (by decide)), k5.ex hE (ne k5 (by decide)), (hE.block mb (Array.getElem?_eq_some_iff.1 k6).1 (fun e => by subst e; have := k6.symm.trans k1; simp at this)).trans k6, k7⟩
theorem Tk.out {B bp b1 b2 b4 mb : Nat} {W : World} {d : List UInt8} (h : Tk B bp b1 b2 b4 mb W d) (hd : d ≠ []) : ∃ b o c, Has W bp #[.slice (some ⟨b, o, none⟩) d.length c] 27 ∧ BytesIn W b o d ∧ b < W.heap.size ∧ d.length ≤ c ∧ Hid (b < B) := by
  obtain ⟨a, n, c, k1, k2⟩ := h.box
  obtain ⟨a', cap, db, o, h1, h2, h3, h4, h5, h6⟩ := k2
  simp only [Value.slice.injEq] at h1
  obtain ⟨rfl, rfl, rfl⟩ := h1
  obtain rfl := h3 hd
  exact ⟨db, o, _, k1, h4, h5, h2, (show Hid (db < B) from (by show _ < _; omega))⟩
theorem below_set {B : Nat} {W : World} {bp : Nat} (v : Value) (h : B ≤ bp) (hb : bp < W.heap.size) : Below B W (W.setCell ⟨bp, 0, none⟩ v) := by
  have hE := Ex.set bp W 0 v
  exact ⟨hE.os, hE.tape, hE.output, hE.size, fun k hk => hE.block k (by omega) (by omega)⟩
theorem key3 (k : Int) (h : (Lit.int .i64 k).wf = true) (em : Bool) (W : World) : (Instr.checkKey em 10000 3 (.int .i64 k)).run Tryd.prog W = .ok () W := (Maps.int_keyed (P := Tryd.prog) Tryd.underlying3).check W em (Maps.keyOf_int_mk Tryd.underlying3 h)
theorem find3 (k : Int) (es : List MapEntry) (r : Option (Nat × Value)) (hf : Instr.findNow (.int .i64) (.int .i64 k) es 0 = some r) (W : World) : (Instr.findKey 3 (.int .i64 k) es).run Tryd.prog W = .ok r W := by
  unfold Instr.findKey
  simp [run_underlying Tryd.underlying3, hf]
theorem look76 {W : World} {mb : Nat} {es : Array MapEntry} {clock : Nat} (h : W.heap[mb]? = some (.map es clock)) (k : Int) (hk : (Lit.int .i64 k).wf = true) (v : Value) (i : Nat) (hf : Instr.findNow (.int .i64) (.int .i64 k) es.toList 0 = some (some (i, v))) :
    (Instr.lookup 76 (.map (some mb)) (.int .i64 k) false).run Tryd.prog W = .ok v W := by
  simp [Instr.lookup, run_underlying Tryd.underlying76, MapKept.run_getObj_map h, key3 k hk, find3 k _ _ hf, Result.andThen]
theorem put76 {W : World} {mb : Nat} {es : Array MapEntry} {clock : Nat} (h : W.heap[mb]? = some (.map es clock)) (k : Int) (hk : (Lit.int .i64 k).wf = true) (v : Value) (hf : Instr.findNow (.int .i64) (.int .i64 k) es.toList 0 = some none) :
    (Instr.mapUpdate 76 (.map (some mb)) (.int .i64 k) v).run Tryd.prog W = .ok () (ChangeMaps.setBlock W mb (.map (es.push ⟨.int .i64 k, v, clock⟩) (clock + 1))) := by
  simp [Instr.mapUpdate, run_underlying Tryd.underlying76, MapKept.run_getObj_map h, key3 k hk, find3 k _ _ hf, MapKept.run_setObj_map _ h, Result.andThen, ChangeMaps.setBlock]
theorem alloc_set (w : World) (o o' : Obj) : ChangeMaps.setBlock (w.alloc o) w.heap.size o' = w.alloc o' := by
  have h1 : (w.alloc o).heap.setIfInBounds w.heap.size o' = (w.alloc o').heap := by
    apply Array.ext_getElem?
    intro i
    rw [Array.getElem?_setIfInBounds, alloc_get, alloc_get]
    by_cases e : w.heap.size = i
    · subst e; simp
    · rw [if_neg e, if_neg (Ne.symm e), if_neg (Ne.symm e)]
  unfold ChangeMaps.setBlock
  rw [h1]; rfl

set_option maxRecDepth 10000 in
set_option maxHeartbeats 2000000 in
theorem tk1 {B bp b1 b2 b4 mb : Nat} {W : World} (x0 : UInt8) (r : List UInt8) (hT : Tk B bp b1 b2 b4 mb W (x0 :: r)) :
    Calls Tryd.prog 51 #[.pointer (some ⟨bp, 0, none⟩), .pointer (some ⟨b1, 0, none⟩)] W fun e w' => e = .returned (.int .u32 (numL [x0] : Nat)) ∧ Tk B bp b1 b2 b4 mb w' r ∧ Below B W w' ∧ Ex bp W w' := by
  obtain ⟨b, o, c, k1, hin, hb, hc, hbB⟩ := hT.out (by simp)
  have c1 := k1.one
  have f1 := k1.free 0
  have c2 := hT.w1.one
  have hlt := k1.lt
  have y0 : W.cell? ⟨b, o, none⟩ = some (.int .u8 (bv x0)) := hin 0 (by simp)
  have p0 := bv_nonneg x0
  have q0 := bv_lt x0
  have HN : Hid ((x0 :: r).length = r.length + 1) := by show _ = _; simp
  have hn : 1 ≤ (x0 :: r).length := by simp
  have HV : Hid (bits .or .u32 0 (bv x0) = ((numL [x0] : Nat) : Int)) := by
    show _ = _
    rw [or0 x0]
    first | (simp [numL]; done) | (simp [numL]; omega)
  have HD : Hid ((x0 :: r).drop 1 = r) := rfl
  generalize hl : (x0 :: r).length = n at *
  generalize hL : x0 :: r = l at hin HD
  clear hl hL
  go_enter Tryd.func51, Tryd.ntmps51
  go_wp2
  go_rounds 2
  all_goals
    go_ret
    refine ⟨?_, hT.set _ _ _ (bytes_tailA hin HD.out hb hbB.out _ _ _ (by have := HN.out; omega) (by have := HN.out; omega) (fun hr => ?_)), below_set _ hT.le hlt, Ex.set bp W 0 _⟩
    · show Ending.returned (.int .u32 (bits .or .u32 0 (bv x0))) = _
      rw [HV.out]
    · first | rfl | (exfalso; have h9 := List.length_pos_iff.2 hr; have := HN.out; omega)

set_option maxRecDepth 10000 in
set_option maxHeartbeats 2000000 in
theorem tk2 {B bp b1 b2 b4 mb : Nat} {W : World} (x0 x1 : UInt8) (r : List UInt8) (hT : Tk B bp b1 b2 b4 mb W (x0 :: x1 :: r)) :
    Calls Tryd.prog 51 #[.pointer (some ⟨bp, 0, none⟩), .pointer (some ⟨b2, 0, none⟩)] W fun e w' => e = .returned (.int .u32 (numL [x0, x1] : Nat)) ∧ Tk B bp b1 b2 b4 mb w' r ∧ Below B W w' ∧ Ex bp W w' := by
  obtain ⟨b, o, c, k1, hin, hb, hc, hbB⟩ := hT.out (by simp)
  have c1 := k1.one
  have f1 := k1.free 0
  have c2 := hT.w2.one
  have hlt := k1.lt
  have y0 : W.cell? ⟨b, o, none⟩ = some (.int .u8 (bv x0)) := hin 0 (by simp)
  have y1 : W.cell? ⟨b, o + 1, none⟩ = some (.int .u8 (bv x1)) := hin 1 (by simp)
  have p0 := bv_nonneg x0
  have q0 := bv_lt x0
  have p1 := bv_nonneg x1
  have q1 := bv_lt x1
  have HN : Hid ((x0 :: x1 :: r).length = r.length + 2) := by show _ = _; simp
  have hn : 2 ≤ (x0 :: x1 :: r).length := by simp
  have HV : Hid (bits .or .u32 (bits .or .u32 0 (bv x0)) (bv x1 * 256) = ((numL [x0, x1] : Nat) : Int)) := by
    show _ = _
    rw [or0 x0, orN (x0.toNat) x1 8 256 rfl 256 rfl (by have := x0.toNat_lt;  omega) (by omega)]
    first | (simp [numL]; done) | (simp [numL]; omega)
  have HD : Hid ((x0 :: x1 :: r).drop 2 = r) := rfl
  generalize hl : (x0 :: x1 :: r).length = n at *
  generalize hL : x0 :: x1 :: r = l at hin HD
  clear hl hL
  go_enter Tryd.func51, Tryd.ntmps51
  go_wp2
  go_rounds 3
  all_goals
    go_ret
    refine ⟨?_, hT.set _ _ _ (bytes_tailA hin HD.out hb hbB.out _ _ _ (by have := HN.out; omega) (by have := HN.out; omega) (fun hr => ?_)), below_set _ hT.le hlt, Ex.set bp W 0 _⟩
    · show Ending.returned (.int .u32 (bits .or .u32 (bits .or .u32 0 (bv x0)) (bv x1 * 256))) = _
      rw [HV.out]
    · first | rfl | (exfalso; have h9 := List.length_pos_iff.2 hr; have := HN.out; omega)

set_option maxRecDepth 10000 in
set_option maxHeartbeats 2000000 in
theorem tk4 {B bp b1 b2 b4 mb : Nat} {W : World} (x0 x1 x2 x3 : UInt8) (r : List UInt8) (hT : Tk B bp b1 b2 b4 mb W (x0 :: x1 :: x2 :: x3 :: r)) :
    Calls Tryd.prog 51 #[.pointer (some ⟨bp, 0, none⟩), .pointer (some ⟨b4, 0, none⟩)] W fun e w' => e = .returned (.int .u32 (numL [x0, x1, x2, x3] : Nat)) ∧ Tk B bp b1 b2 b4 mb w' r ∧ Below B W w' ∧ Ex bp W w' := by
  obtain ⟨b, o, c, k1, hin, hb, hc, hbB⟩ := hT.out (by simp)
  have c1 := k1.one
  have f1 := k1.free 0
  have c2 := hT.w4.one
  have hlt := k1.lt
  have y0 : W.cell? ⟨b, o, none⟩ = some (.int .u8 (bv x0)) := hin 0 (by simp)
  have y1 : W.cell? ⟨b, o + 1, none⟩ = some (.int .u8 (bv x1)) := hin 1 (by simp)
  have y2 : W.cell? ⟨b, o + 2, none⟩ = some (.int .u8 (bv x2)) := hin 2 (by simp)
  have y3 : W.cell? ⟨b, o + 3, none⟩ = some (.int .u8 (bv x3)) := hin 3 (by simp)
  have p0 := bv_nonneg x0
  have q0 := bv_lt x0
  have p1 := bv_nonneg x1
  have q1 := bv_lt x1
  have p2 := bv_nonneg x2
  have q2 := bv_lt x2
  have p3 := bv_nonneg x3
  have q3 := bv_lt x3
  have HN : Hid ((x0 :: x1 :: x2 :: x3 :: r).length = r.length + 4) := by show _ = _; simp
  have hn : 4 ≤ (x0 :: x1 :: x2 :: x3 :: r).length := by simp
  have HV : Hid (bits .or .u32 (bits .or .u32 (bits .or .u32 (bits .or .u32 0 (bv x0)) (bv x1 * 256)) (bv x2 * 65536)) (bv x3 * 16777216) = ((numL [x0, x1, x2, x3] : Nat) : Int)) := by
    show _ = _
    rw [or0 x0, orN (x0.toNat) x1 8 256 rfl 256 rfl (by have := x0.toNat_lt;  omega) (by omega), orN (x0.toNat + x1.toNat * 256) x2 16 65536 rfl 65536 rfl (by have := x0.toNat_lt; have := x1.toNat_lt; omega) (by omega), orN (x0.toNat + x1.toNat * 256 + x2.toNat * 65536) x3 24 16777216 rfl 16777216 rfl (by have := x0.toNat_lt; have := x1.toNat_lt; have := x2.toNat_lt; omega) (by omega)]
    first | (simp [numL]; done) | (simp [numL]; omega)
  have HD : Hid ((x0 :: x1 :: x2 :: x3 :: r).drop 4 = r) := rfl
  generalize hl : (x0 :: x1 :: x2 :: x3 :: r).length = n at *
  generalize hL : x0 :: x1 :: x2 :: x3 :: r = l at hin HD
  clear hl hL
  go_enter Tryd.func51, Tryd.ntmps51
  go_wp2
  go_rounds 5
  all_goals
    go_ret
    refine ⟨?_, hT.set _ _ _ (bytes_tailA hin HD.out hb hbB.out _ _ _ (by have := HN.out; omega) (by have := HN.out; omega) (fun hr => ?_)), below_set _ hT.le hlt, Ex.set bp W 0 _⟩
    · show Ending.returned (.int .u32 (bits .or .u32 (bits .or .u32 (bits .or .u32 (bits .or .u32 0 (bv x0)) (bv x1 * 256)) (bv x2 * 65536)) (bv x3 * 16777216))) = _
      rw [HV.out]
    · first | rfl | (exfalso; have h9 := List.length_pos_iff.2 hr; have := HN.out; omega)
end Go.Proofs.YtoalchlokcphkaaDoor
