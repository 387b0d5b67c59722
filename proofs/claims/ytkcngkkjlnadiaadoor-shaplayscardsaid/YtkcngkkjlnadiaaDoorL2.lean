/- The law ShaPlays. -/
import Derived.Test.YtkcngkkjlnadiaaDoorL1
import Derived.Deep.RegionHeld3
import Derived.Deep.RegionLaw
namespace Go.Proofs.YtkcngkkjlnadiaaDoor
open Go.RowKit

theorem PI.copy0 {w : World} {G A b0 b1 nb : Nat} {m0 m1 : List UInt8} {v0 v1 : Value} {W : World} (h : PI w G A b0 b1 m0 m1 v0 v1 W) (hn : HashAt W nb m1) (hnb : nb ≠ b1) (hlo : w.heap.size ≤ nb) :
    PI w G A nb b1 m1 m1 v1 v1 ((W.setCell ⟨G, 0, none⟩ (.pointer (some ⟨nb, 0, none⟩))).setCell ⟨A, 0, none⟩ v1) := by
  obtain ⟨cn, hcn⟩ := hash_has hn
  obtain ⟨co, hco⟩ := hash_has h.h1
  have E1 : Ex G W (W.setCell ⟨G, 0, none⟩ (.pointer (some ⟨nb, 0, none⟩))) := Ex.set _ _ _ _
  have hGA : A ≠ G := has_ne h.a h.g (by decide)
  have ha1 := h.a.ex E1 hGA
  have hg1 : Has (W.setCell ⟨G, 0, none⟩ (.pointer (some ⟨nb, 0, none⟩))) G #[.pointer (some ⟨nb, 0, none⟩), .pointer (some ⟨b1, 0, none⟩)] 44 := by have := h.g.set 0 (.pointer (some ⟨nb, 0, none⟩)); simpa using this
  have E2 : Ex A (W.setCell ⟨G, 0, none⟩ (.pointer (some ⟨nb, 0, none⟩))) ((W.setCell ⟨G, 0, none⟩ (.pointer (some ⟨nb, 0, none⟩))).setCell ⟨A, 0, none⟩ v1) := Ex.set _ _ _ _
  have hA2 : Has ((W.setCell ⟨G, 0, none⟩ (.pointer (some ⟨nb, 0, none⟩))).setCell ⟨A, 0, none⟩ v1) A #[v1, v1] 47 := by have := ha1.set 0 v1; simpa using this
  have hN := (hn.ex E1 (has_ne hcn h.g (by decide))).ex E2 (has_ne hcn h.a (by decide))
  have hO := (h.h1.ex E1 (has_ne hco h.g (by decide))).ex E2 (has_ne hco h.a (by decide))
  have hw : Own w.heap.size _ v1 m1 := (h.o1.exT E1 h.g (by decide)).exT E2 ha1 (by decide)
  exact ⟨Below.ex (Below.ex h.bw h.bw.size E1 h.lo.2.2.1) (by rw [show (W.setCell ⟨G, 0, none⟩ (.pointer (some ⟨nb, 0, none⟩))).heap.size = W.heap.size by simp [World.setCell]]; exact h.bw.size) E2 h.lo.2.2.2, hg1.ex E2 (Ne.symm hGA), hA2, hN, hO, hw, hw, hnb, hlo, h.lo.2.1, h.lo.2.2⟩
theorem PI.copy1 {w : World} {G A b0 b1 nb : Nat} {m0 m1 : List UInt8} {v0 v1 : Value} {W : World} (h : PI w G A b0 b1 m0 m1 v0 v1 W) (hn : HashAt W nb m0) (hnb : nb ≠ b0) (hlo : w.heap.size ≤ nb) :
    PI w G A b0 nb m0 m0 v0 v0 ((W.setCell ⟨G, 1, none⟩ (.pointer (some ⟨nb, 0, none⟩))).setCell ⟨A, 1, none⟩ v0) := by
  obtain ⟨cn, hcn⟩ := hash_has hn
  obtain ⟨co, hco⟩ := hash_has h.h0
  have E1 : Ex G W (W.setCell ⟨G, 1, none⟩ (.pointer (some ⟨nb, 0, none⟩))) := Ex.set _ _ _ _
  have hGA : A ≠ G := has_ne h.a h.g (by decide)
  have ha1 := h.a.ex E1 hGA
  have hg1 : Has (W.setCell ⟨G, 1, none⟩ (.pointer (some ⟨nb, 0, none⟩))) G #[.pointer (some ⟨b0, 0, none⟩), .pointer (some ⟨nb, 0, none⟩)] 44 := by have := h.g.set 1 (.pointer (some ⟨nb, 0, none⟩)); simpa using this
  have E2 : Ex A (W.setCell ⟨G, 1, none⟩ (.pointer (some ⟨nb, 0, none⟩))) ((W.setCell ⟨G, 1, none⟩ (.pointer (some ⟨nb, 0, none⟩))).setCell ⟨A, 1, none⟩ v0) := Ex.set _ _ _ _
  have hA2 : Has ((W.setCell ⟨G, 1, none⟩ (.pointer (some ⟨nb, 0, none⟩))).setCell ⟨A, 1, none⟩ v0) A #[v0, v0] 47 := by have := ha1.set 1 v0; simpa using this
  have hN := (hn.ex E1 (has_ne hcn h.g (by decide))).ex E2 (has_ne hcn h.a (by decide))
  have hO := (h.h0.ex E1 (has_ne hco h.g (by decide))).ex E2 (has_ne hco h.a (by decide))
  have hw : Own w.heap.size _ v0 m0 := (h.o0.exT E1 h.g (by decide)).exT E2 ha1 (by decide)
  exact ⟨Below.ex (Below.ex h.bw h.bw.size E1 h.lo.2.2.1) (by rw [show (W.setCell ⟨G, 1, none⟩ (.pointer (some ⟨nb, 0, none⟩))).heap.size = W.heap.size by simp [World.setCell]]; exact h.bw.size) E2 h.lo.2.2.2, hg1.ex E2 (Ne.symm hGA), hA2, hO, hN, hw, hw, (Ne.symm hnb), h.lo.1, hlo, h.lo.2.2⟩
theorem step_w (k n : Nat) (h : k < n) (h2 : n ≤ 30) : wrap64 ((k : Int) + 1) = ((k + 1 : Nat) : Int) := by unfold wrap64; omega
theorem PI.drew {w : World} {G A b0 b1 : Nat} {m0 m1 : List UInt8} {v0 v1 : Value} {W : World} (h : PI w G A b0 b1 m0 m1 v0 v1 W) : PI w G A b0 b1 m0 m1 v0 v1 W.drew :=
  h.below ⟨rfl, rfl, rfl, Nat.le_refl _, fun _ _ => rfl⟩
theorem own_sliceOf {base : Nat} {w : World} {v : Value} {d : List UInt8} (h : Own base w v d) {b e : Nat} (hb : b < base) (he : e < w.heap.size) (heb : e ≠ b) : SliceOf w b v d := by
  by_cases hd : d = []
  · subst hd
    obtain ⟨a, c, rfl⟩ := h.slice
    exact ⟨a, c, e, 0, rfl, Nat.zero_le _, fun h => absurd rfl h, fun j hj => absurd hj (by simp), he, heb⟩
  · obtain ⟨g, c, rfl, h1, h2, h3, h4⟩ := h.at_ hd
    exact ⟨_, c, g, 0, rfl, h3, fun _ => rfl, h4, h2, by omega⟩
theorem Own.set {base g c n : Nat} {w : World} {d : List UInt8} (h : Own base w (.slice (some ⟨g, 0, none⟩) n c) d) (k : Nat) (x : UInt8) : Own base (w.setCell ⟨g, k, none⟩ (.int .u8 (bv x))) (.slice (some ⟨g, 0, none⟩) n c) (d.set k x) := by
  obtain ⟨hl, hc⟩ := h
  rcases hc with ⟨e1, _⟩ | ⟨g', cap', cur, e1, hb, hg, hle, hm, hs, ht⟩
  · simp at e1
  · simp at e1
    obtain ⟨rfl, rfl, rfl⟩ := e1
    have hh : Has w g cur 5 := hg
    refine ⟨by simp, .inr ⟨g, c, _, by rw [List.length_set], hb, hh.set k (.int .u8 (bv x)), by simpa using hle, hm, by simpa using hs, ?_⟩⟩
    rw [List.length_set, List.map_set, ← ht]
    simp [List.take_set, bc]
theorem Ex.set_hi {b g : Nat} {w w' : World} (h : Ex b w w') (hg : w.heap.size ≤ g) (p : Nat) (v : Value) : Ex b w (w'.setCell ⟨g, p, none⟩ v) :=
  ⟨h.os, h.tape, h.output, by simpa [World.setCell] using h.size, fun i hi hb => (heap_setCell_other w' ⟨g, p, none⟩ i v (by show i ≠ g; omega)).trans (h.block i hi hb)⟩
theorem bv_next (x : UInt8) : IntKind.u8.wrap (bv x + 1) = bv (x + 1) := by
  rw [IntKind.wrap_u8]; unfold bv; rw [UInt8.toNat_add]; show _ = (((x.toNat + 1) % 256 : Nat) : Int); omega
theorem bv_next' (x : UInt8) : (bv x + 1) % (256 : Int) = bv (x + 1) := by
  unfold bv; rw [UInt8.toNat_add]; show _ = (((x.toNat + 1) % 256 : Nat) : Int); omega
theorem ex_of {b : Nat} {x y z : World} (h : Ex b x y) (k : Below x.heap.size y z) (hs : y.heap.size ≤ z.heap.size) : Ex b x z :=
  ⟨k.os.trans h.os, k.tape.trans h.tape, k.output.trans h.output, Nat.le_trans h.size hs, fun i hi hb => (k.block i hi).trans (h.block i hi hb)⟩
theorem ownsRow_free5 {base g c n : Nat} {w : World} {d : List UInt8} (h : Own base w (.slice (some ⟨g, 0, none⟩) n c) d) (k : Nat) : w.frozen? ⟨g, k, none⟩ = false := by
  rcases h.2 with ⟨e1, _⟩ | ⟨g', cap', cur, e1, hb, hg, hle, hm, hs, ht⟩
  · simp at e1
  · simp at e1
    obtain ⟨rfl, _, rfl⟩ := e1
    have hh : Has w g cur 5 := hg
    exact hh.free k
theorem step_w2 (k n : Nat) (h : k < n) (h2 : n ≤ 600) : wrap64 ((k : Int) + 1) = ((k + 1 : Nat) : Int) := by unfold wrap64; omega
theorem step_append_bytes {P : Program} {ops : Array Oper} {o : Oper} {a : Act} {w : World} {K : Act → World → Prop} {Q : Exit → Act → World → Prop} {E : Prop} (hgd : o.guard = none) (s y : Operand) (t : TypeId)
    (ho : o.op = .call { callee := .builtin .append, args := #[s, y], argTypes := #[t, t] }) (h5 : (P.info? 5).map (fun i => (i.zero, i.size, i.bytes)) = some (some (.int .u8 0), 1, 1))
    (ht : P.underlying t = some (.slice 5)) (base : Nat) (v xv : Value) (d x : List UInt8) (hs : a.eval s = v) (hy : a.eval y = xv) (hown : Own base w v d) (hx : Bytes w xv x) (hsm : d.length + x.length ≤ 100000000000000) (hbase : base ≤ w.heap.size)
    (h : ∀ v' w', Own base w' v' (d ++ x) → w.grownBy w' v.ownBlock → K (a.put o.dst v') w') :
    if Region.wanted o (yielded ops a.tmps) = true then Oper.wp P o a w K Q else E := by
  have hw : Region.wanted o (yielded ops a.tmps) = true := by simp [Region.wanted, hgd]
  rw [if_pos hw]
  obtain ⟨v', w', h1, h2, h3, h4⟩ := run_append_bytes o.type h5 ht base w v xv d x hown hx hsm hbase
  unfold Oper.wp execOp
  simp only [ho, resolve, invoke, builtin, Sem.run_bind, Sem.run_pure, Result.andThen_ok, List.map_toArray, List.map_cons, List.map_nil, hs, hy, h1]
  exact h v' w' h2 h3
theorem PI.store0 {w : World} {G A b0 b1 : Nat} {m m1 : List UInt8} {x v' v1 : Value} {W : World} (bw : Below w.heap.size w W) (g : Has W G #[.pointer (some ⟨b0, 0, none⟩), .pointer (some ⟨b1, 0, none⟩)] 44) (a : Has W A #[x, v1] 47) (h0 : HashAt W b0 m) (h1 : HashAt W b1 m1)
    (o0 : Own w.heap.size W v' m) (o1 : Own w.heap.size W v1 m1) (ne : b0 ≠ b1) (lo : w.heap.size ≤ b0 ∧ w.heap.size ≤ b1 ∧ w.heap.size ≤ G ∧ w.heap.size ≤ A) : PI w G A b0 b1 m m1 v' v1 (W.setCell ⟨A, 0, none⟩ v') := by
  have E : Ex A W (W.setCell ⟨A, 0, none⟩ v') := Ex.set _ _ _ _
  obtain ⟨c0, k0⟩ := hash_has h0
  obtain ⟨c1, k1⟩ := hash_has h1
  exact ⟨Below.ex bw bw.size E lo.2.2.2, g.ex E (has_ne g a (by decide)), (by have := a.set 0 v'; simpa using this), h0.ex E (has_ne k0 a (by decide)), h1.ex E (has_ne k1 a (by decide)), o0.exT E a (by decide), o1.exT E a (by decide), ne, lo⟩
theorem PI.store1 {w : World} {G A b0 b1 : Nat} {m0 m : List UInt8} {x v' v0 : Value} {W : World} (bw : Below w.heap.size w W) (g : Has W G #[.pointer (some ⟨b0, 0, none⟩), .pointer (some ⟨b1, 0, none⟩)] 44) (a : Has W A #[v0, x] 47) (h0 : HashAt W b0 m0) (h1 : HashAt W b1 m)
    (o0 : Own w.heap.size W v0 m0) (o1 : Own w.heap.size W v' m) (ne : b0 ≠ b1) (lo : w.heap.size ≤ b0 ∧ w.heap.size ≤ b1 ∧ w.heap.size ≤ G ∧ w.heap.size ≤ A) : PI w G A b0 b1 m0 m v0 v' (W.setCell ⟨A, 1, none⟩ v') := by
  have E : Ex A W (W.setCell ⟨A, 1, none⟩ v') := Ex.set _ _ _ _
  obtain ⟨c0, k0⟩ := hash_has h0
  obtain ⟨c1, k1⟩ := hash_has h1
  exact ⟨Below.ex bw bw.size E lo.2.2.2, g.ex E (has_ne g a (by decide)), (by have := a.set 1 v'; simpa using this), h0.ex E (has_ne k0 a (by decide)), h1.ex E (has_ne k1 a (by decide)), o0.exT E a (by decide), o1.exT E a (by decide), ne, lo⟩
set_option maxHeartbeats 400000 in
theorem write_nil (w : World) : Calls Tryd.prog 27 #[.pointer none, .slice none 0 0] w fun e w' => e = .returned (.int .i64 1) ∧ Below w.heap.size w w' := by
  go_enter Tryd.func27, Tryd.ntmps27
  have hn := has_new w #[.pointer none] 44 w.heap.size rfl
  have h1 := hn.one
  go_wp2_with (go_at_call 37; refine (none_nil _).mono ?_; rintro e w' ⟨rfl, hw⟩; obtain rfl := hw.symm; clear hw)
  go_ret
  exact ⟨rfl, (Below.refl _ _).alloc (Nat.le_refl _) _⟩
def playsΦ (G A b0 b1 l0 l1 q0 q1 : Nat) (p0 p1 : Option Addr) (D0 D1 : List UInt8) : Nat → Value → World → Prop
  | 0, v, _ => v = .slice (some ⟨G, 0, none⟩) 2 2
  | 1, v, _ => v = .pointer (some ⟨G, 0, none⟩)
  | 2, v, _ => v = .pointer (some ⟨b0, 0, none⟩)
  | 3, v, _ => v = .agg (byteCells D0)
  | 4, v, _ => v = .pointer (some ⟨A, 0, none⟩)
  | 5, v, _ => v = .slice p0 l0 q0
  | 6, v, _ => v = .agg (byteCells D0)
  | 7, v, _ => v = .bool true
  | 8, v, _ => v = .bool true
  | 9, v, _ => v = .slice (some ⟨G, 0, none⟩) 2 2
  | 10, v, _ => v = .pointer (some ⟨G, 1, none⟩)
  | 11, v, _ => v = .pointer (some ⟨b1, 0, none⟩)
  | 12, v, _ => v = .agg (byteCells D1)
  | 13, v, _ => v = .pointer (some ⟨A, 1, none⟩)
  | 14, v, _ => v = .slice p1 l1 q1
  | 15, v, _ => v = .agg (byteCells D1)
  | 16, v, _ => v = .bool true
  | 17, v, _ => v = .bool true
  | 18, v, _ => v = .bool true
  | 19, v, _ => v = .pointer none
  | 20, v, _ => v = .int .i64 1
  | 21, v, _ => v = .int .i64 1
  | 22, v, _ => v = .bool true
  | 23, v, _ => v = .bool true
  | 24, v, _ => v = .bool true
  | 25, v, _ => v = .pointer none
  | 26, v, _ => v = .agg (zeroCells 32)
  | 27, v, _ => v = .agg (zeroCells 32)
  | 28, v, _ => v = .bool true
  | 29, v, _ => v = .bool true
  | 30, v, _ => v = .bool true
  | 31, v, _ => v = .pointer none
  | 32, v, _ => v = .int .i64 0
  | 33, v, _ => v = .bool true
  | 34, v, _ => v = .bool true
  | 35, v, _ => v = .bool true
  | 36, v, _ => v = .pointer none
  | 37, v, _ => v = .pointer none
  | 38, v, _ => v = .bool true
  | 39, v, _ => v = .bool true
  | 40, v, _ => v = .bool true
  | 41, v, _ => v = .bool true
  | 42, v, _ => v = .bool true
  | 43, v, _ => v = .bool true
  | _, _, _ => False
theorem step_m (k n : Nat) (h : k < n) : n - (intOf (Value.int .i64 ((k + 1 : Nat) : Int))).toNat < n - (intOf (Value.int .i64 (k : Int))).toNat := by
  show n - ((k + 1 : Nat) : Int).toNat < n - (k : Int).toNat
  omega
theorem sum_next (acs : List Ac) (k : Nat) (c : Ac) (h : acs[k]? = some c) : ((acs.take (k + 1)).map fun c => c.bytes.length).sum = ((acs.take k).map fun c => c.bytes.length).sum + c.bytes.length := by
  have hk : k < acs.length := (List.getElem?_eq_some_iff.1 h).1
  have e : acs[k] = c := by rw [List.getElem?_eq_getElem hk] at h; exact Option.some.inj h
  rw [List.take_succ_eq_append_getElem hk, e]
  simp
theorem sum_take_le (acs : List Ac) (k : Nat) : ((acs.take k).map fun c => c.bytes.length).sum ≤ (acs.map fun c => c.bytes.length).sum := by
  conv => rhs; rw [← List.take_append_drop k acs, List.map_append, List.sum_append]
  omega
theorem cost_ge (acs : List Ac) : 20 * acs.length ≤ cost acs := by
  induction acs with
  | nil => simp [cost]
  | cons c l ih => simp [cost, cost1] at ih ⊢; omega
theorem cost_bytes (acs : List Ac) (h : cost acs ≤ 600) : (acs.map fun c => c.bytes.length).sum ≤ cost acs := by
  induction acs with
  | nil => simp [cost]
  | cons c l ih =>
    have h1 : cost (c :: l) = cost1 c + cost l := by simp [cost]
    rw [h1] at h ⊢
    have h2 := ih (by omega)
    have h3 : c.bytes.length ≤ cost1 c := by
      unfold cost1 at h ⊢
      simp only [Nat.min_def] at h ⊢
      split at h <;> split <;> omega
    simp
    omega

set_option maxRecDepth 100000 in
set_option maxHeartbeats 16000000 in
theorem plays_walk (v : Value) (acs : List Ac) (w : World) (hv : Acts w v acs) (hg0 : Glob w) :
    Calls Tryd.prog 7 #[v] w fun e w' => e = .returned (.bool true) ∧ Below w.heap.size w w' := by
  have hgs := hg0.size
  obtain ⟨a, cap, pb, po, rfl, ha, hcel, hpb⟩ := hv
  go_enter Tryd.func7, Tryd.ntmps7
  go_wp2_with fail
  go_loop [3, 4] (fun n i => ∃ k : Nat, k ≤ acs.length ∧ i = .int .i64 k ∧ n = .int .i64 (cost (acs.take k) : Nat) ∧ Hid (k = 0 ∨ cost (acs.take (k - 1)) ≤ 600)) (fun _ i => acs.length - (intOf i).toNat)
  case atStart => exact ⟨0, by omega, rfl, rfl, .inl rfl⟩
  case round =>
    obtain ⟨k, hk, rfl, rfl, hc⟩ := hrel
    by_cases hkn : k < acs.length
    · by_cases h6 : cost (acs.take k) ≤ 600
      · obtain ⟨c, hck⟩ : ∃ c, acs[k]? = some c := ⟨_, List.getElem?_eq_getElem hkn⟩
        obtain rfl := ha (by intro e; simp [e] at hkn)
        obtain ⟨_, _, sv, c3, hb⟩ := hcel k c hck
        have hcn := cost_next acs k c hck
        obtain ⟨a1, cap1, db1, o1, rfl, _⟩ := id hb
        have i1 : (k : Int) < acs.length := by omega
        obtain ⟨n, hn⟩ : ∃ n, n = cost (acs.take k) := ⟨_, rfl⟩
        rw [← hn] at hcn h6 ⊢
        have i2 : (n : Int) ≤ 600 := by omega
        obtain ⟨l, hl⟩ : ∃ l, l = c.bytes.length := ⟨_, rfl⟩
        rw [← hl] at c3
        obtain ⟨m, hm⟩ : ∃ m : Nat, m = Nat.min l 601 := ⟨_, rfl⟩
        have f1 : (if (601 : Int) < (l : Int) then (601 : Int) else (l : Int)) = (m : Int) := by rw [hm]; split <;> (simp only [Nat.min_def]; split <;> omega)
        obtain ⟨n2, hn2⟩ : ∃ n2, n2 = n + 20 := ⟨_, rfl⟩
        obtain ⟨n3, hn3⟩ : ∃ n3, n3 = n2 + m := ⟨_, rfl⟩
        have hm6 : m ≤ 601 := by rw [hm]; exact Nat.min_le_right _ _
        have f2 : IntKind.i64.wrap ((n : Int) + 20) = (n2 : Int) := by rw [IntKind.wrap_i64]; omega
        have f3 : IntKind.i64.wrap ((n2 : Int) + (m : Int)) = (n3 : Int) := by rw [IntKind.wrap_i64]; omega
        have f2' : (n : Int) + 20 = (n2 : Int) := by omega
        have f3' : (n2 : Int) + (m : Int) = (n3 : Int) := by omega
        have HN : Hid (cost (acs.take (k + 1)) = n3 ∧ cost (acs.take k) ≤ 600) := ⟨by rw [hcn, cost1, ← hl, ← hm]; omega, by omega⟩
        have HK : Hid (k < acs.length) := hkn
        have f4 : wrap64 ((k : Int) + 1) = ((k + 1 : Nat) : Int) := by
          have := cost_ge (acs.take k)
          rw [List.length_take] at this
          unfold wrap64; omega
        clear hn hl hm hn2 hn3 hcn hm6 h6 hkn hk hc hcel
        go_wp2_with fail
        exact ⟨⟨k + 1, HK.out, by rw [f4], by rw [HN.out.1], .inr HN.out.2⟩, by rw [f4]; exact step_m _ _ HK.out⟩
      · have i2 : ¬ ((cost (acs.take k) : Nat) : Int) ≤ 600 := by omega
        have i1 : (k : Int) < acs.length := by omega
        have i3 : (600 : Int) < ((cost (acs.take k) : Nat) : Int) := by omega
        generalize cost (acs.take k) = n at *
        clear hcel hc hk
        go_wp2_with fail
        refine (works_any _ hg0).mono ?_
        rintro e W ⟨rfl, hB⟩
        go_wp2_with fail
        go_ret
        exact ⟨rfl, hB⟩
    · obtain rfl : k = acs.length := by omega
      rw [List.take_of_length_le (Nat.le_refl _)]
      by_cases h6 : cost acs ≤ 600
      · have i2 : ((cost acs : Nat) : Int) ≤ 600 := by omega
        have hsum := cost_bytes acs h6
        have hlen := cost_ge acs
        have H : Hid ((acs.map fun c => c.bytes.length).sum ≤ 600 ∧ acs.length ≤ 30) := ⟨by omega, by omega⟩
        generalize cost acs = n at *
        clear hsum hlen hkn hk hc h6
        go_wp2_with fail
        refine (new_any w hg0).mono ?_
        rintro e W1 ⟨rfl, hB1, hH1⟩
        go_wp2_with fail
        refine (new_any W1 (hg0.below hB1 hgs)).mono ?_
        rintro e W2 ⟨rfl, hB2, hH2⟩
        go_upto_region 10 with (fail)
        refine named (p := Code.wp _ _ _ _) ?_
        intro W3 hW3
        have hB3 : Below W2.heap.size W2 W3 := by rw [hW3]; exact ((Below.refl _ _).alloc (Nat.le_refl _) _).alloc (by simp) _
        have hg3 : Has W3 W2.heap.size #[.pointer (some ⟨w.heap.size, 0, none⟩), .pointer (some ⟨W1.heap.size, 0, none⟩)] 44 := by rw [hW3]; exact has_old (has_new _ _ _ _ rfl)
        have ha3 : Has W3 (W2.heap.size + 1) #[.slice none 0 0, .slice none 0 0] 47 := by rw [hW3]; exact has_new _ _ _ _ (by simp)
        have hp3 : PI w W2.heap.size (W2.heap.size + 1) w.heap.size W1.heap.size [] [] (.slice none 0 0) (.slice none 0 0) W3 :=
          ⟨(hB1.trans (hB2.mono hB1.size)).trans (hB3.mono (Nat.le_trans hB1.size hB2.size)), hg3, ha3, (hH1.below hB2 hH1.lt).below hB3 (Nat.lt_of_lt_of_le hH1.lt hB2.size), hH2.below hB3 hH2.lt, Own.nil _ _, Own.nil _ _, Nat.ne_of_lt hH1.lt, Nat.le_refl _, hB1.size, Nat.le_trans hB1.size hB2.size, Nat.le_trans (Nat.le_trans hB1.size hB2.size) (Nat.le_succ _)⟩
        clear hW3 hg3 ha3 hB3 hB1 hB2 hH1 hH2
        generalize hGA : W2.heap.size + 1 = A at *
        generalize W2.heap.size = G at *
        clear hGA
        go_wp2_with fail
        go_loopw [7] (fun i wr => ∃ k : Nat, k ≤ acs.length ∧ i = .int .i64 k ∧ ∃ b0 b1 m0 m1 v0 v1, PI w G A b0 b1 m0 m1 v0 v1 wr ∧ Hid (m0.length ≤ ((acs.take k).map fun c => c.bytes.length).sum ∧ m1.length ≤ ((acs.take k).map fun c => c.bytes.length).sum)) (fun i _ => acs.length - (intOf i).toNat)
        case atStart => exact ⟨0, by omega, rfl, _, _, _, _, _, _, hp3, by simp, by simp⟩
        case round =>
          clear hp3
          obtain ⟨k, hk, rfl, b0, b1, m0, m1, v0, v1, hP, hml⟩ := hrel
          by_cases hkn : k < acs.length
          · obtain ⟨c, hck⟩ : ∃ c, acs[k]? = some c := ⟨_, List.getElem?_eq_getElem hkn⟩
            obtain rfl := ha (by intro e; simp [e] at hkn)
            obtain ⟨c1, c2, sv, c3, hb⟩ := hcel k c hck
            have x1 := (hP.bw.cell (p := ⟨pb, po + k * 3, none⟩) hpb).trans c1
            have x2 := (hP.bw.cell (p := ⟨pb, po + k * 3 + 1, none⟩) hpb).trans c2
            have x3 := (hP.bw.cell (p := ⟨pb, po + k * 3 + 2, none⟩) hpb).trans c3
            obtain ⟨a1, cap1, db1, o1, rfl, _⟩ := id hb
            have hsn := sum_next acs k c hck
            have hsl := sum_take_le acs (k + 1)
            have HS : Hid (((acs.take (k + 1)).map fun c => c.bytes.length).sum = ((acs.take k).map fun c => c.bytes.length).sum + c.bytes.length ∧ ((acs.take (k + 1)).map fun c => c.bytes.length).sum ≤ 600) := ⟨hsn, by have := H.out; omega⟩
            have i1 : (k : Int) < acs.length := by omega
            have HK : Hid (k < acs.length) := hkn
            have f4 : Hid (wrap64 ((k : Int) + 1) = ((k + 1 : Nat) : Int)) := step_w k acs.length hkn H.out.2
            clear c1 c2 c3 hcel hkn hk hck hsn hsl
            obtain ⟨wt, tw, d⟩ := c
            simp only at x1 x2 x3 hb HS
            go_upto_region 14 with (fail)
            refine named (p := Code.wp _ _ _ _) ?_
            intro Wx hWx
            have hBx : Below wr.heap.size wr Wx := by rw [hWx]; exact (Below.refl _ _).alloc (Nat.le_refl _) _
            have hXx : Has Wx wr.heap.size #[Value.int IntKind.i64 wt, Value.bool tw, Value.slice a1 d.length cap1] 43 := by rw [hWx]; exact has_new _ _ _ _ rfl
            have hPx := hP.below hBx
            have hXw : Hid (w.heap.size ≤ wr.heap.size) := hP.bw.size
            clear hWx hP hBx x1 x2 x3
            generalize wr.heap.size = X at *
            obtain ⟨p0, q0, rfl⟩ := hPx.o0.slice
            obtain ⟨p1, q1, rfl⟩ := hPx.o1.slice
            have y0 := hXx.cell 0
            have y1 := hXx.cell 1
            have y2 := hXx.cell 2
            simp only [List.getElem?_toArray, List.getElem?_cons_zero, List.getElem?_cons_succ] at y0 y1 y2
            have hbx := hb.below hPx.bw
            have kg0 : ∀ W, PI w G A b0 b1 m0 m1 (.slice p0 m0.length q0) (.slice p1 m1.length q1) W → W.cell? ⟨G, 0, none⟩ = some (.pointer (some ⟨b0, 0, none⟩)) := fun W h => by have := h.g.cell 0; simpa using this
            have kg1 : ∀ W, PI w G A b0 b1 m0 m1 (.slice p0 m0.length q0) (.slice p1 m1.length q1) W → W.cell? ⟨G, 1, none⟩ = some (.pointer (some ⟨b1, 0, none⟩)) := fun W h => by have := h.g.cell 1; simpa using this
            by_cases hw0 : wt = 0
            · subst hw0
              cases tw with
              | false =>
                have g0 := (kg0 Wx hPx)
                have hge : Hid (G < Wx.heap.size ∧ b0 < Wx.heap.size ∧ G ≠ b0 ∧ w.heap.size ≤ Wx.heap.size) := ⟨hPx.g.lt, hPx.h0.lt, by obtain ⟨cs, hc⟩ := hash_has hPx.h0; exact has_ne hPx.g hc (by decide), hPx.bw.size⟩
                have y2' : (Wx.alloc (.cells #[] 5)).cell? ⟨X, 2, none⟩ = some (.slice a1 d.length cap1) := ((Below.refl Wx.heap.size Wx).alloc (Nat.le_refl _) _ |>.cell (p := ⟨X, 2, none⟩) hXx.lt).trans y2
                have hdl : Hid (d.length ≤ 600 ∧ m0.length + d.length ≤ 600) := by have h1 := hml.out.1; have h2 := HS.out; exact ⟨by omega, by omega⟩
                go_wp2_with (refine wpList_append_bytes rfl _ _ 22 rfl info5 Tryd.underlying22 Wx.heap.size _ _ [] d rfl rfl (Own.made _ Wx (Nat.le_refl _)) (hbx.below ((Below.refl _ _).alloc (Nat.le_refl _) _)) (by have := hdl.out; simp; omega) (by simp) ?_; intro bw wb hob hgb; obtain ⟨ab, cb, rfl⟩ := hob.slice; have hBb : Below Wx.heap.size Wx wb := ((Below.refl _ _).alloc (Nat.le_refl _) _).trans (grown_keeps (Own.made _ Wx (Nat.le_refl _)) hgb (by simp)); have g0b := kg0 wb (hPx.below hBb))
                rw [List.nil_append] at hob
                have hXb : Hid (X ≠ b0 ∧ X < Wx.heap.size) := ⟨by obtain ⟨cs, hc⟩ := hash_has hPx.h0; exact has_ne hXx hc (by decide), hXx.lt⟩
                refine (write_any b0 m0 d _ wb (hPx.h0.below hBb hge.out.2.1) (own_sliceOf hob hge.out.2.1 (Nat.lt_of_lt_of_le hge.out.1 hBb.size) hge.out.2.2.1) (hg0.below (hPx.below hBb).bw hgs) (Nat.le_trans hgs hPx.lo.1) (by have := hdl.out; omega)).mono ?_
                rintro e Wc ⟨rfl, hEc, hHc⟩
                have hobc := hob.ex hEc hge.out.2.1
                have hEx : Ex b0 Wx Wc := (Ex.below hBb).trans hEc
                have hbwc := (hPx.w0 hEx).1
                have y2c : Wc.cell? ⟨X, 2, none⟩ = some (.slice a1 d.length cap1) := by have := (hXx.ex hEx hXb.out.1).cell 2; simpa using this
                have s1 := bytes_string Wc _ d (hobc.bytes (by have := hbwc.size; omega))
                have s2 := bytes_string Wc _ d (hb.below hbwc)
                obtain ⟨T, hT⟩ : ∃ T : ByteArray, T = ⟨d.toArray⟩ := ⟨_, rfl⟩
                rw [← hT] at s1 s2
                clear hT hob hEc hgb hBb g0b g0 y2' y0 y1 y2 hbx hbwc
                go_wp2_with (first
                  | (go_at_call 23; refine (num_any _ _).mono ?_; rintro e w' ⟨rfl, hw⟩; obtain rfl := hw.symm; clear hw)
                  | refine wpList_convert_run (by rfl) 22 9 _ rfl _ _ rfl s1 ?_
                  | refine wpList_convert_run (by rfl) 22 9 _ rfl _ _ rfl s2 ?_)
                clear s1 s2 y2c
                go_loopw [11] (fun i wr' => ∃ j : Nat, j ≤ d.length ∧ i = .int .i64 j ∧ Ex b0 Wx wr' ∧ HashAt wr' b0 (m0 ++ d) ∧ ∃ l', Hid (l'.length = d.length) ∧ Own Wx.heap.size wr' (.slice ab d.length cb) l') (fun i _ => d.length - (intOf i).toNat)
                case atStart => exact ⟨0, by omega, rfl, hEx, hHc, d, rfl, hobc⟩
                case round =>
                  clear hobc hEx hHc
                  obtain ⟨j, hj, rfl, hEj, hHj, l', hl', hoj⟩ := hrel
                  by_cases hjd : j < d.length
                  · have hne : l' ≠ [] := by intro e; have := hl'.out; rw [e] at this; simp at this; omega
                    obtain ⟨g, c', e1, hgb, hgl, _, hin⟩ := hoj.at_ hne
                    obtain ⟨rfl, _, rfl⟩ : ab = some ⟨g, 0, none⟩ ∧ d.length = l'.length ∧ cb = c' := by simpa using e1
                    have ij : (j : Int) < d.length := by omega
                    have cj := hin j (by have := hl'.out; omega)
                    rw [Nat.zero_add] at cj
                    have fj := ownsRow_free5 hoj j
                    have n1 := bv_next (l'[j]?.getD 0)
                    have n2 := bv_next' (l'[j]?.getD 0)
                    have hset := hoj.set j (l'[j]?.getD 0 + 1)
                    have HJ : Hid (j < d.length) := hjd
                    have f5 : Hid _ := step_w2 j d.length hjd hdl.out.1
                    have hH2 : HashAt (wr.setCell ⟨g, j, none⟩ (.int .u8 (bv (l'[j]?.getD 0 + 1)))) b0 (m0 ++ d) := hHj.ex (Ex.set g wr j _) (by have := hge.out; omega)
                    have hE2 := hEj.set_hi hgb j (.int .u8 (bv (l'[j]?.getD 0 + 1)))
                    have hlen2 : Hid ((l'.set j (l'[j]?.getD 0 + 1)).length = d.length) := by show _ = _; rw [List.length_set]; exact hl'.out
                    generalize l'.set j (l'[j]?.getD 0 + 1) = l2 at *
                    generalize hxx : l'[j]?.getD 0 = x at *
                    generalize hyy : x + 1 = y at *
                    clear e1 hin hj hjd hxx hyy
                    go_wp2_with fail
                    exact ⟨⟨j + 1, HJ.out, by rw [f5.out], hE2, hH2, l2, hlen2, hset⟩, by rw [f5.out]; exact step_m _ _ HJ.out⟩
                  · obtain ⟨hbw, hgg, haa, hh1, ho0, ho1⟩ := hPx.w0 hEj
                    have y2c : wr.cell? ⟨X, 2, none⟩ = some (.slice a1 d.length cap1) := by have := (hXx.ex hEj hXb.out.1).cell 2; simpa using this
                    have aa0 : wr.cell? ⟨A, 0, none⟩ = some (.slice p0 m0.length q0) := by have := haa.cell 0; simpa using this
                    have aaf := haa.free 0
                    have hsx := hb.below hbw
                    have hAs : Hid (A < wr.heap.size ∧ X < wr.heap.size ∧ w.heap.size ≤ wr.heap.size) := ⟨haa.lt, Nat.lt_of_lt_of_le hXb.out.2 hEj.size, hbw.size⟩
                    have ij : ¬ (j : Int) < (d.length : Int) := by omega
                    clear hjd hj hoj hl' kg0 kg1
                    go_upto_region 28 with (fail)
                    have al : ∀ (o : Obj) (b q : Nat), b < wr.heap.size → ((wr.alloc o).drew).cell? ⟨b, q, none⟩ = wr.cell? ⟨b, q, none⟩ := fun o b q hb' => by
                      refine World.cell?_of_block (w := wr) ?_
                      show (wr.alloc o).heap[b]? = _
                      rw [alloc_get, if_neg (by omega)]
                    have z0 : wr.drew.cell? ⟨A, 0, none⟩ = some (.slice p0 m0.length q0) := aa0
                    have z2 : wr.drew.cell? ⟨X, 2, none⟩ = some (.slice a1 d.length cap1) := y2c
                    have t0 := (al (.cells #[] 5) A 0 hAs.out.1).trans aa0
                    have t2 := (al (.cells #[] 5) X 2 hAs.out.2.1).trans y2c
                    have hv0 := ho0.bytes (by have := hAs.out; omega)
                    have hv1 : Bytes (wr.alloc (.cells #[] 5)) (.slice p0 m0.length q0) m0 := hv0.below ((Below.refl _ _).alloc (Nat.le_refl _) _)
                    have hv2 : Bytes (wr.alloc (.cells #[] 5)).drew (.slice p0 m0.length q0) m0 := hv1
                    have hmk1 : Own wr.heap.size (wr.alloc (.cells #[] 5)).drew (.slice (some ⟨wr.heap.size, 0, none⟩) 0 0) [] := Own.made _ wr (Nat.le_refl _)
                    go_region_law ((first | (refine step_append_bytes (by rfl) _ _ 22 (by rfl) info5 Tryd.underlying22 wr.heap.size _ _ [] m0 (by rfl) (by rfl) hmk1 hv2 (by have := hdl.out; simp; omega) (by show wr.heap.size ≤ (wr.alloc (.cells #[] 5)).heap.size; simp) ?_; intro vy wy hoy hgy; have hBy : Below wr.heap.size wr wy := ((Below.refl _ _).alloc (Nat.le_refl _) _).trans (grown_keeps (Own.made _ wr (Nat.le_refl _)) ⟨hgy.os, hgy.tape, hgy.output, hgy.size, hgy.block⟩ (by simp)); have u2 : wy.cell? ⟨X, 2, none⟩ = some (.slice a1 d.length cap1) := (hBy.cell (p := ⟨X, 2, none⟩) hAs.out.2.1).trans y2c) | (refine step_append_bytes (by rfl) _ _ 22 (by rfl) info5 Tryd.underlying22 wr.heap.size _ _ ([] ++ m0) d (by rfl) (by rfl) hoy (hsx.below hBy) (by have := hdl.out; simp; omega) hBy.size ?_; intro vz wz hoz hgz; obtain ⟨az, cz, rfl⟩ := hoz.slice; have hBz : Below wr.heap.size wr wz := hBy.trans (grown_keeps hoy hgz hBy.size); have haz := haa.below hBz haa.lt; have w0 := haz.cell 0; have wf := haz.free 0; simp only [List.getElem?_toArray, List.getElem?_cons_zero] at w0) | fail))
                    all_goals
                      go_wp2_with fail
                      rw [f4.out]
                      rw [List.nil_append, List.length_append] at hoz
                      refine ⟨⟨k + 1, HK.out, rfl, _, _, m0 ++ d, _, _, _, PI.store0 (hbw.trans (hBz.mono hbw.size)) (hgg.below hBz hgg.lt) haz (hHj.below hBz hHj.lt) (hh1.below hBz hh1.lt) (Own.mono hoz hbw.size) (ho1.below hBz) hPx.ne hPx.lo, ?_, ?_⟩, step_m _ _ HK.out⟩
                      · have := hml.out; have := HS.out; rw [List.length_append]; omega
                      · have := hml.out; have := HS.out; omega
              | true =>
                have g0 := (kg1 Wx hPx)
                have hge : Hid (G < Wx.heap.size ∧ b1 < Wx.heap.size ∧ G ≠ b1 ∧ w.heap.size ≤ Wx.heap.size) := ⟨hPx.g.lt, hPx.h1.lt, by obtain ⟨cs, hc⟩ := hash_has hPx.h1; exact has_ne hPx.g hc (by decide), hPx.bw.size⟩
                have y2' : (Wx.alloc (.cells #[] 5)).cell? ⟨X, 2, none⟩ = some (.slice a1 d.length cap1) := ((Below.refl Wx.heap.size Wx).alloc (Nat.le_refl _) _ |>.cell (p := ⟨X, 2, none⟩) hXx.lt).trans y2
                have hdl : Hid (d.length ≤ 600 ∧ m1.length + d.length ≤ 600) := by have h1 := hml.out.2; have h2 := HS.out; exact ⟨by omega, by omega⟩
                go_wp2_with (refine wpList_append_bytes rfl _ _ 22 rfl info5 Tryd.underlying22 Wx.heap.size _ _ [] d rfl rfl (Own.made _ Wx (Nat.le_refl _)) (hbx.below ((Below.refl _ _).alloc (Nat.le_refl _) _)) (by have := hdl.out; simp; omega) (by simp) ?_; intro bw wb hob hgb; obtain ⟨ab, cb, rfl⟩ := hob.slice; have hBb : Below Wx.heap.size Wx wb := ((Below.refl _ _).alloc (Nat.le_refl _) _).trans (grown_keeps (Own.made _ Wx (Nat.le_refl _)) hgb (by simp)); have g0b := kg1 wb (hPx.below hBb))
                rw [List.nil_append] at hob
                have hXb : Hid (X ≠ b1 ∧ X < Wx.heap.size) := ⟨by obtain ⟨cs, hc⟩ := hash_has hPx.h1; exact has_ne hXx hc (by decide), hXx.lt⟩
                refine (write_any b1 m1 d _ wb (hPx.h1.below hBb hge.out.2.1) (own_sliceOf hob hge.out.2.1 (Nat.lt_of_lt_of_le hge.out.1 hBb.size) hge.out.2.2.1) (hg0.below (hPx.below hBb).bw hgs) (Nat.le_trans hgs hPx.lo.2.1) (by have := hdl.out; omega)).mono ?_
                rintro e Wc ⟨rfl, hEc, hHc⟩
                have hobc := hob.ex hEc hge.out.2.1
                have hEx : Ex b1 Wx Wc := (Ex.below hBb).trans hEc
                have hbwc := (hPx.w1 hEx).1
                have y2c : Wc.cell? ⟨X, 2, none⟩ = some (.slice a1 d.length cap1) := by have := (hXx.ex hEx hXb.out.1).cell 2; simpa using this
                have s1 := bytes_string Wc _ d (hobc.bytes (by have := hbwc.size; omega))
                have s2 := bytes_string Wc _ d (hb.below hbwc)
                obtain ⟨T, hT⟩ : ∃ T : ByteArray, T = ⟨d.toArray⟩ := ⟨_, rfl⟩
                rw [← hT] at s1 s2
                clear hT hob hEc hgb hBb g0b g0 y2' y0 y1 y2 hbx hbwc
                go_wp2_with (first
                  | (go_at_call 23; refine (num_any _ _).mono ?_; rintro e w' ⟨rfl, hw⟩; obtain rfl := hw.symm; clear hw)
                  | refine wpList_convert_run (by rfl) 22 9 _ rfl _ _ rfl s1 ?_
                  | refine wpList_convert_run (by rfl) 22 9 _ rfl _ _ rfl s2 ?_)
                clear s1 s2 y2c
                go_loopw [11] (fun i wr' => ∃ j : Nat, j ≤ d.length ∧ i = .int .i64 j ∧ Ex b1 Wx wr' ∧ HashAt wr' b1 (m1 ++ d) ∧ ∃ l', Hid (l'.length = d.length) ∧ Own Wx.heap.size wr' (.slice ab d.length cb) l') (fun i _ => d.length - (intOf i).toNat)
                case atStart => exact ⟨0, by omega, rfl, hEx, hHc, d, rfl, hobc⟩
                case round =>
                  clear hobc hEx hHc
                  obtain ⟨j, hj, rfl, hEj, hHj, l', hl', hoj⟩ := hrel
                  by_cases hjd : j < d.length
                  · have hne : l' ≠ [] := by intro e; have := hl'.out; rw [e] at this; simp at this; omega
                    obtain ⟨g, c', e1, hgb, hgl, _, hin⟩ := hoj.at_ hne
                    obtain ⟨rfl, _, rfl⟩ : ab = some ⟨g, 0, none⟩ ∧ d.length = l'.length ∧ cb = c' := by simpa using e1
                    have ij : (j : Int) < d.length := by omega
                    have cj := hin j (by have := hl'.out; omega)
                    rw [Nat.zero_add] at cj
                    have fj := ownsRow_free5 hoj j
                    have n1 := bv_next (l'[j]?.getD 0)
                    have n2 := bv_next' (l'[j]?.getD 0)
                    have hset := hoj.set j (l'[j]?.getD 0 + 1)
                    have HJ : Hid (j < d.length) := hjd
                    have f5 : Hid _ := step_w2 j d.length hjd hdl.out.1
                    have hH2 : HashAt (wr.setCell ⟨g, j, none⟩ (.int .u8 (bv (l'[j]?.getD 0 + 1)))) b1 (m1 ++ d) := hHj.ex (Ex.set g wr j _) (by have := hge.out; omega)
                    have hE2 := hEj.set_hi hgb j (.int .u8 (bv (l'[j]?.getD 0 + 1)))
                    have hlen2 : Hid ((l'.set j (l'[j]?.getD 0 + 1)).length = d.length) := by show _ = _; rw [List.length_set]; exact hl'.out
                    generalize l'.set j (l'[j]?.getD 0 + 1) = l2 at *
                    generalize hxx : l'[j]?.getD 0 = x at *
                    generalize hyy : x + 1 = y at *
                    clear e1 hin hj hjd hxx hyy
                    go_wp2_with fail
                    exact ⟨⟨j + 1, HJ.out, by rw [f5.out], hE2, hH2, l2, hlen2, hset⟩, by rw [f5.out]; exact step_m _ _ HJ.out⟩
                  · obtain ⟨hbw, hgg, haa, hh1, ho0, ho1⟩ := hPx.w1 hEj
                    have y2c : wr.cell? ⟨X, 2, none⟩ = some (.slice a1 d.length cap1) := by have := (hXx.ex hEj hXb.out.1).cell 2; simpa using this
                    have aa0 : wr.cell? ⟨A, 1, none⟩ = some (.slice p1 m1.length q1) := by have := haa.cell 1; simpa using this
                    have aaf := haa.free 1
                    have hsx := hb.below hbw
                    have hAs : Hid (A < wr.heap.size ∧ X < wr.heap.size ∧ w.heap.size ≤ wr.heap.size) := ⟨haa.lt, Nat.lt_of_lt_of_le hXb.out.2 hEj.size, hbw.size⟩
                    have ij : ¬ (j : Int) < (d.length : Int) := by omega
                    clear hjd hj hoj hl' kg0 kg1
                    go_upto_region 28 with (fail)
                    have al : ∀ (o : Obj) (b q : Nat), b < wr.heap.size → ((wr.alloc o).drew).cell? ⟨b, q, none⟩ = wr.cell? ⟨b, q, none⟩ := fun o b q hb' => by
                      refine World.cell?_of_block (w := wr) ?_
                      show (wr.alloc o).heap[b]? = _
                      rw [alloc_get, if_neg (by omega)]
                    have z0 : wr.drew.cell? ⟨A, 1, none⟩ = some (.slice p1 m1.length q1) := aa0
                    have z2 : wr.drew.cell? ⟨X, 2, none⟩ = some (.slice a1 d.length cap1) := y2c
                    have t0 := (al (.cells #[] 5) A 1 hAs.out.1).trans aa0
                    have t2 := (al (.cells #[] 5) X 2 hAs.out.2.1).trans y2c
                    have hv0 := ho1.bytes (by have := hAs.out; omega)
                    have hv1 : Bytes (wr.alloc (.cells #[] 5)) (.slice p1 m1.length q1) m1 := hv0.below ((Below.refl _ _).alloc (Nat.le_refl _) _)
                    have hv2 : Bytes (wr.alloc (.cells #[] 5)).drew (.slice p1 m1.length q1) m1 := hv1
                    have hmk1 : Own wr.heap.size (wr.alloc (.cells #[] 5)).drew (.slice (some ⟨wr.heap.size, 0, none⟩) 0 0) [] := Own.made _ wr (Nat.le_refl _)
                    go_region_law ((first | (refine step_append_bytes (by rfl) _ _ 22 (by rfl) info5 Tryd.underlying22 wr.heap.size _ _ [] m1 (by rfl) (by rfl) hmk1 hv2 (by have := hdl.out; simp; omega) (by show wr.heap.size ≤ (wr.alloc (.cells #[] 5)).heap.size; simp) ?_; intro vy wy hoy hgy; have hBy : Below wr.heap.size wr wy := ((Below.refl _ _).alloc (Nat.le_refl _) _).trans (grown_keeps (Own.made _ wr (Nat.le_refl _)) ⟨hgy.os, hgy.tape, hgy.output, hgy.size, hgy.block⟩ (by simp)); have u2 : wy.cell? ⟨X, 2, none⟩ = some (.slice a1 d.length cap1) := (hBy.cell (p := ⟨X, 2, none⟩) hAs.out.2.1).trans y2c) | (refine step_append_bytes (by rfl) _ _ 22 (by rfl) info5 Tryd.underlying22 wr.heap.size _ _ ([] ++ m1) d (by rfl) (by rfl) hoy (hsx.below hBy) (by have := hdl.out; simp; omega) hBy.size ?_; intro vz wz hoz hgz; obtain ⟨az, cz, rfl⟩ := hoz.slice; have hBz : Below wr.heap.size wr wz := hBy.trans (grown_keeps hoy hgz hBy.size); have haz := haa.below hBz haa.lt; have w0 := haz.cell 1; have wf := haz.free 1; simp only [List.getElem?_toArray, List.getElem?_cons_zero, List.getElem?_cons_succ] at w0) | fail))
                    all_goals
                      go_wp2_with fail
                      rw [f4.out]
                      rw [List.nil_append, List.length_append] at hoz
                      refine ⟨⟨k + 1, HK.out, rfl, _, _, _, m1 ++ d, _, _, PI.store1 (hbw.trans (hBz.mono hbw.size)) (hgg.below hBz hgg.lt) haz (hh1.below hBz hh1.lt) (hHj.below hBz hHj.lt) (ho0.below hBz) (Own.mono hoz hbw.size) hPx.ne hPx.lo, ?_, ?_⟩, step_m _ _ HK.out⟩
                      · have := hml.out; have := HS.out; omega
                      · have := hml.out; have := HS.out; rw [List.length_append]; omega
            · by_cases hw1 : wt = 1
              · subst hw1
                cases tw with
                | false =>
                  have hl0 : Hid (m0.length ≤ 600) := by show _ ≤ _; have := hml.out; have := HS.out; omega
                  have hsu : ∀ W, PI w G A b0 b1 m0 m1 (.slice p0 m0.length q0) (.slice p1 m1.length q1) W → Calls Tryd.prog 28 #[.pointer (some ⟨b0, 0, none⟩)] W fun e w' => e = .returned (.agg (byteCells (shaL m0))) ∧ Below W.heap.size W w' := fun W h => sum_any b0 m0 W h.h0 (hg0.below h.bw hgs) (by have := hl0.out; omega)
                  have hre : ∀ W, PI w G A b0 b1 m0 m1 (.slice p0 m0.length q0) (.slice p1 m1.length q1) W → Calls Tryd.prog 17 #[.slice p0 m0.length q0] W fun e w' => e = .returned (.agg (byteCells (shaL m0))) ∧ Below W.heap.size W w' := fun W h => refsum_any _ m0 W (h.o0.bytes (by have := h.g.lt; omega)) (by have := hl0.out; omega)
                  have hln : ∀ W, PI w G A b0 b1 m0 m1 (.slice p0 m0.length q0) (.slice p1 m1.length q1) W → Calls Tryd.prog 29 #[.pointer (some ⟨b0, 0, none⟩)] W fun e w' => e = .returned (.int .i64 (m0.length : Int)) ∧ w' = W := fun W h => len_any b0 m0 W h.h0
                  have kp : ∀ W, PI w G A b0 b1 m0 m1 (.slice p0 m0.length q0) (.slice p1 m1.length q1) W → (W.cell? ⟨G, 0, none⟩ = some (.pointer (some ⟨b0, 0, none⟩)) ∧ W.cell? ⟨A, 0, none⟩ = some (.slice p0 m0.length q0) ∧ PI w G A b0 b1 m0 m1 (.slice p0 m0.length q0) (.slice p1 m1.length q1) W) := fun W h => ⟨by have := h.g.cell 0; simpa using this, by have := h.a.cell 0; simpa using this, h⟩
                  have q := eq_same (shaL m0) (shaL_length m0)
                  generalize shaL m0 = D at *
                  generalize hll : m0.length = l0 at *
                  go_upto_region 30 with (fail)
                  go_region_held3 (fun W => W.cell? ⟨G, 0, none⟩ = some (.pointer (some ⟨b0, 0, none⟩)) ∧ W.cell? ⟨A, 0, none⟩ = some (.slice p0 l0 q0) ∧ PI w G A b0 b1 m0 m1 (.slice p0 l0 q0) (.slice p1 m1.length q1) W) (first | exact kp _ (by assumption) | exact kp _ (PI.drew (by assumption))) (first | (go_at_call 28; refine (hsu _ (by first | assumption | exact PI.drew (by assumption))).mono ?_; rintro e Wn ⟨rfl, hBn⟩; have hPn := PI.below (by first | assumption | exact PI.drew (by assumption)) hBn) | (go_at_call 17; refine (hre _ (by first | assumption | exact PI.drew (by assumption))).mono ?_; rintro e Wn ⟨rfl, hBn⟩; have hPn := PI.below (by first | assumption | exact PI.drew (by assumption)) hBn) | (go_at_call 29; refine (hln _ (by first | assumption | exact PI.drew (by assumption))).mono ?_; rintro e Wn ⟨rfl, hw⟩; obtain rfl := hw.symm))
                  go_wp2_with fail
                  rw [f4.out]
                  exact ⟨⟨k + 1, HK.out, rfl, _, _, _, _, _, _, hPn, by rw [hll]; have := hml.out; have := HS.out; omega, by have := hml.out; have := HS.out; omega⟩, step_m _ _ HK.out⟩
                | true =>
                  have hl0 : Hid (m1.length ≤ 600) := by show _ ≤ _; have := hml.out; have := HS.out; omega
                  have hsu : ∀ W, PI w G A b0 b1 m0 m1 (.slice p0 m0.length q0) (.slice p1 m1.length q1) W → Calls Tryd.prog 28 #[.pointer (some ⟨b1, 0, none⟩)] W fun e w' => e = .returned (.agg (byteCells (shaL m1))) ∧ Below W.heap.size W w' := fun W h => sum_any b1 m1 W h.h1 (hg0.below h.bw hgs) (by have := hl0.out; omega)
                  have hre : ∀ W, PI w G A b0 b1 m0 m1 (.slice p0 m0.length q0) (.slice p1 m1.length q1) W → Calls Tryd.prog 17 #[.slice p1 m1.length q1] W fun e w' => e = .returned (.agg (byteCells (shaL m1))) ∧ Below W.heap.size W w' := fun W h => refsum_any _ m1 W (h.o1.bytes (by have := h.g.lt; omega)) (by have := hl0.out; omega)
                  have hln : ∀ W, PI w G A b0 b1 m0 m1 (.slice p0 m0.length q0) (.slice p1 m1.length q1) W → Calls Tryd.prog 29 #[.pointer (some ⟨b1, 0, none⟩)] W fun e w' => e = .returned (.int .i64 (m1.length : Int)) ∧ w' = W := fun W h => len_any b1 m1 W h.h1
                  have kp : ∀ W, PI w G A b0 b1 m0 m1 (.slice p0 m0.length q0) (.slice p1 m1.length q1) W → (W.cell? ⟨G, 1, none⟩ = some (.pointer (some ⟨b1, 0, none⟩)) ∧ W.cell? ⟨A, 1, none⟩ = some (.slice p1 m1.length q1) ∧ PI w G A b0 b1 m0 m1 (.slice p0 m0.length q0) (.slice p1 m1.length q1) W) := fun W h => ⟨by have := h.g.cell 1; simpa using this, by have := h.a.cell 1; simpa using this, h⟩
                  have q := eq_same (shaL m1) (shaL_length m1)
                  generalize shaL m1 = D at *
                  generalize hll : m1.length = l0 at *
                  go_upto_region 30 with (fail)
                  go_region_held3 (fun W => W.cell? ⟨G, 1, none⟩ = some (.pointer (some ⟨b1, 0, none⟩)) ∧ W.cell? ⟨A, 1, none⟩ = some (.slice p1 l0 q1) ∧ PI w G A b0 b1 m0 m1 (.slice p0 m0.length q0) (.slice p1 l0 q1) W) (first | exact kp _ (by assumption) | exact kp _ (PI.drew (by assumption))) (first | (go_at_call 28; refine (hsu _ (by first | assumption | exact PI.drew (by assumption))).mono ?_; rintro e Wn ⟨rfl, hBn⟩; have hPn := PI.below (by first | assumption | exact PI.drew (by assumption)) hBn) | (go_at_call 17; refine (hre _ (by first | assumption | exact PI.drew (by assumption))).mono ?_; rintro e Wn ⟨rfl, hBn⟩; have hPn := PI.below (by first | assumption | exact PI.drew (by assumption)) hBn) | (go_at_call 29; refine (hln _ (by first | assumption | exact PI.drew (by assumption))).mono ?_; rintro e Wn ⟨rfl, hw⟩; obtain rfl := hw.symm))
                  go_wp2_with fail
                  rw [f4.out]
                  exact ⟨⟨k + 1, HK.out, rfl, _, _, _, _, _, _, hPn, by have := hml.out; have := HS.out; omega, by rw [hll]; have := hml.out; have := HS.out; omega⟩, step_m _ _ HK.out⟩
              · cases tw with
                | false =>
                  have g1 := hPx.g.cell 1
                  have g0 := hPx.g.cell 0
                  have gf := hPx.g.free 0
                  simp only [List.getElem?_toArray, List.getElem?_cons_zero, List.getElem?_cons_succ] at g0 g1
                  go_wp2_with fail
                  refine (copy_any b1 m1 Wx hPx.h1).mono ?_
                  rintro e Wy ⟨rfl, hBy, hHy⟩
                  have hPy := hPx.below hBy
                  have hlt : Hid (Wx.heap.size < Wy.heap.size ∧ b1 < Wx.heap.size ∧ b0 < Wx.heap.size ∧ w.heap.size ≤ Wx.heap.size) := ⟨hHy.lt, hPx.h1.lt, hPx.h0.lt, hPx.bw.size⟩
                  clear hPx hBy hbx g0 g1 gf
                  generalize Wx.heap.size = nb at *
                  have g1 := hPy.g.cell 1
                  have g0 := hPy.g.cell 0
                  have gf := hPy.g.free 0
                  simp only [List.getElem?_toArray, List.getElem?_cons_zero, List.getElem?_cons_succ] at g0 g1
                  have hGA : G ≠ A := has_ne hPy.g hPy.a (by decide)
                  have hg' : Has (Wy.setCell ⟨G, 0, none⟩ (.pointer (some ⟨nb, 0, none⟩))) G #[.pointer (some ⟨nb, 0, none⟩), .pointer (some ⟨b1, 0, none⟩)] 44 := by have := hPy.g.set 0 (.pointer (some ⟨nb, 0, none⟩)); simpa using this
                  have ha' : Has (Wy.setCell ⟨G, 0, none⟩ (.pointer (some ⟨nb, 0, none⟩))) A #[.slice p0 m0.length q0, .slice p1 m1.length q1] 47 := hPy.a.ex (Ex.set _ _ _ _) (Ne.symm hGA)
                  have a0' := ha'.cell 0
                  have a1' := ha'.cell 1
                  have af := ha'.free 0
                  simp only [List.getElem?_toArray, List.getElem?_cons_zero, List.getElem?_cons_succ] at a0' a1'
                  go_wp2_with fail
                  rw [f4.out]
                  exact ⟨⟨k + 1, HK.out, rfl, _, _, _, _, _, _, hPy.copy0 hHy (by have := hlt.out; omega) hlt.out.2.2.2, by have := hml.out; have := HS.out; omega, by have := hml.out; have := HS.out; omega⟩, step_m _ _ HK.out⟩
                | true =>
                  have g1 := hPx.g.cell 1
                  have g0 := hPx.g.cell 0
                  have gf := hPx.g.free 1
                  simp only [List.getElem?_toArray, List.getElem?_cons_zero, List.getElem?_cons_succ] at g0 g1
                  go_wp2_with fail
                  refine (copy_any b0 m0 Wx hPx.h0).mono ?_
                  rintro e Wy ⟨rfl, hBy, hHy⟩
                  have hPy := hPx.below hBy
                  have hlt : Hid (Wx.heap.size < Wy.heap.size ∧ b1 < Wx.heap.size ∧ b0 < Wx.heap.size ∧ w.heap.size ≤ Wx.heap.size) := ⟨hHy.lt, hPx.h1.lt, hPx.h0.lt, hPx.bw.size⟩
                  clear hPx hBy hbx g0 g1 gf
                  generalize Wx.heap.size = nb at *
                  have g1 := hPy.g.cell 1
                  have g0 := hPy.g.cell 0
                  have gf := hPy.g.free 1
                  simp only [List.getElem?_toArray, List.getElem?_cons_zero, List.getElem?_cons_succ] at g0 g1
                  have hGA : G ≠ A := has_ne hPy.g hPy.a (by decide)
                  have hg' : Has (Wy.setCell ⟨G, 1, none⟩ (.pointer (some ⟨nb, 0, none⟩))) G #[.pointer (some ⟨b0, 0, none⟩), .pointer (some ⟨nb, 0, none⟩)] 44 := by have := hPy.g.set 1 (.pointer (some ⟨nb, 0, none⟩)); simpa using this
                  have ha' : Has (Wy.setCell ⟨G, 1, none⟩ (.pointer (some ⟨nb, 0, none⟩))) A #[.slice p0 m0.length q0, .slice p1 m1.length q1] 47 := hPy.a.ex (Ex.set _ _ _ _) (Ne.symm hGA)
                  have a0' := ha'.cell 0
                  have a1' := ha'.cell 1
                  have af := ha'.free 1
                  simp only [List.getElem?_toArray, List.getElem?_cons_zero, List.getElem?_cons_succ] at a0' a1'
                  go_wp2_with fail
                  rw [f4.out]
                  exact ⟨⟨k + 1, HK.out, rfl, _, _, _, _, _, _, hPy.copy1 hHy (by have := hlt.out; omega) hlt.out.2.2.2, by have := hml.out; have := HS.out; omega, by have := hml.out; have := HS.out; omega⟩, step_m _ _ HK.out⟩
          · obtain rfl : k = acs.length := by omega
            obtain ⟨p0, q0, rfl⟩ := hP.o0.slice
            obtain ⟨p1, q1, rfl⟩ := hP.o1.slice
            have hl : Hid (m0.length ≤ 600 ∧ m1.length ≤ 600) := by have h1 := hml.out; rw [List.take_of_length_le (Nat.le_refl _)] at h1; have := H.out; exact ⟨by omega, by omega⟩
            clear hkn hk hcel hml
            go_upto_region 33 with (fail)
            generalize wr = W0 at *
            obtain ⟨N, hNe⟩ : ∃ N, N = W0.heap.size := ⟨_, rfl⟩
            have hN : N ≤ W0.heap.size := by omega
            have hN2 : 2 ≤ N := by rw [hNe]; have := hP.bw.size; omega
            have hgl := hg0.below hP.bw hgs
            have n0 : b0 < N := by rw [hNe]; exact hP.h0.lt
            have n1 : b1 < N := by rw [hNe]; exact hP.h1.lt
            have hs0 : ∀ x, Le N W0 x → Calls Tryd.prog 28 #[.pointer (some ⟨b0, 0, none⟩)] x fun e w' => e = .returned (.agg (byteCells (shaL m0))) ∧ Below x.heap.size x w' := fun x hle => sum_any _ m0 x (hP.h0.below hle.below n0) (hgl.le hle hN2) (by have := hl.out; omega)
            have hs1 : ∀ x, Le N W0 x → Calls Tryd.prog 28 #[.pointer (some ⟨b1, 0, none⟩)] x fun e w' => e = .returned (.agg (byteCells (shaL m1))) ∧ Below x.heap.size x w' := fun x hle => sum_any _ m1 x (hP.h1.below hle.below n1) (hgl.le hle hN2) (by have := hl.out; omega)
            have hr0 : ∀ x, Le N W0 x → Calls Tryd.prog 17 #[.slice p0 m0.length q0] x fun e w' => e = .returned (.agg (byteCells (shaL m0))) ∧ Below x.heap.size x w' := fun x hle => refsum_any _ m0 x ((hP.o0.bytes (by have := hP.g.lt; omega)).le hle) (by have := hl.out; omega)
            have hr1 : ∀ x, Le N W0 x → Calls Tryd.prog 17 #[.slice p1 m1.length q1] x fun e w' => e = .returned (.agg (byteCells (shaL m1))) ∧ Below x.heap.size x w' := fun x hle => refsum_any _ m1 x ((hP.o1.bytes (by have := hP.g.lt; omega)).le hle) (by have := hl.out; omega)
            have g0 : W0.cell? ⟨G, 0, none⟩ = some (.pointer (some ⟨b0, 0, none⟩)) := by have := hP.g.cell 0; simpa using this
            have g1 : W0.cell? ⟨G, 1, none⟩ = some (.pointer (some ⟨b1, 0, none⟩)) := by have := hP.g.cell 1; simpa using this
            have a0c : W0.cell? ⟨A, 0, none⟩ = some (.slice p0 m0.length q0) := by have := hP.a.cell 0; simpa using this
            have a1c : W0.cell? ⟨A, 1, none⟩ = some (.slice p1 m1.length q1) := by have := hP.a.cell 1; simpa using this
            have hBf := hP.bw
            have e0 := eq_same (shaL m0) (shaL_length m0)
            have e1 := eq_same (shaL m1) (shaL_length m1)
            have ez : ∀ w, (Op.equalIn 10000 25 (.agg (zeroCells 32)) (.agg (zeroCells 32))).run Tryd.prog w = .ok true w := fun w => by have := eq_same (List.replicate 32 0) rfl w; rwa [byteCells_zero] at this
            clear hP hl ha
            generalize shaL m0 = D0 at *
            generalize shaL m1 = D1 at *
            generalize m0.length = l0 at *
            generalize m1.length = l1 at *
            obtain ⟨hb, hwz⟩ : ∃ hb, hb = w.heap.size := ⟨_, rfl⟩
            refine wp_region_owes (A := [0, 1, 3, 7, 0, 16, 63, 127, 255, 511, 1023, 2047, 4095, 511, 8703, 32767, 65535, 131071, 262143, 524287, 1048575, 2097151, 4194303, 8388607, 16777215, 33554431, 67108863, 33554431, 268435455, 536870911, 1073741823, 2147483647, 4294967295, 8589934591, 17179869183, 34359738367, 68719476735, 137438953471, 274877906943, 549755813887, 1099511627775, 2199023255551, 4398046511103, 8796093022207]) (need := [[(5, none)], [(138, some 0)], [(139, some 1)], [(140, some 2)], [(6, none)], [(142, some 4)], [(143, some 5)], [(141, some 3), (144, some 6)], [(145, some 7)], [(5, none), (146, some 8)], [(147, some 9), (146, some 8)], [(148, some 10), (146, some 8)], [(149, some 11), (146, some 8)], [(6, none), (146, some 8)], [(151, some 13), (146, some 8)], [(152, some 14), (146, some 8)], [(150, some 12), (153, some 15), (146, some 8)], [(146, some 8), (154, some 16)], [(155, some 17)], [(12, none), (156, some 18)], [(157, some 19), (156, some 18)], [(158, some 20), (156, some 18)], [(159, some 21), (156, some 18)], [(156, some 18), (160, some 22)], [(161, some 23)], [(12, none), (162, some 24)], [(163, some 25), (162, some 24)], [(162, some 24)], [(164, some 26), (165, some 27), (162, some 24)], [(162, some 24), (166, some 28)], [(167, some 29)], [(12, none), (168, some 30)], [(169, some 31), (168, some 30)], [(170, some 32), (168, some 30)], [(168, some 30), (171, some 33)], [(172, some 34)], [(12, none), (173, some 35)], [(174, some 36), (173, some 35)], [(175, some 37), (173, some 35)], [(173, some 35), (176, some 38)], [(177, some 39)], [(178, some 40)], [(178, some 40), (179, some 41)], [(180, some 42)]]) (playsΦ G A b0 b1 l0 l1 q0 q1 p0 p1 D0 D1) N 181 (by kernel_rfl) (by kernel_rfl) (by kernel_rfl) (by kernel_rfl) (by kernel_rfl) (by kernel_rfl) rfl ?stable ?hop ?hend
            case stable =>
              intro i v p q hpq h
              unfold playsΦ at h ⊢
              split at h <;> first | exact h | exact h
            case hop =>
              refine ⟨?_, ?_, ?_, ?_, ?_, ?_, ?_, ?_, ?_, ?_, ?_, ?_, ?_, ?_, ?_, ?_, ?_, ?_, ?_, ?_, ?_, ?_, ?_, ?_, ?_, ?_, ?_, ?_, ?_, ?_, ?_, ?_, ?_, ?_, ?_, ?_, ?_, ?_, ?_, ?_, ?_, ?_, ?_, ?_, trivial⟩
              · intro a w hle hE
                have h5 : a.tmps.getD 5 undef = .slice (some ⟨G, 0, none⟩) 2 2 := hE (5, none) (by simp)
                rw [if_pos (wanted_plain rfl)]
                refine owe_value (v := .slice (some ⟨G, 0, none⟩) 2 2) ?_ (Le.refl _ _) rfl
                go_simp
              · intro a w hle hE
                have h138 : a.tmps.getD 138 undef = .slice (some ⟨G, 0, none⟩) 2 2 := hE (138, some 0) (by simp)
                rw [if_pos (wanted_plain rfl)]
                refine owe_value (v := .pointer (some ⟨G, 0, none⟩)) ?_ (Le.refl _ _) rfl
                go_simp
              · intro a w hle hE
                have h139 : a.tmps.getD 139 undef = .pointer (some ⟨G, 0, none⟩) := hE (139, some 1) (by simp)
                rw [if_pos (wanted_plain rfl)]
                have c1 := (hle.cells _ (World.block_lt_of_cell? W0 _ g0)).trans g0
                refine owe_value (v := .pointer (some ⟨b0, 0, none⟩)) ?_ (Le.refl _ _) rfl
                go_simp
              · intro a w hle hE
                have h140 : a.tmps.getD 140 undef = .pointer (some ⟨b0, 0, none⟩) := hE (140, some 2) (by simp)
                rw [if_pos (wanted_plain rfl)]
                refine owe_call (f := 28) (args := #[.pointer (some ⟨b0, 0, none⟩)]) (by go_simp) ?_
                refine (hs0 w hle).mono ?_
                rintro e w1 ⟨rfl, hb1⟩
                exact ⟨_, rfl, Le.of hb1 (Nat.le_trans hN hle.size), rfl⟩
              · intro a w hle hE
                have h6 : a.tmps.getD 6 undef = .pointer (some ⟨A, 0, none⟩) := hE (6, none) (by simp)
                rw [if_pos (wanted_plain rfl)]
                refine owe_value (v := .pointer (some ⟨A, 0, none⟩)) ?_ (Le.refl _ _) rfl
                go_simp
              · intro a w hle hE
                have h142 : a.tmps.getD 142 undef = .pointer (some ⟨A, 0, none⟩) := hE (142, some 4) (by simp)
                rw [if_pos (wanted_plain rfl)]
                have c1 := (hle.cells _ (World.block_lt_of_cell? W0 _ a0c)).trans a0c
                refine owe_value (v := .slice p0 l0 q0) ?_ (Le.refl _ _) rfl
                go_simp
              · intro a w hle hE
                have h143 : a.tmps.getD 143 undef = .slice p0 l0 q0 := hE (143, some 5) (by simp)
                rw [if_pos (wanted_plain rfl)]
                refine owe_call (f := 17) (args := #[.slice p0 l0 q0]) (by go_simp) ?_
                refine (hr0 w hle).mono ?_
                rintro e w1 ⟨rfl, hb1⟩
                exact ⟨_, rfl, Le.of hb1 (Nat.le_trans hN hle.size), rfl⟩
              · intro a w hle hE
                have h141 : a.tmps.getD 141 undef = .agg (byteCells D0) := hE (141, some 3) (by simp)
                have h144 : a.tmps.getD 144 undef = .agg (byteCells D0) := hE (144, some 6) (by simp)
                rw [if_pos (wanted_plain rfl)]
                refine owe_value (v := .bool true) ?_ (Le.refl _ _) rfl
                go_simp
              · intro a w hle hE
                have h145 : a.tmps.getD 145 undef = .bool true := hE (145, some 7) (by simp)
                rw [if_pos (wanted_plain rfl)]
                refine owe_value (v := .bool true) ?_ (Le.refl _ _) rfl
                go_simp
              · intro a w hle hE
                have h5 : a.tmps.getD 5 undef = .slice (some ⟨G, 0, none⟩) 2 2 := hE (5, none) (by simp)
                have h146 : a.tmps.getD 146 undef = .bool true := hE (146, some 8) (by simp)
                rw [if_pos (wanted_of (j := 8) (b := true) (d := 146) rfl rfl h146)]
                refine owe_value (v := .slice (some ⟨G, 0, none⟩) 2 2) ?_ (Le.refl _ _) rfl
                go_simp
              · intro a w hle hE
                have h147 : a.tmps.getD 147 undef = .slice (some ⟨G, 0, none⟩) 2 2 := hE (147, some 9) (by simp)
                have h146 : a.tmps.getD 146 undef = .bool true := hE (146, some 8) (by simp)
                rw [if_pos (wanted_of (j := 8) (b := true) (d := 146) rfl rfl h146)]
                refine owe_value (v := .pointer (some ⟨G, 1, none⟩)) ?_ (Le.refl _ _) rfl
                go_simp
              · intro a w hle hE
                have h148 : a.tmps.getD 148 undef = .pointer (some ⟨G, 1, none⟩) := hE (148, some 10) (by simp)
                have h146 : a.tmps.getD 146 undef = .bool true := hE (146, some 8) (by simp)
                rw [if_pos (wanted_of (j := 8) (b := true) (d := 146) rfl rfl h146)]
                have c1 := (hle.cells _ (World.block_lt_of_cell? W0 _ g1)).trans g1
                refine owe_value (v := .pointer (some ⟨b1, 0, none⟩)) ?_ (Le.refl _ _) rfl
                go_simp
              · intro a w hle hE
                have h149 : a.tmps.getD 149 undef = .pointer (some ⟨b1, 0, none⟩) := hE (149, some 11) (by simp)
                have h146 : a.tmps.getD 146 undef = .bool true := hE (146, some 8) (by simp)
                rw [if_pos (wanted_of (j := 8) (b := true) (d := 146) rfl rfl h146)]
                refine owe_call (f := 28) (args := #[.pointer (some ⟨b1, 0, none⟩)]) (by go_simp) ?_
                refine (hs1 w hle).mono ?_
                rintro e w1 ⟨rfl, hb1⟩
                exact ⟨_, rfl, Le.of hb1 (Nat.le_trans hN hle.size), rfl⟩
              · intro a w hle hE
                have h6 : a.tmps.getD 6 undef = .pointer (some ⟨A, 0, none⟩) := hE (6, none) (by simp)
                have h146 : a.tmps.getD 146 undef = .bool true := hE (146, some 8) (by simp)
                rw [if_pos (wanted_of (j := 8) (b := true) (d := 146) rfl rfl h146)]
                refine owe_value (v := .pointer (some ⟨A, 1, none⟩)) ?_ (Le.refl _ _) rfl
                go_simp
              · intro a w hle hE
                have h151 : a.tmps.getD 151 undef = .pointer (some ⟨A, 1, none⟩) := hE (151, some 13) (by simp)
                have h146 : a.tmps.getD 146 undef = .bool true := hE (146, some 8) (by simp)
                rw [if_pos (wanted_of (j := 8) (b := true) (d := 146) rfl rfl h146)]
                have c1 := (hle.cells _ (World.block_lt_of_cell? W0 _ a1c)).trans a1c
                refine owe_value (v := .slice p1 l1 q1) ?_ (Le.refl _ _) rfl
                go_simp
              · intro a w hle hE
                have h152 : a.tmps.getD 152 undef = .slice p1 l1 q1 := hE (152, some 14) (by simp)
                have h146 : a.tmps.getD 146 undef = .bool true := hE (146, some 8) (by simp)
                rw [if_pos (wanted_of (j := 8) (b := true) (d := 146) rfl rfl h146)]
                refine owe_call (f := 17) (args := #[.slice p1 l1 q1]) (by go_simp) ?_
                refine (hr1 w hle).mono ?_
                rintro e w1 ⟨rfl, hb1⟩
                exact ⟨_, rfl, Le.of hb1 (Nat.le_trans hN hle.size), rfl⟩
              · intro a w hle hE
                have h150 : a.tmps.getD 150 undef = .agg (byteCells D1) := hE (150, some 12) (by simp)
                have h153 : a.tmps.getD 153 undef = .agg (byteCells D1) := hE (153, some 15) (by simp)
                have h146 : a.tmps.getD 146 undef = .bool true := hE (146, some 8) (by simp)
                rw [if_pos (wanted_of (j := 8) (b := true) (d := 146) rfl rfl h146)]
                refine owe_value (v := .bool true) ?_ (Le.refl _ _) rfl
                go_simp
              · intro a w hle hE
                have h146 : a.tmps.getD 146 undef = .bool true := hE (146, some 8) (by simp)
                have h154 : a.tmps.getD 154 undef = .bool true := hE (154, some 16) (by simp)
                rw [if_pos (wanted_plain rfl)]
                refine owe_value (v := .bool true) ?_ (Le.refl _ _) rfl
                go_simp
              · intro a w hle hE
                have h155 : a.tmps.getD 155 undef = .bool true := hE (155, some 17) (by simp)
                rw [if_pos (wanted_plain rfl)]
                refine owe_value (v := .bool true) ?_ (Le.refl _ _) rfl
                go_simp
              · intro a w hle hE
                have h12 : a.tmps.getD 12 undef = .pointer none := hE (12, none) (by simp)
                have h156 : a.tmps.getD 156 undef = .bool true := hE (156, some 18) (by simp)
                rw [if_pos (wanted_of (j := 18) (b := true) (d := 156) rfl rfl h156)]
                refine owe_value (v := .pointer none) ?_ (Le.refl _ _) rfl
                go_simp
              · intro a w hle hE
                have h157 : a.tmps.getD 157 undef = .pointer none := hE (157, some 19) (by simp)
                have h156 : a.tmps.getD 156 undef = .bool true := hE (156, some 18) (by simp)
                rw [if_pos (wanted_of (j := 18) (b := true) (d := 156) rfl rfl h156)]
                refine owe_call (f := 27) (args := #[.pointer none, .slice none 0 0]) (by go_simp) ?_
                refine (write_nil w).mono ?_
                rintro e w1 ⟨rfl, hb1⟩
                exact ⟨_, rfl, Le.of hb1 (Nat.le_trans hN hle.size), rfl⟩
              · intro a w hle hE
                have h158 : a.tmps.getD 158 undef = .int .i64 1 := hE (158, some 20) (by simp)
                have h156 : a.tmps.getD 156 undef = .bool true := hE (156, some 18) (by simp)
                rw [if_pos (wanted_of (j := 18) (b := true) (d := 156) rfl rfl h156)]
                refine owe_call (f := 23) (args := #[.int .i64 1]) (by go_simp) ?_
                refine (num_any _ w).mono ?_
                rintro e w1 ⟨rfl, rfl⟩
                exact ⟨_, rfl, Le.refl _ _, rfl⟩
              · intro a w hle hE
                have h159 : a.tmps.getD 159 undef = .int .i64 1 := hE (159, some 21) (by simp)
                have h156 : a.tmps.getD 156 undef = .bool true := hE (156, some 18) (by simp)
                rw [if_pos (wanted_of (j := 18) (b := true) (d := 156) rfl rfl h156)]
                refine owe_value (v := .bool true) ?_ (Le.refl _ _) rfl
                go_simp
              · intro a w hle hE
                have h156 : a.tmps.getD 156 undef = .bool true := hE (156, some 18) (by simp)
                have h160 : a.tmps.getD 160 undef = .bool true := hE (160, some 22) (by simp)
                rw [if_pos (wanted_plain rfl)]
                refine owe_value (v := .bool true) ?_ (Le.refl _ _) rfl
                go_simp
              · intro a w hle hE
                have h161 : a.tmps.getD 161 undef = .bool true := hE (161, some 23) (by simp)
                rw [if_pos (wanted_plain rfl)]
                refine owe_value (v := .bool true) ?_ (Le.refl _ _) rfl
                go_simp
              · intro a w hle hE
                have h12 : a.tmps.getD 12 undef = .pointer none := hE (12, none) (by simp)
                have h162 : a.tmps.getD 162 undef = .bool true := hE (162, some 24) (by simp)
                rw [if_pos (wanted_of (j := 24) (b := true) (d := 162) rfl rfl h162)]
                refine owe_value (v := .pointer none) ?_ (Le.refl _ _) rfl
                go_simp
              · intro a w hle hE
                have h163 : a.tmps.getD 163 undef = .pointer none := hE (163, some 25) (by simp)
                have h162 : a.tmps.getD 162 undef = .bool true := hE (162, some 24) (by simp)
                rw [if_pos (wanted_of (j := 24) (b := true) (d := 162) rfl rfl h162)]
                refine owe_call (f := 28) (args := #[.pointer none]) (by go_simp) ?_
                refine (sum_nil w).mono ?_
                rintro e w1 ⟨rfl, hb1⟩
                exact ⟨_, rfl, Le.of hb1 (Nat.le_trans hN hle.size), rfl⟩
              · intro a w hle hE
                have h162 : a.tmps.getD 162 undef = .bool true := hE (162, some 24) (by simp)
                rw [if_pos (wanted_of (j := 24) (b := true) (d := 162) rfl rfl h162)]
                refine owe_value (v := .agg (zeroCells 32)) ?_ (Le.refl _ _) rfl
                first | (go_simp; done) | (go_simp; rfl)
              · intro a w hle hE
                have h164 : a.tmps.getD 164 undef = .agg (zeroCells 32) := hE (164, some 26) (by simp)
                have h165 : a.tmps.getD 165 undef = .agg (zeroCells 32) := hE (165, some 27) (by simp)
                have h162 : a.tmps.getD 162 undef = .bool true := hE (162, some 24) (by simp)
                rw [if_pos (wanted_of (j := 24) (b := true) (d := 162) rfl rfl h162)]
                refine owe_value (v := .bool true) ?_ (Le.refl _ _) rfl
                go_simp
              · intro a w hle hE
                have h162 : a.tmps.getD 162 undef = .bool true := hE (162, some 24) (by simp)
                have h166 : a.tmps.getD 166 undef = .bool true := hE (166, some 28) (by simp)
                rw [if_pos (wanted_plain rfl)]
                refine owe_value (v := .bool true) ?_ (Le.refl _ _) rfl
                go_simp
              · intro a w hle hE
                have h167 : a.tmps.getD 167 undef = .bool true := hE (167, some 29) (by simp)
                rw [if_pos (wanted_plain rfl)]
                refine owe_value (v := .bool true) ?_ (Le.refl _ _) rfl
                go_simp
              · intro a w hle hE
                have h12 : a.tmps.getD 12 undef = .pointer none := hE (12, none) (by simp)
                have h168 : a.tmps.getD 168 undef = .bool true := hE (168, some 30) (by simp)
                rw [if_pos (wanted_of (j := 30) (b := true) (d := 168) rfl rfl h168)]
                refine owe_value (v := .pointer none) ?_ (Le.refl _ _) rfl
                go_simp
              · intro a w hle hE
                have h169 : a.tmps.getD 169 undef = .pointer none := hE (169, some 31) (by simp)
                have h168 : a.tmps.getD 168 undef = .bool true := hE (168, some 30) (by simp)
                rw [if_pos (wanted_of (j := 30) (b := true) (d := 168) rfl rfl h168)]
                refine owe_call (f := 29) (args := #[.pointer none]) (by go_simp) ?_
                refine (len_nil w).mono ?_
                rintro e w1 ⟨rfl, rfl⟩
                exact ⟨_, rfl, Le.refl _ _, rfl⟩
              · intro a w hle hE
                have h170 : a.tmps.getD 170 undef = .int .i64 0 := hE (170, some 32) (by simp)
                have h168 : a.tmps.getD 168 undef = .bool true := hE (168, some 30) (by simp)
                rw [if_pos (wanted_of (j := 30) (b := true) (d := 168) rfl rfl h168)]
                refine owe_value (v := .bool true) ?_ (Le.refl _ _) rfl
                go_simp
              · intro a w hle hE
                have h168 : a.tmps.getD 168 undef = .bool true := hE (168, some 30) (by simp)
                have h171 : a.tmps.getD 171 undef = .bool true := hE (171, some 33) (by simp)
                rw [if_pos (wanted_plain rfl)]
                refine owe_value (v := .bool true) ?_ (Le.refl _ _) rfl
                go_simp
              · intro a w hle hE
                have h172 : a.tmps.getD 172 undef = .bool true := hE (172, some 34) (by simp)
                rw [if_pos (wanted_plain rfl)]
                refine owe_value (v := .bool true) ?_ (Le.refl _ _) rfl
                go_simp
              · intro a w hle hE
                have h12 : a.tmps.getD 12 undef = .pointer none := hE (12, none) (by simp)
                have h173 : a.tmps.getD 173 undef = .bool true := hE (173, some 35) (by simp)
                rw [if_pos (wanted_of (j := 35) (b := true) (d := 173) rfl rfl h173)]
                refine owe_value (v := .pointer none) ?_ (Le.refl _ _) rfl
                go_simp
              · intro a w hle hE
                have h174 : a.tmps.getD 174 undef = .pointer none := hE (174, some 36) (by simp)
                have h173 : a.tmps.getD 173 undef = .bool true := hE (173, some 35) (by simp)
                rw [if_pos (wanted_of (j := 35) (b := true) (d := 173) rfl rfl h173)]
                refine owe_call (f := 30) (args := #[.pointer none]) (by go_simp) ?_
                refine (copy_nil w).mono ?_
                rintro e w1 ⟨rfl, rfl⟩
                exact ⟨_, rfl, Le.refl _ _, rfl⟩
              · intro a w hle hE
                have h175 : a.tmps.getD 175 undef = .pointer none := hE (175, some 37) (by simp)
                have h173 : a.tmps.getD 173 undef = .bool true := hE (173, some 35) (by simp)
                rw [if_pos (wanted_of (j := 35) (b := true) (d := 173) rfl rfl h173)]
                refine owe_value (v := .bool true) ?_ (Le.refl _ _) rfl
                go_simp
              · intro a w hle hE
                have h173 : a.tmps.getD 173 undef = .bool true := hE (173, some 35) (by simp)
                have h176 : a.tmps.getD 176 undef = .bool true := hE (176, some 38) (by simp)
                rw [if_pos (wanted_plain rfl)]
                refine owe_value (v := .bool true) ?_ (Le.refl _ _) rfl
                go_simp
              · intro a w hle hE
                have h177 : a.tmps.getD 177 undef = .bool true := hE (177, some 39) (by simp)
                rw [if_pos (wanted_plain rfl)]
                refine owe_value (v := .bool true) ?_ (Le.refl _ _) rfl
                go_simp
              · intro a w hle hE
                have h178 : a.tmps.getD 178 undef = .bool true := hE (178, some 40) (by simp)
                rw [if_pos (wanted_of (j := 40) (b := true) (d := 178) rfl rfl h178)]
                refine owe_call (f := 15) (args := #[]) (by go_simp) ?_
                refine (works_any w (hgl.le hle hN2)).mono ?_
                rintro e w1 ⟨rfl, hb1⟩
                exact ⟨_, rfl, Le.of hb1 (Nat.le_trans hN hle.size), rfl⟩
              · intro a w hle hE
                have h178 : a.tmps.getD 178 undef = .bool true := hE (178, some 40) (by simp)
                have h179 : a.tmps.getD 179 undef = .bool true := hE (179, some 41) (by simp)
                rw [if_pos (wanted_plain rfl)]
                refine owe_value (v := .bool true) ?_ (Le.refl _ _) rfl
                go_simp
              · intro a w hle hE
                have h180 : a.tmps.getD 180 undef = .bool true := hE (180, some 42) (by simp)
                rw [if_pos (wanted_plain rfl)]
                refine owe_value (v := .bool true) ?_ (Le.refl _ _) rfl
                go_simp
            case hend =>
              intro a w' hle hdef hsz hall hold
              have h0 : a.tmps.getD 2 undef = .bool true := hall 43 _ 2 rfl rfl
              go_wp2_with fail
              refine bodyPost_ret (results_tmp rfl _ _ _) hdef ?_
              exact ⟨by rw [h0], hBf.trans (hle.below.mono (by rw [hNe]; exact hBf.size))⟩
      · have i3 : (600 : Int) < ((cost acs : Nat) : Int) := by omega
        generalize cost acs = n at *
        clear hcel hc hk
        go_wp2_with fail
        refine (works_any _ hg0).mono ?_
        rintro e W ⟨rfl, hB⟩
        go_wp2_with fail
        go_ret
        exact ⟨rfl, hB⟩
end Go.Proofs.YtkcngkkjlnadiaaDoor
