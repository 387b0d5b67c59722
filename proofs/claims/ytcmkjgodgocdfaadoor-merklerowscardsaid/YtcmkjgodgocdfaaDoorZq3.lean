/- Texts put together, in build order: H1, H2, D1, D2, R4, R5, N1, D3, D4, M1, M2, M3. -/
import Derived.Test.YtcmkjgodgocdfaaDoorZq2
import Derived.Deep.Cut
import Derived.Deep.MidRow
import Derived.Test.YtcmkjgodgocdfaaDoorZq1
import Derived.Deep.RegionHeld3
import Derived.Shelf.Abstract
import Derived.Sort.QuietIn
/- Bytes that a call owns, and what is appended to them. -/
namespace Go.Proofs.YtcmkjgodgocdfaaDoor
open Go.RowKit

def bc (x : UInt8) : Value := .int .u8 (bv x)
/-- A row of bytes that lies in no block below 'base' (or in none). -/
def Own (base : Nat) (w : World) (v : Value) (d : List UInt8) : Prop := w.ownsRow base 5 1 v d.length (d.map bc)
theorem Own.alloc {base : Nat} {w : World} {v : Value} {d : List UInt8} (h : Own base w v d) (o : Obj) : Own base (w.alloc o) v d := World.ownsRow.alloc h o
theorem Own.mono {base base' : Nat} {w : World} {v : Value} {d : List UInt8} (h : Own base w v d) (hb : base' ≤ base) : Own base' w v d := ownsRow_mono h hb
theorem Own.made (base : Nat) (w : World) (hb : base ≤ w.heap.size) : Own base (w.alloc (.cells #[] 5)) (.slice (some ⟨w.heap.size, 0, none⟩) 0 0) [] :=
  World.ownsRow_made w #[] 0 hb (by simp only [maxLen]; omega) rfl
theorem Own.slice {base : Nat} {w : World} {v : Value} {d : List UInt8} (h : Own base w v d) : ∃ a c, v = .slice a d.length c := by
  rcases h.2 with ⟨rfl, h0⟩ | ⟨g, cap, cur, rfl, _⟩
  · exact ⟨none, 0, by rw [h0]⟩
  · exact ⟨_, cap, rfl⟩
theorem Own.at_ {base : Nat} {w : World} {v : Value} {d : List UInt8} (h : Own base w v d) (hd : d ≠ []) : ∃ g c, v = .slice (some ⟨g, 0, none⟩) d.length c ∧ base ≤ g ∧ g < w.heap.size ∧ d.length ≤ c ∧ BytesIn w g 0 d := by
  rcases h.2 with ⟨_, h0⟩ | ⟨g, cap, cur, rfl, hb, hg, hle, _⟩
  · exact absurd (List.eq_nil_of_length_eq_zero h0) hd
  · refine ⟨g, cap, rfl, hb, (h.lt g rfl).2, hle, fun j hj => ?_⟩
    have := h.cells (g := g) rfl j (bc (d[j]?.getD 0)) (by simp [hj])
    rw [Addr.add_mid] at this
    exact this
theorem Own.bytes {base : Nat} {w : World} {v : Value} {d : List UInt8} (h : Own base w v d) (h0 : 0 < w.heap.size) : Bytes w v d := by
  by_cases hd : d = []
  · subst hd
    obtain ⟨a, c, rfl⟩ := h.slice
    exact ⟨a, c, 0, 0, rfl, Nat.zero_le _, fun h => absurd rfl h, fun j hj => absurd hj (by simp), h0⟩
  · obtain ⟨g, c, rfl, _, h2, h3, h4⟩ := h.at_ hd
    exact ⟨_, c, g, 0, rfl, h3, fun _ => rfl, h4, h2⟩
theorem bytes_new (w : World) (l : List UInt8) : Bytes (w.alloc (.cells (byteCells l) 5)) (.slice (some ⟨w.heap.size, 0, none⟩) l.length l.length) l := by
  have h := has_new w (byteCells l) 5 w.heap.size rfl
  exact ⟨_, l.length, w.heap.size, 0, rfl, Nat.le_refl _, fun _ => rfl, fun j hj => by rw [h.cell, Nat.zero_add]; exact byteCells_at l j hj, by simp⟩
theorem bytes_one (w : World) (b : UInt8) : Bytes (w.alloc (.cells #[.int .u8 (bv b)] 5)) (.slice (some ⟨w.heap.size, 0, none⟩) 1 1) [b] := bytes_new w [b]
theorem run_append_bytes {P : Program} {t : TypeId} (ty : TypeId) (h5 : (P.info? 5).map (fun i => (i.zero, i.size, i.bytes)) = some (some (.int .u8 0), 1, 1))
    (ht : P.underlying t = some (.slice 5)) (base : Nat) (w : World) (v xv : Value) (d x : List UInt8) (hown : Own base w v d) (hx : Bytes w xv x) (hsm : d.length + x.length ≤ 100000000000000) (hbase : base ≤ w.heap.size) :
    ∃ v' w', (Builtin.append_ #[t, t] ty #[v, xv]).run P w = .ok v' w' ∧ Own base w' v' (d ++ x) ∧ w.grownBy w' v.ownBlock ∧ (v' = .slice none 0 0 ↔ v = .slice none 0 0 ∧ x = []) := by
  obtain ⟨i0, hi, hz0, hz1, hz2⟩ := info_parts h5
  obtain ⟨a, cap, db, o, rfl, hcap, ha, hin, hlt⟩ := hx
  have hmx : d.length + x.length ≤ maxLen := by unfold maxLen; omega
  cases a with
  | some a0 =>
    have hcells : ∀ j u, (x.map bc)[j]? = some u → w.cell? (a0.add j) = some u := fun j u hu => by
      have hj : j < x.length := by have := (List.getElem?_eq_some_iff.1 hu).1; simpa using this
      obtain rfl := Option.some.inj (ha (by intro e; simp [e] at hj))
      rw [Addr.add_mid, hin j hj, ← hu]; simp [hj, bc]
    obtain ⟨v', w', h1, h2, h3, h4⟩ := run_append_own (P := P) w base t ty 5 i0 (.int .u8 0) 1 1 ht hi hz0 hz1 hz2 rfl (by omega) v d.length (d.map bc) hown a0 x.length cap (x.map bc) (by simp) hcells
      (fun u hu => by simp at hu; obtain ⟨y, _, rfl⟩ := hu; rfl) hmx (by omega) hbase
    refine ⟨v', w', h1, by unfold Own; rw [List.length_append, List.map_append]; exact h2, h3, ?_⟩
    rw [h4]; simp
  | none =>
    have hx0 : x = [] := by
      cases x with
      | nil => rfl
      | cons b l => cases ha (by simp)
    subst hx0
    refine ⟨v, w, ?_, by simpa using hown, ⟨rfl, rfl, rfl, Nat.le_refl _, fun _ _ _ => rfl⟩, by simp⟩
    rcases hown.2 with ⟨rfl, h0⟩ | ⟨g, c, cur, rfl, _, hg, hnc, _⟩
    · simp [Builtin.append_, run_underlying ht, sizeOf, typeInfo, hi, Builtin.lenOf, Builtin.firstCells]
    · simp [Builtin.append_, run_underlying ht, sizeOf, typeInfo, hi, Builtin.lenOf, Builtin.firstCells, hnc, storeCells]
theorem wpList_append_bytes {P : Program} {w : World} {ops : Array Oper} {rest : List Oper} {o : Oper} {a : Act} {Q : Exit → Act → World → Prop} (hgd : o.guard = none) (s y : Operand) (t : TypeId)
    (ho : o.op = .call { callee := .builtin .append, args := #[s, y], argTypes := #[t, t] }) (h5 : (P.info? 5).map (fun i => (i.zero, i.size, i.bytes)) = some (some (.int .u8 0), 1, 1))
    (ht : P.underlying t = some (.slice 5)) (base : Nat) (v xv : Value) (d x : List UInt8) (hs : a.eval s = v) (hy : a.eval y = xv) (hown : Own base w v d) (hx : Bytes w xv x) (hsm : d.length + x.length ≤ 100000000000000) (hbase : base ≤ w.heap.size)
    (h : ∀ v' w', Own base w' v' (d ++ x) → w.grownBy w' v.ownBlock → wpList P ops Q rest (a.put o.dst v') w') : wpList P ops Q (o :: rest) a w := by
  obtain ⟨v', w', h1, h2, h3, h4⟩ := run_append_bytes o.type h5 ht base w v xv d x hown hx hsm hbase
  refine wpList_plain hgd fun _ hK => ?_
  unfold Oper.wp execOp
  simp only [ho, resolve, invoke, builtin, Sem.run_bind, Sem.run_pure, Result.andThen_ok, List.map_toArray, List.map_cons, List.map_nil, hs, hy, h1]
  exact hK _ _ (h v' w' h2 h3)
/-- What an append leaves of what lay below its row. -/
theorem grown_keeps {base : Nat} {w w' : World} {v : Value} {d : List UInt8} (ho : Own base w v d) (hg : w.grownBy w' v.ownBlock) (hb : base ≤ w.heap.size) : Below base w w' :=
  ⟨hg.os, hg.tape, hg.output, hg.size, fun k hk => hg.block k (by omega) (fun e => by have := (ho.lt k e.symm).1; omega)⟩
def sliceLen : Value → Nat
  | .slice _ n _ => n
  | _ => 0
theorem Own.len {base : Nat} {w : World} {v : Value} {d : List UInt8} (h : Own base w v d) : sliceLen v = d.length := by
  obtain ⟨a, c, rfl⟩ := h.slice; rfl
end Go.Proofs.YtcmkjgodgocdfaaDoor
/- The document's digest of bytes. -/
namespace Go.Proofs.YtcmkjgodgocdfaaDoor
open Go.RowKit

def pad (d : List UInt8) (k : Nat) : List UInt8 := d ++ 128 :: List.replicate k 0
theorem pad_length (d : List UInt8) (k : Nat) : (pad d k).length = d.length + 1 + k := by simp [pad]; omega
theorem pad_next (d : List UInt8) (k : Nat) : pad d k ++ [0] = pad d (k + 1) := by simp [pad, List.replicate_succ']
def padB (d : List UInt8) (z k : Nat) : List UInt8 := pad d z ++ (List.range k).map fun j => UInt8.ofNat (d.length * 8 / 256 ^ (7 - j))
theorem padB_length (d : List UInt8) (z k : Nat) : (padB d z k).length = d.length + 1 + z + k := by simp [padB, pad_length]
theorem padB_next (d : List UInt8) (z k : Nat) : padB d z k ++ [UInt8.ofNat (d.length * 8 / 256 ^ (7 - k))] = padB d z (k + 1) := by simp [padB, List.range_succ]
theorem padB_all (d : List UInt8) : padB d ((119 - d.length % 64) % 64) 8 = d ++ tailL d.length := by
  unfold padB pad tailL
  simp

theorem ownsRow_below {w w' : World} {base e size n : Nat} {v : Value} {xs : List Value} (h : w.ownsRow base e size v n xs) (hb : Below w.heap.size w w') : w'.ownsRow base e size v n xs :=
  h.kept (row := none) ⟨hb.os, hb.tape, hb.output, hb.size, fun k hk _ => hb.block k hk⟩ (by cases hv : v.ownBlock <;> simp)
theorem crow_at {W : World} {base : Nat} {v : Value} (h : W.ownsRow base 87 1 v (wordsN true) ((wordsL true).map w32)) :
    ∃ g cap, v = .slice (some ⟨g, 0, none⟩) 64 cap ∧ g < W.heap.size ∧ ∀ j, j < 64 → W.cell? ⟨g, j, none⟩ = some (.int .u32 (wv (cubeW j))) := by
  obtain ⟨hl, hc⟩ := id h
  rcases hc with ⟨rfl, h0⟩ | ⟨g, cap, cur, rfl, hb, hg, hle, _, _, _⟩
  · simp [wordsN] at h0
  · refine ⟨g, cap, rfl, (h.lt g rfl).2, fun j hj => ?_⟩
    have := h.cells (g := g) rfl j (w32 (cubeW j)) (by simp [wordsL, hj])
    rwa [Addr.add_mid, Nat.zero_add] at this

theorem step_e1 (u t k : Nat) (h1 : t = 64 * k) (h2 : u = t + 64) : (u : Int) = ((64 * (k + 1) : Nat) : Int) := by omega
theorem step_e2 (u t L n : Nat) (h2 : u = t + 64) (h3 : t + 64 ≤ L) (h4 : L = n) : n - (intOf (Value.int .i64 (u : Int))).toNat < n - (intOf (Value.int .i64 (t : Int))).toNat := by
  show n - (u : Int).toNat < n - (t : Int).toNat
  omega

set_option maxRecDepth 10000 in
set_option maxHeartbeats 2000000 in
theorem refsum_any (v : Value) (d : List UInt8) (w : World) (hv : Bytes w v d) (hsm : d.length < 1000000000) :
    Calls Tryd.prog 43 #[v] w fun e w' => e = .returned (.agg (byteCells (shaL d))) ∧ Below w.heap.size w w' := by
  obtain ⟨av, cv, dbv, ov, rfl, _⟩ := id hv
  have H : Hid (d.length < 1000000000) := hsm
  clear hsm
  go_enter Tryd.func43, Tryd.ntmps43
  go_upto_region 1 with (fail)
  refine named (p := Code.wp _ _ _ _) ?_
  intro W0 hW0
  have hB0 : Below w.heap.size w W0 := by rw [hW0]; exact (Below.refl _ _).alloc (Nat.le_refl _) _
  have hz0 : Hid (W0.heap.size = w.heap.size + 1) := by show _ = _; rw [hW0]; simp
  have hr0 : Has W0 w.heap.size (zeroCells 32) 30 := by rw [hW0]; exact has_new _ _ _ _ rfl
  have hv0 : Bytes W0 (.slice av d.length cv) d := hv.below hB0
  clear hW0 hv
  go_wp2_with (first
    | (refine wpList_append_bytes rfl _ _ 77 rfl info5 Tryd.underlying77 W0.heap.size _ _ [] d rfl rfl (Own.made _ W0 (Nat.le_refl _)) (hv0.below ((Below.refl _ _).alloc (Nat.le_refl _) _)) (by have := H.out; simp; omega) (by simp) ?_; intro v1 w1 ho1 hg1)
    | (refine wpList_append_bytes rfl _ _ 77 rfl info5 Tryd.underlying77 W0.heap.size _ _ d [128] rfl rfl (ho1.alloc _) (bytes_one w1 128) (by have := H.out; simp; omega) (by have := hg1.size; simp at this ⊢; omega) ?_; intro v2 w2 ho2 hg2))
  have hB2 : Below W0.heap.size W0 w2 := by
    have a1 : Below W0.heap.size W0 w1 := ((Below.refl _ _).alloc (Nat.le_refl _) _).trans (grown_keeps (Own.made _ W0 (Nat.le_refl _)) hg1 (by simp))
    exact (a1.alloc a1.size _).trans (grown_keeps (ho1.alloc _) hg2 (by have := a1.size; simp; omega))
  clear hg1 hg2 ho1 hv0
  obtain ⟨z, hz⟩ : ∃ z : Nat, Hid (z = (119 - d.length % 64) % 64) := ⟨_, rfl⟩
  have hz64 : Hid (z < 64) := by show _ < _; have := hz.out; omega
  go_loopw [3] (fun v wr => ∃ k : Nat, k ≤ z ∧ Own W0.heap.size wr v (pad d k) ∧ Below W0.heap.size W0 wr) (fun v _ => d.length + 1 + z - sliceLen v)
  case atStart => exact ⟨0, by omega, ho2, hB2⟩
  case round =>
    clear ho2 hB2
    obtain ⟨k, hk, ho, hB⟩ := hrel
    obtain ⟨a, c, rfl⟩ := ho.slice
    have hlen := pad_length d k
    obtain ⟨m, hm⟩ : ∃ m, m = (pad d k).length := ⟨_, rfl⟩
    rw [← hm] at ho hlen ⊢
    have HM : Hid (m = (pad d k).length) := hm
    clear hm
    obtain ⟨r, hr⟩ : ∃ r : Nat, r = m % 64 := ⟨_, rfl⟩
    have r1 : ((m : Int).tmod 64) = (r : Int) := by rw [Int.tmod_eq_emod_of_nonneg (by omega)]; omega
    have r2 : (m : Int) % 64 = (r : Int) := by omega
    by_cases hkz : k < z
    · have hne : ¬ (r : Int) = 56 := by have := hz.out; omega
      have HK : Hid (k < z ∧ m = d.length + 1 + k) := ⟨hkz, hlen⟩
      clear hr hlen
      go_wp2_with (refine wpList_append_bytes rfl _ _ 77 rfl info5 Tryd.underlying77 W0.heap.size _ _ (pad d k) [0] rfl rfl (ho.alloc _) (bytes_one wr 0) (by have := H.out; have := HK.out; have := hz64.out; simp [pad_length]; omega) (by have := hB.size; simp; omega) ?_; intro v2 w2 ho2 hg2)
      have hB2 : Below W0.heap.size W0 w2 := (hB.alloc hB.size _).trans (grown_keeps (ho.alloc _) hg2 (by have := hB.size; simp; omega))
      rw [pad_next] at ho2
      go_roundw
      case rel => exact ⟨k + 1, HK.out.1, ho2, hB2⟩
      case measure => have := HK.out; rw [ho2.len, pad_length]; simp [sliceLen]; omega
    · obtain rfl : k = z := by omega
      have hne : (r : Int) = 56 := by have := hz.out; omega
      obtain rfl : r = 56 := by omega
      rw [show (((56 : Nat) : Int)) = 56 from rfl] at r1 r2
      have HL : Hid (m = d.length + 1 + k) := hlen
      clear hr hlen hne hkz hk
      have n8 : IntKind.u64.wrap (d.length : Int) = nv d.length := wr64 _ (by have := H.out; omega)
      have n9 : IntKind.u64.wrap (nv d.length * 8) = nv (d.length * 8) := by rw [IntKind.wrap_u64]; have := H.out; unfold nv; omega
      have n10 : (nv d.length * 8) % 18446744073709551616 = nv (d.length * 8) := by have := H.out; unfold nv; omega
      have n11 : (d.length : Int) % 18446744073709551616 = nv d.length := by have := H.out; unfold nv; omega
      go_wp2_with fail
      have hoS : Own W0.heap.size wr (Value.slice a m c) (padB d k 0) := by simpa [padB] using ho
      clear n8 n9 n10 n11 r1 r2 ho HM HL
      generalize wr = Wa at *
      go_loopw [3, 5] (fun v i wr => ∃ j : Nat, j ≤ 8 ∧ i = .int .i64 (7 - (j : Int)) ∧ Own W0.heap.size wr v (padB d k j) ∧ Below W0.heap.size W0 wr) (fun _ i _ => (intOf i + 1).toNat)
      case atStart => exact ⟨0, by omega, rfl, hoS, hB⟩
      case round =>
        clear hoS hB
        obtain ⟨j, hj, rfl, ho, hB⟩ := hrel
        obtain ⟨a', c', rfl⟩ := ho.slice
        have hlen := padB_length d k j
        obtain ⟨l, hl⟩ : ∃ l, l = (padB d k j).length := ⟨_, rfl⟩
        rw [← hl] at ho hlen ⊢
        have HL : Hid (l = d.length + 1 + k + j) := hlen
        clear hl hlen
        by_cases hj8 : j < 8
        · obtain ⟨p, hp⟩ : ∃ p : Nat, p = 7 - j := ⟨_, rfl⟩
          rw [show (7 - (j : Int)) = (p : Int) by omega]
          obtain ⟨q, hq⟩ : ∃ q : Nat, q = 8 * p := ⟨_, rfl⟩
          have q1 : IntKind.i64.wrap (8 * (p : Int)) = (q : Int) := by rw [IntKind.wrap_i64]; omega
          have q2 : IntKind.u64.wrap (q : Int) = (q : Int) := by rw [IntKind.wrap_u64]; omega
          have q3 : (8 * (p : Int)) = (q : Int) := by omega
          have q4 : (q : Int) < 64 := by omega
          have HQ : Hid (q = 8 * p ∧ p = 7 - j ∧ j < 8) := ⟨hq, hp, hj8⟩
          clear hq hp
          obtain ⟨M, hM⟩ : ∃ M : Nat, M = d.length * 8 / 2 ^ q := ⟨_, rfl⟩
          have s1 : nv (d.length * 8) / 2 ^ q = nv M := by rw [hM]; unfold nv; simp
          have s2 : (nv M).tmod 256 = nv (M % 256) := by unfold nv; rw [Int.tmod_eq_emod_of_nonneg (by omega)]; omega
          have s3 : nv (M % 256) % 256 = bv (UInt8.ofNat M) := by rw [nm_lo]; congr 1; apply UInt8.toNat_inj.1; simp
          have HB : Hid (UInt8.ofNat M = UInt8.ofNat (d.length * 8 / 256 ^ (7 - j))) := by
            show _ = _
            have := HQ.out
            rw [hM, this.1, Nat.pow_mul, this.2.1]
          clear hM
          generalize UInt8.ofNat M = B at *
          go_wp2_with (refine wpList_append_bytes rfl _ _ 77 rfl info5 Tryd.underlying77 W0.heap.size _ _ (padB d k j) [B] rfl rfl (ho.alloc _) (bytes_one wr B) (by have := H.out; have := hz64.out; have := HQ.out; simp [padB_length]; omega) (by have := hB.size; simp; omega) ?_; intro v3 w3 ho3 hg3)
          have hB3 : Below W0.heap.size W0 w3 := (hB.alloc hB.size _).trans (grown_keeps (ho.alloc _) hg3 (by have := hB.size; simp; omega))
          rw [HB.out, padB_next] at ho3
          go_roundw
          case rel => exact ⟨j + 1, by have := HQ.out; omega, congrArg (Value.int .i64) (by have := HQ.out; omega), ho3, hB3⟩
          case measure => have := HQ.out; simp [intOf]
        · obtain rfl : j = 8 := by omega
          rw [show (7 - ((8 : Nat) : Int)) = -1 from rfl]
          have hall : Hid (padB d k 8 = d ++ tailL d.length) := by show _ = _; rw [hz.out]; exact padB_all d
          rw [hall.out] at ho
          clear hj8 hj
          go_wp2_with fail
          refine (words_any false _).mono ?_
          rintro e W3 ⟨sv, rfl, hs3, hB3⟩
          go_wp2_with fail
          refine (words_any true _).mono ?_
          rintro e W4 ⟨cw, rfl, hc4, hB4⟩
          have hs4 : W4.ownsRow W0.heap.size 87 1 sv 8 (srow (stN (d ++ tailL d.length) 0)) := ownsRow_mono (ownsRow_below hs3 hB4) hB.size
          obtain ⟨g1, c1, rfl, hg1, hcu⟩ := crow_at hc4
          obtain ⟨ga, ca, ea, _, hga, hca, hin⟩ := Own.at_ ho (by simp [tailL])
          obtain ⟨rfl, rfl, rfl⟩ : a' = some ⟨ga, 0, none⟩ ∧ l = (d ++ tailL d.length).length ∧ c' = ca := by simpa using ea
          have hBr4 : Below wr.heap.size wr W4 := hB3.trans (hB4.mono hB3.size)
          have hin4 : BytesIn W4 ga 0 (d ++ tailL d.length) := fun j hj => (hBr4.cell (p := ⟨ga, 0 + j, none⟩) hga).trans (hin j hj)
          have hga4 : ga < W4.heap.size := Nat.lt_of_lt_of_le hga hBr4.size
          have hB04 : Below W0.heap.size W0 W4 := hB.trans (hBr4.mono hB.size)
          clear ea ho hin hga hs3 hc4 hB3 hB4 hBr4 hB hall HL
          obtain ⟨nb, hnb⟩ : ∃ nb : Nat, 64 * nb = (d ++ tailL d.length).length := ⟨(d ++ tailL d.length).length / 64, by have := tail_whole d.length; rw [List.length_append]; omega⟩
          have hsm4 : Hid ((d ++ tailL d.length).length < 2000000000) := by show _ < _; rw [List.length_append, tailL_length]; have := H.out; omega
          have Hsha : Hid (shaL d = digL (stN (d ++ tailL d.length) nb)) := by show shaL d = _; unfold shaL; rw [← hnb]; congr 2; omega
          generalize d ++ tailL d.length = all at *
          have HNB : Hid (64 * nb = all.length) := hnb
          obtain ⟨L, hL⟩ : ∃ L, L = all.length := ⟨_, rfl⟩
          rw [← hL] at hca ⊢
          have HL : Hid (L = all.length) := hL
          clear hnb hL
          go_wp2_with fail
          go_loopw [6, 8] (fun s i wr => ∃ k : Nat, k ≤ nb ∧ i = .int .i64 ((64 * k : Nat) : Int) ∧ wr.ownsRow W0.heap.size 87 1 s 8 (srow (stN all k)) ∧ Below W4.heap.size W4 wr) (fun _ i _ => all.length - (intOf i).toNat)
          case atStart => exact ⟨0, by omega, rfl, hs4, Below.refl _ _⟩
          case round =>
            clear hs4
            obtain ⟨k2, hk2, rfl, how, hB⟩ := hrel
            obtain ⟨gs, cs, rfl, hgs0, hgs1, hcs, hcel⟩ := srow_at how
            by_cases hkn : k2 < nb
            · obtain ⟨t, ht⟩ : ∃ t : Nat, t = 64 * k2 := ⟨_, rfl⟩
              rw [← ht]
              have HT : Hid (t = 64 * k2 ∧ t + 64 ≤ L ∧ L < 2000000000) := ⟨ht, by have := HNB.out; have := HL.out; omega, by have := hsm4.out; have := HL.out; omega⟩
              have t1 : (t : Int) < L := by have := HT.out; omega
              obtain ⟨u, hu⟩ : ∃ u : Nat, u = t + 64 := ⟨_, rfl⟩
              have t2 : (u : Int) ≤ c' := by have := HT.out; omega
              have t3 : (t : Int) ≤ (u : Int) := by omega
              have t4 : wrap64 ((t : Int) + 64) = (u : Int) := by unfold wrap64; have := HT.out; omega
              have t5 : IntKind.i64.wrap ((t : Int) + 64) = (u : Int) := by rw [IntKind.wrap_i64]; have := HT.out; omega
              have t6 : ¬ c' = t := by have := HT.out; omega
              have t7 : u - t = 64 := by omega
              have t8 : t ≤ u := by omega
              have t9 : u ≤ c' := by have := HT.out; omega
              have HU : Hid (u = t + 64) := hu
              clear hu
              have bl : ((all.drop t).take 64).length = 64 := by have := HT.out; have := HL.out; simp; omega
              have hbl : BytesIn wr ga t ((all.drop t).take 64) := fun j hj => by
                rw [bl] at hj
                have hj2 : t + j < all.length := by have := HT.out; have := HL.out; omega
                have := (hB.cell (p := ⟨ga, 0 + (t + j), none⟩) hga4).trans (hin4 (t + j) hj2)
                rw [Nat.zero_add] at this
                rw [this, List.getElem?_take_of_lt hj, List.getElem?_drop]
              have hblk := block_any (stN all k2) _ bl gs cs g1 c1 ga t (c' - t) wr hcel hgs1 (fun j hj => (hB.cell (p := ⟨g1, j, none⟩) hg1).trans (hcu j hj)) (Nat.lt_of_lt_of_le hg1 hB.size) hbl (Nat.lt_of_lt_of_le hga4 hB.size)
              have Hst : Hid (stN all (k2 + 1) = comp (stN all k2) ((all.drop t).take 64)) := by show _ = _; rw [(show t = 64 * k2 from HT.out.1)]; rfl
              clear ht hcel hin4 hcu hbl bl
              generalize (all.drop t).take 64 = blk at *
              go_wp2_with fail
              refine hblk.mono ?_
              rintro e W5 ⟨v5, rfl, ho5, hB5⟩
              have HN : Hid (k2 + 1 ≤ nb) := hkn
              have E1 : Hid ((u : Int) = ((64 * (k2 + 1) : Nat) : Int)) := step_e1 u t k2 HT.out.1 HU.out
              have E2 : Hid (all.length - (intOf (Value.int .i64 (u : Int))).toNat < all.length - (intOf (Value.int .i64 (t : Int))).toNat) := by
                exact step_e2 u t L all.length HU.out HT.out.2.1 HL.out
              have hB15 : Below W4.heap.size W4 W5 := hB.trans (hB5.mono hB.size)
              have ho6 : W5.ownsRow W0.heap.size 87 1 v5 8 (srow (stN all (k2 + 1))) := by rw [Hst.out]; exact ownsRow_mono ho5 (Nat.le_trans hB04.size hB.size)
              clear ho5 hB5 hblk
              go_wp2_with fail
              go_roundw
              case rel => exact ⟨k2 + 1, HN.out, congrArg (Value.int .i64) E1.out, ho6, hB15⟩
              case measure => exact E2.out
            · obtain rfl : k2 = nb := by omega
              have e1 : ((64 * k2 : Nat) : Int) = (L : Int) := by have := HNB.out; have := HL.out; omega
              rw [e1]
              have hBw : Below W0.heap.size W0 wr := hB04.trans (hB.mono hB04.size)
              have hr : Has wr w.heap.size (zeroCells 32) 30 := hr0.below hBw (by have := hz0.out; omega)
              have hBf : Below w.heap.size w wr := hB0.trans (hBw.mono hB0.size)
              generalize stN all k2 = st at *
              clear e1 how hB hB04 hin4 hcu hg1 hga4 hca HNB HL hBw hB0 hr0 hkn hk2 hsm4 hz hz64 hz0
              go_upto_region 15 with (fail)
              refine named (p := Code.wp _ _ _ _) ?_
              intro W6 hW6
              have hB6 : Below wr.heap.size wr W6 := by rw [hW6]; exact (Below.refl _ _).alloc (Nat.le_refl _) _
              have h6 : Has W6 wr.heap.size (zeroCells 32) 30 := by rw [hW6]; exact has_new _ _ _ _ rfl
              have hr6 : Has W6 w.heap.size (zeroCells 32) 30 := hr.below hB6 hr.lt
              have hBf6 : Below w.heap.size w W6 := hBf.trans (hB6.mono hBf.size)
              have hcel6 : Hid (∀ j, j < 8 → W6.cell? ⟨gs, j, none⟩ = some (.int .u32 (wv (st.get j)))) := fun j hj => (hB6.cell (p := ⟨gs, j, none⟩) hgs1).trans (hcel j hj)
              have hgsM : Hid (gs < wr.heap.size ∧ gs < W6.heap.size) := ⟨hgs1, Nat.lt_of_lt_of_le hgs1 hB6.size⟩
              have hrM : Hid (w.heap.size < wr.heap.size) := hr.lt
              clear hW6 hcel hgs1 hB6 hr hBf
              generalize wr.heap.size = M at *
              go_wp2_with fail
              go_loopw [10] (fun i wr => ∃ k : Nat, k ≤ 32 ∧ i = .int .i64 k ∧ Ex M W6 wr ∧ ∃ c, Has wr M c 30 ∧ Upd (zeroCells 32) c 0 k (fun j => .int .u8 (bv (digB st j)))) (fun i _ => 32 - (intOf i).toNat)
              case atStart => exact ⟨0, by omega, rfl, Ex.refl _ _, _, h6, Upd.zero _ _ _⟩
              case round =>
                obtain ⟨k3, hk3, rfl, hE, cc, hc, hU⟩ := hrel
                have hcs : cc.size = 32 := by rw [hU.size, zeroCells_size]
                by_cases hk32 : k3 < 32
                · obtain ⟨p, hp⟩ : ∃ p : Nat, p = k3 / 4 := ⟨_, rfl⟩
                  obtain ⟨r, hr⟩ : ∃ r : Nat, r = k3 % 4 := ⟨_, rfl⟩
                  obtain ⟨r8, hr8⟩ : ∃ x : Nat, x = 8 * r := ⟨_, rfl⟩
                  obtain ⟨q, hq⟩ : ∃ q : Nat, q = 24 - r8 := ⟨_, rfl⟩
                  have i1 : (k3 : Int) < 32 := by omega
                  have i2 : (p : Int) < 8 := by omega
                  have p1 : (k3 : Int).tdiv 4 = (p : Int) := by rw [Int.tdiv_eq_ediv_of_nonneg (by omega)]; omega
                  have p2 : (k3 : Int).tmod 4 = (r : Int) := by rw [Int.tmod_eq_emod_of_nonneg (by omega)]; omega
                  have p1' : (k3 : Int) / 4 = (p : Int) := by omega
                  have p2' : (k3 : Int) % 4 = (r : Int) := by omega
                  have p3 : 8 * (r : Int) = (r8 : Int) := by omega
                  have p4 : 24 - (r8 : Int) = (q : Int) := by omega
                  have p5 : IntKind.u64.wrap (q : Int) = (q : Int) := by rw [IntKind.wrap_u64]; omega
                  have p6 : (q : Int) < 32 := by omega
                  have cl : wr.cell? ⟨gs, p, none⟩ = some (.int .u32 (wv (st.get p))) := by
                    rw [World.cell?_of_block (w := W6) (hE.block gs hgsM.out.2 (by have := hgsM.out.1; omega))]; exact hcel6.out p (by omega)
                  obtain ⟨v0, hv0⟩ := Upd.ex hU k3 (by rw [zeroCells_size]; exact hk32)
                  have cd := (hc.cell k3).trans hv0
                  have fr := hc.free k3
                  have hx1 := wm_shr (st.get p) q
                  have hx2 : (wv (st.get p >>> q)).tmod 256 % 256 = bv (lo (st.get p >>> q)) := by
                    rw [← bm_lo, Int.tmod_eq_emod_of_nonneg (wv_nonneg _)]; omega
                  have HD : Hid (digB st k3 = lo (st.get p >>> q)) := by
                    show digB st k3 = _
                    unfold digB
                    rw [← hp, ← hr]; congr 2; omega
                  have HK : Hid (k3 < 32) := hk32
                  clear hp hr hr8 hq hk32 hv0 hcs
                  generalize st.get p >>> q = y at *
                  generalize st.get p = x at *
                  go_wp2_with fail
                  go_roundw
                  case rel => exact ⟨k3 + 1, HK.out, by go_num, hE.trans (Ex.set _ _ _ _), _, hc.set _ _, by have := hU.next (by rw [zeroCells_size]; have := HK.out; omega) _ (show Value.int .u8 (bv (lo y)) = Value.int .u8 (bv (digB st k3)) by rw [HD.out]); rwa [Nat.zero_add] at this⟩
                  case measure => have := HK.out; simp [intOf]; omega
                · obtain rfl : k3 = 32 := by omega
                  have hce : cc = byteCells (digL st) := cells_eq cc (digL st) 32 (digL_length st) hcs (fun j hj => by rw [hU.at_ j, if_pos (by omega), digL_get st j hj]; rfl)
                  subst hce
                  rw [← Hsha.out] at hc
                  have hr7 := hr6.ex hE (by have := hrM.out; omega)
                  have hBe : Below w.heap.size w wr := Ex.to_below hBf6 hBf6.size hE (by have := hrM.out; omega)
                  have hb32 : (byteCells (shaL d)).size = 32 := by rw [byteCells_size, shaL_length]
                  clear hE hr6 hcel6 h6 hU hcs Hsha
                  go_wp2_with (first
                    | refine wpList_load_row rfl 30 _ rfl M rfl 30 _ (0, 0) _ hc Tryd.underlying30 rfl (by rw [hb32]; kernel_rfl) ?_
                    | refine wpList_store_row rfl 30 _ _ rfl w.heap.size _ rfl rfl 30 _ hr7 (by rw [hb32]; kernel_rfl) (by rw [hb32, zeroCells_size]) (byteCells_one _) ?_)
                  refine bodyPost_ret (results_cell_row rfl _ _ w.heap.size 30 _ (0, 0) _ rfl (setRow_heap _ _ _ _ _ _ hr7) Tryd.underlying30 rfl (by rw [hb32]; kernel_rfl)) rfl ?_
                  exact ⟨rfl, hBe.trans ⟨rfl, rfl, rfl, by simp, fun j hj => setRow_other _ _ _ _ (by omega)⟩⟩
end Go.Proofs.YtcmkjgodgocdfaaDoor
/- Rows of digests in memory; parts of a digest. -/
namespace Go.Proofs.YtcmkjgodgocdfaaDoor
open Go.RowKit

abbrev Dig := List UInt8
def All32 (ds : List Dig) : Prop := ∀ (i : Nat) (d : Dig), ds[i]? = some d → d.length = 32
theorem All32.nil : All32 [] := fun i d h => by simp at h
theorem All32.at_ {ds : List Dig} (h : All32 ds) {i : Nat} (hi : i < ds.length) : (ds[i]?.getD []).length = 32 := h i _ (by simp [hi])
theorem All32.snoc {ds : List Dig} (h : All32 ds) {d : Dig} (hd : d.length = 32) : All32 (ds ++ [d]) := fun i x hx => by
  by_cases hi : i < ds.length
  · rw [List.getElem?_append_left hi] at hx; exact h i x hx
  · rw [List.getElem?_append_right (by omega)] at hx
    have : i - ds.length = 0 := by have := (List.getElem?_eq_some_iff.1 hx).1; simp at this; omega
    rw [this] at hx; simp at hx; rw [← hx]; exact hd
theorem All32.app {ds es : List Dig} (h : All32 ds) (k : All32 es) : All32 (ds ++ es) := fun i x hx => by
  by_cases hi : i < ds.length
  · rw [List.getElem?_append_left hi] at hx; exact h i x hx
  · rw [List.getElem?_append_right (by omega)] at hx; exact k _ _ hx
theorem byteCells_len (d : List UInt8) : (byteCells d).toList.length = d.length := by rw [Array.length_toList, byteCells_size]
/-- The digests of a slice's cells. -/
def DigsIn (w : World) (g o : Nat) (ds : List Dig) : Prop := ∀ i, i < ds.length → w.rangeAt g (o + i * 32) (byteCells (ds[i]?.getD [])).toList
/-- A slice value whose digests these are. -/
def Digs (w : World) (v : Value) (ds : List Dig) : Prop :=
  All32 ds ∧ ∃ a cap g o, v = .slice a ds.length cap ∧ ds.length ≤ cap ∧ cap ≤ maxLen ∧ (ds ≠ [] → a = some ⟨g, o, none⟩) ∧ DigsIn w g o ds ∧ g < w.heap.size
theorem rangeAt_block {w w' : World} {g o : Nat} {cs : List Value} (h : w.rangeAt g o cs) (k : w'.heap[g]? = w.heap[g]?) : w'.rangeAt g o cs := fun j v hv => by
  rw [World.cell?_of_block (w := w) k]; exact h j v hv
theorem DigsIn.block {w w' : World} {g o : Nat} {ds : List Dig} (h : DigsIn w g o ds) (k : w'.heap[g]? = w.heap[g]?) : DigsIn w' g o ds := fun i hi => rangeAt_block (h i hi) k
theorem Digs.below {w w' : World} {v : Value} {ds : List Dig} (h : Digs w v ds) (k : Below w.heap.size w w') : Digs w' v ds := by
  obtain ⟨h1, a, cap, g, o, e, hc, hm, ha, hd, hg⟩ := h
  exact ⟨h1, a, cap, g, o, e, hc, hm, ha, hd.block (k.block g hg), Nat.lt_of_lt_of_le hg k.size⟩
theorem Digs.slice {w : World} {v : Value} {ds : List Dig} (h : Digs w v ds) : ∃ a cap, v = .slice a ds.length cap := by
  obtain ⟨_, a, cap, g, o, e, _⟩ := h; exact ⟨a, cap, e⟩
/-- A row of digests that lies in no block below 'base' (or in none). -/
def OwnD (base : Nat) (w : World) (v : Value) (ds : List Dig) : Prop := All32 ds ∧ w.ownsRow base 30 32 v ds.length (ds.flatten.map bc)
theorem flat_at {ds : List Dig} (h : All32 ds) : ∀ (i j : Nat), i < ds.length → j < 32 → ds.flatten[i * 32 + j]? = (ds[i]?.getD [])[j]? := by
  induction ds with
  | nil => intro i j hi; simp at hi
  | cons d ds ih =>
    intro i j hi hj
    have hd : d.length = 32 := h 0 d rfl
    cases i with
    | zero => rw [List.flatten_cons, List.getElem?_append_left (by omega)]; simp
    | succ i =>
      rw [List.flatten_cons, List.getElem?_append_right (by omega), show (i + 1) * 32 + j - d.length = i * 32 + j by omega]
      exact ih (fun i x hx => h (i + 1) x hx) i j (by simpa using hi) hj
theorem flat_len {ds : List Dig} (h : All32 ds) : ds.flatten.length = ds.length * 32 := by
  induction ds with
  | nil => rfl
  | cons d ds ih => rw [List.flatten_cons, List.length_append, ih (fun i x hx => h (i + 1) x hx), h 0 d rfl, List.length_cons]; omega
theorem OwnD.digs {base : Nat} {w : World} {v : Value} {ds : List Dig} (h : OwnD base w v ds) (h0 : 0 < w.heap.size) : Digs w v ds := by
  refine ⟨h.1, ?_⟩
  rcases h.2.2 with ⟨rfl, e⟩ | ⟨g, cap, cur, rfl, hb, hg, hle, hm, _⟩
  · obtain rfl : ds = [] := List.eq_nil_of_length_eq_zero e
    exact ⟨none, 0, 0, 0, rfl, Nat.le_refl _, Nat.zero_le _, fun h => absurd rfl h, fun i hi => absurd hi (by simp), h0⟩
  · refine ⟨_, cap, g, 0, rfl, hle, hm, fun _ => rfl, fun i hi => ?_, (h.2.lt g rfl).2⟩
    intro j u hu
    have hd := h.1.at_ hi
    have hj : j < 32 := by
      have := (List.getElem?_eq_some_iff.1 hu).1
      rw [byteCells_len] at this; omega
    have e1 : (byteCells (ds[i]?.getD [])).toList[j]? = some (bc ((ds[i]?.getD [])[j]?.getD 0)) := by
      rw [Array.getElem?_toList]; exact byteCells_at _ j (by omega)
    have e2 := flat_at h.1 i j hi hj
    rw [List.getElem?_eq_getElem (show j < (ds[i]?.getD []).length by omega)] at e2
    have := h.2.cells (g := g) rfl (i * 32 + j) u (by
      rw [List.getElem?_map, e2, Option.map_some, ← hu, e1, List.getElem?_eq_getElem (show j < (ds[i]?.getD []).length by omega)]; rfl)
    rw [Addr.add_mid] at this
    rw [← this]
    congr 2
    omega
theorem OwnD.nil (base : Nat) (w : World) : OwnD base w (.slice none 0 0) [] := ⟨All32.nil, World.ownsRow_nil _ _ _ _⟩
theorem OwnD.below {base : Nat} {w w' : World} {v : Value} {ds : List Dig} (h : OwnD base w v ds) (k : Below w.heap.size w w') : OwnD base w' v ds := ⟨h.1, ownsRow_below h.2 k⟩
theorem OwnD.alloc {base : Nat} {w : World} {v : Value} {ds : List Dig} (h : OwnD base w v ds) (o : Obj) : OwnD base (w.alloc o) v ds := ⟨h.1, World.ownsRow.alloc h.2 o⟩
theorem OwnD.mono {base base' : Nat} {w : World} {v : Value} {ds : List Dig} (h : OwnD base w v ds) (hb : base' ≤ base) : OwnD base' w v ds := ⟨h.1, ownsRow_mono h.2 hb⟩
theorem OwnD.slice {base : Nat} {w : World} {v : Value} {ds : List Dig} (h : OwnD base w v ds) : ∃ a cap, v = .slice a ds.length cap := by
  rcases h.2.2 with ⟨rfl, h0⟩ | ⟨g, cap, cur, rfl, _⟩
  · exact ⟨none, 0, by rw [h0]⟩
  · exact ⟨_, cap, rfl⟩
/-- Rows of unlike types lie apart. -/
theorem own_ne {base e size n : Nat} {w : World} {v : Value} {xs : List Value} (h : w.ownsRow base e size v n xs) {b t : Nat} {cs : Array Value} (hh : Has w b cs t) (ht : t ≠ e) : v.ownBlock ≠ some b := by
  intro k
  rcases h.2 with ⟨rfl, _⟩ | ⟨g, c, cur, rfl, _, hg, _⟩
  · simp [Value.ownBlock] at k
  · simp only [Value.ownBlock, Option.some.injEq] at k
    subst k
    rw [show w.heap[g]? = _ from hh] at hg
    simp only [Option.some.injEq, Obj.cells.injEq] at hg
    exact ht hg.2.1
theorem grown_has {base e size n : Nat} {w w' : World} {v : Value} {xs : List Value} (h : w.ownsRow base e size v n xs) (hg : w.grownBy w' v.ownBlock) {b t : Nat} {cs : Array Value} (hh : Has w b cs t) (ht : t ≠ e) : Has w' b cs t :=
  (hg.block b hh.lt (fun k => own_ne h hh ht k.symm)).trans hh
theorem grown_low2 {base e size n : Nat} {w w' : World} {v : Value} {xs : List Value} (h : w.ownsRow base e size v n xs) (hg : w.grownBy w' v.ownBlock) (hb : base ≤ w.heap.size) : Below base w w' :=
  ⟨hg.os, hg.tape, hg.output, hg.size, fun k hk => hg.block k (by omega) (fun e => by have := (h.lt k e.symm).1; omega)⟩

/-- A slice of a whole block of bytes that is no row of slices. -/
def Blk (w : World) (sv : Value) (d : List UInt8) : Prop := ∃ b t, sv = .slice (some ⟨b, 0, none⟩) d.length d.length ∧ Has w b (byteCells d) t ∧ t ≠ 77
theorem Blk.below {w w' : World} {sv : Value} {d : List UInt8} (h : Blk w sv d) (k : Below w.heap.size w w') : Blk w' sv d := by
  obtain ⟨b, t, e, hh, ht⟩ := h; exact ⟨b, t, e, hh.below k hh.lt, ht⟩
theorem Blk.bytes {w : World} {sv : Value} {d : List UInt8} (h : Blk w sv d) : Bytes w sv d := by
  obtain ⟨b, t, rfl, hh, _⟩ := h
  exact ⟨_, d.length, b, 0, rfl, Nat.le_refl _, fun _ => rfl, fun j hj => by rw [hh.cell, Nat.zero_add]; exact byteCells_at d j hj, hh.lt⟩
/-- A row of parts, each of which is a whole block of bytes. -/
structure Pts (B : Nat) (w : World) (mv : Value) (ds : List (List UInt8)) (xs : List Value) : Prop where
  own : w.ownsRow B 77 1 mv ds.length xs
  each : ∀ j, j < ds.length → ∃ sv, xs[j]? = some sv ∧ Blk w sv (ds[j]?.getD [])
theorem Pts.below {B : Nat} {w w' : World} {mv : Value} {ds : List (List UInt8)} {xs : List Value} (h : Pts B w mv ds xs) (k : Below w.heap.size w w') : Pts B w' mv ds xs :=
  ⟨ownsRow_below h.own k, fun j hj => by obtain ⟨sv, h1, h2⟩ := h.each j hj; exact ⟨sv, h1, h2.below k⟩⟩
theorem Pts.parts {B : Nat} {w : World} {mv : Value} {ds : List (List UInt8)} {xs : List Value} (h : Pts B w mv ds xs) (h0 : 0 < w.heap.size) (hf : ds.flatten.length < 10000000000) (hl : ds.length < 10000000000) : Parts w mv ds := by
  rcases h.own.2 with ⟨rfl, e⟩ | ⟨g, c, cur, rfl, _, hg, _⟩
  · obtain rfl : ds = [] := List.eq_nil_of_length_eq_zero e
    exact ⟨none, 0, 0, 0, rfl, fun h => absurd rfl h, fun i hi => absurd hi (by simp), h0, hf, hl⟩
  · refine ⟨_, c, g, 0, rfl, fun _ => rfl, fun i hi => ?_, (h.own.lt g rfl).2, hf, hl⟩
    obtain ⟨sv, h1, h2⟩ := h.each i hi
    have := h.own.cells (g := g) rfl i sv h1
    rw [Addr.add_mid] at this
    exact ⟨sv, this, h2.bytes⟩
theorem Pts.snoc {B : Nat} {w w1 w2 : World} {mv mv' sv : Value} {ds : List (List UInt8)} {xs : List Value} {d : List UInt8} (h : Pts B w mv ds xs) (k : Below w.heap.size w w1) (hb : Blk w1 sv d) (ho : w1.ownsRow B 77 1 mv ds.length xs)
    (ho2 : w2.ownsRow B 77 1 mv' (ds.length + 1) (xs ++ [sv])) (hg : w1.grownBy w2 mv.ownBlock) : Pts B w2 mv' (ds ++ [d]) (xs ++ [sv]) := by
  have hl : xs.length = ds.length := by have := h.own.1; omega
  refine ⟨by rw [List.length_append]; exact ho2, fun j hj => ?_⟩
  rw [List.length_append] at hj
  by_cases e : j < ds.length
  · obtain ⟨s, h1, h2⟩ := h.each j e
    refine ⟨s, by rw [List.getElem?_append_left (by omega)]; exact h1, ?_⟩
    rw [List.getElem?_append_left e]
    obtain ⟨b, t, e1, hh, ht⟩ := h2.below k
    exact ⟨b, t, e1, grown_has ho hg hh ht, ht⟩
  · have ej : j = ds.length := by simp at hj; omega
    subst ej
    refine ⟨sv, by rw [List.getElem?_append_right (by omega), hl]; simp, ?_⟩
    rw [List.getElem?_append_right (by omega)]
    obtain ⟨b, t, e1, hh, ht⟩ := hb
    simp only [Nat.sub_self, List.getElem?_cons_zero, Option.getD_some]
    exact ⟨b, t, e1, grown_has ho hg hh ht, ht⟩
theorem info77 : (Tryd.prog.info? 77).map (fun i => (i.zero, i.size, i.bytes)) = some (some (.slice none 0 0), 1, 24) := by kernel_rfl
end Go.Proofs.YtcmkjgodgocdfaaDoor
/- merkle.behind: what puts digests together behind a byte. -/
namespace Go.Proofs.YtcmkjgodgocdfaaDoor
open Go.RowKit

set_option maxHeartbeats 400000 in
theorem behind_any (f : UInt8) (w : World) : Calls Tryd.prog 40 #[.int .u8 (bv f)] w fun e w' =>
    e = .returned (.func (.func 44) #[] #[.pointer (some ⟨w.heap.size, 0, none⟩)]) ∧ w' = w.alloc (.cells #[.int .u8 (bv f)] 5) := by
  go_enter Tryd.func40, Tryd.ntmps40
  go_wp2
  go_ret
  exact ⟨rfl, rfl⟩

set_option maxRecDepth 100000 in
set_option maxHeartbeats 2000000 in
theorem behind1_any (f : UInt8) (fb : Nat) (v : Value) (ds : List Dig) (w : World) (hf : w.cell? ⟨fb, 0, none⟩ = some (.int .u8 (bv f))) (hfl : fb < w.heap.size) (hv : Digs w v ds) (hn : ds.length ≤ 16) (hg : Glob w) :
    Calls Tryd.prog 44 #[v, .pointer (some ⟨fb, 0, none⟩)] w fun e w' => e = .returned (.agg (byteCells (shaL (f :: ds.flatten)))) ∧ Below w.heap.size w w' := by
  obtain ⟨h32, a, cap, g, o, rfl, hcap, hmax, ha, hin, hgl⟩ := hv
  have hgs := hg.size
  obtain ⟨j0, hi, hz0, hz1, hz2⟩ := info_parts info77
  have cf : (w.alloc (.cells (zeroCells 32) 30)).cell? ⟨fb, 0, none⟩ = some (.int .u8 (bv f)) := by
    rw [World.cell?_of_block (w := w) (Below.heap_alloc w _ fb hfl)]; exact hf
  go_enter Tryd.func44, Tryd.ntmps44
  go_wp2_with fail
  refine named (p := Code.wp _ _ _ _) ?_
  intro W0 hW0
  have hz : W0.heap.size = w.heap.size + 3 := by rw [hW0]; simp
  have hB : Below w.heap.size w W0 := by
    rw [hW0]
    repeat (first | exact Below.refl _ _ | refine Below.alloc ?_ (by simp <;> omega) _)
  have x0 : Has W0 w.heap.size (zeroCells 32) 30 := by
    rw [hW0]; repeat (first | (refine has_new _ _ _ _ ?_; simp; done) | refine has_old ?_)
  have x1 : Has W0 (w.heap.size + 1) (byteCells [f]) 5 := by
    rw [hW0]; repeat (first | (refine has_new _ _ _ _ ?_; simp; done) | refine has_old ?_)
  have x2 : Has W0 (w.heap.size + 2) #[.slice (some ⟨w.heap.size + 1, 0, none⟩) 1 1] 77 := by
    rw [hW0]; repeat (first | (refine has_new _ _ _ _ ?_; simp; done) | refine has_old ?_)
  have hP0 : Pts w.heap.size W0 (.slice (some ⟨w.heap.size + 2, 0, none⟩) 1 1) [[f]] [.slice (some ⟨w.heap.size + 1, 0, none⟩) 1 1] := by
    refine ⟨⟨rfl, .inr ⟨_, 1, _, rfl, by omega, x2, Nat.le_refl _, by simp only [maxLen]; omega, rfl, rfl⟩⟩, fun j hj => ?_⟩
    obtain rfl : j = 0 := by simp at hj; omega
    exact ⟨_, rfl, _, 5, rfl, x1, by decide⟩
  clear hW0 x1 x2 cf
  go_loopw [4, 12] (fun pv i wr => ∃ k : Nat, ∃ xs, k ≤ ds.length ∧ i = .int .i64 k ∧ Pts w.heap.size wr pv ([f] :: ds.take k) xs ∧ Has wr w.heap.size (zeroCells 32) 30 ∧ Below w.heap.size w wr ∧ w.heap.size + 3 ≤ wr.heap.size) (fun _ i _ => ds.length - (intOf i).toNat)
  case atStart => exact ⟨0, _, Nat.zero_le _, rfl, by simpa [Nat.add_assoc] using hP0, x0, hB, by omega⟩
  case round =>
    obtain ⟨k, xs, hk, rfl, hP, hr, hBw, hsz⟩ := hrel
    by_cases hlt : k < ds.length
    · obtain rfl := ha (by intro e; simp [e] at hlt)
      have hd := h32.at_ hlt
      have hrg := rangeAt_block (hin k hlt) (hBw.block g hgl)
      obtain ⟨d, hdd⟩ : ∃ d, ds[k]?.getD [] = d := ⟨_, rfl⟩
      rw [hdd] at hd hrg
      have hbs : (byteCells d).size = 32 := by rw [byteCells_size, hd]
      have hn1 := has_new wr (zeroCells 32) 30 wr.heap.size rfl
      go_upto_region 5 with (first
        | refine wpList_load_mid rfl 30 _ rfl g (o + k * 32) rfl (byteCells d).toList _ hrg Tryd.underlying30 rfl (by rw [byteCells_len, hd]; kernel_rfl) ?_
        | refine wpList_store_row rfl 30 _ _ rfl wr.heap.size (byteCells d) rfl rfl 30 _ hn1 (by rw [hbs]; kernel_rfl) (by rw [hbs, zeroCells_size]) (byteCells_one _) ?_)
      refine named (p := Code.wp _ _ _ _) ?_
      intro W1 hW1
      have hz1' : wr.heap.size < W1.heap.size := by rw [hW1]; simp
      have hB1 : Below wr.heap.size wr W1 := by
        rw [hW1]; exact ((Below.refl _ _).alloc (Nat.le_refl _) _).trans ⟨rfl, rfl, rfl, by simp, fun j hj => setRow_other _ _ _ _ (by omega)⟩
      have hk1 : Has W1 wr.heap.size (byteCells d) 30 := by rw [hW1]; exact setRow_heap _ _ _ _ _ _ hn1
      clear hW1 hn1 hrg ha
      have hP1 := hP.below hB1
      have hn2 := has_new W1 #[Value.slice (some ⟨wr.heap.size, 0, none⟩) 32 32] 77 W1.heap.size rfl
      have HK : Hid (k < ds.length ∧ ds.length ≤ 16) := ⟨hlt, hn⟩
      have hpl : ([f] :: ds.take k).length = k + 1 := by simp; omega
      have ho1 := hP1.own
      rw [hpl] at ho1
      have hk16 : k < 16 := by omega
      clear hk
      go_wp2_with (refine wpList_append_own _ rfl _ _ 78 rfl w.heap.size 77 j0 (.slice none 0 0) 1 24 Tryd.underlying78 hi hz0 hz1 hz2 rfl (by omega) _ (k + 1) xs rfl (ho1.alloc _) ⟨W1.heap.size, 0, none⟩ 1 1 [Value.slice (some ⟨wr.heap.size, 0, none⟩) 32 32] rfl rfl (fun j u hu => by rw [Addr.add_mid, Nat.zero_add]; refine (hn2.cell j).trans ?_; rw [← hu]; simp) (fun u hu => by simp at hu; subst hu; rfl) (by have := HK.out; simp only [maxLen]; omega) (by have := HK.out; omega) (by simp; omega) ?_; intro v4 w4 hown4 hg4 hnil; clear hnil)
      have hd2 : [f] :: ds.take (k + 1) = ([f] :: ds.take k) ++ [d] := by
        rw [List.take_succ_eq_append_getElem (by have := HK.out; omega), List.cons_append, ← hdd]; simp [HK.out.1]
      have hBa := (Below.refl W1.heap.size W1).alloc (Nat.le_refl _) (.cells #[Value.slice (some ⟨wr.heap.size, 0, none⟩) 32 32] 77)
      have hBl : Blk (W1.alloc (.cells #[Value.slice (some ⟨wr.heap.size, 0, none⟩) 32 32] 77)) (.slice (some ⟨wr.heap.size, 0, none⟩) 32 32) d :=
        ⟨wr.heap.size, 30, by rw [hd], hk1.below hBa hz1', by decide⟩
      have hPn := hP1.snoc hBa hBl (by rw [hpl]; exact ho1.alloc _) (by rw [hpl]; exact hown4) hg4
      have hlow := grown_low2 (ho1.alloc _) hg4 (by simp; omega)
      have hrow := grown_has (ho1.alloc _) hg4 ((hr.below hB1 hr.lt).below hBa (Nat.lt_trans hr.lt hz1')) (by decide)
      have hs4 := hg4.size
      rw [World.size_alloc] at hs4
      go_roundw
      case rel => exact ⟨k + 1, _, by omega, by go_num, by rw [hd2]; exact hPn, hrow, ((hBw.trans (hB1.mono (by omega))).trans (hBa.mono (by omega))).trans hlow, by omega⟩
      case measure => simp [intOf]; omega
    · obtain rfl : k = ds.length := by omega
      rw [List.take_length] at hP
      have hgw := hg.below hBw hg.size
      have hfl' : ([f] :: ds).flatten = f :: ds.flatten := rfl
      have hpt := hP.parts (by omega) (by rw [hfl', List.length_cons, flat_len h32]; omega) (by simp; omega)
      have hb32 : (byteCells (shaL (f :: ds.flatten))).size = 32 := by rw [byteCells_size, shaL_length]
      clear hP
      go_wp2_with (first
        | (go_at_call 45; refine (of_any _ ([f] :: ds) _ hpt hgw).mono ?_; rintro e w' ⟨rfl, hBo⟩; rw [hfl']; have hr4 := hr.below hBo hr.lt)
        | refine wpList_store_row rfl 30 _ _ rfl w.heap.size _ rfl rfl 30 _ hr4 (by rw [hb32]; kernel_rfl) (by rw [hb32, zeroCells_size]) (byteCells_one _) ?_)
      refine bodyPost_ret (results_cell_row rfl _ _ w.heap.size 30 _ (0, 0) _ rfl (setRow_heap _ _ _ _ _ _ hr4) Tryd.underlying30 rfl (by rw [hb32]; kernel_rfl)) rfl ?_
      exact ⟨rfl, (hBw.trans (hBo.mono (by omega))).trans ⟨rfl, rfl, rfl, by simp, fun j hj => setRow_other _ _ _ _ (by omega)⟩⟩
end Go.Proofs.YtcmkjgodgocdfaaDoor
/- A range over a function: one round with its worlds named; a body that may leave. -/
namespace Go.Proofs.YtcmkjgodgocdfaaDoor
open Go.RowKit
variable {n : Nat} {P : Program}

/-- The record l has a jump that waits. -/
def Pend (l : Nat) (c : Code) (W : World) : Prop := ∃ r : Loop, W.heap[l]? = some (.loop r) ∧ r.state ≠ .busy ∧ r.pending = some c
theorem putObj_ex (l : Nat) (W : World) (o : Obj) : Ex l W (W.putObj l o) := ⟨rfl, rfl, rfl, by simp, fun k _ hk => World.putObj_heap_other hk⟩
/-- How a round's body may end. -/
def leaves (l : Nat) (RR RB : Obj) (R : World → Prop) (Rx : Code → World → Prop) : Exit → Act → World → Prop
  | .normal, _, W => W.heap[l]? = some RB ∧ ∀ W6, Ex l W W6 → W6.heap.size = W.heap.size → W6.heap[l]? = some RR → R W6
  | .ret, _, W => W.heap[l]? = some RB ∧ ∀ W6, Ex l W W6 → W6.heap.size = W.heap.size → Rx .ret W6
  | .exit id, _, W => W.heap[l]? = some RB ∧ ∀ W6, Ex l W W6 → W6.heap.size = W.heap.size → Rx (.exit id) W6
  | _, _, _ => False
/-- One round. -/
theorem yield_in {fn : FuncId} {tmps : Array Value} {ps : Array Tmp} {assign body : Code} {D l : Nat} {W : World} {args : Array Value} {R : World → Prop} {Rx : Code → World → Prop}
    (hl : W.heap[l]? = some (.loop (recOf fn tmps ps assign body D .ready))) (hps : args.size = ps.size)
    (h : ∀ RR RB : Obj, W.heap[l]? = some RR → assign.wpIn (Fence.wide.inRound l) n P (Exit.then (fun a₁ w₁ => w₁.heap[l]? = some RR ∧
        ∀ W5, Ex l w₁ W5 → W5.heap.size = w₁.heap.size → W5.heap[l]? = some RB → body.wpIn (Fence.wide.inRound l) n P (leaves l RR RB R Rx) a₁ W5)
      (fun _ _ _ => False)) { tmps := (ps.zip args).foldl (fun t (p, v) => t.setIfInBounds p v) tmps, defers := [] } W) :
    YieldAt Fence.wide n P l args W fun e W' => (e = .returned (.bool true) ∧ R W') ∨ (e = .returned (.bool false) ∧ ∃ c, Pend l c W' ∧ Rx c W') := by
  have hy := run_yield (P := P) (args := args) hl hps
  have h := h (.loop (recOf fn tmps ps assign body D .ready)) (.loop (recOf fn tmps ps assign body D .busy)) hl
  have lt_of : ∀ {X : World} {o : Obj}, X.heap[l]? = some o → l < X.heap.size := fun hX => (Array.getElem?_eq_some_iff.1 hX).1
  refine ⟨fn, _, assign, body, hy, roundIn_of_wpIn trivial ?_⟩
  refine wpIn_mono h ?_
  rintro e a₁ w₁ hp
  cases e with
  | normal =>
    obtain ⟨hl1, hb⟩ := hp
    refine ⟨_, run_beginRound hl1 rfl, ?_⟩
    refine wpIn_mono (hb _ (putObj_ex l w₁ _) (by simp) (World.putObj_heap_same (lt_of hl1))) ?_
    intro e a3 W3 he
    cases e with
    | normal =>
      obtain ⟨hl3, hR⟩ := he
      exact ⟨_, _, run_endRound (P := P) none hl3, .inl ⟨rfl, hR _ (putObj_ex l W3 _) (by simp) (World.putObj_heap_same (lt_of hl3))⟩⟩
    | ret =>
      obtain ⟨hl3, hR⟩ := he
      exact ⟨_, _, run_endRound (P := P) (some .ret) hl3, .inr ⟨rfl, .ret, ⟨_, World.putObj_heap_same (lt_of hl3), by simp, rfl⟩, hR _ (putObj_ex l W3 _) (by simp)⟩⟩
    | exit id =>
      obtain ⟨hl3, hR⟩ := he
      exact ⟨_, _, run_endRound (P := P) (some (.exit id)) hl3, .inr ⟨rfl, .exit id, ⟨_, World.putObj_heap_same (lt_of hl3), by simp, rfl⟩, hR _ (putObj_ex l W3 _) (by simp)⟩⟩
    | _ => exact he.elim
  | _ => exact hp
/-- The statement: the call of the function that is ranged over, at yield; behind it the jump that waits, or none. -/
theorem wp_range_leave {g : Operand} {ps : Array Tmp} {assign body : Code} {Q : Exit → Act → World → Prop} {a : Act} {w : World} {gf : Nat} {lb : Array Value}
    (hg : a.eval g = .func (.func gf) #[] lb) (eg : ∀ args w, (callFunc gf args).run P w = .ok (.enter gf args) w) (R : World → Prop) (Rx : Code → World → Prop)
    (hcall : ∀ fn W1, Below w.heap.size w W1 → W1.heap.size = w.heap.size + 2 → W1.heap[w.heap.size]? = some (.deferred (some [])) → W1.heap[w.heap.size + 1]? = some (.loop (recOf fn a.tmps ps assign body w.heap.size .ready)) →
      CallsIn Fence.wide (n - 1) P gf (#[.func (.yield (w.heap.size + 1)) #[] #[]] ++ lb) W1 fun e W3 => (∃ v, e = .returned v) ∧ ((W3.heap[w.heap.size + 1]? = W1.heap[w.heap.size + 1]? ∧ R W3) ∨ ∃ c, Pend (w.heap.size + 1) c W3 ∧ Rx c W3))
    (hdone : ∀ W3 W4, R W3 → Ex (w.heap.size + 1) W3 W4 → W4.heap.size = W3.heap.size → Q .normal { a with defers := { target := .collected w.heap.size, args := #[] } :: a.defers } W4)
    (hleft : ∀ c W3 W4, Rx c W3 → Ex (w.heap.size + 1) W3 W4 → W4.heap.size = W3.heap.size → c.wpIn Fence.wide n P Q { a with defers := { target := .collected w.heap.size, args := #[] } :: a.defers } W4) :
    (Code.rangeFunc g ps assign body).wpIn Fence.wide n P Q a w := by
  refine wpIn_rangeFunc ?_
  intro fn _
  obtain ⟨W1, hW1⟩ : ∃ W1, (w.alloc (.deferred (some []))).alloc (.loop (recOf fn a.tmps ps assign body w.heap.size .ready)) = W1 := ⟨_, rfl⟩
  have hL : W1.heap[w.heap.size + 1]? = some (.loop (recOf fn a.tmps ps assign body w.heap.size .ready)) := by
    rw [← hW1]
    have := World.alloc_heap_new (w.alloc (.deferred (some []))) (.loop (recOf fn a.tmps ps assign body w.heap.size .ready)); rwa [World.size_alloc] at this
  refine ⟨w.heap.size + 1, [{ target := .collected w.heap.size, args := #[] }], W1, { target := .fn (.func gf) lb, args := #[.func (.yield (w.heap.size + 1)) #[] #[]] }, W1, gf,
    #[.func (.yield (w.heap.size + 1)) #[] #[]] ++ lb, W1, ?_, ?_, ?_, ?_, (fun h => by cases h), ?_⟩
  · rw [← hW1]; exact run_enterLoop_outer _ _ _ _ _
  · simp only [resolve, hg]
    simp [go_sem]
  · intro f' _; trivial
  · simp [invoke, go_sem, eg]
  · have hD : W1.heap[w.heap.size]? = some (.deferred (some [])) := by
      rw [← hW1]; exact (Below.heap_alloc _ _ _ (by simp)).trans (World.alloc_heap_new w _)
    refine (hcall fn W1 (by rw [← hW1]; exact ((Below.refl _ w).alloc (Nat.le_refl _) _).alloc (by simp) _) (by rw [← hW1]; simp) hD hL).mono ?_
    rintro e W3 ⟨⟨v, rfl⟩, ⟨hl3, hR⟩ | ⟨c, ⟨r, hr, hb, hp⟩, hR⟩⟩
    · rw [hL] at hl3
      exact ⟨none, _, run_endLoop hl3 (by simp [recOf]), hdone W3 _ hR (putObj_ex _ _ _) (by simp)⟩
    · exact ⟨some c, _, by rw [← hp]; exact run_endLoop hr hb, hleft c W3 _ hR (putObj_ex _ _ _) (by simp)⟩
end Go.Proofs.YtcmkjgodgocdfaaDoor
/- A region that draws its order, in a round of a range over a function: it is enough to walk it as everywhere. -/
namespace Go.Proofs.YtcmkjgodgocdfaaDoor
open Go.RowKit
variable {n l : Nat} {P : Program} {ops : Array Oper} {Q : Exit → Act → World → Prop}

/-- To the end, or not at all. -/
def onlyN (Q : Exit → Act → World → Prop) : Exit → Act → World → Prop := fun e a w => e = .normal ∧ Q .normal a w
theorem op_round {o : Oper} {a : Act} {w : World} {K : Act → World → Prop} (hd : ∀ c, o.op ≠ .defer c) (h : o.wp P a w K (onlyN Q)) : o.wpIn (Fence.wide.inRound l) n P a w K Q := by
  unfold Oper.wp at h
  unfold Oper.wpIn
  refine ⟨fun _ _ => trivial, ?_⟩
  rw [Oper.semAt_plain (Fence.wide.inRound l) _ o hd]
  generalize (execOp a.eval o).run P w = r at *
  cases r with
  | ok x w' =>
    cases x <;> simp only [Oper.upon, Oper.uponIn] at h ⊢
    case value u => exact h
    case skip => exact h
    case defer d => exact h
    case enter f args =>
      refine ⟨fun e => (by cases e), CallsIn.inRound l (callsIn_wide.2 (h.mono ?_))⟩
      intro e w'' he
      cases e with
      | returned v => exact he
      | panicked c => exact absurd he.1 (by simp)
      | outgrown => obtain ⟨_, _, he, _⟩ := he; exact absurd he (by simp)
    case row r args => exact ⟨fun e => (by cases e), fun c cs _ => let ⟨v, w', r, s⟩ := h c cs; ⟨v, w', r, stepsIn_wide.2 s⟩⟩
  | halt x w' => cases x <;> simp only [Oper.upon, Oper.uponIn] at h ⊢ <;> first | exact h | exact absurd h.1 (by simp) | exact h.elim
theorem wpOp_round {i : Nat} {K K' : Act → World → Prop} {a : Act} {w : World} (hp : ∀ o, ops[i]? = some o → ∀ c, o.op ≠ .defer c) (hk : ∀ a w, K a w → K' a w) (h : wpOp P ops (onlyN Q) i K a w) :
    wpOpIn (Fence.wide.inRound l) n P ops Q i K' a w := by
  have h := wpOp_mono hk h
  unfold wpOp at h
  unfold wpOpIn
  cases ho : ops[i]? with
  | none => rw [ho] at h; exact h
  | some o =>
    rw [ho] at h
    simp only [] at h ⊢
    by_cases hw : Region.wanted o (yielded ops a.tmps) = true
    · rw [if_pos hw] at h ⊢
      rcases h with h | ⟨_, _, _, h, _⟩
      · exact op_round (hp o ho) h
      · exact absurd h (by simp)
    · rw [if_neg hw] at h ⊢
      exact ⟨fun _ _ => trivial, h⟩
theorem wpAny_round (hp : ∀ (i : Nat) (o : Oper), ops[i]? = some o → ∀ c, o.op ≠ .defer c) : ∀ (fuel : Nat) (listed : Array Bool) (a : Act) (w : World),
    wpAny P .any ops (onlyN Q) fuel listed a w → wpAnyIn (Fence.wide.inRound l) n P .any ops Q fuel listed a w
  | 0, _, _, _, h => ⟨h.1, h.2.2⟩
  | fuel + 1, _, _, _, h => ⟨fun h0 => (h.1 h0).2, fun i hi => wpOp_round (hp i) (fun a w => wpAny_round hp fuel _ a w) (h.2 i hi)⟩
/-- No operation defers. -/
def noDefer (ops : Array Oper) : Bool := ops.all fun o => match o.op with | .defer _ => false | _ => true
theorem noDefer_at (h : noDefer ops = true) (i : Nat) (o : Oper) (ho : ops[i]? = some o) (c : Call) : o.op ≠ .defer c := fun e => by
  unfold noDefer at h
  rw [Array.all_eq_true'] at h
  have := h o (Array.mem_of_getElem? ho)
  rw [e] at this
  cases this
theorem wpIn_round_held {id : Nat} {a : Act} {w : World} (S : World → Prop) (hm : P.follows .mixedOrders = true) (hp : noDefer ops = true) (hS : S w.drew)
    (h : S w.drew → wpAnyH P .any ops (onlyN Q) S ops.size (Array.replicate ops.size false) a w.drew) : (Code.region id ops true).wpIn (Fence.wide.inRound l) n P Q a w :=
  wpIn_region_any hm (wpAny_round (fun i o ho c => noDefer_at hp i o ho c) _ _ _ _ (wpAny_of_held _ _ _ _ (h hS)))
/-- The operation i comes up alone. -/
theorem held_next {S : World → Prop} {i : Nat} {o : Oper} {fuel : Nat} {listed : Array Bool} {a : Act} {w : World} (hr : Region.ready .any ops listed = [i]) (ho : ops[i]? = some o) (hw : Region.wanted o (yielded ops a.tmps) = true)
    (h : o.wp P a w (fun a' w' => S w' ∧ wpAnyH P .any ops Q S fuel (listed.setIfInBounds i true) a' w') Q) : wpAnyH P .any ops Q S (fuel + 1) listed a w :=
  wpAnyH_all hr (by simp) fun j hj => by
    obtain rfl : j = i := by simpa using hj
    unfold wpOp
    rw [ho]
    simp only []
    rw [if_pos hw]
    exact .inl h
end Go.Proofs.YtcmkjgodgocdfaaDoor
/- slices.Chunk by twos: the function that is ranged over, whatever its round does. -/
namespace Go.Proofs.YtcmkjgodgocdfaaDoor
open Go.RowKit
attribute [local go_sem] Oper.semAt_some

set_option maxHeartbeats 400000 in
theorem chunk_any (a : Option Addr) (n cap : Nat) (w : World) : Calls Tryd.prog 53 #[.slice a n cap, .int .i64 2] w fun e w' =>
    e = .returned (.func (.func 63) #[] #[.pointer (some ⟨w.heap.size, 0, none⟩), .pointer (some ⟨w.heap.size + 1, 0, none⟩)]) ∧ w' = (w.alloc (.cells #[.slice a n cap] 22)).alloc (.cells #[.int .i64 2] 3) := by
  go_enter Tryd.func53, Tryd.ntmps53
  go_wp2
  go_ret
  exact ⟨rfl, rfl⟩

set_option maxRecDepth 100000 in
set_option maxHeartbeats 2000000 in
theorem chunk1_any (N l bs bn : Nat) (g o m cap : Nat) (W : World) (J : Nat → World → Prop) (hm : m ≤ 16) (hcap : m ≤ cap) (hmx : cap ≤ maxLen) (h0 : J 0 W)
    (hJd : ∀ k W' q, J k W' → J k (W'.drewN q))
    (hJb : ∀ k W', J k W' → Has W' bs #[.slice (some ⟨g, o, none⟩) m cap] 22 ∧ Has W' bn #[.int .i64 2] 3)
    (hY : ∀ (k : Nat) (W' : World), 2 * k < m → J k W' → YieldAt Fence.wide (N - 1) Tryd.prog l #[.slice (some ⟨g, o + 2 * k * 32, none⟩) (Nat.min 2 (m - 2 * k)) (Nat.min 2 (m - 2 * k))] W' fun e W'' => e = .returned (.bool true) ∧ J (k + 1) W'') :
    CallsIn Fence.wide N Tryd.prog 63 #[.func (.yield l) #[] #[], .pointer (some ⟨bs, 0, none⟩), .pointer (some ⟨bn, 0, none⟩)] W fun e W' => e = .returned (.tuple #[]) ∧ J ((m + 1) / 2) W' := by
  unfold maxLen at hmx
  refine callsIn_of_wp Tryd.func63 rfl trivial ?_ rfl
  simp only [Tryd.ntmps63, List.size_toArray, List.length_cons, List.length_nil, Nat.reduceAdd, Nat.reduceSub, Array.replicate_succ, Array.replicate_zero, List.push_toArray, List.append_toArray, List.nil_append, List.cons_append]
  gi_wp2
  gi_loopw [4] (fun i wr => ∃ k : Nat, i = .int .i64 (2 * k : Nat) ∧ k ≤ (m + 1) / 2 ∧ J k wr) (fun i _ => m + 2 - (intOf i).toNat)
  case atStart => exact ⟨0, rfl, Nat.zero_le _, h0⟩
  case round =>
    obtain ⟨k, rfl, hk, hJ⟩ := hrel
    obtain ⟨hb1, hb2⟩ := hJb k wr hJ
    have c1 := hb1.one
    have c2 := hb2.one
    by_cases hlt : 2 * k < m
    · have hYk := hY k
      obtain ⟨E, hE⟩ : ∃ E, 2 * k = E := ⟨_, rfl⟩
      rw [hE] at hlt hYk ⊢
      have HE : Hid (2 * k = E) := hE
      clear hE
      have hEc : E ≤ cap := by omega
      gi_wp2
      gi_quiet (fail)
      obtain ⟨M, hM⟩ : ∃ M, Nat.min 2 (m - E) = M := ⟨_, rfl⟩
      have hM' : min 2 (m - E) = M := hM
      have e1 : (if ((m - E : Nat) : Int) < 2 then ((m - E : Nat) : Int) else 2) = (M : Int) := by
        split <;> omega
      simp only [e1]
      have hM1 : E + M ≤ m := by omega
      have hM2 : M ≤ 2 := by omega
      have hM0 : 0 < M := by omega
      have hM3 : ¬ M = 0 := by omega
      have HM : Hid (Nat.min 2 (m - E) = M) := hM
      have hJ2 := hJd k wr nq hJ
      rw [hM] at hYk
      have hYk2 := hYk _ hlt hJ2
      clear hYk hM hM' e1 hJ
      have d1 := (hJb k _ hJ2).1.one
      have d2 := (hJb k _ hJ2).2.one
      obtain ⟨fn, tmps, assign, body, hy, hR⟩ := hYk2
      have e2 : E + M - E = M := by omega
      gi_wp2
      refine ⟨fun h => (by cases h), hR.mono ?_⟩
      clear hR hy d1 d2 c1 c2 e2 hJ2
      rintro e W3 ⟨rfl, hJ3⟩
      have c1 := (hJb _ _ hJ3).1.one
      have c2 := (hJb _ _ hJ3).2.one
      gi_wp2
      go_roundw
      case rel => exact ⟨k + 1, by have := HE.out; congr 1; omega, by have := HE.out; omega, hJ3⟩
      case measure => simp [intOf]; omega
    · obtain rfl : k = (m + 1) / 2 := by omega
      gi_wp2
      go_end0
      exact ⟨rfl, hJ⟩
end Go.Proofs.YtcmkjgodgocdfaaDoor
/- Digests that are appended to a row of one's own. -/
namespace Go.Proofs.YtcmkjgodgocdfaaDoor
open Go.RowKit

theorem info30 : (Tryd.prog.info? 30).map (fun i => (i.zero, i.size, i.bytes)) = some (some (.agg (zeroCells 32)), 32, 32) := by kernel_rfl
theorem digs_cells {w : World} {g o : Nat} {es : List Dig} (h32 : All32 es) (h : DigsIn w g o es) : ∀ j u, (es.flatten.map bc)[j]? = some u → w.cell? ((⟨g, o, none⟩ : Addr).add j) = some u := fun j u hu => by
  have hj : j < es.length * 32 := by
    have := (List.getElem?_eq_some_iff.1 hu).1
    rwa [List.length_map, flat_len h32] at this
  have hi : j / 32 < es.length := by omega
  have hd := h32.at_ hi
  have e1 := flat_at h32 (j / 32) (j % 32) hi (by omega)
  rw [show j / 32 * 32 + j % 32 = j by omega] at e1
  rw [List.getElem?_map, e1] at hu
  have hlt : j % 32 < (es[j / 32]?.getD []).length := by omega
  have h2 : (byteCells (es[j / 32]?.getD [])).toList[j % 32]? = some u := by
    rw [Array.getElem?_toList, byteCells_at _ _ hlt, ← hu, List.getElem?_eq_getElem hlt]; rfl
  have := h (j / 32) hi (j % 32) u h2
  rw [Addr.add_mid, ← this]
  congr 2
  omega
theorem run_append_digs (ty : TypeId) (base : Nat) (w : World) (v xv : Value) (ds es : List Dig) (hown : OwnD base w v ds) (hx : Digs w xv es) (hsm : ds.length + es.length ≤ 1000) (hbase : base ≤ w.heap.size) :
    ∃ v' w', (Builtin.append_ #[22, 22] ty #[v, xv]).run Tryd.prog w = .ok v' w' ∧ OwnD base w' v' (ds ++ es) ∧ w.grownBy w' v.ownBlock := by
  obtain ⟨i0, hi, hz0, hz1, hz2⟩ := info_parts info30
  obtain ⟨h32, a, cap, g, o, rfl, hcap, hmx, ha, hin, hlt⟩ := hx
  have hmx : ds.length + es.length ≤ maxLen := by unfold maxLen; omega
  cases a with
  | some a0 =>
    have hcells : ∀ j u, (es.flatten.map bc)[j]? = some u → w.cell? (a0.add j) = some u := fun j u hu => by
      have hne : es ≠ [] := by intro e; simp [e] at hu
      obtain rfl := Option.some.inj (ha hne)
      exact digs_cells h32 hin j u hu
    obtain ⟨v', w', h1, h2, h3, h4⟩ := run_append_own (P := Tryd.prog) w base 22 ty 30 i0 (.agg (zeroCells 32)) 32 32 Tryd.underlying22 hi hz0 hz1 hz2 (by simp [Value.cells, zeroCells_size]) (by omega) v ds.length (ds.flatten.map bc) hown.2 a0 es.length cap (es.flatten.map bc) (by rw [List.length_map, flat_len h32]) hcells
      (fun u hu => by simp only [List.mem_map] at hu; obtain ⟨y, _, rfl⟩ := hu; rfl) hmx (by omega) hbase
    exact ⟨v', w', h1, ⟨hown.1.app h32, by rw [List.length_append, List.flatten_append, List.map_append]; exact h2⟩, h3⟩
  | none =>
    have hx0 : es = [] := by
      cases es with
      | nil => rfl
      | cons b l => cases ha (by simp)
    subst hx0
    refine ⟨v, w, ?_, by simpa using hown, ⟨rfl, rfl, rfl, Nat.le_refl _, fun _ _ _ => rfl⟩⟩
    rcases hown.2.2 with ⟨rfl, h0⟩ | ⟨g, c, cur, rfl, _, hg, hnc, _⟩
    · simp [Builtin.append_, run_underlying Tryd.underlying22, sizeOf, typeInfo, hi, Builtin.lenOf, Builtin.firstCells]
    · simp [Builtin.append_, run_underlying Tryd.underlying22, sizeOf, typeInfo, hi, Builtin.lenOf, Builtin.firstCells, hnc, storeCells]
theorem wp_append_digs {o : Oper} {a : Act} {w : World} {K : Act → World → Prop} {Q : Exit → Act → World → Prop} (s y : Operand)
    (ho : o.op = .call { callee := .builtin .append, args := #[s, y], argTypes := #[22, 22] }) (base : Nat) (v xv : Value) (ds es : List Dig) (hs : a.eval s = v) (hy : a.eval y = xv) (hown : OwnD base w v ds) (hx : Digs w xv es) (hsm : ds.length + es.length ≤ 1000) (hbase : base ≤ w.heap.size)
    (h : ∀ v' w', OwnD base w' v' (ds ++ es) → w.grownBy w' v.ownBlock → K (a.put o.dst v') w') : o.wp Tryd.prog a w K Q := by
  obtain ⟨v', w', h1, h2, h3⟩ := run_append_digs o.type base w v xv ds es hown hx hsm hbase
  unfold Oper.wp execOp
  simp only [ho, resolve, invoke, builtin, Sem.run_bind, Sem.run_pure, Result.andThen_ok, List.map_toArray, List.map_cons, List.map_nil, hs, hy, h1]
  exact h v' w' h2 h3
theorem wpList_append_digs {w : World} {ops : Array Oper} {rest : List Oper} {o : Oper} {a : Act} {Q : Exit → Act → World → Prop} (hgd : o.guard = none) (s y : Operand)
    (ho : o.op = .call { callee := .builtin .append, args := #[s, y], argTypes := #[22, 22] }) (base : Nat) (v xv : Value) (ds es : List Dig) (hs : a.eval s = v) (hy : a.eval y = xv) (hown : OwnD base w v ds) (hx : Digs w xv es) (hsm : ds.length + es.length ≤ 1000) (hbase : base ≤ w.heap.size)
    (h : ∀ v' w', OwnD base w' v' (ds ++ es) → w.grownBy w' v.ownBlock → wpList Tryd.prog ops Q rest (a.put o.dst v') w') : wpList Tryd.prog ops Q (o :: rest) a w :=
  wpList_plain hgd fun _ hK => wp_append_digs s y ho base v xv ds es hs hy hown hx hsm hbase fun v' w' h2 h3 => hK _ _ (h v' w' h2 h3)
theorem wpListIn_append_digs {F : Fence} {n : Nat} {w : World} {ops : Array Oper} {rest : List Oper} {o : Oper} {a : Act} {Q : Exit → Act → World → Prop} (hw : Region.wanted o (yielded ops a.tmps) = true) (s y : Operand)
    (ho : o.op = .call { callee := .builtin .append, args := #[s, y], argTypes := #[22, 22] }) (base : Nat) (v xv : Value) (ds es : List Dig) (hs : a.eval s = v) (hy : a.eval y = xv) (hown : OwnD base w v ds) (hx : Digs w xv es) (hsm : ds.length + es.length ≤ 1000) (hbase : base ≤ w.heap.size)
    (h : ∀ v' w', OwnD base w' v' (ds ++ es) → w.grownBy w' v.ownBlock → wpListIn F n Tryd.prog ops Q rest (a.put o.dst v') w') : wpListIn F n Tryd.prog ops Q (o :: rest) a w := by
  obtain ⟨v', w', h1, h2, h3⟩ := run_append_digs o.type base w v xv ds es hown hx hsm hbase
  refine wpListIn_step fun K hK => ?_
  rw [if_pos hw]
  unfold Oper.wpIn
  refine ⟨?_, ?_⟩
  · simp [Oper.about, ho, resolve, Target.leads]
  · rw [Oper.semAt_plain _ _ _ (fun c => by rw [ho]; simp)]
    unfold execOp
    simp only [ho, resolve, invoke, builtin, Sem.run_bind, Sem.run_pure, Result.andThen_ok, List.map_toArray, List.map_cons, List.map_nil, hs, hy, h1]
    exact hK _ _ (h v' w' h2 h3)
end Go.Proofs.YtcmkjgodgocdfaaDoor
/- A slice of digests that is written out. -/
namespace Go.Proofs.YtcmkjgodgocdfaaDoor
open Go.RowKit

theorem fold_set (c : List Value) : ∀ (st off : Nat) (cs : Array Value) (j : Nat), ((c.zipIdx st).foldl (fun cs (p : Value × Nat) => cs.setIfInBounds (off + p.2) p.1) cs)[j]? = if off + st ≤ j ∧ j < off + st + c.length ∧ j < cs.size then c[j - off - st]? else cs[j]? := by
  induction c with
  | nil => intro st off cs j; simp; omega
  | cons x c ih =>
    intro st off cs j
    rw [List.zipIdx_cons, List.foldl_cons, ih]
    simp only [Array.size_setIfInBounds, List.length_cons, Array.getElem?_setIfInBounds]
    by_cases h1 : off + (st + 1) ≤ j ∧ j < off + (st + 1) + c.length ∧ j < cs.size
    · rw [if_pos h1, if_pos (by omega), show j - off - st = (j - off - (st + 1)) + 1 by omega, List.getElem?_cons_succ]
    · rw [if_neg h1]
      by_cases h2 : off + st = j
      · subst h2
        by_cases h3 : off + st < cs.size
        · rw [if_pos rfl, if_pos h3, if_pos (by omega), show off + st - off - st = 0 by omega]; rfl
        · rw [if_pos rfl, if_neg h3, if_neg (by omega), Array.getElem?_eq_none (by omega)]
      · rw [if_neg h2, if_neg (by omega)]
theorem fold_size (c : List Value) : ∀ (st off : Nat) (cs : Array Value), ((c.zipIdx st).foldl (fun cs (p : Value × Nat) => cs.setIfInBounds (off + p.2) p.1) cs).size = cs.size := by
  induction c with
  | nil => intro st off cs; rfl
  | cons x c ih => intro st off cs; rw [List.zipIdx_cons, List.foldl_cons, ih, Array.size_setIfInBounds]
theorem fill_digs : ∀ (ds : List Dig) (k : Nat) (cs : Array Value), All32 ds → cs.size = (k + ds.length) * 32 →
    Instr.fill (fun i => some (i * 32, 32)) cs ((ds.zipIdx k).map (fun p => (p.2, Value.agg (byteCells p.1)))) = some (cs.toList.take (k * 32) ++ ds.flatten.map bc).toArray := by
  intro ds
  induction ds with
  | nil =>
    intro k cs _ hs
    simp only [List.zipIdx_nil, List.map_nil, Instr.fill, List.flatten_nil, List.append_nil]
    rw [List.take_of_length_le (by simp at hs ⊢; omega)]
  | cons d ds ih =>
    intro k cs h32 hs
    have hd : d.length = 32 := h32 0 d rfl
    have hsz : (byteCells d).size = 32 := by rw [byteCells_size, hd]
    simp only [List.length_cons] at hs
    rw [List.zipIdx_cons, List.map_cons, Instr.fill]
    simp only [Value.cells, hsz]
    rw [if_neg (by simp; omega)]
    have e : (byteCells d).zipIdx.foldl (fun cs (p : Value × Nat) => cs.setIfInBounds (k * 32 + p.2) p.1) cs = ((byteCells d).toList.zipIdx 0).foldl (fun cs (p : Value × Nat) => cs.setIfInBounds (k * 32 + p.2) p.1) cs := by
      rw [← Array.foldl_toList]; simp
    have e' : (byteCells d).zipIdx.foldl (fun cs (x : Value × Nat) => match x with | (c, j) => cs.setIfInBounds (k * 32 + j) c) cs = ((byteCells d).toList.zipIdx 0).foldl (fun cs (p : Value × Nat) => cs.setIfInBounds (k * 32 + p.2) p.1) cs := e
    rw [e', ih (k + 1) _ (fun i x hx => h32 (i + 1) x hx) (by rw [fold_size]; omega)]
    congr 1
    apply congrArg List.toArray
    rw [List.flatten_cons, List.map_append, ← List.append_assoc]
    congr 1
    apply List.ext_getElem?
    intro j
    have hbl : (byteCells d).toList.length = 32 := by rw [byteCells_len, hd]
    rw [List.getElem?_take, Array.getElem?_toList, fold_set]
    by_cases h1 : j < k * 32
    · rw [if_pos (by omega), if_neg (by omega), List.getElem?_append_left (by rw [List.length_take, Array.length_toList]; omega), List.getElem?_take, if_pos h1, Array.getElem?_toList]
    · rw [List.getElem?_append_right (by rw [List.length_take, Array.length_toList]; omega), List.length_take, Nat.min_eq_left (show k * 32 ≤ cs.toList.length by rw [Array.length_toList]; omega)]
      by_cases h2 : j < (k + 1) * 32
      · rw [if_pos h2, if_pos (by omega), Array.getElem?_toList, byteCells_at d (j - k * 32 - 0) (by omega), List.getElem?_map, show j - k * 32 - 0 = j - k * 32 by omega, List.getElem?_eq_getElem (show j - k * 32 < d.length by omega)]; rfl
      · rw [if_neg h2, List.getElem?_eq_none (by rw [List.length_map, hd]; omega)]
theorem run_buildSlice_digs (w : World) (ds : List Dig) (parts : Array (Nat × Value)) (h32 : All32 ds) (hn : 0 < ds.length) (hl : ds.length ≤ 16) (hp : parts.toList = ds.zipIdx.map (fun p => (p.2, Value.agg (byteCells p.1)))) :
    (Instr.buildSlice 22 ds.length parts).run Tryd.prog w = .ok (.slice (some ⟨w.heap.size, 0, none⟩) ds.length ds.length) (w.alloc (.cells (ds.flatten.map bc).toArray 30)) := by
  have hfill : ∀ zero : Array Value, Instr.fill (fun i => some (i * 32, 32)) ((Array.range (ds.length * 32)).map (zero[· % zero.size]!)) parts.toList = some (ds.flatten.map bc).toArray := fun zero => by
    rw [hp]
    have := fill_digs ds 0 ((Array.range (ds.length * 32)).map (zero[· % zero.size]!)) h32 (by simp)
    simpa using this
  unfold Instr.buildSlice
  have hz : Tryd.t30.zero = some (.agg (zeroCells 32)) := by kernel_rfl
  simp only [Sem.run_bind, run_underlying Tryd.underlying22, Result.andThen]
  simp [go_sem, hfill, zeroValue, Result.andThen, hz]
  omega
theorem All32.one {d : Dig} (h : d.length = 32) : All32 [d] := fun i x hx => by
  cases i with
  | zero => simp at hx; rw [← hx]; exact h
  | succ i => simp at hx
theorem All32.two {a b : Dig} (h : a.length = 32) (k : b.length = 32) : All32 [a, b] := (All32.one h).snoc k
theorem ownD_new (base : Nat) (w : World) (ds : List Dig) (h32 : All32 ds) (hl : ds.length ≤ 16) (hb : base ≤ w.heap.size) : OwnD base (w.alloc (.cells (ds.flatten.map bc).toArray 30)) (.slice (some ⟨w.heap.size, 0, none⟩) ds.length ds.length) ds :=
  ⟨h32, by rw [List.length_map, flat_len h32], .inr ⟨_, _, _, rfl, hb, heap_alloc_new w _, Nat.le_refl _, by unfold maxLen; omega, by rw [List.size_toArray, List.length_map, flat_len h32], by rw [List.take_of_length_le (by rw [List.length_map, flat_len h32]; exact Nat.le_refl _)]⟩⟩
theorem digs_new (w : World) (ds : List Dig) (h32 : All32 ds) (hl : ds.length ≤ 16) : Digs (w.alloc (.cells (ds.flatten.map bc).toArray 30)) (.slice (some ⟨w.heap.size, 0, none⟩) ds.length ds.length) ds :=
  (ownD_new 0 w ds h32 hl (Nat.zero_le _)).digs (by simp)
/-- One digest as a slice. -/
theorem run_build_one (o : Oper) (ρ : Operand → Value) (x : Operand) (d : Dig) (w : World) (hd : d.length = 32) (ho : o.op = .buildSlice 22 1 #[(0, x)]) (hx : ρ x = .agg (byteCells d)) :
    (execOp ρ o).run Tryd.prog w = .ok (.value (.slice (some ⟨w.heap.size, 0, none⟩) 1 1)) (w.alloc (.cells (byteCells d) 30)) := by
  have := run_buildSlice_digs w [d] #[(0, .agg (byteCells d))] (All32.one hd) (by simp) (by simp) (by simp)
  have e : ([d].flatten.map bc).toArray = byteCells d := by simp [byteCells, bc]
  rw [e] at this
  unfold execOp
  simp only [ho, List.map_toArray, List.map_cons, List.map_nil, hx, Sem.run_bind]
  rw [show (Instr.buildSlice 22 1 #[(0, .agg (byteCells d))]).run Tryd.prog w = _ from this]
  rfl
theorem run_build_two (o : Oper) (ρ : Operand → Value) (x y : Operand) (d e : Dig) (w : World) (hd : d.length = 32) (he : e.length = 32) (ho : o.op = .buildSlice 22 2 #[(0, x), (1, y)]) (hx : ρ x = .agg (byteCells d)) (hy : ρ y = .agg (byteCells e)) :
    (execOp ρ o).run Tryd.prog w = .ok (.value (.slice (some ⟨w.heap.size, 0, none⟩) 2 2)) (w.alloc (.cells ([d, e].flatten.map bc).toArray 30)) := by
  have := run_buildSlice_digs w [d, e] #[(0, .agg (byteCells d)), (1, .agg (byteCells e))] (All32.two hd he) (by simp) (by simp) (by simp)
  unfold execOp
  simp only [ho, List.map_toArray, List.map_cons, List.map_nil, hx, hy, Sem.run_bind]
  rw [show (Instr.buildSlice 22 2 #[(0, .agg (byteCells d)), (1, .agg (byteCells e))]).run Tryd.prog w = _ from this]
  rfl
theorem digs_one (w : World) (d : Dig) (hd : d.length = 32) : Digs (w.alloc (.cells (byteCells d) 30)) (.slice (some ⟨w.heap.size, 0, none⟩) 1 1) [d] := by
  have := digs_new w [d] (All32.one hd) (by simp)
  have e : ([d].flatten.map bc).toArray = byteCells d := by simp [byteCells, bc]
  rwa [e] at this
theorem digs_sub {w : World} {g o : Nat} {ds : List Dig} {j m c : Nat} (h32 : All32 ds) (hin : DigsIn w g o ds) (hg : g < w.heap.size) (hjm : j + m ≤ ds.length) (hm : m ≤ c) (hc : c ≤ maxLen) :
    Digs w (.slice (some ⟨g, o + j * 32, none⟩) m c) ((ds.drop j).take m) := by
  have hl : ((ds.drop j).take m).length = m := by rw [List.length_take, List.length_drop]; omega
  have hat : ∀ i, i < m → ((ds.drop j).take m)[i]? = ds[j + i]? := fun i hi => by rw [List.getElem?_take, if_pos hi, List.getElem?_drop]
  refine ⟨fun i d hd => ?_, _, c, g, o + j * 32, by rw [hl], by omega, hc, fun _ => rfl, fun i hi => ?_, hg⟩
  · have hi : i < m := by have := (List.getElem?_eq_some_iff.1 hd).1; omega
    rw [hat i hi] at hd
    exact h32 _ d hd
  · rw [hl] at hi
    rw [hat i hi]
    have := hin (j + i) (by omega)
    rwa [show o + (j + i) * 32 = o + j * 32 + i * 32 by omega] at this
theorem Digs.at_ {w : World} {v : Value} {ds : List Dig} (h : Digs w v ds) {i : Nat} (hi : i < ds.length) : ∃ g o cap, v = .slice (some ⟨g, o, none⟩) ds.length cap ∧ w.rangeAt g (o + i * 32) (byteCells (ds[i]?.getD [])).toList ∧ g < w.heap.size := by
  obtain ⟨_, a, cap, g, o, rfl, _, _, ha, hin, hg⟩ := h
  obtain rfl := ha (by intro e; simp [e] at hi)
  exact ⟨g, o, cap, rfl, hin i hi, hg⟩
/-- An operation by its run, at its step. -/
theorem op_run {P : Program} {o : Oper} {a : Act} {w w' : World} {v : Value} {K : Act → World → Prop} {Q : Exit → Act → World → Prop} (hrun : (execOp a.eval o).run P w = .ok (.value v) w') (h : K (a.put o.dst v) w') : o.wp P a w K Q := by
  unfold Oper.wp; rw [hrun]; exact h
end Go.Proofs.YtcmkjgodgocdfaaDoor
/- The small functions of merkle, and the document's Steps. -/
namespace Go.Proofs.YtcmkjgodgocdfaaDoor
open Go.RowKit

/-- The place beside a place. -/
def oth (i : Nat) : Nat := if i % 2 = 1 then i - 1 else i + 1
/-- The steps of a place's path: does it stand right? -/
def sidesL (i n : Nat) : List Bool := if _h : 1 < n then (if oth i < n then [decide (i % 2 = 1)] else []) ++ sidesL (i / 2) ((n + 1) / 2) else []
  termination_by n
  decreasing_by omega
def mayB (n : Int) : Bool := decide (1 ≤ n) && decide (n ≤ 16)
def thereB (i n : Int) : Bool := decide (0 ≤ i) && decide (i < n)
def stepsE (i n : Int) : Int := if mayB n = false then 2 else if thereB i n = false then 4 else 0
def stepsV (i n : Int) : Int := if mayB n && thereB i n then (sidesL i.toNat n.toNat).length else 0
theorem sidesL_stop {i n : Nat} (h : ¬ 1 < n) : sidesL i n = [] := by rw [sidesL, dif_neg h]
theorem sidesL_yes {i n : Nat} (h : 1 < n) (ho : oth i < n) : sidesL i n = decide (i % 2 = 1) :: sidesL (i / 2) ((n + 1) / 2) := by rw [sidesL, dif_pos h, if_pos ho]; rfl
theorem sidesL_no {i n : Nat} (h : 1 < n) (ho : ¬ oth i < n) : sidesL i n = sidesL (i / 2) ((n + 1) / 2) := by rw [sidesL, dif_pos h, if_neg ho]; rfl
theorem sidesL_le : ∀ (n i : Nat), (sidesL i n).length ≤ n := by
  intro n
  induction n using Nat.strongRecOn with
  | _ n ih =>
    intro i
    by_cases h : 1 < n
    · have := ih ((n + 1) / 2) (by omega) (i / 2)
      by_cases ho : oth i < n
      · rw [sidesL_yes h ho, List.length_cons]; omega
      · rw [sidesL_no h ho]; omega
    · rw [sidesL_stop h]; simp
theorem xor_one (i : Nat) (h : i < 64) : bits .xor .i64 (i : Int) 1 = (oth i : Int) := by
  have key : ∀ i : Fin 64, bits .xor .i64 (i.val : Int) 1 = (oth i.val : Int) := by decide +kernel
  exact key ⟨i, h⟩

set_option maxHeartbeats 400000 in
theorem may_any (n : Int) (w : World) : Calls Tryd.prog 30 #[.int .i64 n] w fun e w' => e = .returned (.bool (mayB n)) ∧ w' = w := by
  by_cases h1 : 1 ≤ n
  · by_cases h2 : n ≤ 16
    · rw [show mayB n = true by simp [mayB, h1, h2]]
      go_enter Tryd.func30, Tryd.ntmps30
      go_wp2
      go_ret
      exact ⟨rfl, rfl⟩
    · rw [show mayB n = false by simp [mayB, h2]]
      go_enter Tryd.func30, Tryd.ntmps30
      go_wp2
      go_ret
      exact ⟨rfl, rfl⟩
  · rw [show mayB n = false by simp [mayB, h1]]
    go_enter Tryd.func30, Tryd.ntmps30
    go_wp2
    go_ret
    exact ⟨rfl, rfl⟩
set_option maxHeartbeats 400000 in
theorem there_any (i n : Int) (w : World) : Calls Tryd.prog 35 #[.int .i64 i, .int .i64 n] w fun e w' => e = .returned (.bool (thereB i n)) ∧ w' = w := by
  by_cases h1 : 0 ≤ i
  · by_cases h2 : i < n
    · rw [show thereB i n = true by simp [thereB, h1, h2]]
      go_enter Tryd.func35, Tryd.ntmps35
      go_wp2
      go_ret
      exact ⟨rfl, rfl⟩
    · rw [show thereB i n = false by simp [thereB, h2]]
      go_enter Tryd.func35, Tryd.ntmps35
      go_wp2
      go_ret
      exact ⟨rfl, rfl⟩
  · rw [show thereB i n = false by simp [thereB, h1]]
    go_enter Tryd.func35, Tryd.ntmps35
    go_wp2
    go_ret
    exact ⟨rfl, rfl⟩
set_option maxHeartbeats 400000 in
theorem other_any (i : Nat) (h : i < 64) (w : World) : Calls Tryd.prog 36 #[.int .i64 (i : Int)] w fun e w' => e = .returned (.int .i64 (oth i : Int)) ∧ w' = w := by
  have hx := xor_one i h
  go_enter Tryd.func36, Tryd.ntmps36
  go_wp2
  go_ret
  exact ⟨rfl, rfl⟩
set_option maxHeartbeats 400000 in
theorem sides_any (i n : Int) (w : World) : Calls Tryd.prog 41 #[.int .i64 i, .int .i64 n] w fun e w' =>
    e = .returned (.func (.func 46) #[] #[.pointer (some ⟨w.heap.size, 0, none⟩), .pointer (some ⟨w.heap.size + 1, 0, none⟩)]) ∧ w' = (w.alloc (.cells #[.int .i64 i] 3)).alloc (.cells #[.int .i64 n] 3) := by
  go_enter Tryd.func41, Tryd.ntmps41
  go_wp2
  go_ret
  exact ⟨rfl, rfl⟩
set_option maxHeartbeats 400000 in
theorem num_any (n : Int) (w : World) : Calls Tryd.prog 20 #[.int .i64 n] w fun e w' => e = .returned (.int .i64 n) ∧ w' = w := by
  go_enter Tryd.func20, Tryd.ntmps20
  go_wp2
  go_ret
  exact ⟨rfl, rfl⟩

set_option maxHeartbeats 1000000 in
theorem refsteps_any (i n : Int) (w : World) : Calls Tryd.prog 29 #[.int .i64 i, .int .i64 n] w fun e w' => e = .returned (.tuple #[.int .i64 (stepsV i n), .int .i64 (stepsE i n)]) ∧ w' = w := by
  unfold stepsV stepsE
  by_cases h1 : 1 ≤ n
  · by_cases h2 : n ≤ 16
    · have hm : mayB n = true := by simp [mayB, h1, h2]
      by_cases h3 : 0 ≤ i
      · by_cases h4 : i < n
        · have ht : thereB i n = true := by simp [thereB, h3, h4]
          rw [hm, ht]
          simp only [Bool.and_self, if_true, Bool.true_eq_false, if_false]
          obtain ⟨I, rfl⟩ := Int.eq_ofNat_of_zero_le h3
          obtain ⟨N, rfl⟩ := Int.eq_ofNat_of_zero_le (show 0 ≤ n by omega)
          clear hm ht
          simp only [Int.toNat_natCast]
          obtain ⟨T, hT⟩ : ∃ T, Hid (T = (sidesL I N).length) := ⟨_, rfl⟩
          rw [← hT.out]
          have hTl : T ≤ 16 := by have := sidesL_le N I; have := hT.out; omega
          go_enter Tryd.func29, Tryd.ntmps29
          go_wp2
          go_loop [0, 1, 6] (fun i n k => ∃ I N K : Nat, I < N ∧ N ≤ 16 ∧ i = .int .i64 I ∧ n = .int .i64 N ∧ k = .int .i64 K ∧ Hid (K + (sidesL I N).length = T)) (fun _ n _ => (intOf n).toNat)
          case atStart => exact ⟨I, N, 0, by omega, by omega, rfl, rfl, rfl, by have := hT.out; show _ = _; omega⟩
          case round =>
            clear h1 h2 h3 h4 hT
            obtain ⟨I', N', K, a1, a2, rfl, rfl, rfl, hk⟩ := hrel
            have hK : K ≤ 16 := by have := hk.out; omega
            by_cases hn : 1 < N'
            · have e1 : (I' : Int) % 2 = ((I' % 2 : Nat) : Int) := by omega
              by_cases ho : I' % 2 = 1
              · have hh := sidesL_yes hn (show oth I' < N' by unfold oth; rw [if_pos ho]; omega)
                have HH : Hid (K + 1 + (sidesL (I' / 2) ((N' + 1) / 2)).length = T) := by have := hk.out; rw [hh, List.length_cons] at this; show _ = _; omega
                have ei : (I' : Int) % 2 = 1 := by omega
                clear hh e1
                go_wp2
                go_round
                case rel => exact ⟨I' / 2, (N' + 1) / 2, K + 1, by omega, by omega, by go_num, by go_num, by go_num, HH⟩
                case measure => simp [intOf]; omega
              · have ei : (I' : Int) % 2 = 0 := by omega
                by_cases hl : I' + 1 < N'
                · have hh := sidesL_yes hn (show oth I' < N' by unfold oth; rw [if_neg ho]; omega)
                  have HH : Hid (K + 1 + (sidesL (I' / 2) ((N' + 1) / 2)).length = T) := by have := hk.out; rw [hh, List.length_cons] at this; show _ = _; omega
                  clear hh e1
                  go_wp2
                  go_round
                  case rel => exact ⟨I' / 2, (N' + 1) / 2, K + 1, by omega, by omega, by go_num, by go_num, by go_num, HH⟩
                  case measure => simp [intOf]; omega
                · have hh := sidesL_no hn (show ¬ oth I' < N' by unfold oth; rw [if_neg ho]; omega)
                  have HH : Hid (K + (sidesL (I' / 2) ((N' + 1) / 2)).length = T) := by have := hk.out; rw [hh] at this; exact this
                  clear hh e1
                  go_wp2
                  go_round
                  case rel => exact ⟨I' / 2, (N' + 1) / 2, K, by omega, by omega, by go_num, by go_num, by go_num, HH⟩
                  case measure => simp [intOf]; omega
            · have hh := sidesL_stop (i := I') hn
              have hKT : K = T := by have := hk.out; rw [hh] at this; simpa using this
              subst hKT
              clear hh hk
              go_wp2
              go_ret2
              exact ⟨rfl, rfl⟩
        · have ht : thereB i n = false := by simp [thereB, h4]
          rw [hm, ht]
          clear hm ht
          go_enter Tryd.func29, Tryd.ntmps29
          go_wp2
          go_ret2
          exact ⟨rfl, rfl⟩
      · have ht : thereB i n = false := by simp [thereB, h3]
        rw [hm, ht]
        clear hm ht
        go_enter Tryd.func29, Tryd.ntmps29
        go_wp2
        go_ret2
        exact ⟨rfl, rfl⟩
    · have hm : mayB n = false := by simp [mayB, h2]
      rw [hm]
      clear hm
      go_enter Tryd.func29, Tryd.ntmps29
      go_wp2
      go_ret2
      exact ⟨rfl, rfl⟩
  · have hm : mayB n = false := by simp [mayB, h1]
    rw [hm]
    clear hm
    go_enter Tryd.func29, Tryd.ntmps29
    go_wp2
    go_ret2
    exact ⟨rfl, rfl⟩
end Go.Proofs.YtcmkjgodgocdfaaDoor
/- merkle.sides: the function that is ranged over, whatever its round does; merkle.Steps. -/
namespace Go.Proofs.YtcmkjgodgocdfaaDoor
open Go.RowKit
attribute [local go_sem] Oper.semAt_some

set_option maxRecDepth 100000 in
set_option maxHeartbeats 2000000 in
theorem sides1_any (N l bi bn : Nat) (i n : Nat) (W : World) (J : Nat → World → Prop) (hin : i < n) (hn : n ≤ 16) (hi : Has W bi #[.int .i64 (i : Int)] 3) (hb : Has W bn #[.int .i64 (n : Int)] 3) (h0 : ∀ q, J 0 (W.drewN q))
    (hY : ∀ (k : Nat) (b : Bool) (W' : World), (sidesL i n)[k]? = some b → J k W' → YieldAt Fence.wide (N - 1) Tryd.prog l #[.int .i64 (k : Int), .bool b] W' fun e W'' => e = .returned (.bool true) ∧ J (k + 1) W'') :
    CallsIn Fence.wide N Tryd.prog 46 #[.func (.yield l) #[] #[], .pointer (some ⟨bi, 0, none⟩), .pointer (some ⟨bn, 0, none⟩)] W fun e W' => e = .returned (.tuple #[]) ∧ J (sidesL i n).length W' := by
  have ci := hi.one
  have cn := hb.one
  refine callsIn_of_wp Tryd.func46 rfl trivial ?_ rfl
  simp only [Tryd.ntmps46, List.size_toArray, List.length_cons, List.length_nil, Nat.reduceAdd, Nat.reduceSub, Array.replicate_succ, Array.replicate_zero, List.push_toArray, List.append_toArray, List.nil_append, List.cons_append]
  gi_wp2
  gi_quiet (fail)
  have h0' := h0 nq
  clear hi hb ci cn h0
  gi_wp2
  gi_loopw [4, 5, 6] (fun s p c wr => ∃ k p' c' : Nat, s = .int .i64 k ∧ p = .int .i64 p' ∧ c = .int .i64 c' ∧ p' < c' ∧ c' ≤ 16 ∧ k ≤ 16 ∧ Hid (sidesL i n = (sidesL i n).take k ++ sidesL p' c') ∧ Hid (k ≤ (sidesL i n).length) ∧ J k wr) (fun _ _ c _ => (intOf c).toNat)
  case atStart => exact ⟨0, i, n, rfl, rfl, rfl, hin, hn, by omega, rfl, Nat.zero_le _, h0'⟩
  case round =>
    obtain ⟨k, p, c, rfl, rfl, rfl, a1, a2, a3, hs, hk, hJ⟩ := hrel
    by_cases hc : 1 < c
    · by_cases ho : oth p < c
      · have hy0 := sidesL_yes hc ho
        have hle := sidesL_le n i
        have hs' := hs.out
        rw [hy0] at hs'
        have hget : (sidesL i n)[k]? = some (decide (p % 2 = 1)) := by
          have e1 : ((sidesL i n).take k).length = k := by rw [List.length_take]; have := hk.out; omega
          rw [hs', List.getElem?_append_right (by omega), e1, Nat.sub_self]; rfl
        have hk1 : Hid (k + 1 ≤ (sidesL i n).length) := by
          have := (List.getElem?_eq_some_iff.1 hget).1; exact this
        have hk2 : k + 1 ≤ 16 := by have := hk1.out; omega
        have hs2 : Hid (sidesL i n = (sidesL i n).take (k + 1) ++ sidesL (p / 2) ((c + 1) / 2)) := by
          show _ = _
          rw [List.take_add_one, hget]
          simpa using hs'
        have ht : thereB (oth p : Int) (c : Int) = true := by simp [thereB]; omega
        have hY1 := hY k _ _ hget hJ
        clear hs' hy0 hle hget hs hk hJ
        by_cases hp : p % 2 = 1
        · have ep : (p : Int) % 2 = 1 := by omega
          rw [decide_eq_true hp] at hY1
          obtain ⟨fn, tmps, assign, body, hy, hR⟩ := hY1
          gi_wp2_with (first
            | (refine ⟨trivial, fun h => (by cases h), ?_⟩; refine (callsIn_wide.2 (other_any p (by omega) _)).mono ?_; rintro e w' ⟨rfl, hw⟩; obtain rfl := hw.symm)
            | (refine ⟨trivial, fun h => (by cases h), ?_⟩; refine (callsIn_wide.2 (there_any (oth p : Int) (c : Int) _)).mono ?_; rintro e w' ⟨rfl, hw⟩; obtain rfl := hw.symm))
          refine ⟨fun h => (by cases h), hR.mono ?_⟩
          clear hR hy
          rintro e W3 ⟨rfl, hJ3⟩
          gi_wp2_with fail
          go_roundw
          case rel => exact ⟨k + 1, p / 2, (c + 1) / 2, by go_num, by go_num, by go_num, by omega, by omega, hk2, hs2, hk1, hJ3⟩
          case measure => simp [intOf]; omega
        · have ep : (p : Int) % 2 = 0 := by omega
          rw [decide_eq_false hp] at hY1
          obtain ⟨fn, tmps, assign, body, hy, hR⟩ := hY1
          gi_wp2_with (first
            | (refine ⟨trivial, fun h => (by cases h), ?_⟩; refine (callsIn_wide.2 (other_any p (by omega) _)).mono ?_; rintro e w' ⟨rfl, hw⟩; obtain rfl := hw.symm)
            | (refine ⟨trivial, fun h => (by cases h), ?_⟩; refine (callsIn_wide.2 (there_any (oth p : Int) (c : Int) _)).mono ?_; rintro e w' ⟨rfl, hw⟩; obtain rfl := hw.symm))
          refine ⟨fun h => (by cases h), hR.mono ?_⟩
          clear hR hy
          rintro e W3 ⟨rfl, hJ3⟩
          gi_wp2_with fail
          go_roundw
          case rel => exact ⟨k + 1, p / 2, (c + 1) / 2, by go_num, by go_num, by go_num, by omega, by omega, hk2, hs2, hk1, hJ3⟩
          case measure => simp [intOf]; omega
      · have hs2 : Hid (sidesL i n = (sidesL i n).take k ++ sidesL (p / 2) ((c + 1) / 2)) := by
          have := hs.out; rw [sidesL_no hc ho] at this; exact this
        have ht : thereB (oth p : Int) (c : Int) = false := by simp [thereB]; omega
        clear hs
        gi_wp2_with (first
          | (refine ⟨trivial, fun h => (by cases h), ?_⟩; refine (callsIn_wide.2 (other_any p (by omega) _)).mono ?_; rintro e w' ⟨rfl, hw⟩; obtain rfl := hw.symm)
          | (refine ⟨trivial, fun h => (by cases h), ?_⟩; refine (callsIn_wide.2 (there_any (oth p : Int) (c : Int) _)).mono ?_; rintro e w' ⟨rfl, hw⟩; obtain rfl := hw.symm))
        go_roundw
        case rel => exact ⟨k, p / 2, (c + 1) / 2, by go_num, by go_num, by go_num, by omega, by omega, a3, hs2, hk, hJ⟩
        case measure => simp [intOf]; omega
    · have hs' := hs.out
      rw [sidesL_stop hc, List.append_nil] at hs'
      have hkk : Hid (k = (sidesL i n).length) := by
        have := congrArg List.length hs'
        rw [List.length_take] at this
        have := hk.out
        show _ = _
        omega
      clear hs' hs
      gi_wp2
      go_end0
      exact ⟨rfl, by rw [← hkk.out]; exact hJ⟩
end Go.Proofs.YtcmkjgodgocdfaaDoor
/- merkle.Steps. -/
namespace Go.Proofs.YtcmkjgodgocdfaaDoor
open Go.RowKit
attribute [local go_sem] Oper.semAt_some

theorem Ex.low {b B : Nat} {w w' : World} (h : Ex b w w') (hb : B ≤ b) (hs : B ≤ w.heap.size) : Below B w w' := ⟨h.os, h.tape, h.output, h.size, fun k hk => h.block k (by omega) (by omega)⟩
set_option maxRecDepth 100000 in
set_option maxHeartbeats 2000000 in
theorem steps_ok (i n : Nat) (hin : i < n) (hn : n ≤ 16) (w : World) : Calls Tryd.prog 28 #[.int .i64 (i : Int), .int .i64 (n : Int)] w fun e w' => e = .returned (.tuple #[.int .i64 ((sidesL i n).length : Int), .int .i64 0]) ∧ Below w.heap.size w w' := by
  have hm : mayB (n : Int) = true := by simp [mayB]; omega
  have ht : thereB (i : Int) (n : Int) = true := by simp [thereB]; omega
  refine (callsIn_wide (n := 10)).1 ?_
  refine callsIn_of_wp_marks Tryd.func28 rfl trivial ?_ rfl
  simp only [Tryd.ntmps28, List.size_toArray, List.length_cons, List.length_nil, Nat.reduceAdd, Nat.reduceSub, Array.replicate_succ, Array.replicate_zero, List.push_toArray, List.append_toArray, List.nil_append, List.cons_append]
  gi_wp2_with (first
    | (refine ⟨trivial, ?_⟩; refine (callsIn_wide.2 (may_any (n : Int) _)).mono ?_; rintro e w' ⟨rfl, hw⟩; obtain rfl := hw.symm)
    | (refine ⟨trivial, ?_⟩; refine (callsIn_wide.2 (there_any (i : Int) (n : Int) _)).mono ?_; rintro e w' ⟨rfl, hw⟩; obtain rfl := hw.symm)
    | (refine ⟨trivial, ?_⟩; refine (callsIn_wide.2 (sides_any (i : Int) (n : Int) _)).mono ?_; rintro e w' ⟨rfl, hw⟩; obtain rfl := hw.symm))
  refine named (p := Code.wpIn _ _ _ _ _ _) ?_
  intro W0 hW0
  have hz : W0.heap.size = w.heap.size + 3 := by rw [hW0]; simp
  have hB : Below w.heap.size w W0 := by
    rw [hW0]
    repeat (first | exact Below.refl _ _ | refine Below.alloc ?_ (by simp <;> omega) _ | refine Below.setCell ?_ (by simp <;> omega) _)
  have x0 : Has W0 w.heap.size #[.int .i64 ((0 : Nat) : Int)] 3 := by
    rw [hW0]; repeat (first | (refine has_new _ _ _ _ ?_; simp; done) | refine has_old ?_)
  have x1 : Has W0 (w.heap.size + 1) #[.int .i64 (i : Int)] 3 := by
    rw [hW0]; repeat (first | (refine has_new _ _ _ _ ?_; simp; done) | refine has_old ?_)
  have x2 : Has W0 (w.heap.size + 2) #[.int .i64 (n : Int)] 3 := by
    rw [hW0]; repeat (first | (refine has_new _ _ _ _ ?_; simp; done) | refine has_old ?_)
  clear hW0 hw hm ht
  simp only [Nat.add_assoc, Nat.reduceAdd]
  refine wp_range_leave (gf := 46) (lb := #[.pointer (some ⟨w.heap.size + 1, 0, none⟩), .pointer (some ⟨w.heap.size + 2, 0, none⟩)]) rfl (Go.Proofs.enters_of Tryd.func46 (by kernel_rfl) rfl)
    (fun W3 => Has W3 w.heap.size #[.int .i64 ((sidesL i n).length : Int)] 3 ∧ Below w.heap.size w W3 ∧ W3.heap[w.heap.size + 3]? = some (.deferred (some [])) ∧ w.heap.size + 5 ≤ W3.heap.size) (fun _ _ => False) ?call ?done ?left
  case call =>
    intro fn W1 hB0 hz1 hD1 hl1
    rw [hz] at hB0 hz1 hD1 hl1 ⊢
    have hB1 : Below w.heap.size w W1 := hB.trans (hB0.mono (by omega))
    refine (sides1_any 9 (w.heap.size + 3 + 1) (w.heap.size + 1) (w.heap.size + 2) i n W1
      (fun k W => W.heap[w.heap.size + 3 + 1]? = W1.heap[w.heap.size + 3 + 1]? ∧ Has W w.heap.size #[.int .i64 (k : Int)] 3 ∧ Below w.heap.size w W ∧ W.heap[w.heap.size + 3]? = some (.deferred (some [])) ∧ w.heap.size + 5 ≤ W.heap.size)
      hin hn (x1.below hB0 (by omega)) (x2.below hB0 (by omega)) ?_ ?_).mono ?_
    · intro q
      exact ⟨rfl, (x0.below hB0 (by omega)).drewN q, hB1.trans ⟨rfl, rfl, rfl, Nat.le_refl _, fun _ _ => rfl⟩, hD1, by show _ ≤ W1.heap.size; omega⟩
    · intro k b W hk hJ
      have hk16 : k < 16 := by have := (List.getElem?_eq_some_iff.1 hk).1; have := sidesL_le n i; omega
      obtain ⟨hrec, hc, hBw, hD, hsz⟩ := hJ
      rw [hl1] at hrec ⊢
      refine (yield_in (R := fun W' => W'.heap[w.heap.size + 3 + 1]? = W.heap[w.heap.size + 3 + 1]? ∧ Has W' w.heap.size #[.int .i64 ((k + 1 : Nat) : Int)] 3 ∧ Below w.heap.size w W' ∧ W'.heap[w.heap.size + 3]? = some (.deferred (some [])) ∧ w.heap.size + 5 ≤ W'.heap.size) (Rx := fun _ _ => False) hrec rfl ?_).mono ?_
      · clear hrec hl1
        intro RR RB hrr
        have HR : Hid (W.heap[w.heap.size + 3 + 1]? = some RR) := hrr
        clear hrr
        gi_wp2
        refine ⟨HR.out, ?_⟩
        intro W5 hE5 hs5 hl5
        have hc5 : Has W5 w.heap.size #[.int .i64 (k : Int)] 3 := hc.ex hE5 (by omega)
        have c5 := hc5.one
        have hlt5 := hc5.lt
        have f5 := hc5.free 0
        have HL : Hid (W5.heap[w.heap.size + 3 + 1]? = some RB) := hl5
        clear hl5
        gi_wp2
        have hX := Ex.set w.heap.size W5 0 (.int .i64 ((k : Int) + 1))
        refine ⟨(hX.block _ (by omega) (by omega)).trans HL.out, ?_⟩
        intro W6 hE6 hs6 hl6
        have hsX := hX.size
        have hs6' := hE6.size
        refine ⟨hl6.trans HR.out.symm, (hc5.set 0 _).ex hE6 (by omega), ((hBw.trans (hE5.low (by omega) (by omega))).trans (hX.low (Nat.le_refl _) (by omega))).trans (hE6.low (by omega) (by omega)), ?_, by omega⟩
        exact (hE6.block _ (by omega) (by omega)).trans ((hX.block _ (by omega) (by omega)).trans ((hE5.block _ (by omega) (by omega)).trans hD))
      · rintro e W' (⟨rfl, h1, h2, h3, h4, h5⟩ | ⟨_, _, _, h⟩)
        · exact ⟨rfl, h1.trans hrec, h2, h3, h4, h5⟩
        · exact h.elim
    · rintro e W3 ⟨rfl, h1, h2, h3, h4, h5⟩
      exact ⟨⟨_, rfl⟩, .inl ⟨h1, h2, h3, h4, h5⟩⟩
  case left => intro c W3 W4 h; exact h.elim
  case done =>
    rintro W3 W4 ⟨h2, h3, h4, h5⟩ hE4 hs4
    rw [hz] at hE4
    have c4 := (h2.ex hE4 (by omega)).one
    have hK : W4.heap[w.heap.size + 3]? = some (.deferred (some [])) := (hE4.block _ (by omega) (by omega)).trans h4
    gi_wp2
    rw [hz]
    refine ⟨by simp, .inl ⟨_, _, rfl, run_takeDeferred hK, ?_⟩⟩
    refine ⟨_, results_tmp2 rfl _ _ _, rfl, ?_⟩
    exact (h3.trans (hE4.low (by omega) (by omega))).trans ((putObj_ex (w.heap.size + 3) W4 _).low (by omega) (by omega))
set_option maxHeartbeats 400000 in
theorem steps_arg (i n : Int) (hm : mayB n = false) (w : World) : Calls Tryd.prog 28 #[.int .i64 i, .int .i64 n] w fun e w' => e = .returned (.tuple #[.int .i64 0, .int .i64 2]) ∧ w' = w := by
  go_enter Tryd.func28, Tryd.ntmps28
  go_wp2_with (go_at_call 30; refine (may_any n _).mono ?_; rintro e w' ⟨rfl, hw⟩; obtain rfl := hw.symm)
  go_ret2
  exact ⟨rfl, rfl⟩
set_option maxHeartbeats 400000 in
theorem steps_range (i n : Int) (hm : mayB n = true) (ht : thereB i n = false) (w : World) : Calls Tryd.prog 28 #[.int .i64 i, .int .i64 n] w fun e w' => e = .returned (.tuple #[.int .i64 0, .int .i64 4]) ∧ w' = w := by
  go_enter Tryd.func28, Tryd.ntmps28
  go_wp2_with (first
    | (go_at_call 30; refine (may_any n _).mono ?_; rintro e w' ⟨rfl, hw⟩; obtain rfl := hw.symm)
    | (go_at_call 35; refine (there_any i n _).mono ?_; rintro e w' ⟨rfl, hw⟩; obtain rfl := hw.symm))
  go_ret2
  exact ⟨rfl, rfl⟩
theorem steps_any (i n : Int) (w : World) : Calls Tryd.prog 28 #[.int .i64 i, .int .i64 n] w fun e w' => e = .returned (.tuple #[.int .i64 (stepsV i n), .int .i64 (stepsE i n)]) ∧ Below w.heap.size w w' := by
  unfold stepsV stepsE
  cases hm : mayB n with
  | false => exact (steps_arg i n hm w).mono (by rintro e w' ⟨rfl, rfl⟩; exact ⟨rfl, Below.refl _ _⟩)
  | true =>
    cases ht : thereB i n with
    | false => exact (steps_range i n hm ht w).mono (by rintro e w' ⟨rfl, rfl⟩; exact ⟨rfl, Below.refl _ _⟩)
    | true =>
      simp only [mayB, thereB, Bool.and_eq_true, decide_eq_true_eq] at hm ht
      obtain ⟨I, rfl⟩ := Int.eq_ofNat_of_zero_le ht.1
      obtain ⟨N, rfl⟩ := Int.eq_ofNat_of_zero_le (show 0 ≤ n by omega)
      exact (steps_ok I N (by omega) (by omega) w).mono (by rintro e w' ⟨rfl, h⟩; exact ⟨by simp, h⟩)
end Go.Proofs.YtcmkjgodgocdfaaDoor
