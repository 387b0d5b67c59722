/- The document's digest of bytes. -/
import Derived.Test.YtcmkjgodgocdfaaDoorH1
import Derived.Deep.Cut
namespace Go.Proofs.YtcmkjgodgocdfaaDoor
open Go.RowKit

def pad (d : List UInt8) (k : Nat) : List UInt8 := d ++ 128 :: List.replicate k 0
theorem pad_length (d : List UInt8) (k : Nat) : (pad d k).length = d.length + 1 + k := by simp [pad]; omega
theorem pad_next (d : List UInt8) (k : Nat) : pad d k ++ [0] = pad d (k + 1) := by simp [pad, List.replicate_succ']
def padB (d : List UInt8) (z k : Nat) : List UInt8 := pad d z ++ (List.range k).map fun j => UInt8.ofNat (d.length * 8 / 256 ^ (7 - j))
theorem padB_length (d : List UInt8) (z k : Nat) : (padB d z k).length = d.length + 1 + z + k := by simp [padB, pad_length]
theorem padB_next (d : List UInt8) (z k : Nat) : padB d z k ++ [UInt8.ofNat (d.length * 8 / 256 ^ (7 - k))] = padB d z (k + 1) := by simp [padB, List.range_succ]
theorem padB_all (d : List UInt8) : padB d ((119 - d.length % 64) % 64) 8 = d ++ tailL d.length := by
  unfold padB pad tailL
  simp

theorem ownsRow_below {w w' : World} {base e size n : Nat} {v : Value} {xs : List Value} (h : w.ownsRow base e size v n xs) (hb : Below w.heap.size w w') : w'.ownsRow base e size v n xs :=
  h.kept (row := none) ⟨hb.os, hb.tape, hb.output, hb.size, fun k hk _ => hb.block k hk⟩ (by cases hv : v.ownBlock <;> simp)
theorem crow_at {W : World} {base : Nat} {v : Value} (h : W.ownsRow base 87 1 v (wordsN true) ((wordsL true).map w32)) :
    ∃ g cap, v = .slice (some ⟨g, 0, none⟩) 64 cap ∧ g < W.heap.size ∧ ∀ j, j < 64 → W.cell? ⟨g, j, none⟩ = some (.int .u32 (wv (cubeW j))) := by
  obtain ⟨hl, hc⟩ := id h
  rcases hc with ⟨rfl, h0⟩ | ⟨g, cap, cur, rfl, hb, hg, hle, _, _, _⟩
  · simp [wordsN] at h0
  · refine ⟨g, cap, rfl, (h.lt g rfl).2, fun j hj => ?_⟩
    have := h.cells (g := g) rfl j (w32 (cubeW j)) (by simp [wordsL, hj])
    rwa [Addr.add_mid, Nat.zero_add] at this

theorem step_e1 (u t k : Nat) (h1 : t = 64 * k) (h2 : u = t + 64) : (u : Int) = ((64 * (k + 1) : Nat) : Int) := by omega
theorem step_e2 (u t L n : Nat) (h2 : u = t + 64) (h3 : t + 64 ≤ L) (h4 : L = n) : n - (intOf (Value.int .i64 (u : Int))).toNat < n - (intOf (Value.int .i64 (t : Int))).toNat := by
  show n - (u : Int).toNat < n - (t : Int).toNat
  omega

set_option maxRecDepth 10000 in
set_option maxHeartbeats 2000000 in
theorem refsum_any (v : Value) (d : List UInt8) (w : World) (hv : Bytes w v d) (hsm : d.length < 1000000000) :
    Calls Tryd.prog 43 #[v] w fun e w' => e = .returned (.agg (byteCells (shaL d))) ∧ Below w.heap.size w w' := by
  obtain ⟨av, cv, dbv, ov, rfl, _⟩ := id hv
  have H : Hid (d.length < 1000000000) := hsm
  clear hsm
  go_enter Tryd.func43, Tryd.ntmps43
  go_upto_region 1 with (fail)
  refine named (p := Code.wp _ _ _ _) ?_
  intro W0 hW0
  have hB0 : Below w.heap.size w W0 := by rw [hW0]; exact (Below.refl _ _).alloc (Nat.le_refl _) _
  have hz0 : Hid (W0.heap.size = w.heap.size + 1) := by show _ = _; rw [hW0]; simp
  have hr0 : Has W0 w.heap.size (zeroCells 32) 30 := by rw [hW0]; exact has_new _ _ _ _ rfl
  have hv0 : Bytes W0 (.slice av d.length cv) d := hv.below hB0
  clear hW0 hv
  go_wp2_with (first
    | (refine wpList_append_bytes rfl _ _ 77 rfl info5 Tryd.underlying77 W0.heap.size _ _ [] d rfl rfl (Own.made _ W0 (Nat.le_refl _)) (hv0.below ((Below.refl _ _).alloc (Nat.le_refl _) _)) (by have := H.out; simp; omega) (by simp) ?_; intro v1 w1 ho1 hg1)
    | (refine wpList_append_bytes rfl _ _ 77 rfl info5 Tryd.underlying77 W0.heap.size _ _ d [128] rfl rfl (ho1.alloc _) (bytes_one w1 128) (by have := H.out; simp; omega) (by have := hg1.size; simp at this ⊢; omega) ?_; intro v2 w2 ho2 hg2))
  have hB2 : Below W0.heap.size W0 w2 := by
    have a1 : Below W0.heap.size W0 w1 := ((Below.refl _ _).alloc (Nat.le_refl _) _).trans (grown_keeps (Own.made _ W0 (Nat.le_refl _)) hg1 (by simp))
    exact (a1.alloc a1.size _).trans (grown_keeps (ho1.alloc _) hg2 (by have := a1.size; simp; omega))
  clear hg1 hg2 ho1 hv0
  obtain ⟨z, hz⟩ : ∃ z : Nat, Hid (z = (119 - d.length % 64) % 64) := ⟨_, rfl⟩
  have hz64 : Hid (z < 64) := by show _ < _; have := hz.out; omega
  go_loopw [3] (fun v wr => ∃ k : Nat, k ≤ z ∧ Own W0.heap.size wr v (pad d k) ∧ Below W0.heap.size W0 wr) (fun v _ => d.length + 1 + z - sliceLen v)
  case atStart => exact ⟨0, by omega, ho2, hB2⟩
  case round =>
    clear ho2 hB2
    obtain ⟨k, hk, ho, hB⟩ := hrel
    obtain ⟨a, c, rfl⟩ := ho.slice
    have hlen := pad_length d k
    obtain ⟨m, hm⟩ : ∃ m, m = (pad d k).length := ⟨_, rfl⟩
    rw [← hm] at ho hlen ⊢
    have HM : Hid (m = (pad d k).length) := hm
    clear hm
    obtain ⟨r, hr⟩ : ∃ r : Nat, r = m % 64 := ⟨_, rfl⟩
    have r1 : ((m : Int).tmod 64) = (r : Int) := by rw [Int.tmod_eq_emod_of_nonneg (by omega)]; omega
    have r2 : (m : Int) % 64 = (r : Int) := by omega
    by_cases hkz : k < z
    · have hne : ¬ (r : Int) = 56 := by have := hz.out; omega
      have HK : Hid (k < z ∧ m = d.length + 1 + k) := ⟨hkz, hlen⟩
      clear hr hlen
      go_wp2_with (refine wpList_append_bytes rfl _ _ 77 rfl info5 Tryd.underlying77 W0.heap.size _ _ (pad d k) [0] rfl rfl (ho.alloc _) (bytes_one wr 0) (by have := H.out; have := HK.out; have := hz64.out; simp [pad_length]; omega) (by have := hB.size; simp; omega) ?_; intro v2 w2 ho2 hg2)
      have hB2 : Below W0.heap.size W0 w2 := (hB.alloc hB.size _).trans (grown_keeps (ho.alloc _) hg2 (by have := hB.size; simp; omega))
      rw [pad_next] at ho2
      go_roundw
      case rel => exact ⟨k + 1, HK.out.1, ho2, hB2⟩
      case measure => have := HK.out; rw [ho2.len, pad_length]; simp [sliceLen]; omega
    · obtain rfl : k = z := by omega
      have hne : (r : Int) = 56 := by have := hz.out; omega
      obtain rfl : r = 56 := by omega
      rw [show (((56 : Nat) : Int)) = 56 from rfl] at r1 r2
      have HL : Hid (m = d.length + 1 + k) := hlen
      clear hr hlen hne hkz hk
      have n8 : IntKind.u64.wrap (d.length : Int) = nv d.length := wr64 _ (by have := H.out; omega)
      have n9 : IntKind.u64.wrap (nv d.length * 8) = nv (d.length * 8) := by rw [IntKind.wrap_u64]; have := H.out; unfold nv; omega
      have n10 : (nv d.length * 8) % 18446744073709551616 = nv (d.length * 8) := by have := H.out; unfold nv; omega
      have n11 : (d.length : Int) % 18446744073709551616 = nv d.length := by have := H.out; unfold nv; omega
      go_wp2_with fail
      have hoS : Own W0.heap.size wr (Value.slice a m c) (padB d k 0) := by simpa [padB] using ho
      clear n8 n9 n10 n11 r1 r2 ho HM HL
      generalize wr = Wa at *
      go_loopw [3, 5] (fun v i wr => ∃ j : Nat, j ≤ 8 ∧ i = .int .i64 (7 - (j : Int)) ∧ Own W0.heap.size wr v (padB d k j) ∧ Below W0.heap.size W0 wr) (fun _ i _ => (intOf i + 1).toNat)
      case atStart => exact ⟨0, by omega, rfl, hoS, hB⟩
      case round =>
        clear hoS hB
        obtain ⟨j, hj, rfl, ho, hB⟩ := hrel
        obtain ⟨a', c', rfl⟩ := ho.slice
        have hlen := padB_length d k j
        obtain ⟨l, hl⟩ : ∃ l, l = (padB d k j).length := ⟨_, rfl⟩
        rw [← hl] at ho hlen ⊢
        have HL : Hid (l = d.length + 1 + k + j) := hlen
        clear hl hlen
        by_cases hj8 : j < 8
        · obtain ⟨p, hp⟩ : ∃ p : Nat, p = 7 - j := ⟨_, rfl⟩
          rw [show (7 - (j : Int)) = (p : Int) by omega]
          obtain ⟨q, hq⟩ : ∃ q : Nat, q = 8 * p := ⟨_, rfl⟩
          have q1 : IntKind.i64.wrap (8 * (p : Int)) = (q : Int) := by rw [IntKind.wrap_i64]; omega
          have q2 : IntKind.u64.wrap (q : Int) = (q : Int) := by rw [IntKind.wrap_u64]; omega
          have q3 : (8 * (p : Int)) = (q : Int) := by omega
          have q4 : (q : Int) < 64 := by omega
          have HQ : Hid (q = 8 * p ∧ p = 7 - j ∧ j < 8) := ⟨hq, hp, hj8⟩
          clear hq hp
          obtain ⟨M, hM⟩ : ∃ M : Nat, M = d.length * 8 / 2 ^ q := ⟨_, rfl⟩
          have s1 : nv (d.length * 8) / 2 ^ q = nv M := by rw [hM]; unfold nv; simp
          have s2 : (nv M).tmod 256 = nv (M % 256) := by unfold nv; rw [Int.tmod_eq_emod_of_nonneg (by omega)]; omega
          have s3 : nv (M % 256) % 256 = bv (UInt8.ofNat M) := by rw [nm_lo]; congr 1; apply UInt8.toNat_inj.1; simp
          have HB : Hid (UInt8.ofNat M = UInt8.ofNat (d.length * 8 / 256 ^ (7 - j))) := by
            show _ = _
            have := HQ.out
            rw [hM, this.1, Nat.pow_mul, this.2.1]
          clear hM
          generalize UInt8.ofNat M = B at *
          go_wp2_with (refine wpList_append_bytes rfl _ _ 77 rfl info5 Tryd.underlying77 W0.heap.size _ _ (padB d k j) [B] rfl rfl (ho.alloc _) (bytes_one wr B) (by have := H.out; have := hz64.out; have := HQ.out; simp [padB_length]; omega) (by have := hB.size; simp; omega) ?_; intro v3 w3 ho3 hg3)
          have hB3 : Below W0.heap.size W0 w3 := (hB.alloc hB.size _).trans (grown_keeps (ho.alloc _) hg3 (by have := hB.size; simp; omega))
          rw [HB.out, padB_next] at ho3
          go_roundw
          case rel => exact ⟨j + 1, by have := HQ.out; omega, congrArg (Value.int .i64) (by have := HQ.out; omega), ho3, hB3⟩
          case measure => have := HQ.out; simp [intOf]
        · obtain rfl : j = 8 := by omega
          rw [show (7 - ((8 : Nat) : Int)) = -1 from rfl]
          have hall : Hid (padB d k 8 = d ++ tailL d.length) := by show _ = _; rw [hz.out]; exact padB_all d
          rw [hall.out] at ho
          clear hj8 hj
          go_wp2_with fail
          refine (words_any false _).mono ?_
          rintro e W3 ⟨sv, rfl, hs3, hB3⟩
          go_wp2_with fail
          refine (words_any true _).mono ?_
          rintro e W4 ⟨cw, rfl, hc4, hB4⟩
          have hs4 : W4.ownsRow W0.heap.size 87 1 sv 8 (srow (stN (d ++ tailL d.length) 0)) := ownsRow_mono (ownsRow_below hs3 hB4) hB.size
          obtain ⟨g1, c1, rfl, hg1, hcu⟩ := crow_at hc4
          obtain ⟨ga, ca, ea, _, hga, hca, hin⟩ := Own.at_ ho (by simp [tailL])
          obtain ⟨rfl, rfl, rfl⟩ : a' = some ⟨ga, 0, none⟩ ∧ l = (d ++ tailL d.length).length ∧ c' = ca := by simpa using ea
          have hBr4 : Below wr.heap.size wr W4 := hB3.trans (hB4.mono hB3.size)
          have hin4 : BytesIn W4 ga 0 (d ++ tailL d.length) := fun j hj => (hBr4.cell (p := ⟨ga, 0 + j, none⟩) hga).trans (hin j hj)
          have hga4 : ga < W4.heap.size := Nat.lt_of_lt_of_le hga hBr4.size
          have hB04 : Below W0.heap.size W0 W4 := hB.trans (hBr4.mono hB.size)
          clear ea ho hin hga hs3 hc4 hB3 hB4 hBr4 hB hall HL
          obtain ⟨nb, hnb⟩ : ∃ nb : Nat, 64 * nb = (d ++ tailL d.length).length := ⟨(d ++ tailL d.length).length / 64, by have := tail_whole d.length; rw [List.length_append]; omega⟩
          have hsm4 : Hid ((d ++ tailL d.length).length < 2000000000) := by show _ < _; rw [List.length_append, tailL_length]; have := H.out; omega
          have Hsha : Hid (shaL d = digL (stN (d ++ tailL d.length) nb)) := by show shaL d = _; unfold shaL; rw [← hnb]; congr 2; omega
          generalize d ++ tailL d.length = all at *
          have HNB : Hid (64 * nb = all.length) := hnb
          obtain ⟨L, hL⟩ : ∃ L, L = all.length := ⟨_, rfl⟩
          rw [← hL] at hca ⊢
          have HL : Hid (L = all.length) := hL
          clear hnb hL
          go_wp2_with fail
          go_loopw [6, 8] (fun s i wr => ∃ k : Nat, k ≤ nb ∧ i = .int .i64 ((64 * k : Nat) : Int) ∧ wr.ownsRow W0.heap.size 87 1 s 8 (srow (stN all k)) ∧ Below W4.heap.size W4 wr) (fun _ i _ => all.length - (intOf i).toNat)
          case atStart => exact ⟨0, by omega, rfl, hs4, Below.refl _ _⟩
          case round =>
            clear hs4
            obtain ⟨k2, hk2, rfl, how, hB⟩ := hrel
            obtain ⟨gs, cs, rfl, hgs0, hgs1, hcs, hcel⟩ := srow_at how
            by_cases hkn : k2 < nb
            · obtain ⟨t, ht⟩ : ∃ t : Nat, t = 64 * k2 := ⟨_, rfl⟩
              rw [← ht]
              have HT : Hid (t = 64 * k2 ∧ t + 64 ≤ L ∧ L < 2000000000) := ⟨ht, by have := HNB.out; have := HL.out; omega, by have := hsm4.out; have := HL.out; omega⟩
              have t1 : (t : Int) < L := by have := HT.out; omega
              obtain ⟨u, hu⟩ : ∃ u : Nat, u = t + 64 := ⟨_, rfl⟩
              have t2 : (u : Int) ≤ c' := by have := HT.out; omega
              have t3 : (t : Int) ≤ (u : Int) := by omega
              have t4 : wrap64 ((t : Int) + 64) = (u : Int) := by unfold wrap64; have := HT.out; omega
              have t5 : IntKind.i64.wrap ((t : Int) + 64) = (u : Int) := by rw [IntKind.wrap_i64]; have := HT.out; omega
              have t6 : ¬ c' = t := by have := HT.out; omega
              have t7 : u - t = 64 := by omega
              have t8 : t ≤ u := by omega
              have t9 : u ≤ c' := by have := HT.out; omega
              have HU : Hid (u = t + 64) := hu
              clear hu
              have bl : ((all.drop t).take 64).length = 64 := by have := HT.out; have := HL.out; simp; omega
              have hbl : BytesIn wr ga t ((all.drop t).take 64) := fun j hj => by
                rw [bl] at hj
                have hj2 : t + j < all.length := by have := HT.out; have := HL.out; omega
                have := (hB.cell (p := ⟨ga, 0 + (t + j), none⟩) hga4).trans (hin4 (t + j) hj2)
                rw [Nat.zero_add] at this
                rw [this, List.getElem?_take_of_lt hj, List.getElem?_drop]
              have hblk := block_any (stN all k2) _ bl gs cs g1 c1 ga t (c' - t) wr hcel hgs1 (fun j hj => (hB.cell (p := ⟨g1, j, none⟩) hg1).trans (hcu j hj)) (Nat.lt_of_lt_of_le hg1 hB.size) hbl (Nat.lt_of_lt_of_le hga4 hB.size)
              have Hst : Hid (stN all (k2 + 1) = comp (stN all k2) ((all.drop t).take 64)) := by show _ = _; rw [(show t = 64 * k2 from HT.out.1)]; rfl
              clear ht hcel hin4 hcu hbl bl
              generalize (all.drop t).take 64 = blk at *
              go_wp2_with fail
              refine hblk.mono ?_
              rintro e W5 ⟨v5, rfl, ho5, hB5⟩
              have HN : Hid (k2 + 1 ≤ nb) := hkn
              have E1 : Hid ((u : Int) = ((64 * (k2 + 1) : Nat) : Int)) := step_e1 u t k2 HT.out.1 HU.out
              have E2 : Hid (all.length - (intOf (Value.int .i64 (u : Int))).toNat < all.length - (intOf (Value.int .i64 (t : Int))).toNat) := by
                exact step_e2 u t L all.length HU.out HT.out.2.1 HL.out
              have hB15 : Below W4.heap.size W4 W5 := hB.trans (hB5.mono hB.size)
              have ho6 : W5.ownsRow W0.heap.size 87 1 v5 8 (srow (stN all (k2 + 1))) := by rw [Hst.out]; exact ownsRow_mono ho5 (Nat.le_trans hB04.size hB.size)
              clear ho5 hB5 hblk
              go_wp2_with fail
              go_roundw
              case rel => exact ⟨k2 + 1, HN.out, congrArg (Value.int .i64) E1.out, ho6, hB15⟩
              case measure => exact E2.out
            · obtain rfl : k2 = nb := by omega
              have e1 : ((64 * k2 : Nat) : Int) = (L : Int) := by have := HNB.out; have := HL.out; omega
              rw [e1]
              have hBw : Below W0.heap.size W0 wr := hB04.trans (hB.mono hB04.size)
              have hr : Has wr w.heap.size (zeroCells 32) 30 := hr0.below hBw (by have := hz0.out; omega)
              have hBf : Below w.heap.size w wr := hB0.trans (hBw.mono hB0.size)
              generalize stN all k2 = st at *
              clear e1 how hB hB04 hin4 hcu hg1 hga4 hca HNB HL hBw hB0 hr0 hkn hk2 hsm4 hz hz64 hz0
              go_upto_region 15 with (fail)
              refine named (p := Code.wp _ _ _ _) ?_
              intro W6 hW6
              have hB6 : Below wr.heap.size wr W6 := by rw [hW6]; exact (Below.refl _ _).alloc (Nat.le_refl _) _
              have h6 : Has W6 wr.heap.size (zeroCells 32) 30 := by rw [hW6]; exact has_new _ _ _ _ rfl
              have hr6 : Has W6 w.heap.size (zeroCells 32) 30 := hr.below hB6 hr.lt
              have hBf6 : Below w.heap.size w W6 := hBf.trans (hB6.mono hBf.size)
              have hcel6 : Hid (∀ j, j < 8 → W6.cell? ⟨gs, j, none⟩ = some (.int .u32 (wv (st.get j)))) := fun j hj => (hB6.cell (p := ⟨gs, j, none⟩) hgs1).trans (hcel j hj)
              have hgsM : Hid (gs < wr.heap.size ∧ gs < W6.heap.size) := ⟨hgs1, Nat.lt_of_lt_of_le hgs1 hB6.size⟩
              have hrM : Hid (w.heap.size < wr.heap.size) := hr.lt
              clear hW6 hcel hgs1 hB6 hr hBf
              generalize wr.heap.size = M at *
              go_wp2_with fail
              go_loopw [10] (fun i wr => ∃ k : Nat, k ≤ 32 ∧ i = .int .i64 k ∧ Ex M W6 wr ∧ ∃ c, Has wr M c 30 ∧ Upd (zeroCells 32) c 0 k (fun j => .int .u8 (bv (digB st j)))) (fun i _ => 32 - (intOf i).toNat)
              case atStart => exact ⟨0, by omega, rfl, Ex.refl _ _, _, h6, Upd.zero _ _ _⟩
              case round =>
                obtain ⟨k3, hk3, rfl, hE, cc, hc, hU⟩ := hrel
                have hcs : cc.size = 32 := by rw [hU.size, zeroCells_size]
                by_cases hk32 : k3 < 32
                · obtain ⟨p, hp⟩ : ∃ p : Nat, p = k3 / 4 := ⟨_, rfl⟩
                  obtain ⟨r, hr⟩ : ∃ r : Nat, r = k3 % 4 := ⟨_, rfl⟩
                  obtain ⟨r8, hr8⟩ : ∃ x : Nat, x = 8 * r := ⟨_, rfl⟩
                  obtain ⟨q, hq⟩ : ∃ q : Nat, q = 24 - r8 := ⟨_, rfl⟩
                  have i1 : (k3 : Int) < 32 := by omega
                  have i2 : (p : Int) < 8 := by omega
                  have p1 : (k3 : Int).tdiv 4 = (p : Int) := by rw [Int.tdiv_eq_ediv_of_nonneg (by omega)]; omega
                  have p2 : (k3 : Int).tmod 4 = (r : Int) := by rw [Int.tmod_eq_emod_of_nonneg (by omega)]; omega
                  have p1' : (k3 : Int) / 4 = (p : Int) := by omega
                  have p2' : (k3 : Int) % 4 = (r : Int) := by omega
                  have p3 : 8 * (r : Int) = (r8 : Int) := by omega
                  have p4 : 24 - (r8 : Int) = (q : Int) := by omega
                  have p5 : IntKind.u64.wrap (q : Int) = (q : Int) := by rw [IntKind.wrap_u64]; omega
                  have p6 : (q : Int) < 32 := by omega
                  have cl : wr.cell? ⟨gs, p, none⟩ = some (.int .u32 (wv (st.get p))) := by
                    rw [World.cell?_of_block (w := W6) (hE.block gs hgsM.out.2 (by have := hgsM.out.1; omega))]; exact hcel6.out p (by omega)
                  obtain ⟨v0, hv0⟩ := Upd.ex hU k3 (by rw [zeroCells_size]; exact hk32)
                  have cd := (hc.cell k3).trans hv0
                  have fr := hc.free k3
                  have hx1 := wm_shr (st.get p) q
                  have hx2 : (wv (st.get p >>> q)).tmod 256 % 256 = bv (lo (st.get p >>> q)) := by
                    rw [← bm_lo, Int.tmod_eq_emod_of_nonneg (wv_nonneg _)]; omega
                  have HD : Hid (digB st k3 = lo (st.get p >>> q)) := by
                    show digB st k3 = _
                    unfold digB
                    rw [← hp, ← hr]; congr 2; omega
                  have HK : Hid (k3 < 32) := hk32
                  clear hp hr hr8 hq hk32 hv0 hcs
                  generalize st.get p >>> q = y at *
                  generalize st.get p = x at *
                  go_wp2_with fail
                  go_roundw
                  case rel => exact ⟨k3 + 1, HK.out, by go_num, hE.trans (Ex.set _ _ _ _), _, hc.set _ _, by have := hU.next (by rw [zeroCells_size]; have := HK.out; omega) _ (show Value.int .u8 (bv (lo y)) = Value.int .u8 (bv (digB st k3)) by rw [HD.out]); rwa [Nat.zero_add] at this⟩
                  case measure => have := HK.out; simp [intOf]; omega
                · obtain rfl : k3 = 32 := by omega
                  have hce : cc = byteCells (digL st) := cells_eq cc (digL st) 32 (digL_length st) hcs (fun j hj => by rw [hU.at_ j, if_pos (by omega), digL_get st j hj]; rfl)
                  subst hce
                  rw [← Hsha.out] at hc
                  have hr7 := hr6.ex hE (by have := hrM.out; omega)
                  have hBe : Below w.heap.size w wr := Ex.to_below hBf6 hBf6.size hE (by have := hrM.out; omega)
                  have hb32 : (byteCells (shaL d)).size = 32 := by rw [byteCells_size, shaL_length]
                  clear hE hr6 hcel6 h6 hU hcs Hsha
                  go_wp2_with (first
                    | refine wpList_load_row rfl 30 _ rfl M rfl 30 _ (0, 0) _ hc Tryd.underlying30 rfl (by rw [hb32]; kernel_rfl) ?_
                    | refine wpList_store_row rfl 30 _ _ rfl w.heap.size _ rfl rfl 30 _ hr7 (by rw [hb32]; kernel_rfl) (by rw [hb32, zeroCells_size]) (byteCells_one _) ?_)
                  refine bodyPost_ret (results_cell_row rfl _ _ w.heap.size 30 _ (0, 0) _ rfl (setRow_heap _ _ _ _ _ _ hr7) Tryd.underlying30 rfl (by rw [hb32]; kernel_rfl)) rfl ?_
                  exact ⟨rfl, hBe.trans ⟨rfl, rfl, rfl, by simp, fun j hj => setRow_other _ _ _ _ (by omega)⟩⟩
end Go.Proofs.YtcmkjgodgocdfaaDoor
