/- The law ShaLong. -/
import Derived.Test.YtkcngkkjlnadiaaDoorH2
import Derived.Test.YtkcngkkjlnadiaaDoorB5
namespace Go.Proofs.YtkcngkkjlnadiaaDoor
open Go.RowKit

theorem eq_same (x : List UInt8) (hx : x.length = 32) (w : World) : (Op.equalIn 10000 25 (.agg (byteCells x)) (.agg (byteCells x))).run Tryd.prog w = .ok true w := by
  have := eq_dig x x hx hx w; rwa [beq_self_eq_true] at this

set_option maxRecDepth 10000 in
set_option maxHeartbeats 1000000 in
theorem long_walk (b : UInt8) (n : Int) (w : World) (hg0 : Glob w) :
    Calls Tryd.prog 8 #[.int .u8 (bv b), .int .i64 n] w fun e w' => e = .returned (.bool true) ∧ Below w.heap.size w w' := by
  have hgs := hg0.size
  by_cases h0 : n < 0
  · go_enter Tryd.func8, Tryd.ntmps8
    go_wp2_with fail
    refine (works_any _ hg0).mono ?_
    rintro e W ⟨rfl, hB⟩
    go_wp2_with fail
    go_ret
    exact ⟨rfl, hB⟩
  · by_cases h1 : 5000 < n
    · go_enter Tryd.func8, Tryd.ntmps8
      go_wp2_with fail
      refine (works_any _ hg0).mono ?_
      rintro e W ⟨rfl, hB⟩
      go_wp2_with fail
      go_ret
      exact ⟨rfl, hB⟩
    · obtain ⟨m, rfl⟩ : ∃ m : Nat, n = m := ⟨n.toNat, by omega⟩
      have hm : m ≤ 5000 := by omega
      have hmk := fun w => make_bytes (m : Int) m rfl (by omega) w
      have Hm : Hid (m ≤ 5000) := hm
      clear hm
      go_enter Tryd.func8, Tryd.ntmps8
      go_upto_region 4 with (fail)
      refine named (p := Code.wp _ _ _ _) ?_
      intro W1 hW1
      have hB1 : Below w.heap.size w W1 := by rw [hW1]; exact (Below.refl _ _).alloc (Nat.le_refl _) _
      have hr1 : Has W1 w.heap.size (zeroCells m) 5 := by rw [hW1]; exact has_new _ _ _ _ rfl
      clear hW1 hmk
      go_wp2_with fail
      go_loopw [6] (fun i wr => ∃ k : Nat, k ≤ m ∧ i = .int .i64 k ∧ Ex w.heap.size W1 wr ∧ ∃ c, Has wr w.heap.size c 5 ∧ Upd (zeroCells m) c 0 k (fun _ => .int .u8 (bv b))) (fun i _ => m - (intOf i).toNat)
      case atStart => exact ⟨0, by omega, rfl, Ex.refl _ _, _, hr1, Upd.zero _ _ _⟩
      case round =>
        obtain ⟨k, hk, rfl, hE, cc, hc, hU⟩ := hrel
        have hcs : cc.size = m := by rw [hU.size, zeroCells_size]
        by_cases hkm : k < m
        · have i1 : (k : Int) < m := by omega
          obtain ⟨v0, hv0⟩ := Upd.ex hU k (by rw [zeroCells_size]; exact hkm)
          have cd := (hc.cell k).trans hv0
          have fr := hc.free k
          have HK : Hid (k < m) := hkm
          clear hv0 hcs
          go_wp2_with fail
          go_roundw
          case rel => exact ⟨k + 1, HK.out, by go_num, hE.trans (Ex.set _ _ _ _), _, hc.set _ _, by have := hU.next (by rw [zeroCells_size]; have := HK.out; omega) _ rfl; rwa [Nat.zero_add] at this⟩
          case measure => have := HK.out; simp [intOf]; omega
        · obtain rfl : k = m := by omega
          have hce : cc = byteCells (List.replicate k b) := cells_eq cc _ k (by simp) hcs (fun j hj => by rw [hU.at_ j, if_pos (by omega)]; simp [hj])
          subst hce
          have hby : Bytes wr (.slice (some ⟨w.heap.size, 0, none⟩) k k) (List.replicate k b) :=
            ⟨_, k, w.heap.size, 0, by simp, by simp, fun _ => rfl, fun j hj => by rw [hc.cell, Nat.zero_add]; exact byteCells_at _ j hj, hc.lt⟩
          have hBr : Below w.heap.size w wr := Ex.to_below hB1 (by have := hr1.lt; omega) hE (Nat.le_refl _)
          have hMr := hc.lt
          have hgr := hg0.below hBr hgs
          have hrl : (List.replicate k b).length < 1000000 := by have := Hm.out; simp; omega
          clear hc hU hE hr1 hB1 hcs hkm hk
          generalize List.replicate k b = l at *
          go_wp2_with fail
          refine (sum1_any _ l wr hby hgr (by omega)).mono ?_
          rintro e W2 ⟨rfl, hB2⟩
          have hBa : Below w.heap.size w W2 := hBr.trans (hB2.mono hBr.size)
          go_wp2_with fail
          refine (refsum_any _ l W2 (hby.below hB2) (by omega)).mono ?_
          rintro e W3 ⟨rfl, hB3⟩
          have hBb : Below w.heap.size w W3 := hBa.trans (hB3.mono hBa.size)
          have q := eq_same (shaL l) (shaL_length l)
          go_wp2_with fail
          refine (works_any _ (hg0.below hBb hgs)).mono ?_
          rintro e W4 ⟨rfl, hB4⟩
          go_wp2_with fail
          go_ret
          exact ⟨rfl, hBb.trans (hB4.mono hBb.size)⟩
end Go.Proofs.YtkcngkkjlnadiaaDoor
