/- The law ShaCopied. -/
import Derived.Test.YtkcngkkjlnadiaaDoorI1
namespace Go.Proofs.YtkcngkkjlnadiaaDoor
open Go.RowKit

theorem wpList_append_bytes_if {P : Program} {w : World} {ops : Array Oper} {rest : List Oper} {o : Oper} {a : Act} {Q : Exit → Act → World → Prop} (hw : Region.wanted o (yielded ops a.tmps) = true) (s y : Operand) (t : TypeId)
    (ho : o.op = .call { callee := .builtin .append, args := #[s, y], argTypes := #[t, t] }) (h5 : (P.info? 5).map (fun i => (i.zero, i.size, i.bytes)) = some (some (.int .u8 0), 1, 1))
    (ht : P.underlying t = some (.slice 5)) (base : Nat) (v xv : Value) (d x : List UInt8) (hs : a.eval s = v) (hy : a.eval y = xv) (hown : Own base w v d) (hx : Bytes w xv x) (hsm : d.length + x.length ≤ 100000000000000) (hbase : base ≤ w.heap.size)
    (h : ∀ v' w', Own base w' v' (d ++ x) → w.grownBy w' v.ownBlock → wpList P ops Q rest (a.put o.dst v') w') : wpList P ops Q (o :: rest) a w := by
  obtain ⟨v', w', h1, h2, h3, h4⟩ := run_append_bytes o.type h5 ht base w v xv d x hown hx hsm hbase
  unfold wpList
  rw [if_pos hw]
  refine .inl ?_
  unfold Oper.wp execOp
  simp only [ho, resolve, invoke, builtin, Sem.run_bind, Sem.run_pure, Result.andThen_ok, List.map_toArray, List.map_cons, List.map_nil, hs, hy, h1]
  exact h v' w' h2 h3

theorem copied_out (v0 v1 v2 : Value) (b one two : List UInt8) (w : World) (h0 : Bytes w v0 b) (h1 : Bytes w v1 one) (h2 : Bytes w v2 two) (hg0 : Glob w) (hout : ¬ (b.length ≤ 200 ∧ one.length ≤ 200 ∧ two.length ≤ 200)) :
    Calls Tryd.prog 13 #[v0, v1, v2] w fun e w' => e = .returned (.bool true) ∧ Below w.heap.size w w' := by
  obtain ⟨a0, c0, d0, o0, rfl, _⟩ := id h0
  obtain ⟨a1, c1, d1, o1, rfl, _⟩ := id h1
  obtain ⟨a2, c2, d2, o2, rfl, _⟩ := id h2
  by_cases k0 : b.length ≤ 200
  · by_cases k1 : one.length ≤ 200
    · have i0 : ¬ (200 : Int) < (b.length : Int) := by omega
      have i1 : ¬ (200 : Int) < (one.length : Int) := by omega
      have i2 : (200 : Int) < (two.length : Int) := by omega
      clear h0 h1 h2 hout k0 k1
      go_enter Tryd.func13, Tryd.ntmps13
      go_wp2_with fail
      refine (works_any _ hg0).mono ?_
      rintro e W ⟨rfl, hB⟩
      go_wp2_with fail
      go_ret
      exact ⟨rfl, hB⟩
    · have i0 : ¬ (200 : Int) < (b.length : Int) := by omega
      have i1 : (200 : Int) < (one.length : Int) := by omega
      clear h0 h1 h2 hout k0 k1
      go_enter Tryd.func13, Tryd.ntmps13
      go_wp2_with fail
      refine (works_any _ hg0).mono ?_
      rintro e W ⟨rfl, hB⟩
      go_wp2_with fail
      go_ret
      exact ⟨rfl, hB⟩
  · have i0 : (200 : Int) < (b.length : Int) := by omega
    clear h0 h1 h2 hout k0
    go_enter Tryd.func13, Tryd.ntmps13
    go_wp2_with fail
    refine (works_any _ hg0).mono ?_
    rintro e W ⟨rfl, hB⟩
    go_wp2_with fail
    go_ret
    exact ⟨rfl, hB⟩

set_option maxRecDepth 10000 in
set_option maxHeartbeats 1000000 in
theorem copied_walk (v0 v1 v2 : Value) (b one two : List UInt8) (w : World) (h0 : Bytes w v0 b) (h1 : Bytes w v1 one) (h2 : Bytes w v2 two) (hg0 : Glob w) :
    Calls Tryd.prog 13 #[v0, v1, v2] w fun e w' => e = .returned (.bool true) ∧ Below w.heap.size w w' := by
  by_cases hin : b.length ≤ 200 ∧ one.length ≤ 200 ∧ two.length ≤ 200
  case neg => exact copied_out v0 v1 v2 b one two w h0 h1 h2 hg0 hin
  have hgs := hg0.size
  obtain ⟨a0, c0, d0, o0, rfl, _⟩ := id h0
  obtain ⟨a1, c1, d1, o1, rfl, _⟩ := id h1
  obtain ⟨a2, c2, d2, o2, rfl, _⟩ := id h2
  have i0 : ¬ (200 : Int) < (b.length : Int) := by omega
  have i1 : ¬ (200 : Int) < (one.length : Int) := by omega
  have i2 : ¬ (200 : Int) < (two.length : Int) := by omega
  have H : Hid (b.length ≤ 200 ∧ one.length ≤ 200 ∧ two.length ≤ 200) := hin
  have H01 : Hid ((b ++ one).length ≤ 400 ∧ (b ++ two).length ≤ 400) := by have := H.out; exact ⟨by simp; omega, by simp; omega⟩
  clear hin
  go_enter Tryd.func13, Tryd.ntmps13
  go_wp2_with fail
  refine (new_any w hg0).mono ?_
  rintro e W1 ⟨rfl, hB1, hH1⟩
  go_wp2_with fail
  refine (write_any w.heap.size [] b _ W1 hH1 ((h0.of _ (Nat.le_refl _)).below hB1) (hg0.below hB1 hgs) hgs (by have := H.out; simp; omega)).mono ?_
  rintro e W2 ⟨rfl, hE2, hH2⟩
  rw [List.nil_append] at hH2
  have hB2 : Below w.heap.size w W2 := Below.ex hB1 hB1.size hE2 (Nat.le_refl _)
  clear hB1 hE2 hH1
  go_wp2_with fail
  refine (copy_any w.heap.size b W2 hH2).mono ?_
  rintro e W3 ⟨rfl, hB3, hC3⟩
  have hH3 := hH2.below hB3 hH2.lt
  have hlt : Hid (w.heap.size < W2.heap.size) := hH2.lt
  have hBa : Below w.heap.size w W3 := hB2.trans (hB3.mono hB2.size)
  clear hB2 hB3 hH2
  generalize W2.heap.size = C at *
  go_wp2_with fail
  refine (write_any w.heap.size b one _ W3 hH3 ((h1.of _ (Nat.le_refl _)).below hBa) (hg0.below hBa hgs) hgs (by have := H.out; omega)).mono ?_
  rintro e W4 ⟨rfl, hE4, hH4⟩
  have hC4 := hC3.ex hE4 (by have := hlt.out; omega)
  have hBb : Below w.heap.size w W4 := Below.ex hBa hBa.size hE4 (Nat.le_refl _)
  clear hBa hE4 hH3 hC3
  go_wp2_with fail
  refine (write_any C b two _ W4 hC4 ((h2.of _ (by have := hlt.out; omega)).below hBb) (hg0.below hBb hgs) (by have := hlt.out; omega) (by have := H.out; omega)).mono ?_
  rintro e W5 ⟨rfl, hE5, hC5⟩
  have hH5 := hH4.ex hE5 (by have := hlt.out; omega)
  have hBc : Below w.heap.size w W5 := Below.ex hBb hBb.size hE5 (by have := hlt.out; omega)
  clear hBb hE5 hH4 hC4
  go_wp2_with (go_at_call 23; refine (num_any _ _).mono ?_; rintro e w' ⟨rfl, hw⟩; obtain rfl := hw.symm; clear hw)
  refine (sum_any w.heap.size (b ++ one) W5 hH5 (hg0.below hBc hgs) (by have := H01.out; omega)).mono ?_
  rintro e W6 ⟨rfl, hB6⟩
  have hC6 := hC5.below hB6 hC5.lt
  have hBd : Below w.heap.size w W6 := hBc.trans (hB6.mono hBc.size)
  have j0 := h0.below hBd
  have j1 := h1.below hBd
  clear hBc hB6 hH5 hC5
  go_wp2_with (first
    | (refine wpList_append_bytes_if rfl _ _ 22 rfl info5 Tryd.underlying22 W6.heap.size _ _ [] b rfl rfl (Own.made _ W6 (Nat.le_refl _)) (j0.below ((Below.refl _ _).alloc (Nat.le_refl _) _)) (by have := H.out; simp; omega) (by simp) ?_; intro v1 w1 ho1 hg1; have hBy : Below W6.heap.size W6 w1 := ((Below.refl _ _).alloc (Nat.le_refl _) _).trans (grown_keeps (Own.made _ W6 (Nat.le_refl _)) hg1 (by simp)))
    | (refine wpList_append_bytes_if rfl _ _ 22 rfl info5 Tryd.underlying22 W6.heap.size _ _ b one rfl rfl ho1 (j1.below hBy) (by have := H.out; omega) hBy.size ?_; intro v2 w2 ho2 hg2))
  have hBe : Below w.heap.size w w2 := (hBd.trans (hBy.mono hBd.size)).trans ((grown_keeps ho1 hg2 hBy.size).mono hBd.size)
  have hBe6 : Below W6.heap.size W6 w2 := hBy.trans (grown_keeps ho1 hg2 hBy.size)
  have hC7 := hC6.below hBe6 hC6.lt
  have hby := ho2.bytes (by have := hBe.size; omega)
  clear hBy hg1 hg2 ho1 ho2 hBd hBe6 hC6 j0 j1
  have q1 := eq_same (shaL (b ++ one)) (shaL_length _)
  refine (refsum_any v2 (b ++ one) w2 hby (by have := H01.out; omega)).mono ?_
  rintro e W7 ⟨rfl, hB7⟩
  have hC8 := hC7.below hB7 hC7.lt
  have hBf : Below w.heap.size w W7 := hBe.trans (hB7.mono hBe.size)
  clear hB7 hBe hC7 hby
  go_wp2_with fail
  refine (sum_any C (b ++ two) W7 hC8 (hg0.below hBf hgs) (by have := H01.out; omega)).mono ?_
  rintro e W8 ⟨rfl, hB8⟩
  have hBg : Below w.heap.size w W8 := hBf.trans (hB8.mono hBf.size)
  have j0 := h0.below hBg
  have j2 := h2.below hBg
  clear hBf hB8 hC8
  go_wp2_with (first
    | (refine wpList_append_bytes_if rfl _ _ 22 rfl info5 Tryd.underlying22 W8.heap.size _ _ [] b rfl rfl (Own.made _ W8 (Nat.le_refl _)) (j0.below ((Below.refl _ _).alloc (Nat.le_refl _) _)) (by have := H.out; simp; omega) (by simp) ?_; intro v3 w3 ho3 hg3; have hBz : Below W8.heap.size W8 w3 := ((Below.refl _ _).alloc (Nat.le_refl _) _).trans (grown_keeps (Own.made _ W8 (Nat.le_refl _)) hg3 (by simp)))
    | (refine wpList_append_bytes_if rfl _ _ 22 rfl info5 Tryd.underlying22 W8.heap.size _ _ b two rfl rfl ho3 (j2.below hBz) (by have := H.out; omega) hBz.size ?_; intro v4 w4 ho4 hg4))
  have hBh : Below w.heap.size w w4 := (hBg.trans (hBz.mono hBg.size)).trans ((grown_keeps ho3 hg4 hBz.size).mono hBg.size)
  have hby := ho4.bytes (by have := hBh.size; omega)
  clear hBz hg3 hg4 ho3 ho4 hBg j0 j2
  have q2 := eq_same (shaL (b ++ two)) (shaL_length _)
  refine (refsum_any v4 (b ++ two) w4 hby (by have := H01.out; omega)).mono ?_
  rintro e W9 ⟨rfl, hB9⟩
  have hBi : Below w.heap.size w W9 := hBh.trans (hB9.mono hBh.size)
  clear hB9 hBh hby
  go_wp2_with fail
  refine (works_any _ (hg0.below hBi hgs)).mono ?_
  rintro e Wa ⟨rfl, hBj⟩
  go_wp2_with fail
  go_ret
  exact ⟨rfl, hBi.trans (hBj.mono hBi.size)⟩
end Go.Proofs.YtkcngkkjlnadiaaDoor
