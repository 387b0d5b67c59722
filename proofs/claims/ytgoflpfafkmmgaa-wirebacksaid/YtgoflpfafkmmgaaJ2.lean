/- What is laid by one call: texts, truths, raw ones. -/
import Derived.Test.YtgoflpfafkmmgaaJ1
namespace Go.Proofs.Ytgoflpfafkmmgaa
open Go.RowKit

/-- A conversion at a step of a region that draws its order, by its run. -/
theorem step_convert_run {P : Program} {ops : Array Oper} {o : Oper} {a : Act} {w w' : World} {K : Act → World → Prop} {Q : Exit → Act → World → Prop} {E : Prop} (hgd : o.guard = none)
    (src dst : TypeId) (x : Operand) (ho : o.op = .convert src dst x) (v0 v : Value) (hx : a.eval x = v0) (hrun : (convert src dst v0).run P w = .ok v w') (h : K (a.put o.dst v) w') :
    if Region.wanted o (yielded ops a.tmps) = true then Oper.wp P o a w K Q else E := by
  have hw : Region.wanted o (yielded ops a.tmps) = true := by simp [Region.wanted, hgd]
  rw [if_pos hw]
  unfold Oper.wp execOp
  simp only [ho, hx, Sem.run_bind, hrun, Sem.run_pure, Result.andThen_ok]
  exact h
set_option maxRecDepth 10000 in
set_option maxHeartbeats 2000000 in
theorem lay_3 (p : Nat) (v : Value) (bs x : List UInt8) (n : Int) (w : World) (hW : Wr w p v bs) (hfit : bs.length + (bytL x).length ≤ 1048576) (xa : Option Addr) (xc : Nat) (hx : InAp (WS p v) w (.slice xa x.length xc) x) (hsm : x.length ≤ 1000000000) :
    Calls Try.prog 13 #[.pointer (some ⟨p, 0, none⟩), .agg #[.int .i64 3, .int .i64 n, .slice xa x.length xc]] w fun e w' => LayR w w' p v bs (some (bytL x)) e := by
  have hS := hW.lt
  go_enter Try.func13, Try.ntmps13
  go_wp2_with fail
  refine named (p := Code.wp _ _ _ _) ?_
  intro W0 hW0
  have hB0 : Below w.heap.size w W0 := by rw [hW0]; exact (Below.refl _ _).alloc (Nat.le_refl _) _
  have hX0 : Has W0 w.heap.size #[.int .i64 3, .int .i64 n, .slice xa x.length xc] 29 := by rw [hW0]; exact has_new _ _ _ _ rfl
  clear hW0
  have hW1 := hW.below hB0
  have hdrew := hW1.drew
  have hnS : ¬ WS p v w.heap.size := fun e => by have := hS _ e; omega
  have hx1 := hx.below hB0
  have c2 := hX0.cell 2
  simp at c2
  have hw0 : 0 < W0.heap.size := by have := hX0.lt; omega
  have hb1 : Bytes W0 (.slice xa x.length xc) x := hx1.in_.bytes (Below.refl _ _) hw0
  have hcv' : (convert 27 9 (.slice xa x.length xc)).run Try.prog W0.drew = .ok (.string ⟨x.toArray⟩) W0.drew := bytes_string Try.underlying27 Try.underlying5 Try.underlying9 W0.drew _ x (hb1.below ⟨rfl, rfl, rfl, Nat.le_refl _, fun _ _ => rfl⟩)
  have hbs : ∀ W, Bytes W (.slice xa x.length xc) x → (convert 27 9 (.slice xa x.length xc)).run Try.prog W = .ok (.string ⟨x.toArray⟩) W := fun W hb => bytes_string Try.underlying27 Try.underlying5 Try.underlying9 W _ x hb
  have c3 := hbs W0 hb1
  go_region_held3 (fun W => W.cell? ⟨w.heap.size, 2, none⟩ = some (.slice xa x.length xc) ∧ (convert 27 9 (.slice xa x.length xc)).run Try.prog W = .ok (.string ⟨x.toArray⟩) W) (first | exact ⟨c2, c3⟩ | exact ⟨c2, hcv'⟩ | exact ⟨hk1, hk1'⟩ | exact ⟨hk2, hk2'⟩)
    ((first | (go_at_call 19; refine (wtext_any p v bs x _ (by first | exact hW1 | exact hdrew) hsm).mono ?_; intro e w1 hl; obtain ⟨rfl, v1, hW2, hF2, hL2⟩ := hl.ok hfit; have hF2' : Fr (WS p v) W0 w1 := ⟨hF2.os, hF2.tape, hF2.output, hF2.size, hF2.block⟩; have hL2' : Loc W0 v v1 := hL2; have hX1 := hX0.fr hF2' hnS; have hk1 : w1.cell? ⟨w.heap.size, 2, none⟩ = some (.slice xa x.length xc) := hX1.cell 2; have hin1 : In w1 (.slice xa x.length xc) x := (hx1.fr' hF2').in_; have hk1' := hbs w1 (hin1.bytes (Below.refl _ _) (by have := hX1.lt; omega))) | (go_at_call 39; refine (refbytes_any _ x _ hin1 hsm).mono ?_; rintro e w2 ⟨y, rfl, hN2⟩; have hk2 : w2.cell? ⟨w.heap.size, 2, none⟩ = some (.slice xa x.length xc) := (hN2.below.cell (p := ⟨w.heap.size, 2, none⟩) hX1.lt).trans (hX1.cell 2); have hk2' := hbs w2 (hin1.bytes hN2.below (by have := hX1.lt; have := hN2.below.size; omega)); have HN2 : Hid (New w1 w2 y (bytL x)) := hN2; obtain ⟨ya, yc, hy⟩ := hN2.own.slice; subst hy; clear hN2)))
  go_wp2_with fail
  go_ret3
  exact LayR.mk hB0 hW2 hF2' hL2' HN2.out
set_option maxRecDepth 10000 in
set_option maxHeartbeats 2000000 in
theorem lay_4true (p : Nat) (v : Value) (bs : List UInt8) (n : Int) (hn : ¬ n = 0) (w : World) (hW : Wr w p v bs) (hfit : bs.length + 1 ≤ 1048576) (xa : Option Addr) (xl xc : Nat) :
    Calls Try.prog 13 #[.pointer (some ⟨p, 0, none⟩), .agg #[.int .i64 4, .int .i64 n, .slice xa xl xc]] w fun e w' => LayR w w' p v bs (some [1]) e := by
  go_enter Try.func13, Try.ntmps13
  go_wp2_with fail
  refine named (p := fun X => Calls _ _ _ X _) ?_
  intro W0 hW0
  have hB0 : Below w.heap.size w W0 := by rw [hW0]; exact (Below.refl _ _).alloc (Nat.le_refl _) _
  clear hW0
  refine (wtruth_any p v bs true W0 (hW.below hB0)).mono ?_
  intro e w1 hl
  rw [show (if (true : Bool) = true then (1 : UInt8) else 0) = 1 from rfl] at hl
  obtain ⟨rfl, v1, hW2, hF2, hL2⟩ := hl.ok (by simpa using hfit)
  clear hl
  go_wp2_with fail
  go_ret3
  have hN : New w1 (w1.alloc (.cells #[bc 1] 5)) (.slice (some ⟨w1.heap.size, 0, none⟩) 1 1) [1] :=
    ⟨⟨rfl, .inr ⟨w1.heap.size, 1, #[bc 1], rfl, Nat.zero_le _, has_new _ _ _ _ rfl, Nat.le_refl _, by decide, rfl, rfl⟩⟩, fun k hk => by simp [Value.ownBlock] at hk; omega, (Below.refl _ _).alloc (Nat.le_refl _) _⟩
  exact LayR.mk hB0 hW2 hF2 hL2 hN
set_option maxRecDepth 10000 in
set_option maxHeartbeats 2000000 in
theorem lay_4false (p : Nat) (v : Value) (bs : List UInt8) (n : Int) (hn : n = 0) (w : World) (hW : Wr w p v bs) (hfit : bs.length + 1 ≤ 1048576) (xa : Option Addr) (xl xc : Nat) :
    Calls Try.prog 13 #[.pointer (some ⟨p, 0, none⟩), .agg #[.int .i64 4, .int .i64 n, .slice xa xl xc]] w fun e w' => LayR w w' p v bs (some [0]) e := by
  go_enter Try.func13, Try.ntmps13
  go_wp2_with fail
  refine named (p := fun X => Calls _ _ _ X _) ?_
  intro W0 hW0
  have hB0 : Below w.heap.size w W0 := by rw [hW0]; exact (Below.refl _ _).alloc (Nat.le_refl _) _
  clear hW0
  refine (wtruth_any p v bs false W0 (hW.below hB0)).mono ?_
  intro e w1 hl
  rw [show (if (false : Bool) = true then (1 : UInt8) else 0) = 0 from rfl] at hl
  obtain ⟨rfl, v1, hW2, hF2, hL2⟩ := hl.ok (by simpa using hfit)
  clear hl
  go_wp2_with fail
  go_ret3
  have hN : New w1 (w1.alloc (.cells #[bc 0] 5)) (.slice (some ⟨w1.heap.size, 0, none⟩) 1 1) [0] :=
    ⟨⟨rfl, .inr ⟨w1.heap.size, 1, #[bc 0], rfl, Nat.zero_le _, has_new _ _ _ _ rfl, Nat.le_refl _, by decide, rfl, rfl⟩⟩, fun k hk => by simp [Value.ownBlock] at hk; omega, (Below.refl _ _).alloc (Nat.le_refl _) _⟩
  exact LayR.mk hB0 hW2 hF2 hL2 hN
end Go.Proofs.Ytgoflpfafkmmgaa
