/- Texts put together, in build order: J1, J2, J3, K1, S6, S7, S8, K2, S9, S10, S11, Q1. -/
import Derived.Test.YtgoflpfafkmmgaaZq3
import Derived.Deep.RegionHeld3
import Derived.Deep.Strs
import Derived.Deep.Slices
/- What is laid by one call: lay. -/
namespace Go.Proofs.Ytgoflpfafkmmgaa
open Go.RowKit

set_option maxHeartbeats 400000 in
theorem refbytes_any (xv : Value) (x : List UInt8) (w : World) (hx : In w xv x) (hsm : x.length ≤ 1000000000) :
    Calls Try.prog 39 #[xv] w fun e w' => ∃ v, e = .returned v ∧ New w w' v (bytL x) := by
  obtain ⟨xa, xc, rfl⟩ := hx.slice
  go_enter Try.func39, Try.ntmps39
  go_wp2_with fail
  refine (refnumber_any x.length (by omega) w).mono ?_
  rintro e w1 ⟨u, rfl, hN⟩
  have hz := hN.below.size
  have hl9 := numL_len9 x.length (by omega)
  have h0 : 0 < w1.heap.size := by
    obtain ⟨i, hi, _⟩ := New.block (S := fun _ => False) hN (numL_ne _) (fun _ h => h.elim)
    omega
  have HX : Hid (Bytes w1 (.slice xa x.length xc) x) := hx.bytes hN.below h0
  have HN : Hid (New w w1 u (numL x.length)) := hN
  obtain ⟨ua, uc, rfl⟩ := hN.own.slice
  clear hN hx
  go_wp2_with (refine wpList_append_bytes _ rfl _ _ 27 27 rfl info5 Try.underlying27 Try.underlying27 _ _ (numL x.length) x rfl rfl HN.out.own HX.out (by omega) ?_; intro v2 w2 hown2 hgr hloc hnil; clear hnil; obtain ⟨a3, c3, hv2⟩ := hown2.slice; rw [List.length_append] at hv2; subst hv2)
  go_ret
  obtain ⟨h1, h2, h3⟩ := HN.out
  refine ⟨_, rfl, hown2, fun k hk => ?_, ?_⟩
  · rcases hloc k hk with h | h
    · exact h2 k h
    · omega
  · exact Fr.below h3 (grown_fr hgr) hz (fun k hk e => by have := h2 k e; omega)
theorem Wr.drew {w : World} {p : Nat} {v : Value} {bs : List UInt8} (h : Wr w p v bs) : Wr w.drew p v bs := by
  obtain ⟨h1, h2, h3⟩ := h
  exact ⟨h1, h2.fr (S := fun _ => False) ⟨rfl, rfl, rfl, Nat.le_refl _, fun _ _ _ => rfl⟩ (fun _ _ h => h), h3⟩
/-- What is laid, or that it may not be. -/
def layL (what n : Int) (d : List UInt8) : Option (List UInt8) :=
  if what = 0 then (if n < 0 then none else some (numL n.toNat))
  else if what = 1 then (if inS n then some (numL (foldN n)) else none)
  else if what = 2 ∨ what = 3 then some (bytL d)
  else if what = 4 then some [if n = 0 then 0 else 1]
  else some (d ++ d)
/-- What 'lay' answers. -/
def LayR (w w' : World) (p : Nat) (v : Value) (bs : List UInt8) (x : Option (List UInt8)) (e : Ending) : Prop :=
  ∃ v' y, e = .returned (.tuple #[.int .i64 (if x.isNone then 2 else 0), y, .int .i64 (if x.isNone then 2 else 0)]) ∧ Wr w' p v' (bs ++ x.getD []) ∧ Fr (WS p v) w w' ∧ Loc w v v' ∧ Own w' y (x.getD []) ∧ ∀ k, y.ownBlock = some k → w.heap.size ≤ k ∧ ¬ WS p v' k
theorem LayR.mk {w W0 w1 w2 : World} {p : Nat} {v v1 y : Value} {bs d : List UInt8} (hB0 : Below w.heap.size w W0) (hW1 : Wr w1 p v1 (bs ++ d)) (hF : Fr (WS p v) W0 w1) (hL : Loc W0 v v1) (hN : New w1 w2 y d) : LayR w w2 p v bs (some d) (.returned (.tuple #[.int .i64 0, y, .int .i64 0])) := by
  have hz := hB0.size
  refine ⟨v1, y, rfl, hW1.below hN.below, ((Fr.of_below hB0).trans hF).trans (Fr.of_below hN.below), fun k hk => (hL k hk).imp id (fun h => by omega), hN.own, fun k hk => ?_⟩
  have h1 := hN.2.1 k hk
  have h2 := hF.size
  exact ⟨by omega, fun e => by have := hW1.lt k e; omega⟩
theorem LayR.bad {w W0 : World} {p : Nat} {v : Value} {bs : List UInt8} (hB0 : Below w.heap.size w W0) (hW : Wr W0 p v bs) : LayR w W0 p v bs none (.returned (.tuple #[.int .i64 2, .slice none 0 0, .int .i64 2])) :=
  ⟨v, _, rfl, by simpa using hW, Fr.of_below hB0, fun k hk => .inl hk, Own.nil _, fun k hk => by cases hk⟩
set_option maxRecDepth 10000 in
set_option maxHeartbeats 2000000 in
theorem lay_0 (p : Nat) (v : Value) (bs : List UInt8) (n : Nat) (hn : n < 9223372036854775808) (w : World) (hW : Wr w p v bs) (hfit : bs.length + (numL n).length ≤ 1048576) (xa : Option Addr) (xl xc : Nat) :
    Calls Try.prog 13 #[.pointer (some ⟨p, 0, none⟩), .agg #[.int .i64 0, .int .i64 n, .slice xa xl xc]] w fun e w' => LayR w w' p v bs (some (numL n)) e := by
  have hS := hW.lt
  have hn0 : ¬ (n : Int) < 0 := by omega
  have hnum := fun w h => wnumber_ok p v bs n hn w h
  have hrn := refnumber_any n hn
  generalize numL n = d at *
  go_enter Try.func13, Try.ntmps13
  go_wp2_with fail
  refine named (p := Code.wp _ _ _ _) ?_
  intro W0 hW0
  have hB0 : Below w.heap.size w W0 := by rw [hW0]; exact (Below.refl _ _).alloc (Nat.le_refl _) _
  have hX0 : Has W0 w.heap.size #[.int .i64 0, .int .i64 n, .slice xa xl xc] 29 := by rw [hW0]; exact has_new _ _ _ _ rfl
  clear hW0
  have hW1 := hW.below hB0
  have hdrew := hW1.drew
  have hnS : ¬ WS p v w.heap.size := fun e => by have := hS _ e; omega
  have c1 := hX0.cell 1
  simp at c1
  go_region_held3 (fun W => W.cell? ⟨w.heap.size, 1, none⟩ = some (.int .i64 n)) (first | exact c1 | exact hk1 | exact hk2)
    ((first | (go_at_call 16; refine (hnum _ (by first | exact hW1 | exact hdrew)).mono ?_; intro e w1 hl; obtain ⟨rfl, v1, hW2, hF2, hL2⟩ := hl.ok hfit; have hF2' : Fr (WS p v) W0 w1 := ⟨hF2.os, hF2.tape, hF2.output, hF2.size, hF2.block⟩; have hL2' : Loc W0 v v1 := hL2; have hX1 := hX0.fr hF2' hnS; have hk1 : w1.cell? ⟨w.heap.size, 1, none⟩ = some (.int .i64 n) := hX1.cell 1) | (go_at_call 25; refine (hrn _).mono ?_; rintro e w2 ⟨y, rfl, hN2⟩; have hk2 : w2.cell? ⟨w.heap.size, 1, none⟩ = some (.int .i64 n) := (hN2.below.cell (p := ⟨w.heap.size, 1, none⟩) hX1.lt).trans (hX1.cell 1); have HN2 : Hid (New w1 w2 y d) := hN2; obtain ⟨ya, yc, hy⟩ := hN2.own.slice; subst hy; clear hN2)))
  go_wp2_with fail
  go_ret3
  exact LayR.mk hB0 hW2 hF2' hL2' HN2.out
set_option maxRecDepth 10000 in
set_option maxHeartbeats 2000000 in
theorem lay_1 (p : Nat) (v : Value) (bs : List UInt8) (n : Int) (hn : inS n = true) (w : World) (hW : Wr w p v bs) (hfit : bs.length + (numL (foldN n)).length ≤ 1048576) (xa : Option Addr) (xl xc : Nat) :
    Calls Try.prog 13 #[.pointer (some ⟨p, 0, none⟩), .agg #[.int .i64 1, .int .i64 n, .slice xa xl xc]] w fun e w' => LayR w w' p v bs (some (numL (foldN n))) e := by
  have hS := hW.lt
  have hin := insign_any n
  rw [hn] at hin
  have hnum := fun w h => wsigned_ok p v bs n hn w h
  have hrn := refsigned_any n hn
  generalize numL (foldN n) = d at *
  clear hn
  go_enter Try.func13, Try.ntmps13
  go_wp2_with (first | (go_at_call 26; refine (hin _).mono ?_; rintro e w' ⟨rfl, hw⟩; obtain rfl := hw.symm; clear hw) | fail)
  refine named (p := Code.wp _ _ _ _) ?_
  intro W0 hW0
  have hB0 : Below w.heap.size w W0 := by rw [hW0]; exact (Below.refl _ _).alloc (Nat.le_refl _) _
  have hX0 : Has W0 w.heap.size #[.int .i64 1, .int .i64 n, .slice xa xl xc] 29 := by rw [hW0]; exact has_new _ _ _ _ rfl
  clear hW0
  have hW1 := hW.below hB0
  have hdrew := hW1.drew
  have hnS : ¬ WS p v w.heap.size := fun e => by have := hS _ e; omega
  have c1 := hX0.cell 1
  simp at c1
  go_region_held3 (fun W => W.cell? ⟨w.heap.size, 1, none⟩ = some (.int .i64 n)) (first | exact c1 | exact hk1 | exact hk2)
    ((first | (go_at_call 17; refine (hnum _ (by first | exact hW1 | exact hdrew)).mono ?_; intro e w1 hl; obtain ⟨rfl, v1, hW2, hF2, hL2⟩ := hl.ok hfit; have hF2' : Fr (WS p v) W0 w1 := ⟨hF2.os, hF2.tape, hF2.output, hF2.size, hF2.block⟩; have hL2' : Loc W0 v v1 := hL2; have hX1 := hX0.fr hF2' hnS; have hk1 : w1.cell? ⟨w.heap.size, 1, none⟩ = some (.int .i64 n) := hX1.cell 1) | (go_at_call 28; refine (hrn _).mono ?_; rintro e w2 ⟨y, rfl, hN2⟩; have hk2 : w2.cell? ⟨w.heap.size, 1, none⟩ = some (.int .i64 n) := (hN2.below.cell (p := ⟨w.heap.size, 1, none⟩) hX1.lt).trans (hX1.cell 1); have HN2 : Hid (New w1 w2 y d) := hN2; obtain ⟨ya, yc, hy⟩ := hN2.own.slice; subst hy; clear hN2)))
  go_wp2_with fail
  go_ret3
  exact LayR.mk hB0 hW2 hF2' hL2' HN2.out
set_option maxHeartbeats 2000000 in
theorem lay_0bad (p : Nat) (v : Value) (bs : List UInt8) (n : Int) (hn : n < 0) (w : World) (hW : Wr w p v bs) (xa : Option Addr) (xl xc : Nat) :
    Calls Try.prog 13 #[.pointer (some ⟨p, 0, none⟩), .agg #[.int .i64 0, .int .i64 n, .slice xa xl xc]] w fun e w' => LayR w w' p v bs none e := by
  go_enter Try.func13, Try.ntmps13
  go_wp2_with fail
  refine named (p := fun X => Calls _ _ _ X _) ?_
  intro W0 hW0
  have hB0 : Below w.heap.size w W0 := by rw [hW0]; exact (Below.refl _ _).alloc (Nat.le_refl _) _
  clear hW0
  have hW1 := hW.below hB0
  have c1 := hW1.has.cell 1
  simp at c1
  refine (wnumber_bad p n hn W0 c1).mono ?_
  rintro e w' ⟨rfl, hw⟩
  obtain rfl := hw.symm
  clear hw
  go_wp2_with fail
  go_ret3
  exact LayR.bad hB0 hW1
set_option maxHeartbeats 2000000 in
theorem lay_1bad (p : Nat) (v : Value) (bs : List UInt8) (n : Int) (hn : inS n = false) (w : World) (hW : Wr w p v bs) (xa : Option Addr) (xl xc : Nat) :
    Calls Try.prog 13 #[.pointer (some ⟨p, 0, none⟩), .agg #[.int .i64 1, .int .i64 n, .slice xa xl xc]] w fun e w' => LayR w w' p v bs none e := by
  have hin := insign_any n
  rw [hn] at hin
  have hbad := fun w c => wsigned_bad p n hn w c
  clear hn
  go_enter Try.func13, Try.ntmps13
  go_wp2_with (first | (go_at_call 26; refine (hin _).mono ?_; rintro e w' ⟨rfl, hw⟩; obtain rfl := hw.symm; clear hw) | fail)
  refine named (p := fun X => Calls _ _ _ X _) ?_
  intro W0 hW0
  have hB0 : Below w.heap.size w W0 := by rw [hW0]; exact (Below.refl _ _).alloc (Nat.le_refl _) _
  clear hW0
  have hW1 := hW.below hB0
  have c1 := hW1.has.cell 1
  simp at c1
  refine (hbad W0 c1).mono ?_
  rintro e w' ⟨rfl, hw⟩
  obtain rfl := hw.symm
  clear hw
  go_wp2_with fail
  go_ret3
  exact LayR.bad hB0 hW1
theorem InAp.fr' {S : Nat → Prop} {w w' : World} {v : Value} {d : List UInt8} (h : InAp S w v d) (k : Fr S w w') : InAp S w' v d := by
  rcases h with h | h
  · exact .inl h
  · exact .inr (h.fr k (fun _ _ e => e))
theorem InAp.in_ {S : Nat → Prop} {w : World} {v : Value} {d : List UInt8} (h : InAp S w v d) : In w v d := by
  rcases h with h | h
  · exact .inl h
  · exact .inr h.bytes
set_option maxRecDepth 10000 in
set_option maxHeartbeats 2000000 in
theorem lay_2 (p : Nat) (v : Value) (bs x : List UInt8) (n : Int) (w : World) (hW : Wr w p v bs) (hfit : bs.length + (bytL x).length ≤ 1048576) (xa : Option Addr) (xc : Nat) (hx : InAp (WS p v) w (.slice xa x.length xc) x) (hsm : x.length ≤ 1000000000) :
    Calls Try.prog 13 #[.pointer (some ⟨p, 0, none⟩), .agg #[.int .i64 2, .int .i64 n, .slice xa x.length xc]] w fun e w' => LayR w w' p v bs (some (bytL x)) e := by
  have hS := hW.lt
  go_enter Try.func13, Try.ntmps13
  go_wp2_with fail
  refine named (p := Code.wp _ _ _ _) ?_
  intro W0 hW0
  have hB0 : Below w.heap.size w W0 := by rw [hW0]; exact (Below.refl _ _).alloc (Nat.le_refl _) _
  have hX0 : Has W0 w.heap.size #[.int .i64 2, .int .i64 n, .slice xa x.length xc] 29 := by rw [hW0]; exact has_new _ _ _ _ rfl
  clear hW0
  have hW1 := hW.below hB0
  have hdrew := hW1.drew
  have hnS : ¬ WS p v w.heap.size := fun e => by have := hS _ e; omega
  have hx1 := hx.below hB0
  have c2 := hX0.cell 2
  simp at c2
  have hd0 : InAp (WS p v) W0.drew (.slice xa x.length xc) x := hx1.fr' (Fr.refl _ _ |> fun h => ⟨h.os, h.tape, h.output, h.size, h.block⟩)
  go_region_held3 (fun W => W.cell? ⟨w.heap.size, 2, none⟩ = some (.slice xa x.length xc)) (first | exact c2 | exact hk1 | exact hk2)
    ((first | (go_at_call 18; refine (wbytes_in p v _ bs x _ (by first | exact hW1 | exact hdrew) (by first | exact hx1 | exact hd0) hsm).mono ?_; intro e w1 hl; obtain ⟨rfl, v1, hW2, hF2, hL2⟩ := hl.ok hfit; have hF2' : Fr (WS p v) W0 w1 := ⟨hF2.os, hF2.tape, hF2.output, hF2.size, hF2.block⟩; have hL2' : Loc W0 v v1 := hL2; have hX1 := hX0.fr hF2' hnS; have hk1 : w1.cell? ⟨w.heap.size, 2, none⟩ = some (.slice xa x.length xc) := hX1.cell 2; have hin1 : In w1 (.slice xa x.length xc) x := (hx1.fr' hF2').in_) | (go_at_call 39; refine (refbytes_any _ x _ hin1 hsm).mono ?_; rintro e w2 ⟨y, rfl, hN2⟩; have hk2 : w2.cell? ⟨w.heap.size, 2, none⟩ = some (.slice xa x.length xc) := (hN2.below.cell (p := ⟨w.heap.size, 2, none⟩) hX1.lt).trans (hX1.cell 2); have HN2 : Hid (New w1 w2 y (bytL x)) := hN2; obtain ⟨ya, yc, hy⟩ := hN2.own.slice; subst hy; clear hN2)))
  go_wp2_with fail
  go_ret3
  exact LayR.mk hB0 hW2 hF2' hL2' HN2.out
end Go.Proofs.Ytgoflpfafkmmgaa
/- What is laid by one call: texts, truths, raw ones. -/
namespace Go.Proofs.Ytgoflpfafkmmgaa
open Go.RowKit

/-- A conversion at a step of a region that draws its order, by its run. -/
theorem step_convert_run {P : Program} {ops : Array Oper} {o : Oper} {a : Act} {w w' : World} {K : Act → World → Prop} {Q : Exit → Act → World → Prop} {E : Prop} (hgd : o.guard = none)
    (src dst : TypeId) (x : Operand) (ho : o.op = .convert src dst x) (v0 v : Value) (hx : a.eval x = v0) (hrun : (convert src dst v0).run P w = .ok v w') (h : K (a.put o.dst v) w') :
    if Region.wanted o (yielded ops a.tmps) = true then Oper.wp P o a w K Q else E := by
  have hw : Region.wanted o (yielded ops a.tmps) = true := by simp [Region.wanted, hgd]
  rw [if_pos hw]
  unfold Oper.wp execOp
  simp only [ho, hx, Sem.run_bind, hrun, Sem.run_pure, Result.andThen_ok]
  exact h
set_option maxRecDepth 10000 in
set_option maxHeartbeats 2000000 in
theorem lay_3 (p : Nat) (v : Value) (bs x : List UInt8) (n : Int) (w : World) (hW : Wr w p v bs) (hfit : bs.length + (bytL x).length ≤ 1048576) (xa : Option Addr) (xc : Nat) (hx : InAp (WS p v) w (.slice xa x.length xc) x) (hsm : x.length ≤ 1000000000) :
    Calls Try.prog 13 #[.pointer (some ⟨p, 0, none⟩), .agg #[.int .i64 3, .int .i64 n, .slice xa x.length xc]] w fun e w' => LayR w w' p v bs (some (bytL x)) e := by
  have hS := hW.lt
  go_enter Try.func13, Try.ntmps13
  go_wp2_with fail
  refine named (p := Code.wp _ _ _ _) ?_
  intro W0 hW0
  have hB0 : Below w.heap.size w W0 := by rw [hW0]; exact (Below.refl _ _).alloc (Nat.le_refl _) _
  have hX0 : Has W0 w.heap.size #[.int .i64 3, .int .i64 n, .slice xa x.length xc] 29 := by rw [hW0]; exact has_new _ _ _ _ rfl
  clear hW0
  have hW1 := hW.below hB0
  have hdrew := hW1.drew
  have hnS : ¬ WS p v w.heap.size := fun e => by have := hS _ e; omega
  have hx1 := hx.below hB0
  have c2 := hX0.cell 2
  simp at c2
  have hw0 : 0 < W0.heap.size := by have := hX0.lt; omega
  have hb1 : Bytes W0 (.slice xa x.length xc) x := hx1.in_.bytes (Below.refl _ _) hw0
  have hcv' : (convert 27 9 (.slice xa x.length xc)).run Try.prog W0.drew = .ok (.string ⟨x.toArray⟩) W0.drew := bytes_string Try.underlying27 Try.underlying5 Try.underlying9 W0.drew _ x (hb1.below ⟨rfl, rfl, rfl, Nat.le_refl _, fun _ _ => rfl⟩)
  have hbs : ∀ W, Bytes W (.slice xa x.length xc) x → (convert 27 9 (.slice xa x.length xc)).run Try.prog W = .ok (.string ⟨x.toArray⟩) W := fun W hb => bytes_string Try.underlying27 Try.underlying5 Try.underlying9 W _ x hb
  have c3 := hbs W0 hb1
  go_region_held3 (fun W => W.cell? ⟨w.heap.size, 2, none⟩ = some (.slice xa x.length xc) ∧ (convert 27 9 (.slice xa x.length xc)).run Try.prog W = .ok (.string ⟨x.toArray⟩) W) (first | exact ⟨c2, c3⟩ | exact ⟨c2, hcv'⟩ | exact ⟨hk1, hk1'⟩ | exact ⟨hk2, hk2'⟩)
    ((first | (go_at_call 19; refine (wtext_any p v bs x _ (by first | exact hW1 | exact hdrew) hsm).mono ?_; intro e w1 hl; obtain ⟨rfl, v1, hW2, hF2, hL2⟩ := hl.ok hfit; have hF2' : Fr (WS p v) W0 w1 := ⟨hF2.os, hF2.tape, hF2.output, hF2.size, hF2.block⟩; have hL2' : Loc W0 v v1 := hL2; have hX1 := hX0.fr hF2' hnS; have hk1 : w1.cell? ⟨w.heap.size, 2, none⟩ = some (.slice xa x.length xc) := hX1.cell 2; have hin1 : In w1 (.slice xa x.length xc) x := (hx1.fr' hF2').in_; have hk1' := hbs w1 (hin1.bytes (Below.refl _ _) (by have := hX1.lt; omega))) | (go_at_call 39; refine (refbytes_any _ x _ hin1 hsm).mono ?_; rintro e w2 ⟨y, rfl, hN2⟩; have hk2 : w2.cell? ⟨w.heap.size, 2, none⟩ = some (.slice xa x.length xc) := (hN2.below.cell (p := ⟨w.heap.size, 2, none⟩) hX1.lt).trans (hX1.cell 2); have hk2' := hbs w2 (hin1.bytes hN2.below (by have := hX1.lt; have := hN2.below.size; omega)); have HN2 : Hid (New w1 w2 y (bytL x)) := hN2; obtain ⟨ya, yc, hy⟩ := hN2.own.slice; subst hy; clear hN2)))
  go_wp2_with fail
  go_ret3
  exact LayR.mk hB0 hW2 hF2' hL2' HN2.out
set_option maxRecDepth 10000 in
set_option maxHeartbeats 2000000 in
theorem lay_4true (p : Nat) (v : Value) (bs : List UInt8) (n : Int) (hn : ¬ n = 0) (w : World) (hW : Wr w p v bs) (hfit : bs.length + 1 ≤ 1048576) (xa : Option Addr) (xl xc : Nat) :
    Calls Try.prog 13 #[.pointer (some ⟨p, 0, none⟩), .agg #[.int .i64 4, .int .i64 n, .slice xa xl xc]] w fun e w' => LayR w w' p v bs (some [1]) e := by
  go_enter Try.func13, Try.ntmps13
  go_wp2_with fail
  refine named (p := fun X => Calls _ _ _ X _) ?_
  intro W0 hW0
  have hB0 : Below w.heap.size w W0 := by rw [hW0]; exact (Below.refl _ _).alloc (Nat.le_refl _) _
  clear hW0
  refine (wtruth_any p v bs true W0 (hW.below hB0)).mono ?_
  intro e w1 hl
  rw [show (if (true : Bool) = true then (1 : UInt8) else 0) = 1 from rfl] at hl
  obtain ⟨rfl, v1, hW2, hF2, hL2⟩ := hl.ok (by simpa using hfit)
  clear hl
  go_wp2_with fail
  go_ret3
  have hN : New w1 (w1.alloc (.cells #[bc 1] 5)) (.slice (some ⟨w1.heap.size, 0, none⟩) 1 1) [1] :=
    ⟨⟨rfl, .inr ⟨w1.heap.size, 1, #[bc 1], rfl, Nat.zero_le _, has_new _ _ _ _ rfl, Nat.le_refl _, by decide, rfl, rfl⟩⟩, fun k hk => by simp [Value.ownBlock] at hk; omega, (Below.refl _ _).alloc (Nat.le_refl _) _⟩
  exact LayR.mk hB0 hW2 hF2 hL2 hN
set_option maxRecDepth 10000 in
set_option maxHeartbeats 2000000 in
theorem lay_4false (p : Nat) (v : Value) (bs : List UInt8) (n : Int) (hn : n = 0) (w : World) (hW : Wr w p v bs) (hfit : bs.length + 1 ≤ 1048576) (xa : Option Addr) (xl xc : Nat) :
    Calls Try.prog 13 #[.pointer (some ⟨p, 0, none⟩), .agg #[.int .i64 4, .int .i64 n, .slice xa xl xc]] w fun e w' => LayR w w' p v bs (some [0]) e := by
  go_enter Try.func13, Try.ntmps13
  go_wp2_with fail
  refine named (p := fun X => Calls _ _ _ X _) ?_
  intro W0 hW0
  have hB0 : Below w.heap.size w W0 := by rw [hW0]; exact (Below.refl _ _).alloc (Nat.le_refl _) _
  clear hW0
  refine (wtruth_any p v bs false W0 (hW.below hB0)).mono ?_
  intro e w1 hl
  rw [show (if (false : Bool) = true then (1 : UInt8) else 0) = 0 from rfl] at hl
  obtain ⟨rfl, v1, hW2, hF2, hL2⟩ := hl.ok (by simpa using hfit)
  clear hl
  go_wp2_with fail
  go_ret3
  have hN : New w1 (w1.alloc (.cells #[bc 0] 5)) (.slice (some ⟨w1.heap.size, 0, none⟩) 1 1) [0] :=
    ⟨⟨rfl, .inr ⟨w1.heap.size, 1, #[bc 0], rfl, Nat.zero_le _, has_new _ _ _ _ rfl, Nat.le_refl _, by decide, rfl, rfl⟩⟩, fun k hk => by simp [Value.ownBlock] at hk; omega, (Below.refl _ _).alloc (Nat.le_refl _) _⟩
  exact LayR.mk hB0 hW2 hF2 hL2 hN
end Go.Proofs.Ytgoflpfafkmmgaa
/- What is laid by one call: raw ones. -/
namespace Go.Proofs.Ytgoflpfafkmmgaa
open Go.RowKit

/-- An append of bytes onto bytes that the call owns, at a step of a region that draws its order. -/
theorem step_append_bytes {P : Program} {ops : Array Oper} {o : Oper} {a : Act} {w : World} {K : Act → World → Prop} {Q : Exit → Act → World → Prop} {E : Prop} (hgd : o.guard = none) (s y : Operand) (t u : TypeId)
    (ho : o.op = .call { callee := .builtin .append, args := #[s, y], argTypes := #[t, u] }) (h5 : (P.info? 5).map (fun i => (i.zero, i.size, i.bytes)) = some (some (.int .u8 0), 1, 1))
    (ht : P.underlying t = some (.slice 5)) (hu : P.underlying u = some (.slice 5)) (v xv : Value) (d x : List UInt8) (hs : a.eval s = v) (hy : a.eval y = xv) (hown : Own w v d) (hx : Bytes w xv x) (hsm : d.length + x.length ≤ 100000000000000)
    (h : ∀ v' w', Own w' v' (d ++ x) → w.grownBy w' v.ownBlock → Loc w v v' → K (a.put o.dst v') w') :
    if Region.wanted o (yielded ops a.tmps) = true then Oper.wp P o a w K Q else E := by
  have hw : Region.wanted o (yielded ops a.tmps) = true := by simp [Region.wanted, hgd]
  rw [if_pos hw]
  obtain ⟨v', w', h1, h2, h3, h5', h4⟩ := run_append_bytes o.type h5 ht hu w v xv d x hown hx hsm
  unfold Oper.wp execOp
  simp only [ho, resolve, invoke, builtin, Sem.run_bind, Sem.run_pure, Result.andThen_ok, List.map_toArray, List.map_cons, List.map_nil, hs, hy, h1]
  exact h v' w' h2 h3 h5'
theorem three_le (x : List UInt8) (h : x.length ≤ 1000000000) : ∀ d ∈ [x, [], x], d.length ≤ 1000000000 := by
  intro d hd
  simp only [List.mem_cons, List.not_mem_nil, or_false] at hd
  rcases hd with e | e | e
  · rw [e]; exact h
  · rw [e]; simp
  · rw [e]; exact h
theorem Parts.drew {S : Nat → Prop} {w : World} {v : Value} {ds : List (List UInt8)} (h : Parts S w v ds) : Parts S w.drew v ds := by
  obtain ⟨a, cap, pb, po, h1, h2, h3, h4, h5⟩ := h
  refine ⟨a, cap, pb, po, h1, h2, fun i hi => ?_, h4, h5⟩
  obtain ⟨sv, hs, hb⟩ := h3 i hi
  exact ⟨sv, hs, hb.fr (S' := fun _ => False) ⟨rfl, rfl, rfl, Nat.le_refl _, fun _ _ _ => rfl⟩ (fun _ _ h => h.elim)⟩
theorem has_drew {w : World} {b t : Nat} {cs : Array Value} (h : Has w b cs t) : Has w.drew b cs t := h
theorem Parts.below {S : Nat → Prop} {w w' : World} {v : Value} {ds : List (List UInt8)} (h : Parts S w v ds) (k : Below w.heap.size w w') : Parts S w' v ds := by
  obtain ⟨a, cap, pb, po, h1, h2, h3, h4, h5⟩ := h
  refine ⟨a, cap, pb, po, h1, h2, fun i hi => ?_, Nat.lt_of_lt_of_le h4 k.size, h5⟩
  obtain ⟨sv, hs, hb⟩ := h3 i hi
  exact ⟨sv, (k.cell (p := ⟨pb, po + i, none⟩) h4).trans hs, hb.fr (S' := fun _ => False) (Fr.of_below k) (fun _ _ h => h.elim)⟩
theorem own_empty {w : World} {e : Nat} (h : Has w e #[] 5) : Own w (.slice (some ⟨e, 0, none⟩) 0 0) [] :=
  ⟨rfl, .inr ⟨e, 0, #[], rfl, Nat.zero_le _, h, Nat.le_refl _, by decide, rfl, rfl⟩⟩
/-- Blocks that came later, none of them the writer's. -/
def FreshK (B p : Nat) (v1 : Value) (k : Nat) : Prop := B ≤ k ∧ ¬ WS p v1 k
/-- Bytes that are being made behind a writer's call. -/
structure Mk (B p : Nat) (v1 : Value) (w1 w2 : World) (y : Value) (d : List UInt8) : Prop where
  own : Own w2 y d
  new : ∀ k, y.ownBlock = some k → FreshK B p v1 k
  fr : Fr (FreshK B p v1) w1 w2
theorem Mk.more {B p : Nat} {v1 v v2 : Value} {w1 w w2 : World} {d x : List UInt8} (h : Mk B p v1 w1 w v d) (hB : B ≤ w1.heap.size) (hS : ∀ k, WS p v1 k → k < w1.heap.size) (hO : Own w2 v2 (d ++ x)) (hg : w.grownBy w2 v.ownBlock) (hL : Loc w v v2) : Mk B p v1 w1 w2 v2 (d ++ x) := by
  have hz := h.fr.size
  refine ⟨hO, fun k hk => ?_, h.fr.trans' (grown_fr hg) (fun k _ e => h.new k e)⟩
  rcases hL k hk with h1 | h1
  · exact h.new k h1
  · exact ⟨by omega, fun e => by have := hS k e; omega⟩
theorem LayR.mk2 {w W0 w1 w2 : World} {p : Nat} {v v1 y : Value} {bs d : List UInt8} (hB0 : Below w.heap.size w W0) (hW1 : Wr w1 p v1 (bs ++ d)) (hF : Fr (WS p v) W0 w1) (hL : Loc W0 v v1) (hM : Mk W0.heap.size p v1 w1 w2 y d) : LayR w w2 p v bs (some d) (.returned (.tuple #[.int .i64 0, y, .int .i64 0])) := by
  have hz := hB0.size
  refine ⟨v1, y, rfl, hW1.fr hM.fr (fun k h => h.2), ((Fr.of_below hB0).trans hF).trans' hM.fr (fun k hk e => by have := e.1; omega), fun k hk => (hL k hk).imp id (fun h => by omega), hM.own, fun k hk => ?_⟩
  have := hM.new k hk
  exact ⟨by have := this.1; omega, this.2⟩
theorem InAp.later {w1 w2 : World} {B p : Nat} {v1 v : Value} {d : List UInt8} (h : InAp (fun k => B ≤ k) w1 v d) (k : Fr (FreshK B p v1) w1 w2) (h0 : 0 < w2.heap.size) : Bytes w2 v d := by
  rcases h with ⟨rfl, a, c, rfl⟩ | h
  · exact ⟨a, c, 0, 0, rfl, Nat.zero_le _, fun h => absurd rfl h, fun j hj => absurd hj (by simp), h0⟩
  · exact (h.fr k (fun i _ e => e.1)).bytes
/-- All that the walk wants behind a writer's call, in whatever order the empty row was made. -/
theorem after_raw {W0 WX w1 : World} {p : Nat} {v v1 xs : Value} {bs x d : List UInt8} (hW : Wr W0 p v bs) (hBX : Below W0.heap.size W0 WX) (hx : InAp (WS p v) W0 xs x) (hW1 : Wr w1 p v1 d) (hF : Fr (WS p v) WX w1) (hL : Loc WX v v1) :
    Fr (WS p v) W0 w1 ∧ Loc W0 v v1 ∧ InAp (fun k => W0.heap.size ≤ k) w1 xs x ∧ (∀ e, Has WX e #[] 5 → W0.heap.size ≤ e → Mk W0.heap.size p v1 w1 w1 (.slice (some ⟨e, 0, none⟩) 0 0) []) ∧ Mk W0.heap.size p v1 w1 (w1.alloc (.cells #[] 5)) (.slice (some ⟨w1.heap.size, 0, none⟩) 0 0) [] := by
  have hF' : Fr (WS p v) W0 w1 := (Fr.of_below hBX).trans hF
  have hz := hBX.size
  have hz1 := hF.size
  refine ⟨hF', fun k hk => (hL k hk).imp id (fun h => by omega), ?_, fun e he hle => ?_, ?_⟩
  · rcases hx with h | ⟨a, c, db, o, h1, h2, h3, h4, h5, h6⟩
    · exact .inl h
    · exact .inr ⟨a, c, db, o, h1, h2, h3, fun j hj => (World.cell?_of_block (w := W0) (hF'.block db h5 h6)).trans (h4 j hj), Nat.lt_of_lt_of_le h5 hF'.size, by omega⟩
  · have hn : ¬ WS p v e := fun h => by have := hW.lt e h; omega
    refine ⟨own_empty (he.fr hF hn), fun k hk => ?_, Fr.refl _ _⟩
    simp [Value.ownBlock] at hk
    subst hk
    refine ⟨hle, fun h => ?_⟩
    rcases h with h | h
    · exact hn (.inl h)
    · rcases hL _ h with h1 | h1
      · exact hn (.inr h1)
      · have := he.lt; omega
  · refine ⟨own_empty (has_new _ _ _ _ rfl), fun k hk => ?_, Fr.of_below ((Below.refl _ _).alloc (Nat.le_refl _) _)⟩
    simp [Value.ownBlock] at hk
    subst hk
    exact ⟨by omega, fun h => by have := hW1.lt _ h; omega⟩
set_option maxRecDepth 10000 in
set_option maxHeartbeats 2000000 in
theorem lay_5 (p : Nat) (v : Value) (bs x : List UInt8) (what n : Int) (hwh : ¬ what = 0 ∧ ¬ what = 1 ∧ ¬ what = 2 ∧ ¬ what = 3 ∧ ¬ what = 4) (w : World) (hW : Wr w p v bs) (hfit : bs.length + (x ++ x).length ≤ 1048576) (xa : Option Addr) (xc : Nat) (hx : InAp (WS p v) w (.slice xa x.length xc) x) (hsm : x.length ≤ 1000000000) :
    Calls Try.prog 13 #[.pointer (some ⟨p, 0, none⟩), .agg #[.int .i64 what, .int .i64 n, .slice xa x.length xc]] w fun e w' => LayR w w' p v bs (some (x ++ x)) e := by
  have hS := hW.lt
  obtain ⟨wh0, wh1, wh2, wh3, wh4⟩ := hwh
  go_enter Try.func13, Try.ntmps13
  go_wp2_with fail
  refine named (p := Code.wp _ _ _ _) ?_
  intro W0 hW0
  have hB0 : Below w.heap.size w W0 := by rw [hW0]; exact (Below.refl _ _).alloc (Nat.le_refl _) _
  have hX0 : Has W0 w.heap.size #[.int .i64 what, .int .i64 n, .slice xa x.length xc] 29 := by rw [hW0]; exact has_new _ _ _ _ rfl
  clear hW0
  have hW1 := hW.below hB0
  have hdrew := hW1.drew
  have hnS : ¬ WS p v w.heap.size := fun e => by have := hS _ e; omega
  have hx1 := hx.below hB0
  have c2 := hX0.cell 2
  simp at c2
  have hex : ∃ i, i < W0.heap.size ∧ ¬ WS p v i := ⟨w.heap.size, hX0.lt, hnS⟩
  have hal : ∀ (ob : Obj) (W : World), W.cell? ⟨w.heap.size, 2, none⟩ = some (.slice xa x.length xc) → (W.alloc ob).cell? ⟨w.heap.size, 2, none⟩ = some (.slice xa x.length xc) := fun ob W h => by
    refine (World.cell?_of_block (w := W) ?_).trans h
    have hlt := block_of_cell h
    show (W.alloc ob).heap[w.heap.size]? = _
    rw [alloc_get, if_neg (by simp at hlt; omega)]
  have hxa := hx1.after (Below.refl _ _) hex
  have hxn : BytesAp (WS p v) W0 (.slice none 0 0) [] := InAp.after (.inl ⟨rfl, none, 0, rfl⟩) (Below.refl _ _) hex
  have ef : [x, [], x].flatten = x ++ x := by simp
  have hfE : Fr (fun _ => False) W0 (W0.alloc (.cells #[] 5)) := Fr.of_below ((Below.refl _ _).alloc (Nat.le_refl _) _)
  have hb1 : ∀ o, Below W0.heap.size W0 (W0.alloc o) := fun o => (Below.refl _ _).alloc (Nat.le_refl _) _
  have hBa : Below W0.heap.size W0 (W0.alloc (.cells #[.slice xa x.length xc, .slice none 0 0, .slice xa x.length xc] 27)).drew := (hb1 _).trans ⟨rfl, rfl, rfl, Nat.le_refl _, fun _ _ => rfl⟩
  have hPa : Parts (WS p v) (W0.alloc (.cells #[.slice xa x.length xc, .slice none 0 0, .slice xa x.length xc] 27)).drew (.slice (some ⟨W0.heap.size, 0, none⟩) 3 3) [x, [], x] := (parts3 W0 _ _ _ hxa hxn hxa hW1.lt).drew
  have hrawa := raw_any p v _ bs [x, [], x] _ (hW1.below hBa) hPa (three_le x hsm)
  have hEa : True := trivial
  rw [ef] at hrawa
  clear hPa
  generalize hWXa : (W0.alloc (.cells #[.slice xa x.length xc, .slice none 0 0, .slice xa x.length xc] 27)).drew = WXa at hrawa hBa
  have HRa : Hid (Calls Try.prog 21 #[.pointer (some ⟨p, 0, none⟩), .slice (some ⟨W0.heap.size, 0, none⟩) 3 3] WXa fun e w' => Laid WXa w' p v bs (x ++ x) e) := hrawa
  have HWa : Hid ((W0.alloc (.cells #[.slice xa x.length xc, .slice none 0 0, .slice xa x.length xc] 27)).drew = WXa) := hWXa
  clear hrawa hWXa
  have hBb : Below W0.heap.size W0 ((W0.alloc (.cells #[.slice xa x.length xc, .slice none 0 0, .slice xa x.length xc] 27)).alloc (.cells #[] 5)).drew := (alloc2_below _ _ _).trans ⟨rfl, rfl, rfl, Nat.le_refl _, fun _ _ => rfl⟩
  have hPb : Parts (WS p v) ((W0.alloc (.cells #[.slice xa x.length xc, .slice none 0 0, .slice xa x.length xc] 27)).alloc (.cells #[] 5)).drew (.slice (some ⟨W0.heap.size, 0, none⟩) 3 3) [x, [], x] := ((parts3 W0 _ _ _ hxa hxn hxa hW1.lt).below ((Below.refl _ _).alloc (Nat.le_refl _) _)).drew
  have hrawb := raw_any p v _ bs [x, [], x] _ (hW1.below hBb) hPb (three_le x hsm)
  have hEb : Has ((W0.alloc (.cells #[.slice xa x.length xc, .slice none 0 0, .slice xa x.length xc] 27)).alloc (.cells #[] 5)).drew (W0.heap.size + 1) #[] 5 := has_drew (has_new _ _ _ _ (by simp))
  rw [ef] at hrawb
  clear hPb
  generalize hWXb : ((W0.alloc (.cells #[.slice xa x.length xc, .slice none 0 0, .slice xa x.length xc] 27)).alloc (.cells #[] 5)).drew = WXb at hrawb hBb hEb
  have HRb : Hid (Calls Try.prog 21 #[.pointer (some ⟨p, 0, none⟩), .slice (some ⟨W0.heap.size, 0, none⟩) 3 3] WXb fun e w' => Laid WXb w' p v bs (x ++ x) e) := hrawb
  have HWb : Hid (((W0.alloc (.cells #[.slice xa x.length xc, .slice none 0 0, .slice xa x.length xc] 27)).alloc (.cells #[] 5)).drew = WXb) := hWXb
  clear hrawb hWXb
  have hBc : Below W0.heap.size W0 ((W0.alloc (.cells #[] 5)).alloc (.cells #[.slice xa x.length xc, .slice none 0 0, .slice xa x.length xc] 27)).drew := (alloc2_below _ _ _).trans ⟨rfl, rfl, rfl, Nat.le_refl _, fun _ _ => rfl⟩
  have hPc : Parts (WS p v) ((W0.alloc (.cells #[] 5)).alloc (.cells #[.slice xa x.length xc, .slice none 0 0, .slice xa x.length xc] 27)).drew (.slice (some ⟨W0.heap.size + 1, 0, none⟩) 3 3) [x, [], x] := (parts3 (W0.alloc _) _ _ _ (hxa.fr hfE (fun _ _ h => h.elim)) (hxn.fr hfE (fun _ _ h => h.elim)) (hxa.fr hfE (fun _ _ h => h.elim)) (fun k hk => by have := hW1.lt k hk; simp; omega)).drew
  have hrawc := raw_any p v _ bs [x, [], x] _ (hW1.below hBc) hPc (three_le x hsm)
  have hEc : Has ((W0.alloc (.cells #[] 5)).alloc (.cells #[.slice xa x.length xc, .slice none 0 0, .slice xa x.length xc] 27)).drew (W0.heap.size) #[] 5 := has_drew (has_old (has_new _ _ _ _ rfl))
  rw [ef] at hrawc
  clear hPc
  generalize hWXc : ((W0.alloc (.cells #[] 5)).alloc (.cells #[.slice xa x.length xc, .slice none 0 0, .slice xa x.length xc] 27)).drew = WXc at hrawc hBc hEc
  have HRc : Hid (Calls Try.prog 21 #[.pointer (some ⟨p, 0, none⟩), .slice (some ⟨W0.heap.size + 1, 0, none⟩) 3 3] WXc fun e w' => Laid WXc w' p v bs (x ++ x) e) := hrawc
  have HWc : Hid (((W0.alloc (.cells #[] 5)).alloc (.cells #[.slice xa x.length xc, .slice none 0 0, .slice xa x.length xc] 27)).drew = WXc) := hWXc
  clear hrawc hWXc
  go_region_held3 (fun W => W.cell? ⟨w.heap.size, 2, none⟩ = some (.slice xa x.length xc)) (first | exact c2 | exact hal _ _ c2 | exact hal _ _ (hal _ _ c2) | exact hk1 | exact hal _ _ hk1 | exact hk2 | exact hk3)
    ((first | (go_at_call 21; rw [HWa.out]; refine HRa.out.mono ?_; intro e w1 hl; obtain ⟨rfl, v1, hW2, hF2, hL2⟩ := hl.ok hfit; obtain ⟨hF2', hL2', hxF, hM1, hM0⟩ := after_raw hW1 hBa hx1 hW2 hF2 hL2; have hX1 := hX0.fr hF2' hnS; have hk1 : w1.cell? ⟨w.heap.size, 2, none⟩ = some (.slice xa x.length xc) := hX1.cell 2) | (go_at_call 21; rw [HWb.out]; refine HRb.out.mono ?_; intro e w1 hl; obtain ⟨rfl, v1, hW2, hF2, hL2⟩ := hl.ok hfit; obtain ⟨hF2', hL2', hxF, hM1, hM0⟩ := after_raw hW1 hBb hx1 hW2 hF2 hL2; have hX1 := hX0.fr hF2' hnS; have hk1 : w1.cell? ⟨w.heap.size, 2, none⟩ = some (.slice xa x.length xc) := hX1.cell 2; have hMe := hM1 _ hEb (by omega)) | (go_at_call 21; rw [HWc.out]; refine HRc.out.mono ?_; intro e w1 hl; obtain ⟨rfl, v1, hW2, hF2, hL2⟩ := hl.ok hfit; obtain ⟨hF2', hL2', hxF, hM1, hM0⟩ := after_raw hW1 hBc hx1 hW2 hF2 hL2; have hX1 := hX0.fr hF2' hnS; have hk1 : w1.cell? ⟨w.heap.size, 2, none⟩ = some (.slice xa x.length xc) := hX1.cell 2; have hMe := hM1 _ hEc (Nat.le_refl _)) | (refine step_append_bytes rfl _ _ 27 27 rfl info5 Try.underlying27 Try.underlying27 (.slice (some ⟨w1.heap.size, 0, none⟩) 0 0) (.slice xa x.length xc) [] x rfl rfl hM0.own (hxF.later hM0.fr (by simp)) (by simp; omega) ?_; intro v2 w2 hO2 hg2 hL3; have hM2 := hM0.more hF2'.size hW2.lt hO2 hg2 hL3; rw [List.nil_append] at hM2; clear hO2 hg2 hL3; have hk2 : w2.cell? ⟨w.heap.size, 2, none⟩ = some (.slice xa x.length xc) := (World.cell?_of_block (w := w1) (hM2.fr.block w.heap.size hX1.lt (fun e => by have := e.1; have := hX0.lt; omega))).trans hk1; obtain ⟨ya, yc, hy⟩ := hM2.own.slice; subst hy) | (refine step_append_bytes rfl _ _ 27 27 rfl info5 Try.underlying27 Try.underlying27 (.slice (some ⟨W0.heap.size + 1, 0, none⟩) 0 0) (.slice xa x.length xc) [] x rfl rfl hMe.own (hxF.later hMe.fr (by have := hX1.lt; omega)) (by simp; omega) ?_; intro v2 w2 hO2 hg2 hL3; have hM2 := hMe.more hF2'.size hW2.lt hO2 hg2 hL3; rw [List.nil_append] at hM2; clear hO2 hg2 hL3; have hk2 : w2.cell? ⟨w.heap.size, 2, none⟩ = some (.slice xa x.length xc) := (World.cell?_of_block (w := w1) (hM2.fr.block w.heap.size hX1.lt (fun e => by have := e.1; have := hX0.lt; omega))).trans hk1; obtain ⟨ya, yc, hy⟩ := hM2.own.slice; subst hy) | (refine step_append_bytes rfl _ _ 27 27 rfl info5 Try.underlying27 Try.underlying27 (.slice (some ⟨W0.heap.size, 0, none⟩) 0 0) (.slice xa x.length xc) [] x rfl rfl hMe.own (hxF.later hMe.fr (by have := hX1.lt; omega)) (by simp; omega) ?_; intro v2 w2 hO2 hg2 hL3; have hM2 := hMe.more hF2'.size hW2.lt hO2 hg2 hL3; rw [List.nil_append] at hM2; clear hO2 hg2 hL3; have hk2 : w2.cell? ⟨w.heap.size, 2, none⟩ = some (.slice xa x.length xc) := (World.cell?_of_block (w := w1) (hM2.fr.block w.heap.size hX1.lt (fun e => by have := e.1; have := hX0.lt; omega))).trans hk1; obtain ⟨ya, yc, hy⟩ := hM2.own.slice; subst hy) | (refine step_append_bytes rfl _ _ 27 27 rfl info5 Try.underlying27 Try.underlying27 (.slice ya x.length yc) (.slice xa x.length xc) x x rfl rfl hM2.own (hxF.later hM2.fr (by have := hX1.lt; have := hM2.fr.size; omega)) (by omega) ?_; intro v3 w3 hO3 hg3 hL3; have hM3 := hM2.more hF2'.size hW2.lt hO3 hg3 hL3; clear hO3 hg3 hL3; have hk3 : w3.cell? ⟨w.heap.size, 2, none⟩ = some (.slice xa x.length xc) := (World.cell?_of_block (w := w1) (hM3.fr.block w.heap.size hX1.lt (fun e => by have := e.1; have := hX0.lt; omega))).trans hk1; have HM3 : Hid (Mk W0.heap.size p v1 w1 w3 v3 (x ++ x)) := hM3; obtain ⟨za, zc, hz⟩ := hM3.own.slice; rw [List.length_append] at hz; subst hz; clear hM3)))
  all_goals
    go_wp2_with fail
    go_ret3
    exact LayR.mk2 hB0 hW2 hF2' hL2' HM3.out
end Go.Proofs.Ytgoflpfafkmmgaa
/- What is laid, whatever it is; calls that come in; are they few. -/
namespace Go.Proofs.Ytgoflpfafkmmgaa
open Go.ChangeShapes Go.WideShapes Go.ChangeAt Go.RowKit

theorem lay_any (p : Nat) (v xv : Value) (bs x : List UInt8) (what n : Int) (hn : n ≤ 9223372036854775807) (w : World) (hW : Wr w p v bs) (hx : InAp (WS p v) w xv x) (hsm : x.length ≤ 1000000000)
    (hfit : bs.length + ((layL what n x).getD []).length ≤ 1048576) :
    Calls Try.prog 13 #[.pointer (some ⟨p, 0, none⟩), .agg #[.int .i64 what, .int .i64 n, xv]] w fun e w' => LayR w w' p v bs (layL what n x) e := by
  obtain ⟨xa, xc, rfl⟩ := hx.slice
  unfold layL at hfit ⊢
  by_cases h0 : what = 0
  · subst h0
    simp only [if_true] at hfit ⊢
    by_cases hn0 : n < 0
    · simp only [if_pos hn0]
      exact lay_0bad p v bs n hn0 w hW xa _ xc
    · simp only [if_neg hn0] at hfit ⊢
      obtain ⟨m, rfl⟩ := Int.eq_ofNat_of_zero_le (by omega : 0 ≤ n)
      exact lay_0 p v bs m (by omega) w hW (by simpa using hfit) xa _ xc
  · simp only [if_neg h0] at hfit ⊢
    by_cases h1 : what = 1
    · subst h1
      simp only [if_true] at hfit ⊢
      cases hi : inS n with
      | false => exact lay_1bad p v bs n hi w hW xa _ xc
      | true =>
        rw [hi] at hfit
        exact lay_1 p v bs n hi w hW (by simpa using hfit) xa _ xc
    · simp only [if_neg h1] at hfit ⊢
      by_cases h2 : what = 2
      · subst h2
        rw [if_pos (.inl rfl)] at hfit ⊢
        exact lay_2 p v bs x n w hW (by simpa using hfit) xa xc hx hsm
      · by_cases h3 : what = 3
        · subst h3
          rw [if_pos (.inr rfl)] at hfit ⊢
          exact lay_3 p v bs x n w hW (by simpa using hfit) xa xc hx hsm
        · rw [if_neg (by omega)] at hfit ⊢
          by_cases h4 : what = 4
          · subst h4
            simp only [if_true] at hfit ⊢
            by_cases hz : n = 0
            · rw [if_pos hz] at hfit ⊢
              exact lay_4false p v bs n hz w hW (by simpa using hfit) xa _ xc
            · rw [if_neg hz] at hfit ⊢
              exact lay_4true p v bs n hz w hW (by simpa using hfit) xa _ xc
          · rw [if_neg h4] at hfit ⊢
            exact lay_5 p v bs x what n ⟨h0, h1, h2, h3, h4⟩ w hW (by simpa using hfit) xa xc hx hsm
theorem layL_len (what n : Int) (hn : n ≤ 9223372036854775807) (x : List UInt8) (hx : x.length ≤ 5000) : ((layL what n x).getD []).length ≤ 2 * (30 + x.length) := by
  unfold layL
  split
  · split
    · simp
    · have := numL_len9 n.toNat (by omega)
      simp; omega
  · split
    · split
      · rename_i h
        have := numL_len9 (foldN n) (foldN_lt n h)
        simp; omega
      · simp
    · split
      · have := numL_len9 x.length (by omega)
        simp [bytL]; omega
      · split
        · simp; omega
        · simp; omega

/-- A call that comes in: what, a number, bytes. -/
structure AddD where
  what : Int
  n : Int
  d : List UInt8
/-- Calls that come in, three cells each. -/
structure Adds (W : World) (v : Value) (xs : List AddD) (a : Option Addr) (cap b o : Nat) (S : Nat → Value) : Prop where
  val : v = .slice a xs.length cap
  at_ : xs ≠ [] → a = some ⟨b, o, none⟩
  c0 : ∀ i x, xs[i]? = some x → W.cell? ⟨b, o + i * 3, none⟩ = some (.int .i64 x.what)
  c1 : ∀ i x, xs[i]? = some x → W.cell? ⟨b, o + i * 3 + 1, none⟩ = some (.int .i64 x.n)
  c2 : ∀ i x, xs[i]? = some x → W.cell? ⟨b, o + i * 3 + 2, none⟩ = some (S i)
  by_ : ∀ i x, xs[i]? = some x → In W (S i) x.d
  wf : ∀ x ∈ xs, -9223372036854775808 ≤ x.n ∧ x.n ≤ 9223372036854775807
  len : xs.length ≤ maxLen
theorem bytes_trod {H : Type} {enc : TypeId × Value → H} {W : World} {fuel : Nat} {cs : List Value} {y : DataW H × List MemPlace} (h : DataW.trod enc Try.prog W 0 (fun _ => true) true fuel 27 cs = some y) : ∃ v x, cs = [v] ∧ In W v x := by
  have hc : Try.prog.cellsOf 5 = 1 := by kernel_rfl
  rcases open_ints Try.underlying27 Try.underlying5 hc h with ⟨hcs, _⟩ | ⟨a, len, cap, zs, hcs, _, hle, _, hall, _, hcell, hwf⟩
  · exact ⟨_, [], hcs, .inl ⟨rfl, none, 0, rfl⟩⟩
  · simp only [if_true] at hall
    have hx : ((zs.take len).map fun z => UInt8.ofNat z.toNat).length = len := by simp; omega
    by_cases h0 : len = 0
    · subst h0
      exact ⟨_, [], hcs, .inl ⟨rfl, some a, cap, rfl⟩⟩
    · have hsp := spot_none (hcell 0 (by omega))
      obtain ⟨b, o, sp⟩ := a
      obtain rfl : sp = none := hsp
      have hlt : b < W.heap.size := block_of_cell (hcell 0 (by omega))
      refine ⟨_, _, hcs, .inr ⟨some ⟨b, o, none⟩, cap, b, o, by rw [hx], by rw [hx]; exact hle, fun _ => rfl, fun j hj => ?_, hlt⟩⟩
      rw [hx] at hj
      have hj' := hcell j (by omega)
      rw [Addr.add_mid] at hj'
      rw [hj']
      have hw := hwf (zs.getD j 0) (by rw [List.getD_eq_getElem?_getD, List.getElem?_eq_getElem (by omega)]; exact List.getElem_mem _)
      have hb := bounds_u8 hw
      have e : ((zs.take len).map fun z => UInt8.ofNat z.toNat)[j]?.getD 0 = UInt8.ofNat (zs.getD j 0).toNat := by
        rw [List.getElem?_map, List.getElem?_take_of_lt hj, List.getD_eq_getElem?_getD, List.getElem?_eq_getElem (by omega)]; rfl
      rw [e]
      refine congrArg (fun z => some (Value.int .u8 z)) ?_
      unfold bv
      rw [UInt8.toNat_ofNat']
      omega
theorem adds_of {H : Type} {enc : TypeId × Value → H} {W : World} {base : Nat} {r : Reach} {v : Value} {d : DataW H} {ps : List MemPlace} (hv : Value.okWide Try.prog W r base 22 v) (h : DataW.Trod enc Try.prog W 0 (fun _ => true) true 22 v d ps) :
    ∃ xs a cap b o S, Adds W v xs a cap b o S := by
  obtain ⟨a0, len, cap, rfl⟩ := okWide_slice Try.underlying22 hv
  obtain ⟨fuel, hf⟩ := h
  have hc : Try.prog.cellsOf 29 = 3 := by kernel_rfl
  rcases DataW.trod_slice Try.underlying22 hf with ⟨hcs, _⟩ | ⟨a, len', cap', elems, rest, n, rfl, hcs, _, _, hle, hmx, hel, hall, _, _⟩
  · simp [Value.cells] at hcs
    obtain ⟨rfl, rfl, rfl⟩ := hcs
    exact ⟨[], none, 0, 0, 0, fun _ => undef, rfl, fun h => absurd rfl h, fun i x h => by simp at h, fun i x h => by simp at h, fun i x h => by simp at h, fun i x h => by simp at h, fun x h => by simp at h, by simp [maxLen]⟩
  · simp [Value.cells] at hcs
    obtain ⟨rfl, rfl, rfl⟩ := hcs
    rw [hc] at hall
    have each : ∀ i, i < len → ∃ y : AddD × Value, W.cell? ((a.add (i * 3)).add 0) = some (.int .i64 y.1.what) ∧ W.cell? ((a.add (i * 3)).add 1) = some (.int .i64 y.1.n) ∧ W.cell? ((a.add (i * 3)).add 2) = some y.2 ∧ In W y.2 y.1.d ∧ (-9223372036854775808 ≤ y.1.n ∧ y.1.n ≤ 9223372036854775807) := fun i hi => by
      have h1 := hall i hi
      rw [List.getElem?_eq_getElem (by omega)] at h1
      rw [Option.bind_eq_some_iff] at h1
      obtain ⟨cs, hcs, htr⟩ := h1
      unfold World.cells? at hcs
      rw [if_pos (Nat.zero_le _)] at hcs
      have hg : ∀ j : Nat, j < 3 → W.cell? ((a.add (i * 3)).add j) = cs[j]? := fun j hj => mapM_some_get hcs j j (by simp [hj])
      have hl : cs.length = 3 := by simpa using mapM_some_length hcs
      match cs, hl with
      | [e0, e1, e2], _ =>
        have g0 : W.cell? ((a.add (i * 3)).add 0) = some e0 := hg 0 (by omega)
        have g1 : W.cell? ((a.add (i * 3)).add 1) = some e1 := hg 1 (by omega)
        have g2 : W.cell? ((a.add (i * 3)).add 2) = some e2 := hg 2 (by omega)
        obtain ⟨y0, y1, y2, n', _, _, t0, t1, t2⟩ := Go.Deep.trod_struct3 Try.underlying29 htr
        have k3 : Try.prog.cellsOf 3 = 1 := by kernel_rfl
        have k2 : Try.prog.cellsOf 2 = 1 := by kernel_rfl
        have k27 : Try.prog.cellsOf 27 = 1 := by kernel_rfl
        simp only [k3, k2, k27, List.drop_zero, List.drop_succ_cons, List.take_succ_cons, List.take_zero] at t0 t1 t2
        obtain ⟨z0, q0, _, _⟩ := DataW.trod_int Try.underlying3 t0
        obtain ⟨z1, q1, _, w1⟩ := DataW.trod_int Try.underlying2 t1
        obtain ⟨v2, x2, q2, hin⟩ := bytes_trod t2
        simp only [List.cons.injEq, and_true] at q0 q1 q2
        subst q0 q1 q2
        exact ⟨(⟨z0, z1, x2⟩, e2), g0, g1, g2, hin, bounds_i64 w1⟩
    by_cases h0 : len = 0
    · subst h0
      exact ⟨[], some a, cap, 0, 0, fun _ => undef, rfl, fun h => absurd rfl h, fun i x h => by simp at h, fun i x h => by simp at h, fun i x h => by simp at h, fun i x h => by simp at h, fun x h => by simp at h, by simp [maxLen]⟩
    · haveI : Inhabited (AddD × Value) := ⟨(⟨0, 0, []⟩, undef)⟩
      obtain ⟨y, hy⟩ := Go.Deep.choose_lt each
      have hsp := spot_none (hy 0 (by omega)).1
      obtain ⟨b, o, sp⟩ := a
      obtain rfl : sp = none := by unfold Addr.add at hsp; cases sp <;> simp_all
      have hget : ∀ i x, ((List.range len).map fun i => (y i).1)[i]? = some x → i < len ∧ x = (y i).1 := fun i x h => by
        rw [List.getElem?_map] at h
        by_cases hi : i < len
        · simp [hi] at h; exact ⟨hi, h.symm⟩
        · simp [show len ≤ i by omega] at h
      refine ⟨(List.range len).map fun i => (y i).1, some ⟨b, o, none⟩, cap, b, o, fun i => (y i).2, by simp, fun _ => rfl, fun i x h => ?_, fun i x h => ?_, fun i x h => ?_, fun i x h => ?_, fun x h => ?_, by simp; omega⟩
      · obtain ⟨hi, rfl⟩ := hget i x h
        have := (hy i hi).1
        rw [Addr.add_mid, Addr.add_mid] at this
        exact this
      · obtain ⟨hi, rfl⟩ := hget i x h
        have := (hy i hi).2.1
        rw [Addr.add_mid, Addr.add_mid] at this
        exact this
      · obtain ⟨hi, rfl⟩ := hget i x h
        have := (hy i hi).2.2.1
        rw [Addr.add_mid, Addr.add_mid] at this
        exact this
      · obtain ⟨hi, rfl⟩ := hget i x h
        exact (hy i hi).2.2.2.1
      · rw [List.mem_map] at h
        obtain ⟨i, hi, rfl⟩ := h
        exact (hy i (by simpa using hi)).2.2.2.2

def wt (x : AddD) : Nat := 30 + min x.d.length 4001
def tot (xs : List AddD) (k : Nat) : Nat := ((xs.take k).map wt).sum
theorem tot_succ (xs : List AddD) (k : Nat) (x : AddD) (h : xs[k]? = some x) : tot xs (k + 1) = tot xs k + wt x := by
  unfold tot
  obtain ⟨hk, he⟩ := List.getElem?_eq_some_iff.1 h
  rw [List.take_succ_eq_append_getElem hk, he, List.map_append, List.sum_append]
  simp
theorem tot_le (xs : List AddD) (k : Nat) : tot xs k ≤ tot xs xs.length := by
  have e : ((xs.take k ++ xs.drop k).map wt).sum = ((xs.take k).map wt).sum + ((xs.drop k).map wt).sum := by rw [List.map_append, List.sum_append]
  rw [List.take_append_drop] at e
  unfold tot
  rw [List.take_length, e]
  exact Nat.le_add_right _ _
/-- Are they few. -/
def fewB (xs : List AddD) : Bool := decide (tot xs xs.length ≤ 4000)
set_option maxRecDepth 10000 in
set_option maxHeartbeats 1000000 in
theorem few_any (v : Value) (xs : List AddD) (a : Option Addr) (cap b o : Nat) (S : Nat → Value) (w : World) (hA : Adds w v xs a cap b o S) :
    Calls Try.prog 10 #[v] w fun e w' => e = .returned (.bool (fewB xs)) ∧ w' = w := by
  obtain rfl := hA.val
  have hlen := hA.len
  unfold maxLen at hlen
  have HL : Hid (xs.length ≤ 9223372036854775807) := hlen
  go_enter Try.func10, Try.ntmps10
  go_wp2_with fail
  go_loop [3, 4] (fun n i => ∃ k : Nat, k ≤ xs.length ∧ i = .int .i64 k ∧ n = .int .i64 (tot xs k) ∧ tot xs k ≤ 9000) (fun _ i => xs.length - (intOf i).toNat)
  case atStart => exact ⟨0, by omega, rfl, rfl, by simp [tot]⟩
  case round =>
    obtain ⟨k, hk, rfl, rfl, ht⟩ := hrel
    by_cases hkl : k < xs.length
    · have i1 : (k : Int) < xs.length := by omega
      by_cases hfew : tot xs k ≤ 4000
      · have hx : xs[k]? = some xs[k] := List.getElem?_eq_getElem hkl
        obtain rfl := hA.at_ (by intro e; simp [e] at hkl)
        have c2 := hA.c2 k _ hx
        have hin := hA.by_ k _ hx
        have Ht := tot_succ xs k _ hx
        generalize xs[k] = x at *
        obtain ⟨sa, sc, hs⟩ := hin.slice
        rw [hs] at c2
        have Hw : Hid (tot xs (k + 1) = tot xs k + (30 + min x.d.length 4001)) := Ht
        clear Ht hin hs hA
        generalize tot xs k = T at *
        have i2 : (T : Int) ≤ 4000 := by omega
        go_wp2_with fail
        go_round
        case rel => exact ⟨k + 1, by omega, by go_num, by rw [Hw.out]; congr 1; split <;> omega, by rw [Hw.out]; omega⟩
        case measure => simp [intOf]; omega
      · have hbad : fewB xs = false := by unfold fewB; have := tot_le xs k; simp; omega
        have i2 : ¬ (tot xs k : Int) ≤ 4000 := by omega
        have HB : Hid (fewB xs = false) := hbad
        clear hbad
        go_wp2_with fail
        go_ret
        exact ⟨by rw [HB.out]; rfl, rfl⟩
    · obtain rfl : k = xs.length := by omega
      have i1 : ¬ (xs.length : Int) < xs.length := by omega
      have HB : Hid (decide ((tot xs xs.length : Int) ≤ 4000) = fewB xs) := by unfold fewB; show _ = _; rw [Bool.eq_iff_iff]; simp; omega
      go_wp2_with fail
      go_ret
      exact ⟨by rw [← HB.out]; rfl, rfl⟩
end Go.Proofs.Ytgoflpfafkmmgaa
/- took: what program and document take is the same (a number). -/
namespace Go.Proofs.Ytgoflpfafkmmgaa
open Go.RowKit

def TkR (w w' : World) (r : Nat) (l : List UInt8) (a : Option Addr) (bl c : Nat) (e : Ending) : Prop := ∃ at' fl' : Nat, e = .returned (.tuple #[.agg #[.slice a bl c, .int .i64 at', .int .i64 fl'], .bool true]) ∧ St w' r l at' fl' ∧ Ex r w w'
theorem alloc3_has {w : World} {x y z x' y' x2 y2 z2 : Value} : Below w.heap.size w (((w.alloc (.cells #[x, y, z] 45)).alloc (.cells #[x', y'] 63)).alloc (.cells #[x2, y2, z2] 45)) ∧ Has (((w.alloc (.cells #[x, y, z] 45)).alloc (.cells #[x', y'] 63)).alloc (.cells #[x2, y2, z2] 45)) (w.heap.size + 1) #[x', y'] 63 ∧ Has (((w.alloc (.cells #[x, y, z] 45)).alloc (.cells #[x', y'] 63)).alloc (.cells #[x2, y2, z2] 45)) (w.heap.size + 2) #[x2, y2, z2] 45 ∧ (((w.alloc (.cells #[x, y, z] 45)).alloc (.cells #[x', y'] 63)).alloc (.cells #[x2, y2, z2] 45)).heap.size = w.heap.size + 3 :=
  ⟨(alloc2_below _ _ _).alloc (by simp; omega) _, has_old (has_new _ _ _ _ (by simp)), has_new _ _ _ _ (by simp), by simp⟩
theorem Ex.more {r g : Nat} {w x y : World} (h : Ex r w x) (k : Ex g x y) (hg : w.heap.size ≤ g) : Ex r w y :=
  ⟨k.os.trans h.os, k.tape.trans h.tape, k.output.trans h.output, Nat.le_trans h.size k.size, fun i hi hb => (k.block i (Nat.lt_of_lt_of_le hi h.size) (by omega)).trans (h.block i hi hb)⟩
theorem Bytes.notRef {w : World} {g : Nat} {a : Option Addr} {n c : Nat} {x y : Int} {v : Value} {d : List UInt8} (h : Bytes w v d) (hh : Has w g #[.slice a n c, .int .i64 x, .int .i64 y] 45) : InAp (· = g) w v d := by
  obtain ⟨a', c', db, o, rfl, hcap, ha, hin, hlt⟩ := h
  by_cases hd : d = []
  · exact .inl ⟨hd, by subst hd; exact ⟨a', c', rfl⟩⟩
  · refine .inr ⟨a', c', db, o, rfl, hcap, ha, hin, hlt, ?_⟩
    rintro rfl
    have h0 := hin 0 (List.length_pos_iff.2 hd)
    rw [hh.cell] at h0
    revert h0
    generalize o + 0 = q
    intro h0
    match q, h0 with
    | 0, h0 => simp [bc] at h0
    | 1, h0 => simp [bc] at h0
    | 2, h0 => simp [bc] at h0
    | q + 3, h0 => simp at h0
set_option maxRecDepth 10000 in
set_option maxHeartbeats 2000000 in
theorem took_0 (r : Nat) (a : Option Addr) (c at_ fl bl : Nat) (l : List UInt8) (hbl : bl = l.length) (n : Int) (w : World) (hB : Bytes w (.slice a bl c) l) (hS : St w r l at_ fl) (hsm : l.length ≤ 10000000000) :
    Calls Try.prog 33 #[.pointer (some ⟨r, 0, none⟩), .agg #[.slice a bl c, .int .i64 at_, .int .i64 fl], .agg #[.int .i64 0, .int .i64 n]] w fun e w' => TkR w w' r l a bl c e := by
  have hrl := hS.lt
  have hq := fun W (hW : Below w.heap.size w W) => qnum a c at_ fl bl l hbl n W (hB.below hW) hS.2 hsm
  have hp := fun W (hW : St W r l at_ fl) => pnum r l at_ fl n W hW hsm
  clear hbl
  generalize res fl (bnd n (lnum n (l.drop at_))) = y at *
  generalize atN l at_ y = at' at *
  generalize vec y = fl' at *
  generalize vmv y = m at *
  go_enter Try.func33, Try.ntmps33
  go_wp2_with fail
  refine named (p := fun X => Calls _ _ _ X _) ?_
  intro W0 hW0
  obtain ⟨hB0, hT, hC, hz⟩ : Below w.heap.size w W0 ∧ Has W0 (w.heap.size + 1) #[.int .i64 0, .int .i64 n] 63 ∧ Has W0 (w.heap.size + 2) #[.slice none 0 0, .int .i64 0, .int .i64 0] 45 ∧ W0.heap.size = w.heap.size + 3 := by rw [hW0]; exact alloc3_has
  clear hW0
  refine (hq W0 hB0).mono ?_
  rintro e W1 ⟨rfl, hB1⟩
  have hT1 := hT.below hB1 (by omega)
  have hC1 := hC.below hB1 (by omega)
  have hBw : Below w.heap.size w W1 := hB0.trans (hB1.mono (by omega))
  have hz1 := hB1.size
  have q1 := hT1.cell 1
  simp at q1
  have n1 : ¬ w.heap.size + 1 = W1.heap.size := by omega
  have n2 : w.heap.size + 1 < W1.heap.size := by omega
  clear hT hC hq
  go_wp2_with fail
  refine named (p := fun X => Calls _ _ _ X _) ?_
  intro W2 hW2
  have hB2 : Below W1.heap.size W1 W2 := by rw [hW2]; exact (Below.refl _ _).alloc (Nat.le_refl _) _
  have hX2 : Has W2 W1.heap.size #[.slice a bl c, .int .i64 at', .int .i64 fl'] 45 := by rw [hW2]; exact has_new _ _ _ _ rfl
  have hz2 : W2.heap.size = W1.heap.size + 1 := by rw [hW2]; simp
  clear hW2
  have hBx : Below w.heap.size w W2 := hBw.trans (hB2.mono (by omega))
  refine (hp W2 (hS.below hBx)).mono ?_
  rintro e W3 ⟨rfl, hS3, hE3⟩
  have hX3 := hX2.ex hE3 (by omega)
  have hC3 := (hC1.below hB2 (by omega)).ex hE3 (by omega)
  obtain ⟨⟨lv, hR3⟩, hat3⟩ := id hS3
  have hz3 := hE3.size
  have hat := at_any r lv _ at' fl' W3 hR3
  have hat' := at_any r lv _ at' fl' W3.drew (hR3.below ⟨rfl, rfl, rfl, Nat.le_refl _, fun _ _ => rfl⟩)
  have x0 := hX3.cell 0
  have x1 := hX3.cell 1
  have x2 := hX3.cell 2
  have s0 := hC3.cell 0
  have s1 := hC3.cell 1
  have s2 := hC3.cell 2
  have f0 := hC3.free 0
  have f1 := hC3.free 1
  have f2 := hC3.free 2
  simp at x0 x1 x2 s0 s1 s2
  generalize W1.heap.size = g at *
  generalize hg6 : w.heap.size + 2 = g6 at *
  have n6 : ¬ g = g6 := by omega
  have n7 : ¬ g6 = g := by omega
  have k3 : ∀ (i : Nat) (v0 v1 v2 : Value), (((W3.setCell ⟨g6, 0, none⟩ v0).setCell ⟨g6, 1, none⟩ v1).setCell ⟨g6, 2, none⟩ v2).cell? ⟨g, i, none⟩ = W3.cell? ⟨g, i, none⟩ := fun i v0 v1 v2 => World.cell?_of_block ((((Ex.set g6 W3 0 v0).trans (Ex.set g6 _ 1 v1)).trans (Ex.set g6 _ 2 v2)).block g (by omega) n6)
  clear hp hX2 hT1 hC1 q1
  go_wp2_with fail
  go_region_held3 (fun W => W.cell? ⟨g, 0, none⟩ = some (.slice a bl c) ∧ W.cell? ⟨g, 1, none⟩ = some (.int .i64 at') ∧ W.cell? ⟨g, 2, none⟩ = some (.int .i64 fl')) (first | exact ⟨x0, x1, x2⟩ | exact ⟨(k3 _ _ _ _).trans x0, (k3 _ _ _ _).trans x1, (k3 _ _ _ _).trans x2⟩)
        ((first | (go_at_call 14; refine (num_any _ _).mono ?_; rintro e w' ⟨rfl, hw⟩; obtain rfl := hw.symm; clear hw) | (go_at_call 32; (first | refine hat.mono ?_ | refine hat'.mono ?_); rintro e w' ⟨rfl, hw⟩; obtain rfl := hw.symm; clear hw)))
  go_wp2_with fail
  refine named (p := fun X => bodyPost _ _ _ _ _ X) ?_
  intro Wf hWf
  have hE6 : Ex g6 W3 Wf := by rw [hWf]; exact (((Ex.set g6 W3 0 _).trans (Ex.set g6 _ 1 _)).trans (Ex.set g6 _ 2 _)).trans (Ex.below ⟨rfl, rfl, rfl, Nat.le_refl _, fun _ _ => rfl⟩)
  have hHf : Has Wf g6 #[.slice a bl c, .int .i64 at', .int .i64 fl'] 45 := by rw [hWf]; exact set3_has hC3
  clear hWf
  have r0 := hHf.cell 0
  have r1 := hHf.cell 1
  have r2 := hHf.cell 2
  simp at r0 r1 r2
  have hSf : St Wf r l at' fl' := ⟨⟨lv, hR3.ex hE6 (by omega) (hR3.by_.bytes.notRef hC3)⟩, hat3⟩
  have hEf : Ex r w Wf := ((Ex.below hBx).trans hE3).more hE6 (by omega)
  exact bodyPost_ret (v := .tuple #[.agg #[.slice a bl c, .int .i64 at', .int .i64 fl'], .bool true]) (by simp [results, Try.results33, go_sem, r0, r1, r2]) rfl ⟨at', fl', rfl, hSf, hEf⟩
end Go.Proofs.Ytgoflpfafkmmgaa
/- took: a signed number, a truth. -/
namespace Go.Proofs.Ytgoflpfafkmmgaa
open Go.RowKit

set_option maxRecDepth 10000 in
set_option maxHeartbeats 2000000 in
theorem took_1 (r : Nat) (a : Option Addr) (c at_ fl bl : Nat) (l : List UInt8) (hbl : bl = l.length) (n : Int) (w : World) (hB : Bytes w (.slice a bl c) l) (hS : St w r l at_ fl) (hsm : l.length ≤ 10000000000) :
    Calls Try.prog 33 #[.pointer (some ⟨r, 0, none⟩), .agg #[.slice a bl c, .int .i64 at_, .int .i64 fl], .agg #[.int .i64 1, .int .i64 n]] w fun e w' => TkR w w' r l a bl c e := by
  have hrl := hS.lt
  have hq := fun W (hW : Below w.heap.size w W) => qsig a c at_ fl bl l hbl W (hB.below hW) hS.2 hsm
  have hp := fun W (hW : St W r l at_ fl) => psig r l at_ fl W hW hsm
  clear hbl
  generalize res fl (lsig (l.drop at_)) = y at *
  generalize atN l at_ y = at' at *
  generalize vec y = fl' at *
  generalize vsg y = m at *
  go_enter Try.func33, Try.ntmps33
  go_wp2_with fail
  refine named (p := fun X => Calls _ _ _ X _) ?_
  intro W0 hW0
  obtain ⟨hB0, hT, hC, hz⟩ : Below w.heap.size w W0 ∧ Has W0 (w.heap.size + 1) #[.int .i64 1, .int .i64 n] 63 ∧ Has W0 (w.heap.size + 2) #[.slice none 0 0, .int .i64 0, .int .i64 0] 45 ∧ W0.heap.size = w.heap.size + 3 := by rw [hW0]; exact alloc3_has
  clear hW0
  refine (hq W0 hB0).mono ?_
  rintro e W1 ⟨rfl, hB1⟩
  have hT1 := hT.below hB1 (by omega)
  have hC1 := hC.below hB1 (by omega)
  have hBw : Below w.heap.size w W1 := hB0.trans (hB1.mono (by omega))
  have hz1 := hB1.size
  have q1 := hT1.cell 1
  simp at q1
  have n1 : ¬ w.heap.size + 1 = W1.heap.size := by omega
  have n2 : w.heap.size + 1 < W1.heap.size := by omega
  clear hT hC hq
  go_wp2_with fail
  refine named (p := fun X => Calls _ _ _ X _) ?_
  intro W2 hW2
  have hB2 : Below W1.heap.size W1 W2 := by rw [hW2]; exact (Below.refl _ _).alloc (Nat.le_refl _) _
  have hX2 : Has W2 W1.heap.size #[.slice a bl c, .int .i64 at', .int .i64 fl'] 45 := by rw [hW2]; exact has_new _ _ _ _ rfl
  have hz2 : W2.heap.size = W1.heap.size + 1 := by rw [hW2]; simp
  clear hW2
  have hBx : Below w.heap.size w W2 := hBw.trans (hB2.mono (by omega))
  refine (hp W2 (hS.below hBx)).mono ?_
  rintro e W3 ⟨rfl, hS3, hE3⟩
  have hX3 := hX2.ex hE3 (by omega)
  have hC3 := (hC1.below hB2 (by omega)).ex hE3 (by omega)
  obtain ⟨⟨lv, hR3⟩, hat3⟩ := id hS3
  have hz3 := hE3.size
  have hat := at_any r lv _ at' fl' W3 hR3
  have hat' := at_any r lv _ at' fl' W3.drew (hR3.below ⟨rfl, rfl, rfl, Nat.le_refl _, fun _ _ => rfl⟩)
  have x0 := hX3.cell 0
  have x1 := hX3.cell 1
  have x2 := hX3.cell 2
  have s0 := hC3.cell 0
  have s1 := hC3.cell 1
  have s2 := hC3.cell 2
  have f0 := hC3.free 0
  have f1 := hC3.free 1
  have f2 := hC3.free 2
  simp at x0 x1 x2 s0 s1 s2
  generalize W1.heap.size = g at *
  generalize hg6 : w.heap.size + 2 = g6 at *
  have n6 : ¬ g = g6 := by omega
  have n7 : ¬ g6 = g := by omega
  have k3 : ∀ (i : Nat) (v0 v1 v2 : Value), (((W3.setCell ⟨g6, 0, none⟩ v0).setCell ⟨g6, 1, none⟩ v1).setCell ⟨g6, 2, none⟩ v2).cell? ⟨g, i, none⟩ = W3.cell? ⟨g, i, none⟩ := fun i v0 v1 v2 => World.cell?_of_block ((((Ex.set g6 W3 0 v0).trans (Ex.set g6 _ 1 v1)).trans (Ex.set g6 _ 2 v2)).block g (by omega) n6)
  clear hp hX2 hT1 hC1 q1
  go_wp2_with fail
  go_region_held3 (fun W => W.cell? ⟨g, 0, none⟩ = some (.slice a bl c) ∧ W.cell? ⟨g, 1, none⟩ = some (.int .i64 at') ∧ W.cell? ⟨g, 2, none⟩ = some (.int .i64 fl')) (first | exact ⟨x0, x1, x2⟩ | exact ⟨(k3 _ _ _ _).trans x0, (k3 _ _ _ _).trans x1, (k3 _ _ _ _).trans x2⟩)
        ((first | (go_at_call 14; refine (num_any _ _).mono ?_; rintro e w' ⟨rfl, hw⟩; obtain rfl := hw.symm; clear hw) | (go_at_call 32; (first | refine hat.mono ?_ | refine hat'.mono ?_); rintro e w' ⟨rfl, hw⟩; obtain rfl := hw.symm; clear hw)))
  go_wp2_with fail
  refine named (p := fun X => bodyPost _ _ _ _ _ X) ?_
  intro Wf hWf
  have hE6 : Ex g6 W3 Wf := by rw [hWf]; exact (((Ex.set g6 W3 0 _).trans (Ex.set g6 _ 1 _)).trans (Ex.set g6 _ 2 _)).trans (Ex.below ⟨rfl, rfl, rfl, Nat.le_refl _, fun _ _ => rfl⟩)
  have hHf : Has Wf g6 #[.slice a bl c, .int .i64 at', .int .i64 fl'] 45 := by rw [hWf]; exact set3_has hC3
  clear hWf
  have r0 := hHf.cell 0
  have r1 := hHf.cell 1
  have r2 := hHf.cell 2
  simp at r0 r1 r2
  have hSf : St Wf r l at' fl' := ⟨⟨lv, hR3.ex hE6 (by omega) (hR3.by_.bytes.notRef hC3)⟩, hat3⟩
  have hEf : Ex r w Wf := ((Ex.below hBx).trans hE3).more hE6 (by omega)
  exact bodyPost_ret (v := .tuple #[.agg #[.slice a bl c, .int .i64 at', .int .i64 fl'], .bool true]) (by simp [results, Try.results33, go_sem, r0, r1, r2]) rfl ⟨at', fl', rfl, hSf, hEf⟩
set_option maxRecDepth 10000 in
set_option maxHeartbeats 2000000 in
theorem took_4 (r : Nat) (a : Option Addr) (c at_ fl bl : Nat) (l : List UInt8) (hbl : bl = l.length) (n : Int) (w : World) (hB : Bytes w (.slice a bl c) l) (hS : St w r l at_ fl) (hsm : l.length ≤ 10000000000) :
    Calls Try.prog 33 #[.pointer (some ⟨r, 0, none⟩), .agg #[.slice a bl c, .int .i64 at_, .int .i64 fl], .agg #[.int .i64 4, .int .i64 n]] w fun e w' => TkR w w' r l a bl c e := by
  have hrl := hS.lt
  have hq := fun W (hW : Below w.heap.size w W) => qtru a c at_ fl bl l hbl W (hB.below hW) hS.2 hsm
  have hp := fun W (hW : St W r l at_ fl) => ptru r l at_ fl W hW hsm
  clear hbl
  generalize res fl (ltru (l.drop at_)) = y at *
  generalize atN l at_ y = at' at *
  generalize vec y = fl' at *
  generalize vtr y = m at *
  go_enter Try.func33, Try.ntmps33
  go_wp2_with fail
  refine named (p := fun X => Calls _ _ _ X _) ?_
  intro W0 hW0
  obtain ⟨hB0, hT, hC, hz⟩ : Below w.heap.size w W0 ∧ Has W0 (w.heap.size + 1) #[.int .i64 4, .int .i64 n] 63 ∧ Has W0 (w.heap.size + 2) #[.slice none 0 0, .int .i64 0, .int .i64 0] 45 ∧ W0.heap.size = w.heap.size + 3 := by rw [hW0]; exact alloc3_has
  clear hW0
  refine (hq W0 hB0).mono ?_
  rintro e W1 ⟨rfl, hB1⟩
  have hT1 := hT.below hB1 (by omega)
  have hC1 := hC.below hB1 (by omega)
  have hBw : Below w.heap.size w W1 := hB0.trans (hB1.mono (by omega))
  have hz1 := hB1.size
  have q1 := hT1.cell 1
  simp at q1
  have n1 : ¬ w.heap.size + 1 = W1.heap.size := by omega
  have n2 : w.heap.size + 1 < W1.heap.size := by omega
  clear hT hC hq
  go_wp2_with fail
  refine named (p := fun X => Calls _ _ _ X _) ?_
  intro W2 hW2
  have hB2 : Below W1.heap.size W1 W2 := by rw [hW2]; exact (Below.refl _ _).alloc (Nat.le_refl _) _
  have hX2 : Has W2 W1.heap.size #[.slice a bl c, .int .i64 at', .int .i64 fl'] 45 := by rw [hW2]; exact has_new _ _ _ _ rfl
  have hz2 : W2.heap.size = W1.heap.size + 1 := by rw [hW2]; simp
  clear hW2
  have hBx : Below w.heap.size w W2 := hBw.trans (hB2.mono (by omega))
  refine (hp W2 (hS.below hBx)).mono ?_
  rintro e W3 ⟨rfl, hS3, hE3⟩
  have hX3 := hX2.ex hE3 (by omega)
  have hC3 := (hC1.below hB2 (by omega)).ex hE3 (by omega)
  obtain ⟨⟨lv, hR3⟩, hat3⟩ := id hS3
  have hz3 := hE3.size
  have hat := at_any r lv _ at' fl' W3 hR3
  have hat' := at_any r lv _ at' fl' W3.drew (hR3.below ⟨rfl, rfl, rfl, Nat.le_refl _, fun _ _ => rfl⟩)
  have x0 := hX3.cell 0
  have x1 := hX3.cell 1
  have x2 := hX3.cell 2
  have s0 := hC3.cell 0
  have s1 := hC3.cell 1
  have s2 := hC3.cell 2
  have f0 := hC3.free 0
  have f1 := hC3.free 1
  have f2 := hC3.free 2
  simp at x0 x1 x2 s0 s1 s2
  generalize W1.heap.size = g at *
  generalize hg6 : w.heap.size + 2 = g6 at *
  have n6 : ¬ g = g6 := by omega
  have n7 : ¬ g6 = g := by omega
  have k3 : ∀ (i : Nat) (v0 v1 v2 : Value), (((W3.setCell ⟨g6, 0, none⟩ v0).setCell ⟨g6, 1, none⟩ v1).setCell ⟨g6, 2, none⟩ v2).cell? ⟨g, i, none⟩ = W3.cell? ⟨g, i, none⟩ := fun i v0 v1 v2 => World.cell?_of_block ((((Ex.set g6 W3 0 v0).trans (Ex.set g6 _ 1 v1)).trans (Ex.set g6 _ 2 v2)).block g (by omega) n6)
  clear hp hX2 hT1 hC1 q1
  go_wp2_with fail
  go_region_held3 (fun W => W.cell? ⟨g, 0, none⟩ = some (.slice a bl c) ∧ W.cell? ⟨g, 1, none⟩ = some (.int .i64 at') ∧ W.cell? ⟨g, 2, none⟩ = some (.int .i64 fl')) (first | exact ⟨x0, x1, x2⟩ | exact ⟨(k3 _ _ _ _).trans x0, (k3 _ _ _ _).trans x1, (k3 _ _ _ _).trans x2⟩)
        ((first | (go_at_call 14; refine (num_any _ _).mono ?_; rintro e w' ⟨rfl, hw⟩; obtain rfl := hw.symm; clear hw) | (go_at_call 32; (first | refine hat.mono ?_ | refine hat'.mono ?_); rintro e w' ⟨rfl, hw⟩; obtain rfl := hw.symm; clear hw)))
  go_wp2_with fail
  refine named (p := fun X => bodyPost _ _ _ _ _ X) ?_
  intro Wf hWf
  have hE6 : Ex g6 W3 Wf := by rw [hWf]; exact (((Ex.set g6 W3 0 _).trans (Ex.set g6 _ 1 _)).trans (Ex.set g6 _ 2 _)).trans (Ex.below ⟨rfl, rfl, rfl, Nat.le_refl _, fun _ _ => rfl⟩)
  have hHf : Has Wf g6 #[.slice a bl c, .int .i64 at', .int .i64 fl'] 45 := by rw [hWf]; exact set3_has hC3
  clear hWf
  have r0 := hHf.cell 0
  have r1 := hHf.cell 1
  have r2 := hHf.cell 2
  simp at r0 r1 r2
  have hSf : St Wf r l at' fl' := ⟨⟨lv, hR3.ex hE6 (by omega) (hR3.by_.bytes.notRef hC3)⟩, hat3⟩
  have hEf : Ex r w Wf := ((Ex.below hBx).trans hE3).more hE6 (by omega)
  exact bodyPost_ret (v := .tuple #[.agg #[.slice a bl c, .int .i64 at', .int .i64 fl'], .bool true]) (by simp [results, Try.results33, go_sem, r0, r1, r2]) rfl ⟨at', fl', rfl, hSf, hEf⟩
end Go.Proofs.Ytgoflpfafkmmgaa
/- took: a text. -/
namespace Go.Proofs.Ytgoflpfafkmmgaa
open Go.RowKit

set_option maxRecDepth 10000 in
set_option maxHeartbeats 2000000 in
theorem took_3 (r : Nat) (a : Option Addr) (c at_ fl bl : Nat) (l : List UInt8) (hbl : bl = l.length) (n : Int) (w : World) (hB : Bytes w (.slice a bl c) l) (hS : St w r l at_ fl) (hsm : l.length ≤ 10000000000) :
    Calls Try.prog 33 #[.pointer (some ⟨r, 0, none⟩), .agg #[.slice a bl c, .int .i64 at_, .int .i64 fl], .agg #[.int .i64 3, .int .i64 n]] w fun e w' => TkR w w' r l a bl c e := by
  have hrl := hS.lt
  have hq := fun W (hW : Below w.heap.size w W) => qbyt a c at_ fl bl l hbl n W (hB.below hW) hS.2 hsm
  have hp := fun W (hW : St W r l at_ fl) => ptxt r l at_ fl n W hW hsm
  clear hbl
  generalize res fl (bnd n (lbyt n (l.drop at_))) = y at *
  generalize atN l at_ y = at' at *
  generalize vec y = fl' at *
  generalize vd y = d at *
  go_enter Try.func33, Try.ntmps33
  go_wp2_with fail
  refine named (p := fun X => Calls _ _ _ X _) ?_
  intro W0 hW0
  obtain ⟨hB0, hT, hC, hz⟩ : Below w.heap.size w W0 ∧ Has W0 (w.heap.size + 1) #[.int .i64 3, .int .i64 n] 63 ∧ Has W0 (w.heap.size + 2) #[.slice none 0 0, .int .i64 0, .int .i64 0] 45 ∧ W0.heap.size = w.heap.size + 3 := by rw [hW0]; exact alloc3_has
  clear hW0
  refine (hq W0 hB0).mono ?_
  rintro e W1 ⟨⟨ya, yl, yc, rfl, hY1⟩, hB1⟩
  have hT1 := hT.below hB1 (by omega)
  have hC1 := hC.below hB1 (by omega)
  have hBw : Below w.heap.size w W1 := hB0.trans (hB1.mono (by omega))
  have hz1 := hB1.size
  have q1 := hT1.cell 1
  simp at q1
  have n1 : ¬ w.heap.size + 1 = W1.heap.size := by omega
  have n2 : w.heap.size + 1 < W1.heap.size := by omega
  clear hT hC hq
  go_wp2_with fail
  refine named (p := fun X => Calls _ _ _ X _) ?_
  intro W2 hW2
  have hB2 : Below W1.heap.size W1 W2 := by rw [hW2]; exact (Below.refl _ _).alloc (Nat.le_refl _) _
  have hX2 : Has W2 W1.heap.size #[.slice a bl c, .int .i64 at', .int .i64 fl'] 45 := by rw [hW2]; exact has_new _ _ _ _ rfl
  have hz2 : W2.heap.size = W1.heap.size + 1 := by rw [hW2]; simp
  clear hW2
  have hBx : Below w.heap.size w W2 := hBw.trans (hB2.mono (by omega))
  refine (hp W2 (hS.below hBx)).mono ?_
  rintro e W3 ⟨rfl, hS3, hE3⟩
  have hS2 := hS.below hBx
  obtain ⟨⟨lv2, hR2⟩, _⟩ := id hS2
  have hY3 : Bytes W3 (.slice ya yl yc) d := ((hY1.below hB2).notReader hR2).ex hE3 (by have := hE3.size; omega)
  have hX3 := hX2.ex hE3 (by omega)
  have hC3 := (hC1.below hB2 (by omega)).ex hE3 (by omega)
  obtain ⟨⟨lv, hR3⟩, hat3⟩ := id hS3
  have hz3 := hE3.size
  have hat := at_any r lv _ at' fl' W3 hR3
  have hat' := at_any r lv _ at' fl' W3.drew (hR3.below ⟨rfl, rfl, rfl, Nat.le_refl _, fun _ _ => rfl⟩)
  have x0 := hX3.cell 0
  have x1 := hX3.cell 1
  have x2 := hX3.cell 2
  have s0 := hC3.cell 0
  have s1 := hC3.cell 1
  have s2 := hC3.cell 2
  have f0 := hC3.free 0
  have f1 := hC3.free 1
  have f2 := hC3.free 2
  simp at x0 x1 x2 s0 s1 s2
  generalize W1.heap.size = g at *
  generalize hg6 : w.heap.size + 2 = g6 at *
  have n6 : ¬ g = g6 := by omega
  have n7 : ¬ g6 = g := by omega
  have k3 : ∀ (i : Nat) (v0 v1 v2 : Value), (((W3.setCell ⟨g6, 0, none⟩ v0).setCell ⟨g6, 1, none⟩ v1).setCell ⟨g6, 2, none⟩ v2).cell? ⟨g, i, none⟩ = W3.cell? ⟨g, i, none⟩ := fun i v0 v1 v2 => World.cell?_of_block ((((Ex.set g6 W3 0 v0).trans (Ex.set g6 _ 1 v1)).trans (Ex.set g6 _ 2 v2)).block g (by omega) n6)
  have cv := bytes_string Try.underlying27 Try.underlying5 Try.underlying9 W3 _ d hY3
  have cv' : (convert 27 9 (.slice ya yl yc)).run Try.prog W3.drew = .ok (.string ⟨d.toArray⟩) W3.drew := bytes_string Try.underlying27 Try.underlying5 Try.underlying9 W3.drew _ d (hY3.below ⟨rfl, rfl, rfl, Nat.le_refl _, fun _ _ => rfl⟩)
  have k4 : ∀ (v0 v1 v2 : Value), (convert 27 9 (.slice ya yl yc)).run Try.prog (((W3.setCell ⟨g6, 0, none⟩ v0).setCell ⟨g6, 1, none⟩ v1).setCell ⟨g6, 2, none⟩ v2).drew = .ok (.string ⟨d.toArray⟩) (((W3.setCell ⟨g6, 0, none⟩ v0).setCell ⟨g6, 1, none⟩ v1).setCell ⟨g6, 2, none⟩ v2).drew := fun v0 v1 v2 =>
    bytes_string Try.underlying27 Try.underlying5 Try.underlying9 _ _ d ((hY3.notRef hC3).ex ((((Ex.set g6 W3 0 v0).trans (Ex.set g6 _ 1 v1)).trans (Ex.set g6 _ 2 v2)).trans (Ex.below ⟨rfl, rfl, rfl, Nat.le_refl _, fun _ _ => rfl⟩)) (by simp [World.setCell, World.drew]; omega))
  generalize (⟨d.toArray⟩ : ByteArray) = s at *
  clear hp hX2 hT1 hC1 q1 hS2 hR2 hY1
  go_wp2_with fail
  go_region_held3 (fun W => W.cell? ⟨g, 0, none⟩ = some (.slice a bl c) ∧ W.cell? ⟨g, 1, none⟩ = some (.int .i64 at') ∧ W.cell? ⟨g, 2, none⟩ = some (.int .i64 fl') ∧ (convert 27 9 (.slice ya yl yc)).run Try.prog W = .ok (.string s) W) (first | exact ⟨x0, x1, x2, cv⟩ | exact ⟨x0, x1, x2, cv'⟩ | exact ⟨(k3 _ _ _ _).trans x0, (k3 _ _ _ _).trans x1, (k3 _ _ _ _).trans x2, k4 _ _ _⟩)
        ((first | (go_at_call 14; refine (num_any _ _).mono ?_; rintro e w' ⟨rfl, hw⟩; obtain rfl := hw.symm; clear hw) | (go_at_call 32; (first | refine hat.mono ?_ | refine hat'.mono ?_); rintro e w' ⟨rfl, hw⟩; obtain rfl := hw.symm; clear hw)))
  go_wp2_with fail
  refine named (p := fun X => bodyPost _ _ _ _ _ X) ?_
  intro Wf hWf
  have hE6 : Ex g6 W3 Wf := by rw [hWf]; exact (((Ex.set g6 W3 0 _).trans (Ex.set g6 _ 1 _)).trans (Ex.set g6 _ 2 _)).trans (Ex.below ⟨rfl, rfl, rfl, Nat.le_refl _, fun _ _ => rfl⟩)
  have hHf : Has Wf g6 #[.slice a bl c, .int .i64 at', .int .i64 fl'] 45 := by rw [hWf]; exact set3_has hC3
  clear hWf
  have r0 := hHf.cell 0
  have r1 := hHf.cell 1
  have r2 := hHf.cell 2
  simp at r0 r1 r2
  have hSf : St Wf r l at' fl' := ⟨⟨lv, hR3.ex hE6 (by omega) (hR3.by_.bytes.notRef hC3)⟩, hat3⟩
  have hEf : Ex r w Wf := ((Ex.below hBx).trans hE3).more hE6 (by omega)
  exact bodyPost_ret (v := .tuple #[.agg #[.slice a bl c, .int .i64 at', .int .i64 fl'], .bool true]) (by simp [results, Try.results33, go_sem, r0, r1, r2]) rfl ⟨at', fl', rfl, hSf, hEf⟩
end Go.Proofs.Ytgoflpfafkmmgaa
/- WireLays: the law's walk. -/
namespace Go.Proofs.Ytgoflpfafkmmgaa
open Go.RowKit

theorem new_empty {w w2 : World} {v2 : Value} {x : List UInt8} (hO : Own w2 v2 x) (hg : (w.alloc (.cells #[] 5)).grownBy w2 (Value.slice (some ⟨w.heap.size, 0, none⟩) 0 0).ownBlock) (hL : Loc (w.alloc (.cells #[] 5)) (.slice (some ⟨w.heap.size, 0, none⟩) 0 0) v2) : New w w2 v2 x := by
  refine ⟨hO, fun k hk => ?_, Fr.below ((Below.refl w.heap.size w).alloc (Nat.le_refl _) _) (grown_fr hg) (by simp) (fun k hk e => by simp [Value.ownBlock] at e; omega)⟩
  rcases hL k hk with h | h
  · simp [Value.ownBlock] at h; omega
  · simp at h; omega
/-- A byte that is written into what the call owns. -/
theorem Own.set {w : World} {g c : Nat} {d : List UInt8} (h : Own w (.slice (some ⟨g, 0, none⟩) d.length c) d) (j : Nat) (y : UInt8) : Own (w.setCell ⟨g, j, none⟩ (bc y)) (.slice (some ⟨g, 0, none⟩) (d.set j y).length c) (d.set j y) := by
  rcases h.2 with ⟨h0, _⟩ | ⟨g', cap, cur, he, hb, hg, hn, hc, hs, ht⟩
  · cases h0
  · simp only [Value.slice.injEq, Option.some.injEq, Addr.mk.injEq] at he
    obtain ⟨⟨rfl, _⟩, _, rfl⟩ := he
    refine ⟨by simp, .inr ⟨g, c, cur.setIfInBounds j (bc y), rfl, hb, heap_setCell_same w g j cur 5 _ hg, by simpa using hn, hc, by simpa using hs, ?_⟩⟩
    rw [Array.toList_setIfInBounds, List.length_set, List.take_set, ht, List.map_set]
/-- A slice that holds bytes has a place. -/
theorem Own.some {w : World} {a : Option Addr} {n c : Nat} {d : List UInt8} (h : Own w (.slice a n c) d) (hd : 0 < d.length) : ∃ g, a = .some ⟨g, 0, none⟩ ∧ n = d.length := by
  rcases h.2 with ⟨h0, h1⟩ | ⟨g', cap, cur, he, _⟩
  · omega
  · simp only [Value.slice.injEq] at he
    exact ⟨g', he.1, he.2.1⟩
theorem Own.row {w : World} {g n c : Nat} {d : List UInt8} (h : Own w (.slice (.some ⟨g, 0, none⟩) n c) d) : ∃ cur, Has w g cur 5 := by
  rcases h.2 with ⟨h0, h1⟩ | ⟨g', cap, cur, he, hb, hg, _⟩
  · cases h0
  · simp only [Value.slice.injEq, Option.some.injEq, Addr.mk.injEq] at he
    obtain ⟨⟨rfl, _⟩, _⟩ := he
    exact ⟨cur, hg⟩
theorem wrap_succ (y : UInt8) : IntKind.u8.wrap (bv y + 1) = bv (y + 1) := by
  rw [IntKind.wrap_u8]; unfold bv; rw [UInt8.toNat_add]; simp
def laysΦ (B : List UInt8) (s : ByteArray) (p ul uc : Nat) (ua : Option Addr) : Nat → Value → World → Prop
  | 0, v, _ => v = .pointer (some ⟨p, 0, none⟩)
  | 1, v, w => Bytes w v B
  | 2, v, _ => v = .string s
  | 3, v, _ => v = .slice ua ul uc
  | 4, v, _ => v = .string s
  | 5, v, _ => v = .bool true
  | 6, v, _ => v = .bool true
  | 7, v, _ => v = .pointer none
  | 8, v, _ => v = .int .i64 1
  | 9, v, _ => v = .int .i64 1
  | 10, v, _ => v = .bool true
  | 11, v, _ => v = .bool true
  | 12, v, _ => v = .bool true
  | 13, v, _ => v = .pointer none
  | 14, v, _ => v = .int .i64 1
  | 15, v, _ => v = .int .i64 1
  | 16, v, _ => v = .bool true
  | 17, v, _ => v = .bool true
  | 18, v, _ => v = .bool true
  | 19, v, _ => v = .pointer none
  | 20, v, _ => v = .int .i64 1
  | 21, v, _ => v = .int .i64 1
  | 22, v, _ => v = .bool true
  | 23, v, _ => v = .bool true
  | 24, v, _ => v = .bool true
  | 25, v, _ => v = .pointer none
  | 26, v, _ => v = .int .i64 1
  | 27, v, _ => v = .int .i64 1
  | 28, v, _ => v = .bool true
  | 29, v, _ => v = .bool true
  | 30, v, _ => v = .bool true
  | 31, v, _ => v = .pointer none
  | 32, v, _ => v = .int .i64 1
  | 33, v, _ => v = .int .i64 1
  | 34, v, _ => v = .bool true
  | 35, v, _ => v = .bool true
  | 36, v, _ => v = .bool true
  | 37, v, _ => v = .pointer none
  | 38, v, _ => v = .int .i64 1
  | 39, v, _ => v = .int .i64 1
  | 40, v, _ => v = .bool true
  | 41, v, _ => v = .bool true
  | 42, v, _ => v = .bool true
  | 43, v, _ => v = .pointer none
  | 44, v, _ => v = .slice none 0 0
  | 45, v, _ => v = .int .i64 0
  | 46, v, _ => v = .bool true
  | 47, v, _ => v = .bool true
  | 48, v, _ => v = .bool true
  | 49, v, _ => v = .bool true
  | 50, v, _ => v = .bool true
  | 51, v, _ => v = .bool true
  | _, _, _ => False
set_option maxRecDepth 100000 in
set_option maxHeartbeats 4000000 in
theorem lays_few (v : Value) (xs : List AddD) (a : Option Addr) (cap b o : Nat) (S : Nat → Value) (w : World) (hA : Adds w v xs a cap b o S) (hf : fewB xs = true) :
    Calls Try.prog 3 #[v] w fun e w' => e = .returned (.bool true) ∧ Below w.heap.size w w' := by
  have hfew := few_any v xs a cap b o S w hA
  rw [hf] at hfew
  have htot : tot xs xs.length ≤ 4000 := by unfold fewB at hf; simpa using hf
  have hlen := hA.len
  unfold maxLen at hlen
  obtain rfl := hA.val
  have HA : Hid (Adds w (.slice a xs.length cap) xs a cap b o S) := hA
  have HT : Hid (tot xs xs.length ≤ 4000) := htot
  clear hA hf htot
  go_enter Try.func3, Try.ntmps3
  go_wp2_with (first | (go_at_call 10; refine hfew.mono ?_; rintro e w' ⟨rfl, hw⟩; obtain rfl := hw.symm; clear hw) | fail)
  refine (wnew_any w).mono ?_
  rintro e w1 ⟨rfl, hB, hW⟩
  have h1 := WrN.new w w1 hB hW
  clear hB hW hfew
  generalize hNw : w.heap.size = p at h1
  have HN : Hid (w.heap.size = p) := hNw
  clear hNw
  go_wp2_with fail
  go_loopw [4, 5] (fun uw i wr => ∃ (k : Nat) (v : Value) (bs : List UInt8), k ≤ xs.length ∧ i = .int .i64 k ∧ WrN p w wr p v bs ∧ Own wr uw bs ∧ (∀ j, uw.ownBlock = some j → p ≤ j ∧ ¬ WS p v j) ∧ bs.length ≤ 2 * tot xs k) (fun _ i _ => xs.length - (intOf i).toNat)
  case atStart => exact ⟨0, _, [], by omega, rfl, h1, Own.nil _, (fun j hj => by cases hj), by simp⟩
  case round =>
    obtain ⟨k, v, bs, hk, rfl, hWN, hOw, hdis, hbs⟩ := hrel
    obtain ⟨ua, uc, rfl⟩ := hOw.slice
    by_cases hkl : k < xs.length
    · have i1 : (k : Int) < xs.length := by omega
      have hx : xs[k]? = some xs[k] := List.getElem?_eq_getElem hkl
      obtain rfl := HA.out.at_ (by intro e; simp [e] at hkl)
      have hblt : b < p := by rw [← HN.out]; exact block_of_cell (HA.out.c0 k _ hx)
      have c0 := (hWN.below.cell (p := ⟨b, o + k * 3, none⟩) hblt).trans (HA.out.c0 k _ hx)
      have c1 := (hWN.below.cell (p := ⟨b, o + k * 3 + 1, none⟩) hblt).trans (HA.out.c1 k _ hx)
      have c2 := (hWN.below.cell (p := ⟨b, o + k * 3 + 2, none⟩) hblt).trans (HA.out.c2 k _ hx)
      have hin := HA.out.by_ k _ hx
      have hwf := HA.out.wf xs[k] (List.getElem_mem _)
      have Ht := tot_succ xs k _ hx
      have htk := tot_le xs (k + 1)
      generalize xs[k] = x at *
      have hxl : x.d.length ≤ 4000 := by have := HT.out; unfold wt at Ht; omega
      have hll := layL_len x.what x.n hwf.2 x.d (by omega)
      have Hb : Hid (bs.length + ((layL x.what x.n x.d).getD []).length ≤ 2 * tot xs (k + 1) ∧ 2 * tot xs (k + 1) ≤ 8000) := ⟨by unfold wt at Ht; omega, by have := HT.out; omega⟩
      have hplt := hWN.wr.has.lt
      have hbx : Bytes wr (S k) x.d := hin.bytes (by rw [HN.out]; exact hWN.below) (by omega)
      have HX : Hid (Bytes wr (S k) x.d) := hbx
      obtain ⟨sa, sc, hs⟩ := hin.slice
      have hinw := hin
      rw [hs] at c2 HX hinw
      clear hin hs hbx hx Ht htk hll
      have hbw : b < wr.heap.size := by have := hWN.le; omega
      have hbne : ¬ b = wr.heap.size := by omega
      have HE := own_empty (has_new wr #[] 5 wr.heap.size rfl)
      have HX2 : Hid (Bytes (wr.alloc (.cells #[] 5)) (.slice sa x.d.length sc) x.d) := HX.out.below ((Below.refl _ _).alloc (Nat.le_refl _) _)
      go_wp2_with (refine wpList_append_bytes _ rfl _ _ 27 27 rfl info5 Try.underlying27 Try.underlying27 (.slice (some ⟨wr.heap.size, 0, none⟩) 0 0) _ [] x.d rfl rfl HE HX2.out (by simp; omega) ?_; intro um w2 hO2 hg2 hL2 hnil; clear hnil; rw [List.nil_append] at hO2; have hN2 : New wr w2 um x.d := new_empty hO2 hg2 hL2; clear hO2 hg2 hL2; obtain ⟨ma, mc, hm⟩ := hN2.own.slice; subst hm)
      have hz2 := hN2.below.size
      have hW2 := hWN.grow hN2.below
      have d0 := (hN2.below.cell (p := ⟨b, o + k * 3, none⟩) hbw).trans c0
      have d1 := (hN2.below.cell (p := ⟨b, o + k * 3 + 1, none⟩) hbw).trans c1
      have d2 := (hN2.below.cell (p := ⟨b, o + k * 3 + 2, none⟩) hbw).trans c2
      have hOwlt : ∀ j, (Value.slice ua bs.length uc).ownBlock = some j → j < w2.heap.size := fun j hj => by have := hOw.lt' hj; omega
      have hOw2 : Own w2 _ bs := hOw.fr (S := fun _ => False) (Fr.of_below hN2.below) (fun _ _ h => h)
      have hFw : Fr (WS p v) w w2 := ⟨hW2.below.os, hW2.below.tape, hW2.below.output, hW2.below.size, fun j hj _ => hW2.below.block j (by rw [← HN.out]; exact hj)⟩
      have hmn : ∀ j, (Value.slice ma x.d.length mc).ownBlock = some j → ¬ WS p v j := fun j hj e => by have := hN2.2.1 j hj; have := hWN.wr.lt j e; omega
      have HX3 : Hid (Bytes w2 (.slice sa x.d.length sc) x.d) := HX.out.below hN2.below
      have hlay := lay_any p v (.slice ma x.d.length mc) bs x.d x.what x.n hwf.2 w2 hW2.wr (hN2.own.inap hmn) (by omega) (by have := Hb.out; omega)
      have hlay' := lay_any p v (.slice ma x.d.length mc) bs x.d x.what x.n hwf.2 w2.drew hW2.wr.drew ((hN2.own.inap hmn).fr' ⟨rfl, rfl, rfl, Nat.le_refl _, fun _ _ _ => rfl⟩) (by omega) (by have := Hb.out; omega)
      clear HE HX2 c0 c1 c2 hWN hOw
      go_region_held3 (fun W => W.cell? ⟨b, o + k * 3, none⟩ = some (.int .i64 x.what) ∧ W.cell? ⟨b, o + k * 3 + 1, none⟩ = some (.int .i64 x.n)) (first | exact ⟨d0, d1⟩ | exact ⟨e0, e1⟩)
        ((first | (go_at_call 13; (first | refine hlay.mono ?_ | refine hlay'.mono ?_); rintro e w3 ⟨v3, y, he, hW3, hF3, hL3, hY3, hyn⟩; obtain ⟨ec, hec⟩ : ∃ ec : Int, ec = (if (layL x.what x.n x.d).isNone then 2 else 0) := ⟨_, rfl⟩; rw [← hec] at he; subst he; clear hec; obtain ⟨ya, yc, hy⟩ := hY3.slice; obtain ⟨yl, hyl⟩ : ∃ n : Nat, n = ((layL x.what x.n x.d).getD []).length := ⟨_, rfl⟩; rw [← hyl] at hy; subst hy; clear hyl; have hF3' : Fr (WS p v) w2 w3 := ⟨hF3.os, hF3.tape, hF3.output, hF3.size, hF3.block⟩; have hL3' : Loc w2 v v3 := hL3; have hbn : ¬ WS p v b := (fun e => by have := hW2.hi b e; omega); have e0 : w3.cell? ⟨b, o + k * 3, none⟩ = some (.int .i64 x.what) := (World.cell?_of_block (w := w2) (hF3'.block b (by omega) hbn)).trans d0; have e1 : w3.cell? ⟨b, o + k * 3 + 1, none⟩ = some (.int .i64 x.n) := (World.cell?_of_block (w := w2) (hF3'.block b (by omega) hbn)).trans d1)))
      have hz3 := hF3'.size
      have hmn3 : ∀ j, (Value.slice ma x.d.length mc).ownBlock = some j → ¬ WS p v3 j := fun j hj e => by
        rcases e with e | e
        · exact hmn j hj (.inl e)
        · rcases hL3' j e with h | h
          · exact hmn j hj (.inr h)
          · have := hN2.own.lt' hj; omega
      have hM3 : Own w3 (.slice ma x.d.length mc) x.d := hN2.own.fr hF3' (fun j hj => hmn j hj)
      have HX4 : Bytes w3 (.slice sa x.d.length sc) x.d := by
        rcases hinw with ⟨h0, _, _, _⟩ | h0
        · have e9 : x.d = [] := h0
          rw [e9]
          exact ⟨sa, sc, 0, 0, rfl, Nat.zero_le _, fun h => absurd rfl h, fun j hj => absurd hj (by simp), by omega⟩
        · exact ((Bytes.ap (S := WS p v) h0 (fun j hj e => by have := hW2.hi j e; rw [HN.out] at hj; omega)).fr (hFw.trans hF3') (fun _ _ e => e)).bytes
      have e2 : w3.cell? ⟨b, o + k * 3 + 2, none⟩ = some (.slice sa x.d.length sc) := (World.cell?_of_block (w := w2) (hF3'.block b (by omega) hbn)).trans d2
      have q1 := bytes_string Try.underlying27 Try.underlying5 Try.underlying9 w3 _ x.d (hM3.bytes (by omega))
      have q2 := bytes_string Try.underlying27 Try.underlying5 Try.underlying9 w3 _ x.d HX4
      have q1' : (convert 27 9 (.slice ma x.d.length mc)).run Try.prog w3.drew = .ok (.string ⟨x.d.toArray⟩) w3.drew := bytes_string Try.underlying27 Try.underlying5 Try.underlying9 w3.drew _ x.d ((hM3.bytes (by omega)).below ⟨rfl, rfl, rfl, Nat.le_refl _, fun _ _ => rfl⟩)
      have q2' : (convert 27 9 (.slice sa x.d.length sc)).run Try.prog w3.drew = .ok (.string ⟨x.d.toArray⟩) w3.drew := bytes_string Try.underlying27 Try.underlying5 Try.underlying9 w3.drew _ x.d (HX4.below ⟨rfl, rfl, rfl, Nat.le_refl _, fun _ _ => rfl⟩)
      have hOw3 : Own w3 _ bs := hOw2.fr hF3' (fun j hj => (hdis j hj).2)
      have hWN3 := hW2.step hW3 hF3' hL3'
      clear d0 d1 d2 e0 e1 hlay hlay' HX HX3 hOw2
      go_wp2_with fail
      go_region_held3 (fun W => W.cell? ⟨b, o + k * 3 + 2, none⟩ = some (.slice sa x.d.length sc) ∧ (convert 27 9 (.slice ma x.d.length mc)).run Try.prog W = .ok (.string ⟨x.d.toArray⟩) W ∧ (convert 27 9 (.slice sa x.d.length sc)).run Try.prog W = .ok (.string ⟨x.d.toArray⟩) W) (first | exact ⟨e2, q1, q2⟩ | exact ⟨e2, q1', q2'⟩)
        ((go_at_call 14; refine (num_any _ _).mono ?_; rintro e w' ⟨rfl, hw⟩; obtain rfl := hw.symm; clear hw))
      have hdis3 : ∀ j, (Value.slice ua bs.length uc).ownBlock = some j → ¬ WS p v3 j := fun j hj e => by
        rcases e with e | e
        · exact (hdis j hj).2 (.inl e)
        · rcases hL3' j e with h | h
          · exact (hdis j hj).2 (.inr h)
          · have := hOw3.lt' hj; have := hOwlt j hj; omega
      generalize hod : (layL x.what x.n x.d).getD [] = od at *
      have hyb : Bytes w3 (.slice ya yl yc) od := hY3.bytes (by omega)
      clear q1 q2 q1' q2' e2 HX4 hM3 hmn3
      go_wp2_with (first | (refine wpList_append_bytes _ rfl _ _ 27 27 rfl info5 Try.underlying27 Try.underlying27 (.slice ua bs.length uc) _ bs od rfl rfl hOw3 hyb (by have := Hb.out; omega) ?_; intro u4 w4 hO4 hg4 hL4 hnil; clear hnil) | fail)
      have hF4 : Fr (fun j => (Value.slice ua bs.length uc).ownBlock = some j) w3 w4 := ⟨hg4.os, hg4.tape, hg4.output, hg4.size, fun j hj hn => hg4.block j hj (fun e => hn e.symm)⟩
      have hz4 := hF4.size
      have hWr4 : Wr w4 p v3 (bs ++ od) := hWN3.wr.fr hF4 (fun j e e' => hdis3 j e e')
      have hWN4 : WrN p w w4 p v3 (bs ++ od) := ⟨hWr4, Fr.below hWN3.below hF4 hWN3.le (fun j hj e => by have := (hdis j e).1; omega), hWN3.hi, by have := hWN3.le; omega⟩
      have hdis4 : ∀ j, u4.ownBlock = some j → p ≤ j ∧ ¬ WS p v3 j := fun j hj => by
        rcases hL4 j hj with h | h
        · exact ⟨(hdis j h).1, hdis3 j h⟩
        · have h' : w3.heap.size ≤ j := h
          exact ⟨by have := hWN3.le; omega, fun e => by have := hWN3.wr.lt j e; omega⟩
      clear hg4 hL4 hWN3 hyb hOw3 hW2 hN2 hW3 hF3 hF3' hL3 hL3' hY3 hyn hdis hdis3 hOwlt hmn hFw hinw
      refine (all_any p _ _ w4 hWr4).mono ?_
      rintro e w5 ⟨xv, rfl, hN5⟩
      have hz5 := hN5.below.size
      have hO5 : Own w5 u4 (bs ++ od) := hO4.fr (S := fun _ => False) (Fr.of_below hN5.below) (fun _ _ h => h)
      have hWN5 := hWN4.grow hN5.below
      have hxn : ∀ j, xv.ownBlock = some j → p ≤ j ∧ ¬ WS p v3 j ∧ u4.ownBlock ≠ some j := fun j hj => by
        have h5 := hN5.2.1 j hj
        exact ⟨by have := hWN4.le; omega, fun e => by have := hWr4.lt j e; omega, fun e => by have := hO4.lt' e; omega⟩
      have hO5x := hN5.own
      have q1 := bytes_string Try.underlying27 Try.underlying5 Try.underlying9 w5 _ _ (hO5x.bytes (by omega))
      have q2 := bytes_string Try.underlying27 Try.underlying5 Try.underlying9 w5 _ _ (hO5.bytes (by omega))
      obtain ⟨xa, xc, rfl⟩ := hO5x.slice
      obtain ⟨u4a, u4c, rfl⟩ := hO5.slice
      have Hl : Hid ((bs ++ od).length ≤ 2 * tot xs (k + 1) ∧ 2 * tot xs (k + 1) ≤ 8000) := ⟨by have := Hb.out; simp; omega, Hb.out.2⟩
      clear hO4 hF4 hWr4 hWN4 hN5 Hb
      generalize bs ++ od = B at *
      generalize (⟨B.toArray⟩ : ByteArray) = s at *
      go_wp2_with (first | (refine wpList_convert_run rfl 27 9 _ rfl (.slice xa B.length xc) _ rfl q1 ?_) | (refine wpList_convert_run rfl 27 9 _ rfl (.slice u4a B.length u4c) _ rfl q2 ?_) | fail)
      clear q1 q2
      go_loopw [11] (fun i wq => ∃ (j : Nat) (d : List UInt8), j ≤ B.length ∧ i = .int .i64 j ∧ d.length = B.length ∧ Own wq (.slice xa B.length xc) d ∧ Fr (fun q => (Value.slice xa B.length xc).ownBlock = some q) w5 wq) (fun i _ => B.length - (intOf i).toNat)
      case atStart => exact ⟨0, B, by omega, rfl, rfl, hO5x, Fr.refl _ _⟩
      case round =>
        obtain ⟨j, d, hj, rfl, hdl, hOq, hFq⟩ := hrel
        by_cases hjl : j < B.length
        · obtain ⟨g, rfl, hh⟩ := hOq.some (by omega)
          clear hh
          obtain ⟨cur, hcur⟩ := hOq.row
          have hfz := hcur.free j
          have hcl := hOq.cells (g := g) rfl j (bc (d[j]?.getD 0)) (by simp [show j < d.length by omega])
          rw [Addr.add_mid, Nat.zero_add] at hcl
          have hws := wrap_succ (d[j]?.getD 0)
          have b0 := bv_nonneg (d[j]?.getD 0)
          have b1 := bv_lt (d[j]?.getD 0)
          generalize d[j]?.getD 0 = y at *
          unfold bc at hcl
          have i3 : (j : Int) < B.length := by omega
          rw [← hdl] at hOq
          have HOq : Hid (Own (wr.setCell ⟨g, j, none⟩ (bc (y + 1))) (.slice (some ⟨g, 0, none⟩) (d.set j (y + 1)).length xc) (d.set j (y + 1))) := hOq.set j (y + 1)
          have hFs : Fr (fun q => (Value.slice (some ⟨g, 0, none⟩) B.length xc).ownBlock = some q) wr (wr.setCell ⟨g, j, none⟩ (bc (y + 1))) := ⟨rfl, rfl, rfl, by simp [World.setCell], fun q _ hq => heap_setCell_other wr ⟨g, j, none⟩ q _ (fun e => hq (by simp [Value.ownBlock, e]))⟩
          have HDL : Hid (d.length = B.length) := hdl
          have hBl : B.length ≤ 8000 := by have := Hl.out; omega
          have HJ : Hid (j < B.length) := hjl
          clear hcur hdl
          go_wp2_with fail
          go_roundw
          case rel =>
            have h1 := HOq.out
            rw [List.length_set, HDL.out] at h1
            exact ⟨j + 1, d.set j (y + 1), HJ.out, by go_num, by rw [List.length_set, HDL.out], h1, hFq.trans hFs⟩
          case measure => have := HJ.out; simp [intOf]; omega
        · have i3 : ¬ (j : Int) < B.length := by omega
          have hWq : WrN p w wr p v3 B := ⟨hWN5.wr.fr hFq (fun q e e' => (hxn q e).2.1 e'), Fr.below hWN5.below hFq hWN5.le (fun q hq e => by have := (hxn q e).1; omega), hWN5.hi, Nat.le_trans hWN5.le hFq.size⟩
          have hOq4 : Own wr (.slice u4a B.length u4c) B := hO5.fr hFq (fun q e e' => (hxn q e').2.2 e)
          go_wp2_with fail
          go_roundw
          case rel => exact ⟨k + 1, v3, B, by omega, by go_num, hWq, hOq4, hdis4, Hl.out.1⟩
          case measure => simp [intOf]; omega
    · obtain rfl : k = xs.length := by omega
      have i1 : ¬ (xs.length : Int) < xs.length := by omega
      have Hbl : Hid (bs.length ≤ 8000) := by have := HT.out; show _ ≤ _; omega
      go_wp2_with fail
      have hplt := hWN.wr.has.lt
      have hU : Bytes wr (.slice ua bs.length uc) bs := hOw.bytes (by omega)
      have hWr := hWN.wr
      have hB0 := hWN.below
      generalize hs : (⟨bs.toArray⟩ : ByteArray) = s at *
      obtain ⟨N, hNe⟩ : ∃ N, N = wr.heap.size := ⟨_, rfl⟩
      have hN : N ≤ wr.heap.size := by omega
      have hNpos : 0 < N := by omega
      have hNp : p ≤ N := by have := hWN.le; omega
      refine wp_region_owes (A := [0, 1, 3, 0, 8, 31, 63, 127, 255, 511, 1023, 2047, 4095, 8191, 16383, 32767, 65535, 131071, 262143, 524287, 1048575, 2097151, 4194303, 8388607, 16777215, 33554431, 67108863, 134217727, 268435455, 536870911, 1073741823, 2147483647, 4294967295, 8589934591, 17179869183, 34359738367, 68719476735, 137438953471, 274877906943, 549755813887, 1099511627775, 2199023255551, 4398046511103, 8796093022207, 17592186044415, 35184372088831, 70368744177663, 140737488355327, 281474976710655, 562949953421311, 1125899906842623, 2251799813685247]) (need := [[(3, none)], [(88, some 0)], [(89, some 1)], [(4, none)], [(91, some 3)], [(90, some 2), (92, some 4)], [(93, some 5)], [(12, none), (94, some 6)], [(95, some 7), (94, some 6)], [(96, some 8), (94, some 6)], [(97, some 9), (94, some 6)], [(94, some 6), (98, some 10)], [(99, some 11)], [(12, none), (100, some 12)], [(101, some 13), (100, some 12)], [(102, some 14), (100, some 12)], [(103, some 15), (100, some 12)], [(100, some 12), (104, some 16)], [(105, some 17)], [(12, none), (106, some 18)], [(107, some 19), (106, some 18)], [(108, some 20), (106, some 18)], [(109, some 21), (106, some 18)], [(106, some 18), (110, some 22)], [(111, some 23)], [(12, none), (112, some 24)], [(113, some 25), (112, some 24)], [(114, some 26), (112, some 24)], [(115, some 27), (112, some 24)], [(112, some 24), (116, some 28)], [(117, some 29)], [(12, none), (118, some 30)], [(119, some 31), (118, some 30)], [(120, some 32), (118, some 30)], [(121, some 33), (118, some 30)], [(118, some 30), (122, some 34)], [(123, some 35)], [(12, none), (124, some 36)], [(125, some 37), (124, some 36)], [(126, some 38), (124, some 36)], [(127, some 39), (124, some 36)], [(124, some 36), (128, some 40)], [(129, some 41)], [(12, none), (130, some 42)], [(131, some 43), (130, some 42)], [(132, some 44), (130, some 42)], [(133, some 45), (130, some 42)], [(130, some 42), (134, some 46)], [(135, some 47)], [(136, some 48)], [(136, some 48), (137, some 49)], [(138, some 50)]]) (laysΦ bs s p bs.length uc ua) N 139 (by kernel_rfl) (by kernel_rfl) (by kernel_rfl) (by kernel_rfl) (by kernel_rfl) (by kernel_rfl) rfl ?stable ?hop ?hend
      case stable =>
        intro i v p q hpq h
        unfold laysΦ at h ⊢
        split at h <;> first | exact h | exact h.le hpq
      case hop =>
        refine ⟨?_, ?_, ?_, ?_, ?_, ?_, ?_, ?_, ?_, ?_, ?_, ?_, ?_, ?_, ?_, ?_, ?_, ?_, ?_, ?_, ?_, ?_, ?_, ?_, ?_, ?_, ?_, ?_, ?_, ?_, ?_, ?_, ?_, ?_, ?_, ?_, ?_, ?_, ?_, ?_, ?_, ?_, ?_, ?_, ?_, ?_, ?_, ?_, ?_, ?_, ?_, ?_, trivial⟩
        · intro a w hle hE
          have h3 : a.tmps.getD 3 undef = .pointer (some ⟨p, 0, none⟩) := hE (3, none) (by simp)
          rw [if_pos (wanted_plain rfl)]
          refine owe_value (v := .pointer (some ⟨p, 0, none⟩)) ?_ (Le.refl _ _) rfl
          go_simp
        · intro a w hle hE
          have h88 : a.tmps.getD 88 undef = .pointer (some ⟨p, 0, none⟩) := hE (88, some 0) (by simp)
          rw [if_pos (wanted_plain rfl)]
          refine owe_call (f := 15) (args := #[.pointer (some ⟨p, 0, none⟩)]) (by go_simp) ?_
          refine (all_any p v bs w (hWr.below (by rw [← hNe]; exact hle.below))).mono ?_
          rintro e w1 ⟨v, rfl, hN1⟩
          exact ⟨_, rfl, Le.of hN1.below (Nat.le_trans hN hle.size), hN1.own.bytes (Nat.lt_of_lt_of_le hNpos (Nat.le_trans hN (Nat.le_trans hle.size hN1.below.size)))⟩
        · intro a w hle hE
          have h89 : Bytes w (a.tmps.getD 89 undef) bs := hE (89, some 1) (by simp)
          rw [if_pos (wanted_plain rfl)]
          have hcv := bytes_string Try.underlying27 Try.underlying5 Try.underlying9 w _ bs h89
          rw [hs] at hcv
          refine owe_value (v := .string s) ?_ (Le.refl _ _) rfl
          have e1 : a.eval (.tmp 89) = a.tmps.getD 89 undef := rfl
          unfold execOp
          simp only [e1, hcv, Sem.run_bind, Sem.run_pure, Result.andThen_ok]
        · intro a w hle hE
          have h4 : a.tmps.getD 4 undef = .slice ua bs.length uc := hE (4, none) (by simp)
          rw [if_pos (wanted_plain rfl)]
          refine owe_value (v := .slice ua bs.length uc) ?_ (Le.refl _ _) rfl
          go_simp
        · intro a w hle hE
          have h91 : a.tmps.getD 91 undef = .slice ua bs.length uc := hE (91, some 3) (by simp)
          rw [if_pos (wanted_plain rfl)]
          have hcv := bytes_string Try.underlying27 Try.underlying5 Try.underlying9 w _ bs (hU.le hle)
          rw [hs] at hcv
          refine owe_value (v := .string s) ?_ (Le.refl _ _) rfl
          have e1 : a.eval (.tmp 91) = _ := h91
          unfold execOp
          simp only [e1, hcv, Sem.run_bind, Sem.run_pure, Result.andThen_ok]
        · intro a w hle hE
          have h90 : a.tmps.getD 90 undef = .string s := hE (90, some 2) (by simp)
          have h92 : a.tmps.getD 92 undef = .string s := hE (92, some 4) (by simp)
          rw [if_pos (wanted_plain rfl)]
          refine owe_value (v := .bool true) ?_ (Le.refl _ _) rfl
          go_simp
        · intro a w hle hE
          have h93 : a.tmps.getD 93 undef = .bool true := hE (93, some 5) (by simp)
          rw [if_pos (wanted_plain rfl)]
          refine owe_value (v := .bool true) ?_ (Le.refl _ _) rfl
          go_simp
        · intro a w hle hE
          have h12 : a.tmps.getD 12 undef = .pointer none := hE (12, none) (by simp)
          have h94 : a.tmps.getD 94 undef = .bool true := hE (94, some 6) (by simp)
          rw [if_pos (wanted_of (j := 6) (b := true) (d := 94) rfl rfl h94)]
          refine owe_value (v := .pointer none) ?_ (Le.refl _ _) rfl
          go_simp
        · intro a w hle hE
          have h95 : a.tmps.getD 95 undef = .pointer none := hE (95, some 7) (by simp)
          have h94 : a.tmps.getD 94 undef = .bool true := hE (94, some 6) (by simp)
          rw [if_pos (wanted_of (j := 6) (b := true) (d := 94) rfl rfl h94)]
          refine owe_call (f := 16) (args := #[.pointer none, .int .i64 1]) (by go_simp) ?_
          refine (wnumber_nil 1 w).mono ?_
          rintro e w1 ⟨rfl, rfl⟩
          exact ⟨_, rfl, Le.refl _ _, rfl⟩
        · intro a w hle hE
          have h96 : a.tmps.getD 96 undef = .int .i64 1 := hE (96, some 8) (by simp)
          have h94 : a.tmps.getD 94 undef = .bool true := hE (94, some 6) (by simp)
          rw [if_pos (wanted_of (j := 6) (b := true) (d := 94) rfl rfl h94)]
          refine owe_call (f := 14) (args := #[.int .i64 1]) (by go_simp) ?_
          refine (num_any _ w).mono ?_
          rintro e w1 ⟨rfl, rfl⟩
          exact ⟨_, rfl, Le.refl _ _, rfl⟩
        · intro a w hle hE
          have h97 : a.tmps.getD 97 undef = .int .i64 1 := hE (97, some 9) (by simp)
          have h94 : a.tmps.getD 94 undef = .bool true := hE (94, some 6) (by simp)
          rw [if_pos (wanted_of (j := 6) (b := true) (d := 94) rfl rfl h94)]
          refine owe_value (v := .bool true) ?_ (Le.refl _ _) rfl
          go_simp
        · intro a w hle hE
          have h94 : a.tmps.getD 94 undef = .bool true := hE (94, some 6) (by simp)
          have h98 : a.tmps.getD 98 undef = .bool true := hE (98, some 10) (by simp)
          rw [if_pos (wanted_plain rfl)]
          refine owe_value (v := .bool true) ?_ (Le.refl _ _) rfl
          go_simp
        · intro a w hle hE
          have h99 : a.tmps.getD 99 undef = .bool true := hE (99, some 11) (by simp)
          rw [if_pos (wanted_plain rfl)]
          refine owe_value (v := .bool true) ?_ (Le.refl _ _) rfl
          go_simp
        · intro a w hle hE
          have h12 : a.tmps.getD 12 undef = .pointer none := hE (12, none) (by simp)
          have h100 : a.tmps.getD 100 undef = .bool true := hE (100, some 12) (by simp)
          rw [if_pos (wanted_of (j := 12) (b := true) (d := 100) rfl rfl h100)]
          refine owe_value (v := .pointer none) ?_ (Le.refl _ _) rfl
          go_simp
        · intro a w hle hE
          have h101 : a.tmps.getD 101 undef = .pointer none := hE (101, some 13) (by simp)
          have h100 : a.tmps.getD 100 undef = .bool true := hE (100, some 12) (by simp)
          rw [if_pos (wanted_of (j := 12) (b := true) (d := 100) rfl rfl h100)]
          refine owe_call (f := 17) (args := #[.pointer none, .int .i64 1]) (by go_simp) ?_
          refine (wsigned_nil w).mono ?_
          rintro e w1 ⟨rfl, rfl⟩
          exact ⟨_, rfl, Le.refl _ _, rfl⟩
        · intro a w hle hE
          have h102 : a.tmps.getD 102 undef = .int .i64 1 := hE (102, some 14) (by simp)
          have h100 : a.tmps.getD 100 undef = .bool true := hE (100, some 12) (by simp)
          rw [if_pos (wanted_of (j := 12) (b := true) (d := 100) rfl rfl h100)]
          refine owe_call (f := 14) (args := #[.int .i64 1]) (by go_simp) ?_
          refine (num_any _ w).mono ?_
          rintro e w1 ⟨rfl, rfl⟩
          exact ⟨_, rfl, Le.refl _ _, rfl⟩
        · intro a w hle hE
          have h103 : a.tmps.getD 103 undef = .int .i64 1 := hE (103, some 15) (by simp)
          have h100 : a.tmps.getD 100 undef = .bool true := hE (100, some 12) (by simp)
          rw [if_pos (wanted_of (j := 12) (b := true) (d := 100) rfl rfl h100)]
          refine owe_value (v := .bool true) ?_ (Le.refl _ _) rfl
          go_simp
        · intro a w hle hE
          have h100 : a.tmps.getD 100 undef = .bool true := hE (100, some 12) (by simp)
          have h104 : a.tmps.getD 104 undef = .bool true := hE (104, some 16) (by simp)
          rw [if_pos (wanted_plain rfl)]
          refine owe_value (v := .bool true) ?_ (Le.refl _ _) rfl
          go_simp
        · intro a w hle hE
          have h105 : a.tmps.getD 105 undef = .bool true := hE (105, some 17) (by simp)
          rw [if_pos (wanted_plain rfl)]
          refine owe_value (v := .bool true) ?_ (Le.refl _ _) rfl
          go_simp
        · intro a w hle hE
          have h12 : a.tmps.getD 12 undef = .pointer none := hE (12, none) (by simp)
          have h106 : a.tmps.getD 106 undef = .bool true := hE (106, some 18) (by simp)
          rw [if_pos (wanted_of (j := 18) (b := true) (d := 106) rfl rfl h106)]
          refine owe_value (v := .pointer none) ?_ (Le.refl _ _) rfl
          go_simp
        · intro a w hle hE
          have h107 : a.tmps.getD 107 undef = .pointer none := hE (107, some 19) (by simp)
          have h106 : a.tmps.getD 106 undef = .bool true := hE (106, some 18) (by simp)
          rw [if_pos (wanted_of (j := 18) (b := true) (d := 106) rfl rfl h106)]
          refine owe_call (f := 18) (args := #[.pointer none, .slice none 0 0]) (by go_simp) ?_
          refine (wbytes_nil none 0 0 (by omega) w).mono ?_
          rintro e w1 ⟨rfl, hb⟩
          exact ⟨_, rfl, Le.of hb (Nat.le_trans hN hle.size), rfl⟩
        · intro a w hle hE
          have h108 : a.tmps.getD 108 undef = .int .i64 1 := hE (108, some 20) (by simp)
          have h106 : a.tmps.getD 106 undef = .bool true := hE (106, some 18) (by simp)
          rw [if_pos (wanted_of (j := 18) (b := true) (d := 106) rfl rfl h106)]
          refine owe_call (f := 14) (args := #[.int .i64 1]) (by go_simp) ?_
          refine (num_any _ w).mono ?_
          rintro e w1 ⟨rfl, rfl⟩
          exact ⟨_, rfl, Le.refl _ _, rfl⟩
        · intro a w hle hE
          have h109 : a.tmps.getD 109 undef = .int .i64 1 := hE (109, some 21) (by simp)
          have h106 : a.tmps.getD 106 undef = .bool true := hE (106, some 18) (by simp)
          rw [if_pos (wanted_of (j := 18) (b := true) (d := 106) rfl rfl h106)]
          refine owe_value (v := .bool true) ?_ (Le.refl _ _) rfl
          go_simp
        · intro a w hle hE
          have h106 : a.tmps.getD 106 undef = .bool true := hE (106, some 18) (by simp)
          have h110 : a.tmps.getD 110 undef = .bool true := hE (110, some 22) (by simp)
          rw [if_pos (wanted_plain rfl)]
          refine owe_value (v := .bool true) ?_ (Le.refl _ _) rfl
          go_simp
        · intro a w hle hE
          have h111 : a.tmps.getD 111 undef = .bool true := hE (111, some 23) (by simp)
          rw [if_pos (wanted_plain rfl)]
          refine owe_value (v := .bool true) ?_ (Le.refl _ _) rfl
          go_simp
        · intro a w hle hE
          have h12 : a.tmps.getD 12 undef = .pointer none := hE (12, none) (by simp)
          have h112 : a.tmps.getD 112 undef = .bool true := hE (112, some 24) (by simp)
          rw [if_pos (wanted_of (j := 24) (b := true) (d := 112) rfl rfl h112)]
          refine owe_value (v := .pointer none) ?_ (Le.refl _ _) rfl
          go_simp
        · intro a w hle hE
          have h113 : a.tmps.getD 113 undef = .pointer none := hE (113, some 25) (by simp)
          have h112 : a.tmps.getD 112 undef = .bool true := hE (112, some 24) (by simp)
          rw [if_pos (wanted_of (j := 24) (b := true) (d := 112) rfl rfl h112)]
          refine owe_call (f := 19) (args := #[.pointer none, .string ⟨#[]⟩]) (by go_simp) ?_
          refine (wtext_nil [] w (by simp)).mono ?_
          rintro e w1 ⟨rfl, hb⟩
          exact ⟨_, rfl, Le.of hb (Nat.le_trans hN hle.size), rfl⟩
        · intro a w hle hE
          have h114 : a.tmps.getD 114 undef = .int .i64 1 := hE (114, some 26) (by simp)
          have h112 : a.tmps.getD 112 undef = .bool true := hE (112, some 24) (by simp)
          rw [if_pos (wanted_of (j := 24) (b := true) (d := 112) rfl rfl h112)]
          refine owe_call (f := 14) (args := #[.int .i64 1]) (by go_simp) ?_
          refine (num_any _ w).mono ?_
          rintro e w1 ⟨rfl, rfl⟩
          exact ⟨_, rfl, Le.refl _ _, rfl⟩
        · intro a w hle hE
          have h115 : a.tmps.getD 115 undef = .int .i64 1 := hE (115, some 27) (by simp)
          have h112 : a.tmps.getD 112 undef = .bool true := hE (112, some 24) (by simp)
          rw [if_pos (wanted_of (j := 24) (b := true) (d := 112) rfl rfl h112)]
          refine owe_value (v := .bool true) ?_ (Le.refl _ _) rfl
          go_simp
        · intro a w hle hE
          have h112 : a.tmps.getD 112 undef = .bool true := hE (112, some 24) (by simp)
          have h116 : a.tmps.getD 116 undef = .bool true := hE (116, some 28) (by simp)
          rw [if_pos (wanted_plain rfl)]
          refine owe_value (v := .bool true) ?_ (Le.refl _ _) rfl
          go_simp
        · intro a w hle hE
          have h117 : a.tmps.getD 117 undef = .bool true := hE (117, some 29) (by simp)
          rw [if_pos (wanted_plain rfl)]
          refine owe_value (v := .bool true) ?_ (Le.refl _ _) rfl
          go_simp
        · intro a w hle hE
          have h12 : a.tmps.getD 12 undef = .pointer none := hE (12, none) (by simp)
          have h118 : a.tmps.getD 118 undef = .bool true := hE (118, some 30) (by simp)
          rw [if_pos (wanted_of (j := 30) (b := true) (d := 118) rfl rfl h118)]
          refine owe_value (v := .pointer none) ?_ (Le.refl _ _) rfl
          go_simp
        · intro a w hle hE
          have h119 : a.tmps.getD 119 undef = .pointer none := hE (119, some 31) (by simp)
          have h118 : a.tmps.getD 118 undef = .bool true := hE (118, some 30) (by simp)
          rw [if_pos (wanted_of (j := 30) (b := true) (d := 118) rfl rfl h118)]
          refine owe_call (f := 20) (args := #[.pointer none, .bool true]) (by go_simp) ?_
          refine (wtruth_nil true w).mono ?_
          rintro e w1 ⟨rfl, hb⟩
          exact ⟨_, rfl, Le.of hb (Nat.le_trans hN hle.size), rfl⟩
        · intro a w hle hE
          have h120 : a.tmps.getD 120 undef = .int .i64 1 := hE (120, some 32) (by simp)
          have h118 : a.tmps.getD 118 undef = .bool true := hE (118, some 30) (by simp)
          rw [if_pos (wanted_of (j := 30) (b := true) (d := 118) rfl rfl h118)]
          refine owe_call (f := 14) (args := #[.int .i64 1]) (by go_simp) ?_
          refine (num_any _ w).mono ?_
          rintro e w1 ⟨rfl, rfl⟩
          exact ⟨_, rfl, Le.refl _ _, rfl⟩
        · intro a w hle hE
          have h121 : a.tmps.getD 121 undef = .int .i64 1 := hE (121, some 33) (by simp)
          have h118 : a.tmps.getD 118 undef = .bool true := hE (118, some 30) (by simp)
          rw [if_pos (wanted_of (j := 30) (b := true) (d := 118) rfl rfl h118)]
          refine owe_value (v := .bool true) ?_ (Le.refl _ _) rfl
          go_simp
        · intro a w hle hE
          have h118 : a.tmps.getD 118 undef = .bool true := hE (118, some 30) (by simp)
          have h122 : a.tmps.getD 122 undef = .bool true := hE (122, some 34) (by simp)
          rw [if_pos (wanted_plain rfl)]
          refine owe_value (v := .bool true) ?_ (Le.refl _ _) rfl
          go_simp
        · intro a w hle hE
          have h123 : a.tmps.getD 123 undef = .bool true := hE (123, some 35) (by simp)
          rw [if_pos (wanted_plain rfl)]
          refine owe_value (v := .bool true) ?_ (Le.refl _ _) rfl
          go_simp
        · intro a w hle hE
          have h12 : a.tmps.getD 12 undef = .pointer none := hE (12, none) (by simp)
          have h124 : a.tmps.getD 124 undef = .bool true := hE (124, some 36) (by simp)
          rw [if_pos (wanted_of (j := 36) (b := true) (d := 124) rfl rfl h124)]
          refine owe_value (v := .pointer none) ?_ (Le.refl _ _) rfl
          go_simp
        · intro a w hle hE
          have h125 : a.tmps.getD 125 undef = .pointer none := hE (125, some 37) (by simp)
          have h124 : a.tmps.getD 124 undef = .bool true := hE (124, some 36) (by simp)
          rw [if_pos (wanted_of (j := 36) (b := true) (d := 124) rfl rfl h124)]
          refine owe_call (f := 21) (args := #[.pointer none, .slice none 0 0]) (by go_simp) ?_
          refine (raw_nil none 0 0 w).mono ?_
          rintro e w1 ⟨rfl, rfl⟩
          exact ⟨_, rfl, Le.refl _ _, rfl⟩
        · intro a w hle hE
          have h126 : a.tmps.getD 126 undef = .int .i64 1 := hE (126, some 38) (by simp)
          have h124 : a.tmps.getD 124 undef = .bool true := hE (124, some 36) (by simp)
          rw [if_pos (wanted_of (j := 36) (b := true) (d := 124) rfl rfl h124)]
          refine owe_call (f := 14) (args := #[.int .i64 1]) (by go_simp) ?_
          refine (num_any _ w).mono ?_
          rintro e w1 ⟨rfl, rfl⟩
          exact ⟨_, rfl, Le.refl _ _, rfl⟩
        · intro a w hle hE
          have h127 : a.tmps.getD 127 undef = .int .i64 1 := hE (127, some 39) (by simp)
          have h124 : a.tmps.getD 124 undef = .bool true := hE (124, some 36) (by simp)
          rw [if_pos (wanted_of (j := 36) (b := true) (d := 124) rfl rfl h124)]
          refine owe_value (v := .bool true) ?_ (Le.refl _ _) rfl
          go_simp
        · intro a w hle hE
          have h124 : a.tmps.getD 124 undef = .bool true := hE (124, some 36) (by simp)
          have h128 : a.tmps.getD 128 undef = .bool true := hE (128, some 40) (by simp)
          rw [if_pos (wanted_plain rfl)]
          refine owe_value (v := .bool true) ?_ (Le.refl _ _) rfl
          go_simp
        · intro a w hle hE
          have h129 : a.tmps.getD 129 undef = .bool true := hE (129, some 41) (by simp)
          rw [if_pos (wanted_plain rfl)]
          refine owe_value (v := .bool true) ?_ (Le.refl _ _) rfl
          go_simp
        · intro a w hle hE
          have h12 : a.tmps.getD 12 undef = .pointer none := hE (12, none) (by simp)
          have h130 : a.tmps.getD 130 undef = .bool true := hE (130, some 42) (by simp)
          rw [if_pos (wanted_of (j := 42) (b := true) (d := 130) rfl rfl h130)]
          refine owe_value (v := .pointer none) ?_ (Le.refl _ _) rfl
          go_simp
        · intro a w hle hE
          have h131 : a.tmps.getD 131 undef = .pointer none := hE (131, some 43) (by simp)
          have h130 : a.tmps.getD 130 undef = .bool true := hE (130, some 42) (by simp)
          rw [if_pos (wanted_of (j := 42) (b := true) (d := 130) rfl rfl h130)]
          refine owe_call (f := 15) (args := #[.pointer none]) (by go_simp) ?_
          refine (all_nil w).mono ?_
          rintro e w1 ⟨rfl, rfl⟩
          exact ⟨_, rfl, Le.refl _ _, rfl⟩
        · intro a w hle hE
          have h132 : a.tmps.getD 132 undef = .slice none 0 0 := hE (132, some 44) (by simp)
          have h130 : a.tmps.getD 130 undef = .bool true := hE (130, some 42) (by simp)
          rw [if_pos (wanted_of (j := 42) (b := true) (d := 130) rfl rfl h130)]
          refine owe_value (v := .int .i64 0) ?_ (Le.refl _ _) rfl
          go_simp
        · intro a w hle hE
          have h133 : a.tmps.getD 133 undef = .int .i64 0 := hE (133, some 45) (by simp)
          have h130 : a.tmps.getD 130 undef = .bool true := hE (130, some 42) (by simp)
          rw [if_pos (wanted_of (j := 42) (b := true) (d := 130) rfl rfl h130)]
          refine owe_value (v := .bool true) ?_ (Le.refl _ _) rfl
          go_simp
        · intro a w hle hE
          have h130 : a.tmps.getD 130 undef = .bool true := hE (130, some 42) (by simp)
          have h134 : a.tmps.getD 134 undef = .bool true := hE (134, some 46) (by simp)
          rw [if_pos (wanted_plain rfl)]
          refine owe_value (v := .bool true) ?_ (Le.refl _ _) rfl
          go_simp
        · intro a w hle hE
          have h135 : a.tmps.getD 135 undef = .bool true := hE (135, some 47) (by simp)
          rw [if_pos (wanted_plain rfl)]
          refine owe_value (v := .bool true) ?_ (Le.refl _ _) rfl
          go_simp
        · intro a w hle hE
          have h136 : a.tmps.getD 136 undef = .bool true := hE (136, some 48) (by simp)
          rw [if_pos (wanted_of (j := 48) (b := true) (d := 136) rfl rfl h136)]
          refine owe_call (f := 11) (args := #[]) (by go_simp) ?_
          refine (works_any w).mono ?_
          rintro e w1 ⟨rfl, hb⟩
          exact ⟨_, rfl, Le.of hb (Nat.le_trans hN hle.size), rfl⟩
        · intro a w hle hE
          have h136 : a.tmps.getD 136 undef = .bool true := hE (136, some 48) (by simp)
          have h137 : a.tmps.getD 137 undef = .bool true := hE (137, some 49) (by simp)
          rw [if_pos (wanted_plain rfl)]
          refine owe_value (v := .bool true) ?_ (Le.refl _ _) rfl
          go_simp
        · intro a w hle hE
          have h138 : a.tmps.getD 138 undef = .bool true := hE (138, some 50) (by simp)
          rw [if_pos (wanted_plain rfl)]
          refine owe_value (v := .bool true) ?_ (Le.refl _ _) rfl
          go_simp
      case hend =>
        intro a w' hle hdef hsz hall hold
        have h0 : a.tmps.getD 2 undef = .bool true := hall 51 _ 2 rfl rfl
        go_wp2_with fail
        refine bodyPost_ret (results_tmp rfl _ _ _) hdef ?_
        refine ⟨by rw [h0], ?_⟩
        rw [HN.out]
        exact hB0.trans (hle.below.mono hNp)
theorem lays_many (v : Value) (xs : List AddD) (a : Option Addr) (cap b o : Nat) (S : Nat → Value) (w : World) (hA : Adds w v xs a cap b o S) (hf : fewB xs = false) :
    Calls Try.prog 3 #[v] w fun e w' => e = .returned (.bool true) ∧ Below w.heap.size w w' := by
  have hfew := few_any v xs a cap b o S w hA
  rw [hf] at hfew
  obtain rfl := hA.val
  clear hA
  go_enter Try.func3, Try.ntmps3
  go_wp2_with (first | (go_at_call 10; refine hfew.mono ?_; rintro e w' ⟨rfl, hw⟩; obtain rfl := hw.symm; clear hw) | (go_at_call 11; refine (works_any _).mono ?_; rintro e w3 ⟨rfl, hw3⟩) | fail)
  go_ret
  exact ⟨rfl, hw3⟩
theorem lays_walk (v : Value) (xs : List AddD) (a : Option Addr) (cap b o : Nat) (S : Nat → Value) (w : World) (hA : Adds w v xs a cap b o S) :
    Calls Try.prog 3 #[v] w fun e w' => e = .returned (.bool true) ∧ Below w.heap.size w w' := by
  cases hf : fewB xs with
  | true => exact lays_few v xs a cap b o S w hA hf
  | false => exact lays_many v xs a cap b o S w hA hf
end Go.Proofs.Ytgoflpfafkmmgaa
/- took: bytes, and raw ones. -/
namespace Go.Proofs.Ytgoflpfafkmmgaa
open Go.RowKit

theorem vd_byt (fl at_ : Nat) (n : Int) (l : List UInt8) : (vd (res fl (bnd n (lbyt n (l.drop at_))))).length ≤ l.length := by
  unfold res
  split
  · cases hX : bnd n (lbyt n (l.drop at_)) with
    | error ec => simp [vd]
    | ok q =>
      obtain ⟨m, rest⟩ := q
      have hs := congrArg List.length (lbyt_same (bnd_ok hX))
      rw [List.length_drop, List.length_append] at hs
      unfold bytL at hs
      rw [List.length_append] at hs
      show m.length ≤ _
      omega
  · simp [vd]
theorem vd_raw (fl at_ k : Nat) (n : Int) (l : List UInt8) : (vd (res fl (bnd n (lraw k (l.drop at_))))).length ≤ l.length := by
  unfold res
  split
  · cases hX : bnd n (lraw k (l.drop at_)) with
    | error ec => simp [vd]
    | ok q =>
      obtain ⟨m, rest⟩ := q
      have hs := bnd_ok hX
      unfold lraw at hs
      split at hs
      · cases hs
      · simp only [Except.ok.injEq, Prod.mk.injEq] at hs
        rw [← hs.1]
        show (List.take _ _).length ≤ _
        simp only [List.length_take, List.length_drop]
        omega
  · simp [vd]
def StR (R : Nat → Prop) (w : World) (r : Nat) (l : List UInt8) (at_ fl : Nat) : Prop := (∃ lv, Rd w r lv (l.drop at_) at_ fl ∧ BytesAp R w lv (l.drop at_)) ∧ at_ ≤ l.length
theorem StR.st {R : Nat → Prop} {w : World} {r at_ fl : Nat} {l : List UInt8} (h : StR R w r l at_ fl) : St w r l at_ fl := ⟨h.1.imp fun _ h => h.1, h.2⟩
theorem TookR.st {R : Nat → Prop} {w w' : World} {r at_ : Nat} {l out rest : List UInt8} (hat : at_ ≤ l.length) (hs : l.drop at_ = out ++ rest) (h : TookR R w w' r rest (at_ + ((l.drop at_).length - rest.length))) : StR R w' r l (l.length - rest.length) 0 ∧ Ex r w w' := by
  obtain ⟨lv', ⟨h1, h3⟩, h2⟩ := h
  obtain ⟨e1, e2⟩ := suf hat hs
  rw [e2] at h1
  refine ⟨⟨⟨lv', ?_, ?_⟩, by omega⟩, h2⟩
  · have := h1; rw [show l.drop (l.length - rest.length) = rest from e1.symm]; exact this
  · rw [show l.drop (l.length - rest.length) = rest from e1.symm]; exact h3
theorem pbytR (r : Nat) (l : List UInt8) (at_ fl : Nat) (g : Int) (w : World) (hS : St w r l at_ fl) (hsm : l.length ≤ 10000000000) :
    Calls Try.prog 30 #[.pointer (some ⟨r, 0, none⟩), .int .i64 g] w fun e w' => ∃ v, e = .returned (.tuple #[v, .int .i64 ((vec (res fl (bnd g (lbyt g (l.drop at_)))) : Nat) : Int)]) ∧ Own w' v (vd (res fl (bnd g (lbyt g (l.drop at_))))) ∧ (∀ k, v.ownBlock = some k → w.heap.size ≤ k) ∧ StR (fun k => k = r ∨ w.heap.size ≤ k) w' r l (atN l at_ (res fl (bnd g (lbyt g (l.drop at_))))) (vec (res fl (bnd g (lbyt g (l.drop at_))))) ∧ Ex r w w' := by
  obtain ⟨⟨lv, hR⟩, hat⟩ := hS
  have hby : BytesAp (fun k => k = r ∨ w.heap.size ≤ k) w lv (l.drop at_) := hR.by_.mono (fun k hk h => h.elim id (fun h => by omega))
  by_cases hfl : fl = 0
  · subst hfl
    rw [res_zero]
    refine (rbytesR_any (fun k => k = r ∨ w.heap.size ≤ k) r (.inl rfl) lv _ at_ g w hR hby (by rw [List.length_drop]; omega)).mono ?_
    intro e w' hl
    cases hX : bnd g (lbyt g (l.drop at_)) with
    | error ec =>
      rw [hX] at hl
      exact ⟨_, hl.1, Own.nil _, (fun k hk => by cases hk), ⟨⟨lv, hl.2.1, hby.fr (Fr.of_ex hl.2.2) (fun i _ e => .inl e)⟩, hat⟩, hl.2.2⟩
    | ok q =>
      obtain ⟨m, rest⟩ := q
      have hs := lbyt_same (bnd_ok hX)
      rw [hX] at hl
      obtain ⟨v, h1, h2, h3, h4⟩ := hl
      exact ⟨v, h1, h3, h4, TookR.st hat hs h2⟩
  · rw [res_flaw hfl]
    exact (rbytes_flaw r lv _ at_ fl g w hR hfl).mono fun e w' ⟨h1, h2⟩ => ⟨_, h1, Own.nil _, (fun k hk => by cases hk), ⟨⟨lv, hR.below h2, hby.fr (Fr.of_below h2) (S' := fun _ => False) (fun _ _ h => h.elim)⟩, hat⟩, Ex.below h2⟩
set_option maxRecDepth 10000 in
set_option maxHeartbeats 2000000 in
theorem took_2 (r : Nat) (a : Option Addr) (c at_ fl bl : Nat) (l : List UInt8) (hbl : bl = l.length) (n : Int) (w : World) (hB : Bytes w (.slice a bl c) l) (hS : St w r l at_ fl) (hsm : l.length ≤ 10000000000) :
    Calls Try.prog 33 #[.pointer (some ⟨r, 0, none⟩), .agg #[.slice a bl c, .int .i64 at_, .int .i64 fl], .agg #[.int .i64 2, .int .i64 n]] w fun e w' => TkR w w' r l a bl c e := by
  have hrl := hS.lt
  have hq := fun W (hW : Below w.heap.size w W) => qbyt a c at_ fl bl l hbl n W (hB.below hW) hS.2 hsm
  have hp := fun W (hW : St W r l at_ fl) => pbytR r l at_ fl n W hW hsm
  clear hbl
  have hvl := vd_byt fl at_ n l
  generalize res fl (bnd n (lbyt n (l.drop at_))) = y at *
  generalize atN l at_ y = at' at *
  generalize vec y = fl' at *
  generalize vd y = d at *
  go_enter Try.func33, Try.ntmps33
  go_wp2_with fail
  refine named (p := fun X => Calls _ _ _ X _) ?_
  intro W0 hW0
  obtain ⟨hB0, hT, hC, hz⟩ : Below w.heap.size w W0 ∧ Has W0 (w.heap.size + 1) #[.int .i64 2, .int .i64 n] 63 ∧ Has W0 (w.heap.size + 2) #[.slice none 0 0, .int .i64 0, .int .i64 0] 45 ∧ W0.heap.size = w.heap.size + 3 := by rw [hW0]; exact alloc3_has
  clear hW0
  refine (hq W0 hB0).mono ?_
  rintro e W1 ⟨⟨ya, yl, yc, rfl, hY1⟩, hB1⟩
  have hT1 := hT.below hB1 (by omega)
  have hC1 := hC.below hB1 (by omega)
  have hBw : Below w.heap.size w W1 := hB0.trans (hB1.mono (by omega))
  have hz1 := hB1.size
  have q1 := hT1.cell 1
  simp at q1
  have n1 : ¬ w.heap.size + 1 = W1.heap.size := by omega
  have n2 : w.heap.size + 1 < W1.heap.size := by omega
  clear hT hC hq
  go_wp2_with fail
  refine named (p := fun X => Calls _ _ _ X _) ?_
  intro W2 hW2
  have hB2 : Below W1.heap.size W1 W2 := by rw [hW2]; exact (Below.refl _ _).alloc (Nat.le_refl _) _
  have hX2 : Has W2 W1.heap.size #[.slice a bl c, .int .i64 at', .int .i64 fl'] 45 := by rw [hW2]; exact has_new _ _ _ _ rfl
  have hz2 : W2.heap.size = W1.heap.size + 1 := by rw [hW2]; simp
  clear hW2
  have hBx : Below w.heap.size w W2 := hBw.trans (hB2.mono (by omega))
  refine (hp W2 (hS.below hBx)).mono ?_
  rintro e W3 ⟨cv0, rfl, hO3, hcb, hSR3, hE3⟩
  have hS3 := hSR3.st
  obtain ⟨ca, cc, rfl⟩ := hO3.slice
  have hS2 := hS.below hBx
  obtain ⟨⟨lv2, hR2⟩, _⟩ := id hS2
  have hY3 : Bytes W3 (.slice ya yl yc) d := ((hY1.below hB2).notReader hR2).ex hE3 (by have := hE3.size; omega)
  have hX3 := hX2.ex hE3 (by omega)
  have hC3 := (hC1.below hB2 (by omega)).ex hE3 (by omega)
  obtain ⟨⟨lv, hR3⟩, hat3⟩ := id hS3
  have hz3 := hE3.size
  have hat := at_any r lv _ at' fl' W3 hR3
  have hat' := at_any r lv _ at' fl' W3.drew (hR3.below ⟨rfl, rfl, rfl, Nat.le_refl _, fun _ _ => rfl⟩)
  have x0 := hX3.cell 0
  have x1 := hX3.cell 1
  have x2 := hX3.cell 2
  simp at x0 x1 x2
  generalize W1.heap.size = g at *
  generalize hg6 : w.heap.size + 2 = g6 at *
  have n6 : ¬ g = g6 := by omega
  have cv := bytes_string Try.underlying27 Try.underlying5 Try.underlying9 W3 _ d hY3
  have cv' : (convert 27 9 (.slice ya yl yc)).run Try.prog W3.drew = .ok (.string ⟨d.toArray⟩) W3.drew := bytes_string Try.underlying27 Try.underlying5 Try.underlying9 W3.drew _ d (hY3.below ⟨rfl, rfl, rfl, Nat.le_refl _, fun _ _ => rfl⟩)
  have cu : (convert 27 9 (.slice ca d.length cc)).run Try.prog W3 = .ok (.string ⟨d.toArray⟩) W3 := bytes_string Try.underlying27 Try.underlying5 Try.underlying9 W3 _ d (hO3.bytes (by omega))
  have cu' : (convert 27 9 (.slice ca d.length cc)).run Try.prog W3.drew = .ok (.string ⟨d.toArray⟩) W3.drew := bytes_string Try.underlying27 Try.underlying5 Try.underlying9 W3.drew _ d ((hO3.bytes (by omega)).below ⟨rfl, rfl, rfl, Nat.le_refl _, fun _ _ => rfl⟩)
  generalize (⟨d.toArray⟩ : ByteArray) = s at *
  clear hp hX2 hT1 hC1 q1 hS2 hR2 hY1 hY3
  have hvl2 : d.length ≤ 10000000000 := by omega
  clear hvl
  obtain ⟨dl, hdl⟩ : ∃ dl, d.length = dl := ⟨_, rfl⟩
  rw [hdl] at cu cu' hO3 hvl2 hcb ⊢
  go_wp2_with fail
  go_region_held3 (fun W => W.cell? ⟨g, 1, none⟩ = some (.int .i64 at') ∧ (convert 27 9 (.slice ya yl yc)).run Try.prog W = .ok (.string s) W ∧ (convert 27 9 (.slice ca dl cc)).run Try.prog W = .ok (.string s) W) (first | exact ⟨x1, cv, cu⟩ | exact ⟨x1, cv', cu'⟩)
        ((first | (go_at_call 14; refine (num_any _ _).mono ?_; rintro e w' ⟨rfl, hw⟩; obtain rfl := hw.symm; clear hw) | (go_at_call 32; (first | refine hat.mono ?_ | refine hat'.mono ?_); rintro e w' ⟨rfl, hw⟩; obtain rfl := hw.symm; clear hw)))
  go_wp2_with fail
  have hOd : Own W3.drew (.slice ca dl cc) d := hO3.fr (S := fun _ => False) (Fr.of_below ⟨rfl, rfl, rfl, Nat.le_refl _, fun _ _ => rfl⟩) (fun _ _ h => h)
  have HD : Hid (d.length = dl) := hdl
  clear hdl cv cv' cu cu' hO3 hat hat'
  go_loopw [24] (fun i wq => ∃ (j : Nat) (e : List UInt8), j ≤ dl ∧ i = .int .i64 j ∧ e.length = dl ∧ Own wq (.slice ca dl cc) e ∧ Fr (fun q => (Value.slice ca dl cc).ownBlock = some q) W3 wq) (fun i _ => dl - (intOf i).toNat)
  case atStart => exact ⟨0, d, Nat.zero_le _, rfl, HD.out, hOd, ⟨rfl, rfl, rfl, Nat.le_refl _, fun _ _ _ => rfl⟩⟩
  case round =>
    obtain ⟨j, e, hj, rfl, hel, hOq, hFq⟩ := hrel
    by_cases hjl : j < dl
    · obtain ⟨gq, hgq, hh⟩ := hOq.some (by omega)
      clear hh
      subst hgq
      obtain ⟨cur, hcur⟩ := hOq.row
      have hfz := hcur.free j
      have hcl := hOq.cells (g := gq) rfl j (bc (e[j]?.getD 0)) (by simp [show j < e.length by omega])
      rw [Addr.add_mid, Nat.zero_add] at hcl
      have hws := wrap_succ (e[j]?.getD 0)
      have b0 := bv_nonneg (e[j]?.getD 0)
      have b1 := bv_lt (e[j]?.getD 0)
      generalize e[j]?.getD 0 = yy at *
      unfold bc at hcl
      have i3 : (j : Int) < dl := by omega
      rw [← hel] at hOq
      have HOq : Hid (Own (wr.setCell ⟨gq, j, none⟩ (bc (yy + 1))) (.slice (some ⟨gq, 0, none⟩) (e.set j (yy + 1)).length cc) (e.set j (yy + 1))) := hOq.set j (yy + 1)
      have hFs : Fr (fun q => (Value.slice (some ⟨gq, 0, none⟩) dl cc).ownBlock = some q) wr (wr.setCell ⟨gq, j, none⟩ (bc (yy + 1))) := ⟨rfl, rfl, rfl, by simp [World.setCell], fun q _ hq => heap_setCell_other wr ⟨gq, j, none⟩ q _ (fun e => hq (by simp [Value.ownBlock, e]))⟩
      have HDL : Hid (e.length = dl) := hel
      have HJ : Hid (j < dl) := hjl
      clear hcur hel
      go_wp2_with fail
      go_roundw
      case rel =>
        have h1 := HOq.out
        rw [List.length_set, HDL.out] at h1
        exact ⟨j + 1, e.set j (yy + 1), HJ.out, by go_num, by rw [List.length_set, HDL.out], h1, hFq.trans hFs⟩
      case measure => have := HJ.out; simp [intOf]; omega
    · have i3 : ¬ (j : Int) < dl := by omega
      have hX4 := hX3.fr hFq (fun e => by have := hcb _ e; omega)
      have hC4 := hC3.fr hFq (fun e => by have := hcb _ e; omega)
      obtain ⟨⟨lv4, hR4, hby4⟩, _⟩ := id hSR3
      have hR5 : Rd wr r lv4 (l.drop at') at' fl' := ⟨hR4.has.fr hFq (fun e => by have := hcb _ e; omega), (hby4.fr hFq (fun i _ e => .inr (hcb _ e))).mono (fun k _ e => .inl e)⟩
      have hE4 : Ex r w wr := ⟨hFq.os.trans ((Ex.below hBx).trans hE3).os, hFq.tape.trans ((Ex.below hBx).trans hE3).tape, hFq.output.trans ((Ex.below hBx).trans hE3).output, Nat.le_trans ((Ex.below hBx).trans hE3).size hFq.size, fun q hq hqr => (hFq.block q (by have := ((Ex.below hBx).trans hE3).size; omega) (fun e => by have := hcb _ e; have := hBx.size; omega)).trans (((Ex.below hBx).trans hE3).block q hq hqr)⟩
      have x0 := hX4.cell 0
      have x1 := hX4.cell 1
      have x2 := hX4.cell 2
      have s0 := hC4.cell 0
      have s1 := hC4.cell 1
      have s2 := hC4.cell 2
      have f0 := hC4.free 0
      have f1 := hC4.free 1
      have f2 := hC4.free 2
      simp at x0 x1 x2 s0 s1 s2
      have n7 : ¬ g6 = g := by omega
      clear hX3 hC3 hS3 hSR3 hR3
      go_wp2_with fail
      refine named (p := fun X => bodyPost _ _ _ _ _ X) ?_
      intro Wf hWf
      have hE6 : Ex g6 wr Wf := by rw [hWf]; exact ((Ex.set g6 wr 0 _).trans (Ex.set g6 _ 1 _)).trans (Ex.set g6 _ 2 _)
      have hHf : Has Wf g6 #[.slice a bl c, .int .i64 at', .int .i64 fl'] 45 := by rw [hWf]; exact set3_has hC4
      clear hWf
      have r0 := hHf.cell 0
      have r1 := hHf.cell 1
      have r2 := hHf.cell 2
      simp at r0 r1 r2
      have hSf : St Wf r l at' fl' := ⟨⟨lv4, hR5.ex hE6 (by omega) (hR5.by_.bytes.notRef hC4)⟩, hat3⟩
      have hEf : Ex r w Wf := hE4.more hE6 (by omega)
      exact bodyPost_ret (v := .tuple #[.agg #[.slice a bl c, .int .i64 at', .int .i64 fl'], .bool true]) (by simp [results, Try.results33, go_sem, r0, r1, r2]) rfl ⟨at', fl', rfl, hSf, hEf⟩
end Go.Proofs.Ytgoflpfafkmmgaa
/- took: raw bytes. -/
namespace Go.Proofs.Ytgoflpfafkmmgaa
open Go.RowKit

theorem prawR (r : Nat) (l : List UInt8) (at_ fl : Nat) (g : Int) (w : World) (hS : St w r l at_ fl) (hsm : l.length ≤ 10000000000) :
    Calls Try.prog 60 #[.pointer (some ⟨r, 0, none⟩), .int .i64 g] w fun e w' => ∃ v, e = .returned (.tuple #[v, .int .i64 ((vec (res fl (bnd g (lraw g.toNat (l.drop at_)))) : Nat) : Int)]) ∧ Own w' v (vd (res fl (bnd g (lraw g.toNat (l.drop at_))))) ∧ (∀ k, v.ownBlock = some k → w.heap.size ≤ k) ∧ StR (fun k => k = r ∨ w.heap.size ≤ k) w' r l (atN l at_ (res fl (bnd g (lraw g.toNat (l.drop at_))))) (vec (res fl (bnd g (lraw g.toNat (l.drop at_))))) ∧ Ex r w w' := by
  obtain ⟨⟨lv, hR⟩, hat⟩ := hS
  have hby : BytesAp (fun k => k = r ∨ w.heap.size ≤ k) w lv (l.drop at_) := hR.by_.mono (fun k hk h => h.elim id (fun h => by omega))
  by_cases hfl : fl = 0
  · subst hfl
    rw [res_zero]
    refine (rrawR_any (fun k => k = r ∨ w.heap.size ≤ k) r (.inl rfl) lv _ at_ g w hR hby (by rw [List.length_drop]; omega)).mono ?_
    intro e w' hl
    cases hX : bnd g (lraw g.toNat (l.drop at_)) with
    | error ec =>
      rw [hX] at hl
      exact ⟨_, hl.1, Own.nil _, (fun k hk => by cases hk), ⟨⟨lv, hl.2.1, hby.fr (Fr.of_ex hl.2.2) (fun i _ e => .inl e)⟩, hat⟩, hl.2.2⟩
    | ok q =>
      obtain ⟨m, rest⟩ := q
      have hs := (lraw_same (bnd_ok hX)).1
      rw [hX] at hl
      obtain ⟨v, h1, h2, h3, h4⟩ := hl
      exact ⟨v, h1, h3, h4, TookR.st hat hs h2⟩
  · rw [res_flaw hfl]
    exact (rraw_flaw r lv _ at_ fl g w hR hfl).mono fun e w' ⟨h1, h2⟩ => ⟨_, h1, Own.nil _, (fun k hk => by cases hk), ⟨⟨lv, hR.below h2, hby.fr (Fr.of_below h2) (S' := fun _ => False) (fun _ _ h => h.elim)⟩, hat⟩, Ex.below h2⟩
set_option maxRecDepth 10000 in
set_option maxHeartbeats 2000000 in
theorem took_5 (r : Nat) (a : Option Addr) (c at_ fl bl : Nat) (l : List UInt8) (hbl : bl = l.length) (n : Int) (w : World) (hB : Bytes w (.slice a bl c) l) (hS : St w r l at_ fl) (hsm : l.length ≤ 10000000000) :
    Calls Try.prog 33 #[.pointer (some ⟨r, 0, none⟩), .agg #[.slice a bl c, .int .i64 at_, .int .i64 fl], .agg #[.int .i64 5, .int .i64 n]] w fun e w' => TkR w w' r l a bl c e := by
  have hrl := hS.lt
  have hq := fun W (hW : Below w.heap.size w W) => qraw a c at_ fl bl l hbl n W (hB.below hW) hS.2 hsm
  have hp := fun W (hW : St W r l at_ fl) => prawR r l at_ fl n W hW hsm
  clear hbl
  have hvl := vd_raw fl at_ n.toNat n l
  generalize res fl (bnd n (lraw n.toNat (l.drop at_))) = y at *
  generalize atN l at_ y = at' at *
  generalize vec y = fl' at *
  generalize vd y = d at *
  go_enter Try.func33, Try.ntmps33
  go_wp2_with fail
  refine named (p := fun X => Calls _ _ _ X _) ?_
  intro W0 hW0
  obtain ⟨hB0, hT, hC, hz⟩ : Below w.heap.size w W0 ∧ Has W0 (w.heap.size + 1) #[.int .i64 5, .int .i64 n] 63 ∧ Has W0 (w.heap.size + 2) #[.slice none 0 0, .int .i64 0, .int .i64 0] 45 ∧ W0.heap.size = w.heap.size + 3 := by rw [hW0]; exact alloc3_has
  clear hW0
  refine (hq W0 hB0).mono ?_
  rintro e W1 ⟨⟨ya, yl, yc, rfl, hY1⟩, hB1⟩
  have hT1 := hT.below hB1 (by omega)
  have hC1 := hC.below hB1 (by omega)
  have hBw : Below w.heap.size w W1 := hB0.trans (hB1.mono (by omega))
  have hz1 := hB1.size
  have q1 := hT1.cell 1
  simp at q1
  have n1 : ¬ w.heap.size + 1 = W1.heap.size := by omega
  have n2 : w.heap.size + 1 < W1.heap.size := by omega
  clear hT hC hq
  go_wp2_with fail
  refine named (p := fun X => Calls _ _ _ X _) ?_
  intro W2 hW2
  have hB2 : Below W1.heap.size W1 W2 := by rw [hW2]; exact (Below.refl _ _).alloc (Nat.le_refl _) _
  have hX2 : Has W2 W1.heap.size #[.slice a bl c, .int .i64 at', .int .i64 fl'] 45 := by rw [hW2]; exact has_new _ _ _ _ rfl
  have hz2 : W2.heap.size = W1.heap.size + 1 := by rw [hW2]; simp
  clear hW2
  have hBx : Below w.heap.size w W2 := hBw.trans (hB2.mono (by omega))
  refine (hp W2 (hS.below hBx)).mono ?_
  rintro e W3 ⟨cv0, rfl, hO3, hcb, hSR3, hE3⟩
  have hS3 := hSR3.st
  obtain ⟨ca, cc, rfl⟩ := hO3.slice
  have hS2 := hS.below hBx
  obtain ⟨⟨lv2, hR2⟩, _⟩ := id hS2
  have hY3 : Bytes W3 (.slice ya yl yc) d := ((hY1.below hB2).notReader hR2).ex hE3 (by have := hE3.size; omega)
  have hX3 := hX2.ex hE3 (by omega)
  have hC3 := (hC1.below hB2 (by omega)).ex hE3 (by omega)
  obtain ⟨⟨lv, hR3⟩, hat3⟩ := id hS3
  have hz3 := hE3.size
  have hat := at_any r lv _ at' fl' W3 hR3
  have hat' := at_any r lv _ at' fl' W3.drew (hR3.below ⟨rfl, rfl, rfl, Nat.le_refl _, fun _ _ => rfl⟩)
  have x0 := hX3.cell 0
  have x1 := hX3.cell 1
  have x2 := hX3.cell 2
  simp at x0 x1 x2
  generalize W1.heap.size = g at *
  generalize hg6 : w.heap.size + 2 = g6 at *
  have n6 : ¬ g = g6 := by omega
  have cv := bytes_string Try.underlying27 Try.underlying5 Try.underlying9 W3 _ d hY3
  have cv' : (convert 27 9 (.slice ya yl yc)).run Try.prog W3.drew = .ok (.string ⟨d.toArray⟩) W3.drew := bytes_string Try.underlying27 Try.underlying5 Try.underlying9 W3.drew _ d (hY3.below ⟨rfl, rfl, rfl, Nat.le_refl _, fun _ _ => rfl⟩)
  have cu : (convert 27 9 (.slice ca d.length cc)).run Try.prog W3 = .ok (.string ⟨d.toArray⟩) W3 := bytes_string Try.underlying27 Try.underlying5 Try.underlying9 W3 _ d (hO3.bytes (by omega))
  have cu' : (convert 27 9 (.slice ca d.length cc)).run Try.prog W3.drew = .ok (.string ⟨d.toArray⟩) W3.drew := bytes_string Try.underlying27 Try.underlying5 Try.underlying9 W3.drew _ d ((hO3.bytes (by omega)).below ⟨rfl, rfl, rfl, Nat.le_refl _, fun _ _ => rfl⟩)
  generalize (⟨d.toArray⟩ : ByteArray) = s at *
  clear hp hX2 hT1 hC1 q1 hS2 hR2 hY1 hY3
  have hvl2 : d.length ≤ 10000000000 := by omega
  clear hvl
  obtain ⟨dl, hdl⟩ : ∃ dl, d.length = dl := ⟨_, rfl⟩
  rw [hdl] at cu cu' hO3 hvl2 hcb ⊢
  go_wp2_with fail
  go_region_held3 (fun W => W.cell? ⟨g, 1, none⟩ = some (.int .i64 at') ∧ (convert 27 9 (.slice ya yl yc)).run Try.prog W = .ok (.string s) W ∧ (convert 27 9 (.slice ca dl cc)).run Try.prog W = .ok (.string s) W) (first | exact ⟨x1, cv, cu⟩ | exact ⟨x1, cv', cu'⟩)
        ((first | (go_at_call 14; refine (num_any _ _).mono ?_; rintro e w' ⟨rfl, hw⟩; obtain rfl := hw.symm; clear hw) | (go_at_call 32; (first | refine hat.mono ?_ | refine hat'.mono ?_); rintro e w' ⟨rfl, hw⟩; obtain rfl := hw.symm; clear hw)))
  go_wp2_with fail
  have hOd : Own W3.drew (.slice ca dl cc) d := hO3.fr (S := fun _ => False) (Fr.of_below ⟨rfl, rfl, rfl, Nat.le_refl _, fun _ _ => rfl⟩) (fun _ _ h => h)
  have HD : Hid (d.length = dl) := hdl
  clear hdl cv cv' cu cu' hO3 hat hat'
  go_loopw [41] (fun i wq => ∃ (j : Nat) (e : List UInt8), j ≤ dl ∧ i = .int .i64 j ∧ e.length = dl ∧ Own wq (.slice ca dl cc) e ∧ Fr (fun q => (Value.slice ca dl cc).ownBlock = some q) W3 wq) (fun i _ => dl - (intOf i).toNat)
  case atStart => exact ⟨0, d, Nat.zero_le _, rfl, HD.out, hOd, ⟨rfl, rfl, rfl, Nat.le_refl _, fun _ _ _ => rfl⟩⟩
  case round =>
    obtain ⟨j, e, hj, rfl, hel, hOq, hFq⟩ := hrel
    by_cases hjl : j < dl
    · obtain ⟨gq, hgq, hh⟩ := hOq.some (by omega)
      clear hh
      subst hgq
      obtain ⟨cur, hcur⟩ := hOq.row
      have hfz := hcur.free j
      have hcl := hOq.cells (g := gq) rfl j (bc (e[j]?.getD 0)) (by simp [show j < e.length by omega])
      rw [Addr.add_mid, Nat.zero_add] at hcl
      have hws := wrap_succ (e[j]?.getD 0)
      have b0 := bv_nonneg (e[j]?.getD 0)
      have b1 := bv_lt (e[j]?.getD 0)
      generalize e[j]?.getD 0 = yy at *
      unfold bc at hcl
      have i3 : (j : Int) < dl := by omega
      rw [← hel] at hOq
      have HOq : Hid (Own (wr.setCell ⟨gq, j, none⟩ (bc (yy + 1))) (.slice (some ⟨gq, 0, none⟩) (e.set j (yy + 1)).length cc) (e.set j (yy + 1))) := hOq.set j (yy + 1)
      have hFs : Fr (fun q => (Value.slice (some ⟨gq, 0, none⟩) dl cc).ownBlock = some q) wr (wr.setCell ⟨gq, j, none⟩ (bc (yy + 1))) := ⟨rfl, rfl, rfl, by simp [World.setCell], fun q _ hq => heap_setCell_other wr ⟨gq, j, none⟩ q _ (fun e => hq (by simp [Value.ownBlock, e]))⟩
      have HDL : Hid (e.length = dl) := hel
      have HJ : Hid (j < dl) := hjl
      clear hcur hel
      go_wp2_with fail
      go_roundw
      case rel =>
        have h1 := HOq.out
        rw [List.length_set, HDL.out] at h1
        exact ⟨j + 1, e.set j (yy + 1), HJ.out, by go_num, by rw [List.length_set, HDL.out], h1, hFq.trans hFs⟩
      case measure => have := HJ.out; simp [intOf]; omega
    · have i3 : ¬ (j : Int) < dl := by omega
      have hX4 := hX3.fr hFq (fun e => by have := hcb _ e; omega)
      have hC4 := hC3.fr hFq (fun e => by have := hcb _ e; omega)
      obtain ⟨⟨lv4, hR4, hby4⟩, _⟩ := id hSR3
      have hR5 : Rd wr r lv4 (l.drop at') at' fl' := ⟨hR4.has.fr hFq (fun e => by have := hcb _ e; omega), (hby4.fr hFq (fun i _ e => .inr (hcb _ e))).mono (fun k _ e => .inl e)⟩
      have hE4 : Ex r w wr := ⟨hFq.os.trans ((Ex.below hBx).trans hE3).os, hFq.tape.trans ((Ex.below hBx).trans hE3).tape, hFq.output.trans ((Ex.below hBx).trans hE3).output, Nat.le_trans ((Ex.below hBx).trans hE3).size hFq.size, fun q hq hqr => (hFq.block q (by have := ((Ex.below hBx).trans hE3).size; omega) (fun e => by have := hcb _ e; have := hBx.size; omega)).trans (((Ex.below hBx).trans hE3).block q hq hqr)⟩
      have x0 := hX4.cell 0
      have x1 := hX4.cell 1
      have x2 := hX4.cell 2
      have s0 := hC4.cell 0
      have s1 := hC4.cell 1
      have s2 := hC4.cell 2
      have f0 := hC4.free 0
      have f1 := hC4.free 1
      have f2 := hC4.free 2
      simp at x0 x1 x2 s0 s1 s2
      have n7 : ¬ g6 = g := by omega
      clear hX3 hC3 hS3 hSR3 hR3
      go_wp2_with fail
      refine named (p := fun X => bodyPost _ _ _ _ _ X) ?_
      intro Wf hWf
      have hE6 : Ex g6 wr Wf := by rw [hWf]; exact ((Ex.set g6 wr 0 _).trans (Ex.set g6 _ 1 _)).trans (Ex.set g6 _ 2 _)
      have hHf : Has Wf g6 #[.slice a bl c, .int .i64 at', .int .i64 fl'] 45 := by rw [hWf]; exact set3_has hC4
      clear hWf
      have r0 := hHf.cell 0
      have r1 := hHf.cell 1
      have r2 := hHf.cell 2
      simp at r0 r1 r2
      have hSf : St Wf r l at' fl' := ⟨⟨lv4, hR5.ex hE6 (by omega) (hR5.by_.bytes.notRef hC4)⟩, hat3⟩
      have hEf : Ex r w Wf := hE4.more hE6 (by omega)
      exact bodyPost_ret (v := .tuple #[.agg #[.slice a bl c, .int .i64 at', .int .i64 fl'], .bool true]) (by simp [results, Try.results33, go_sem, r0, r1, r2]) rfl ⟨at', fl', rfl, hSf, hEf⟩
end Go.Proofs.Ytgoflpfafkmmgaa
/- took: each kind that the law of cuts takes. -/
namespace Go.Proofs.Ytgoflpfafkmmgaa
open Go.RowKit

theorem took_any (k : Nat) (hk : k ≤ 5) (r : Nat) (a : Option Addr) (c at_ fl bl : Nat) (l : List UInt8) (hbl : bl = l.length) (n : Int) (w : World) (hB : Bytes w (.slice a bl c) l) (hS : St w r l at_ fl) (hsm : l.length ≤ 10000000000) :
    Calls Try.prog 33 #[.pointer (some ⟨r, 0, none⟩), .agg #[.slice a bl c, .int .i64 at_, .int .i64 fl], .agg #[.int .i64 (k : Int), .int .i64 n]] w fun e w' => TkR w w' r l a bl c e := by
  match k, hk with
  | 0, _ => exact took_0 r a c at_ fl bl l hbl n w hB hS hsm
  | 1, _ => exact took_1 r a c at_ fl bl l hbl n w hB hS hsm
  | 2, _ => exact took_2 r a c at_ fl bl l hbl n w hB hS hsm
  | 3, _ => exact took_3 r a c at_ fl bl l hbl n w hB hS hsm
  | 4, _ => exact took_4 r a c at_ fl bl l hbl n w hB hS hsm
  | 5, _ => exact took_5 r a c at_ fl bl l hbl n w hB hS hsm
  | k + 6, h => omega
end Go.Proofs.Ytgoflpfafkmmgaa
/- What was laid is taken: same. -/
namespace Go.Proofs.Ytgoflpfafkmmgaa
open Go.RowKit

theorem bnd_pos {α : Type} {most : Int} (x : Except Nat α) (h : 0 ≤ most) : bnd most x = x := by unfold bnd; rw [if_neg (by omega)]
/-- A reader behind what was laid. -/
def Behind (w w' : World) (r : Nat) (rest : List UInt8) (at_ : Nat) (e : Ending) : Prop := e = .returned (.bool true) ∧ ∃ lv', Rd w' r lv' rest at_ 0 ∧ Ex r w w'
theorem Took.behind {w W0 w1 : World} {r at_ : Nat} {out rest : List UInt8} (h : Took W0 w1 r rest (at_ + ((out ++ rest).length - rest.length))) (hB : Below w.heap.size w W0) : Behind w w1 r rest (at_ + out.length) (.returned (.bool true)) := by
  obtain ⟨lv', h1, h2⟩ := h
  have e : (out ++ rest).length - rest.length = out.length := by simp
  rw [e] at h1
  exact ⟨rfl, lv', h1, (Ex.below hB).trans h2⟩
set_option maxRecDepth 10000 in
set_option maxHeartbeats 2000000 in
theorem same_0 (r : Nat) (lv : Value) (rest : List UInt8) (at_ : Nat) (n : Nat) (hn : n < 9223372036854775808) (xa : Option Addr) (xl xc : Nat) (w : World) (hR : Rd w r lv (numL n ++ rest) at_ 0) (hat : at_ + (numL n ++ rest).length ≤ 10000000000) :
    Calls Try.prog 36 #[.pointer (some ⟨r, 0, none⟩), .agg #[.int .i64 0, .int .i64 n, .slice xa xl xc]] w fun e w' => Behind w w' r rest (at_ + (numL n).length) e := by
  have hx : vN (bnd (n : Int) (lnum n (numL n ++ rest))) = .ok (.int .i64 n, rest) := by rw [bnd_pos _ (by omega), lnum_num n rest hn _ (Int.le_refl _)]; rfl
  have hrl := hR.lt
  go_enter Try.func36, Try.ntmps36
  go_wp2_with fail
  refine named (p := fun X => Calls _ _ _ X _) ?_
  intro W0 hW0
  have hB0 : Below w.heap.size w W0 := by rw [hW0]; exact (Below.refl _ _).alloc (Nat.le_refl _) _
  have hX0 : Has W0 w.heap.size #[.int .i64 0, .int .i64 n, .slice xa xl xc] 29 := by rw [hW0]; exact has_new _ _ _ _ rfl
  clear hW0
  refine (rnumber_any r lv _ at_ n W0 (hR.below hB0) hat).mono ?_
  intro e w1 hl
  obtain ⟨rfl, ht⟩ := hl.ok hx
  have hEx := ht.choose_spec.2
  have hX1 := hX0.ex hEx (by omega)
  have q1 := hX1.cell 1
  have q2 := hX1.cell 2
  simp at q1 q2
  have HF : Hid (Behind w w1 r rest (at_ + (numL n).length) (.returned (.bool true))) := ht.behind hB0
  clear hl ht hEx
  go_wp2_with (first | (go_at_call 14; refine (num_any _ _).mono ?_; rintro e w' ⟨rfl, hw⟩; obtain rfl := hw.symm; clear hw) | fail)
  go_ret
  exact HF.out
set_option maxRecDepth 10000 in
set_option maxHeartbeats 2000000 in
theorem same_1 (r : Nat) (lv : Value) (rest : List UInt8) (at_ : Nat) (n : Int) (hn : inS n = true) (xa : Option Addr) (xl xc : Nat) (w : World) (hR : Rd w r lv (numL (foldN n) ++ rest) at_ 0) (hat : at_ + (numL (foldN n) ++ rest).length ≤ 10000000000) :
    Calls Try.prog 36 #[.pointer (some ⟨r, 0, none⟩), .agg #[.int .i64 1, .int .i64 n, .slice xa xl xc]] w fun e w' => Behind w w' r rest (at_ + (numL (foldN n)).length) e := by
  have hx : vI (lsig (numL (foldN n) ++ rest)) = .ok (.int .i64 n, rest) := by rw [lsig_num rest n hn]; rfl
  clear hn
  have hrl := hR.lt
  go_enter Try.func36, Try.ntmps36
  go_wp2_with fail
  refine named (p := fun X => Calls _ _ _ X _) ?_
  intro W0 hW0
  have hB0 : Below w.heap.size w W0 := by rw [hW0]; exact (Below.refl _ _).alloc (Nat.le_refl _) _
  have hX0 : Has W0 w.heap.size #[.int .i64 1, .int .i64 n, .slice xa xl xc] 29 := by rw [hW0]; exact has_new _ _ _ _ rfl
  clear hW0
  refine (rsigned_any r lv _ at_ W0 (hR.below hB0) hat).mono ?_
  intro e w1 hl
  obtain ⟨rfl, ht⟩ := hl.ok hx
  have hEx := ht.choose_spec.2
  have hX1 := hX0.ex hEx (by omega)
  have q1 := hX1.cell 1
  have q2 := hX1.cell 2
  simp at q1 q2
  have HF : Hid (Behind w w1 r rest (at_ + (numL (foldN n)).length) (.returned (.bool true))) := ht.behind hB0
  clear hl ht hEx
  go_wp2_with (first | (go_at_call 14; refine (num_any _ _).mono ?_; rintro e w' ⟨rfl, hw⟩; obtain rfl := hw.symm; clear hw) | fail)
  go_ret
  exact HF.out
set_option maxRecDepth 10000 in
set_option maxHeartbeats 2000000 in
theorem same_2 (r : Nat) (lv : Value) (rest : List UInt8) (at_ : Nat) (n : Int) (d : List UInt8) (hd : d.length ≤ 1000000000) (xa : Option Addr) (xc : Nat) (w : World) (hb : In w (.slice xa d.length xc) d) (hR : Rd w r lv (bytL d ++ rest) at_ 0) (hat : at_ + (bytL d ++ rest).length ≤ 10000000000) :
    Calls Try.prog 36 #[.pointer (some ⟨r, 0, none⟩), .agg #[.int .i64 2, .int .i64 n, .slice xa d.length xc]] w fun e w' => Behind w w' r rest (at_ + (bytL d).length) e := by
  have hx : bnd (d.length : Int) (lbyt (d.length : Int) (bytL d ++ rest)) = .ok (d, rest) := by rw [bnd_pos _ (by omega), lbyt_byt d rest (by omega)]
  have hrl := hR.lt
  go_enter Try.func36, Try.ntmps36
  go_wp2_with fail
  refine named (p := fun X => Calls _ _ _ X _) ?_
  intro W0 hW0
  have hB0 : Below w.heap.size w W0 := by rw [hW0]; exact (Below.refl _ _).alloc (Nat.le_refl _) _
  have hX0 : Has W0 w.heap.size #[.int .i64 2, .int .i64 n, .slice xa d.length xc] 29 := by rw [hW0]; exact has_new _ _ _ _ rfl
  clear hW0
  refine (rbytes_any r lv _ at_ d.length W0 (hR.below hB0) hat).mono ?_
  intro e w1 hl
  rw [hx] at hl
  obtain ⟨v, rfl, ht, hO, _⟩ := hl
  have hEx := ht.choose_spec.2
  have hX1 := hX0.ex hEx (by omega)
  have q1 := hX1.cell 1
  have q2 := hX1.cell 2
  simp at q1 q2
  have hbx := ((hb.bytes hB0 (by have := hX0.lt; omega)).notReader (hR.below hB0)).ex hEx (by have := hX1.lt; omega)
  have cv := bytes_string Try.underlying27 Try.underlying5 Try.underlying9 w1 _ d hbx
  have cv2 := bytes_string Try.underlying27 Try.underlying5 Try.underlying9 w1 _ d (hO.bytes (by have := hX1.lt; omega))
  obtain ⟨va, vc, rfl⟩ := hO.slice
  generalize (⟨d.toArray⟩ : ByteArray) = s at *
  have HF : Hid (Behind w w1 r rest (at_ + (bytL d).length) (.returned (.bool true))) := ht.behind hB0
  clear ht hEx
  go_wp2_with (first | (go_at_call 14; refine (num_any _ _).mono ?_; rintro e w' ⟨rfl, hw⟩; obtain rfl := hw.symm; clear hw) | (refine wpList_convert_run rfl 27 9 _ rfl (.slice va d.length vc) _ rfl cv2 ?_) | (refine wpList_convert_run rfl 27 9 _ rfl (.slice xa d.length xc) _ rfl cv ?_) | fail)
  go_ret
  exact HF.out
set_option maxRecDepth 10000 in
set_option maxHeartbeats 2000000 in
theorem same_3 (r : Nat) (lv : Value) (rest : List UInt8) (at_ : Nat) (n : Int) (d : List UInt8) (hd : d.length ≤ 1000000000) (xa : Option Addr) (xc : Nat) (w : World) (hb : In w (.slice xa d.length xc) d) (hR : Rd w r lv (bytL d ++ rest) at_ 0) (hat : at_ + (bytL d ++ rest).length ≤ 10000000000) :
    Calls Try.prog 36 #[.pointer (some ⟨r, 0, none⟩), .agg #[.int .i64 3, .int .i64 n, .slice xa d.length xc]] w fun e w' => Behind w w' r rest (at_ + (bytL d).length) e := by
  have hx : vS (bnd (d.length : Int) (lbyt (d.length : Int) (bytL d ++ rest))) = .ok (.string ⟨d.toArray⟩, rest) := by rw [bnd_pos _ (by omega), lbyt_byt d rest (by omega)]; rfl
  have hrl := hR.lt
  go_enter Try.func36, Try.ntmps36
  go_wp2_with fail
  refine named (p := fun X => Calls _ _ _ X _) ?_
  intro W0 hW0
  have hB0 : Below w.heap.size w W0 := by rw [hW0]; exact (Below.refl _ _).alloc (Nat.le_refl _) _
  have hX0 : Has W0 w.heap.size #[.int .i64 3, .int .i64 n, .slice xa d.length xc] 29 := by rw [hW0]; exact has_new _ _ _ _ rfl
  clear hW0
  refine (rtext_any r lv _ at_ d.length W0 (hR.below hB0) hat).mono ?_
  intro e w1 hl
  obtain ⟨rfl, ht⟩ := hl.ok hx
  have hEx := ht.choose_spec.2
  have hX1 := hX0.ex hEx (by omega)
  have q1 := hX1.cell 1
  have q2 := hX1.cell 2
  simp at q1 q2
  have hbx := ((hb.bytes hB0 (by have := hX0.lt; omega)).notReader (hR.below hB0)).ex hEx (by have := hX1.lt; omega)
  have cv := bytes_string Try.underlying27 Try.underlying5 Try.underlying9 w1 _ d hbx
  generalize (⟨d.toArray⟩ : ByteArray) = s at *
  have HF : Hid (Behind w w1 r rest (at_ + (bytL d).length) (.returned (.bool true))) := ht.behind hB0
  clear hl ht hEx
  go_wp2_with (first | (go_at_call 14; refine (num_any _ _).mono ?_; rintro e w' ⟨rfl, hw⟩; obtain rfl := hw.symm; clear hw) | (refine wpList_convert_run rfl 27 9 _ rfl (.slice xa d.length xc) _ rfl cv ?_) | fail)
  go_ret
  exact HF.out
set_option maxRecDepth 10000 in
set_option maxHeartbeats 2000000 in
theorem same_4true (r : Nat) (lv : Value) (rest : List UInt8) (at_ : Nat) (n : Int) (hn : ¬ n = 0) (xa : Option Addr) (xl xc : Nat) (w : World) (hR : Rd w r lv ([1] ++ rest) at_ 0) (hat : at_ + ([1] ++ rest).length ≤ 10000000000) :
    Calls Try.prog 36 #[.pointer (some ⟨r, 0, none⟩), .agg #[.int .i64 4, .int .i64 n, .slice xa xl xc]] w fun e w' => Behind w w' r rest (at_ + ([1]).length) e := by
  have hx : vT (ltru ([1] ++ rest)) = .ok (.bool true, rest) := rfl
  have hn1 : (n != 0) = true := by simpa using hn
  clear hn
  have hrl := hR.lt
  go_enter Try.func36, Try.ntmps36
  go_wp2_with fail
  refine named (p := fun X => Calls _ _ _ X _) ?_
  intro W0 hW0
  have hB0 : Below w.heap.size w W0 := by rw [hW0]; exact (Below.refl _ _).alloc (Nat.le_refl _) _
  have hX0 : Has W0 w.heap.size #[.int .i64 4, .int .i64 n, .slice xa xl xc] 29 := by rw [hW0]; exact has_new _ _ _ _ rfl
  clear hW0
  refine (rtruth_any r lv _ at_ W0 (hR.below hB0) hat).mono ?_
  intro e w1 hl
  obtain ⟨rfl, ht⟩ := hl.ok hx
  have hEx := ht.choose_spec.2
  have hX1 := hX0.ex hEx (by omega)
  have q1 := hX1.cell 1
  have q2 := hX1.cell 2
  simp at q1 q2
  have HF : Hid (Behind w w1 r rest (at_ + ([1]).length) (.returned (.bool true))) := ht.behind hB0
  clear hl ht hEx
  go_wp2_with (first | (go_at_call 14; refine (num_any _ _).mono ?_; rintro e w' ⟨rfl, hw⟩; obtain rfl := hw.symm; clear hw) | fail)
  go_ret
  exact HF.out
set_option maxRecDepth 10000 in
set_option maxHeartbeats 2000000 in
theorem same_4false (r : Nat) (lv : Value) (rest : List UInt8) (at_ : Nat) (n : Int) (hn : n = 0) (xa : Option Addr) (xl xc : Nat) (w : World) (hR : Rd w r lv ([0] ++ rest) at_ 0) (hat : at_ + ([0] ++ rest).length ≤ 10000000000) :
    Calls Try.prog 36 #[.pointer (some ⟨r, 0, none⟩), .agg #[.int .i64 4, .int .i64 n, .slice xa xl xc]] w fun e w' => Behind w w' r rest (at_ + ([0]).length) e := by
  have hx : vT (ltru ([0] ++ rest)) = .ok (.bool false, rest) := rfl
  have hn1 : (n != 0) = false := by simp [hn]
  clear hn
  have hrl := hR.lt
  go_enter Try.func36, Try.ntmps36
  go_wp2_with fail
  refine named (p := fun X => Calls _ _ _ X _) ?_
  intro W0 hW0
  have hB0 : Below w.heap.size w W0 := by rw [hW0]; exact (Below.refl _ _).alloc (Nat.le_refl _) _
  have hX0 : Has W0 w.heap.size #[.int .i64 4, .int .i64 n, .slice xa xl xc] 29 := by rw [hW0]; exact has_new _ _ _ _ rfl
  clear hW0
  refine (rtruth_any r lv _ at_ W0 (hR.below hB0) hat).mono ?_
  intro e w1 hl
  obtain ⟨rfl, ht⟩ := hl.ok hx
  have hEx := ht.choose_spec.2
  have hX1 := hX0.ex hEx (by omega)
  have q1 := hX1.cell 1
  have q2 := hX1.cell 2
  simp at q1 q2
  have HF : Hid (Behind w w1 r rest (at_ + ([0]).length) (.returned (.bool true))) := ht.behind hB0
  clear hl ht hEx
  go_wp2_with (first | (go_at_call 14; refine (num_any _ _).mono ?_; rintro e w' ⟨rfl, hw⟩; obtain rfl := hw.symm; clear hw) | fail)
  go_ret
  exact HF.out
end Go.Proofs.Ytgoflpfafkmmgaa
