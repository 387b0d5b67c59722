/- What is laid by one call: lay. -/
import Derived.Test.YtgoflpfafkmmgaaH1
import Derived.Deep.RegionHeld3
namespace Go.Proofs.Ytgoflpfafkmmgaa
open Go.RowKit

set_option maxHeartbeats 400000 in
theorem refbytes_any (xv : Value) (x : List UInt8) (w : World) (hx : In w xv x) (hsm : x.length ≤ 1000000000) :
    Calls Try.prog 39 #[xv] w fun e w' => ∃ v, e = .returned v ∧ New w w' v (bytL x) := by
  obtain ⟨xa, xc, rfl⟩ := hx.slice
  go_enter Try.func39, Try.ntmps39
  go_wp2_with fail
  refine (refnumber_any x.length (by omega) w).mono ?_
  rintro e w1 ⟨u, rfl, hN⟩
  have hz := hN.below.size
  have hl9 := numL_len9 x.length (by omega)
  have h0 : 0 < w1.heap.size := by
    obtain ⟨i, hi, _⟩ := New.block (S := fun _ => False) hN (numL_ne _) (fun _ h => h.elim)
    omega
  have HX : Hid (Bytes w1 (.slice xa x.length xc) x) := hx.bytes hN.below h0
  have HN : Hid (New w w1 u (numL x.length)) := hN
  obtain ⟨ua, uc, rfl⟩ := hN.own.slice
  clear hN hx
  go_wp2_with (refine wpList_append_bytes _ rfl _ _ 27 27 rfl info5 Try.underlying27 Try.underlying27 _ _ (numL x.length) x rfl rfl HN.out.own HX.out (by omega) ?_; intro v2 w2 hown2 hgr hloc hnil; clear hnil; obtain ⟨a3, c3, hv2⟩ := hown2.slice; rw [List.length_append] at hv2; subst hv2)
  go_ret
  obtain ⟨h1, h2, h3⟩ := HN.out
  refine ⟨_, rfl, hown2, fun k hk => ?_, ?_⟩
  · rcases hloc k hk with h | h
    · exact h2 k h
    · omega
  · exact Fr.below h3 (grown_fr hgr) hz (fun k hk e => by have := h2 k e; omega)
theorem Wr.drew {w : World} {p : Nat} {v : Value} {bs : List UInt8} (h : Wr w p v bs) : Wr w.drew p v bs := by
  obtain ⟨h1, h2, h3⟩ := h
  exact ⟨h1, h2.fr (S := fun _ => False) ⟨rfl, rfl, rfl, Nat.le_refl _, fun _ _ _ => rfl⟩ (fun _ _ h => h), h3⟩
/-- What is laid, or that it may not be. -/
def layL (what n : Int) (d : List UInt8) : Option (List UInt8) :=
  if what = 0 then (if n < 0 then none else some (numL n.toNat))
  else if what = 1 then (if inS n then some (numL (foldN n)) else none)
  else if what = 2 ∨ what = 3 then some (bytL d)
  else if what = 4 then some [if n = 0 then 0 else 1]
  else some (d ++ d)
/-- What 'lay' answers. -/
def LayR (w w' : World) (p : Nat) (v : Value) (bs : List UInt8) (x : Option (List UInt8)) (e : Ending) : Prop :=
  ∃ v' y, e = .returned (.tuple #[.int .i64 (if x.isNone then 2 else 0), y, .int .i64 (if x.isNone then 2 else 0)]) ∧ Wr w' p v' (bs ++ x.getD []) ∧ Fr (WS p v) w w' ∧ Loc w v v' ∧ Own w' y (x.getD []) ∧ ∀ k, y.ownBlock = some k → w.heap.size ≤ k ∧ ¬ WS p v' k
theorem LayR.mk {w W0 w1 w2 : World} {p : Nat} {v v1 y : Value} {bs d : List UInt8} (hB0 : Below w.heap.size w W0) (hW1 : Wr w1 p v1 (bs ++ d)) (hF : Fr (WS p v) W0 w1) (hL : Loc W0 v v1) (hN : New w1 w2 y d) : LayR w w2 p v bs (some d) (.returned (.tuple #[.int .i64 0, y, .int .i64 0])) := by
  have hz := hB0.size
  refine ⟨v1, y, rfl, hW1.below hN.below, ((Fr.of_below hB0).trans hF).trans (Fr.of_below hN.below), fun k hk => (hL k hk).imp id (fun h => by omega), hN.own, fun k hk => ?_⟩
  have h1 := hN.2.1 k hk
  have h2 := hF.size
  exact ⟨by omega, fun e => by have := hW1.lt k e; omega⟩
theorem LayR.bad {w W0 : World} {p : Nat} {v : Value} {bs : List UInt8} (hB0 : Below w.heap.size w W0) (hW : Wr W0 p v bs) : LayR w W0 p v bs none (.returned (.tuple #[.int .i64 2, .slice none 0 0, .int .i64 2])) :=
  ⟨v, _, rfl, by simpa using hW, Fr.of_below hB0, fun k hk => .inl hk, Own.nil _, fun k hk => by cases hk⟩
set_option maxRecDepth 10000 in
set_option maxHeartbeats 2000000 in
theorem lay_0 (p : Nat) (v : Value) (bs : List UInt8) (n : Nat) (hn : n < 9223372036854775808) (w : World) (hW : Wr w p v bs) (hfit : bs.length + (numL n).length ≤ 1048576) (xa : Option Addr) (xl xc : Nat) :
    Calls Try.prog 13 #[.pointer (some ⟨p, 0, none⟩), .agg #[.int .i64 0, .int .i64 n, .slice xa xl xc]] w fun e w' => LayR w w' p v bs (some (numL n)) e := by
  have hS := hW.lt
  have hn0 : ¬ (n : Int) < 0 := by omega
  have hnum := fun w h => wnumber_ok p v bs n hn w h
  have hrn := refnumber_any n hn
  generalize numL n = d at *
  go_enter Try.func13, Try.ntmps13
  go_wp2_with fail
  refine named (p := Code.wp _ _ _ _) ?_
  intro W0 hW0
  have hB0 : Below w.heap.size w W0 := by rw [hW0]; exact (Below.refl _ _).alloc (Nat.le_refl _) _
  have hX0 : Has W0 w.heap.size #[.int .i64 0, .int .i64 n, .slice xa xl xc] 29 := by rw [hW0]; exact has_new _ _ _ _ rfl
  clear hW0
  have hW1 := hW.below hB0
  have hdrew := hW1.drew
  have hnS : ¬ WS p v w.heap.size := fun e => by have := hS _ e; omega
  have c1 := hX0.cell 1
  simp at c1
  go_region_held3 (fun W => W.cell? ⟨w.heap.size, 1, none⟩ = some (.int .i64 n)) (first | exact c1 | exact hk1 | exact hk2)
    ((first | (go_at_call 16; refine (hnum _ (by first | exact hW1 | exact hdrew)).mono ?_; intro e w1 hl; obtain ⟨rfl, v1, hW2, hF2, hL2⟩ := hl.ok hfit; have hF2' : Fr (WS p v) W0 w1 := ⟨hF2.os, hF2.tape, hF2.output, hF2.size, hF2.block⟩; have hL2' : Loc W0 v v1 := hL2; have hX1 := hX0.fr hF2' hnS; have hk1 : w1.cell? ⟨w.heap.size, 1, none⟩ = some (.int .i64 n) := hX1.cell 1) | (go_at_call 25; refine (hrn _).mono ?_; rintro e w2 ⟨y, rfl, hN2⟩; have hk2 : w2.cell? ⟨w.heap.size, 1, none⟩ = some (.int .i64 n) := (hN2.below.cell (p := ⟨w.heap.size, 1, none⟩) hX1.lt).trans (hX1.cell 1); have HN2 : Hid (New w1 w2 y d) := hN2; obtain ⟨ya, yc, hy⟩ := hN2.own.slice; subst hy; clear hN2)))
  go_wp2_with fail
  go_ret3
  exact LayR.mk hB0 hW2 hF2' hL2' HN2.out
set_option maxRecDepth 10000 in
set_option maxHeartbeats 2000000 in
theorem lay_1 (p : Nat) (v : Value) (bs : List UInt8) (n : Int) (hn : inS n = true) (w : World) (hW : Wr w p v bs) (hfit : bs.length + (numL (foldN n)).length ≤ 1048576) (xa : Option Addr) (xl xc : Nat) :
    Calls Try.prog 13 #[.pointer (some ⟨p, 0, none⟩), .agg #[.int .i64 1, .int .i64 n, .slice xa xl xc]] w fun e w' => LayR w w' p v bs (some (numL (foldN n))) e := by
  have hS := hW.lt
  have hin := insign_any n
  rw [hn] at hin
  have hnum := fun w h => wsigned_ok p v bs n hn w h
  have hrn := refsigned_any n hn
  generalize numL (foldN n) = d at *
  clear hn
  go_enter Try.func13, Try.ntmps13
  go_wp2_with (first | (go_at_call 26; refine (hin _).mono ?_; rintro e w' ⟨rfl, hw⟩; obtain rfl := hw.symm; clear hw) | fail)
  refine named (p := Code.wp _ _ _ _) ?_
  intro W0 hW0
  have hB0 : Below w.heap.size w W0 := by rw [hW0]; exact (Below.refl _ _).alloc (Nat.le_refl _) _
  have hX0 : Has W0 w.heap.size #[.int .i64 1, .int .i64 n, .slice xa xl xc] 29 := by rw [hW0]; exact has_new _ _ _ _ rfl
  clear hW0
  have hW1 := hW.below hB0
  have hdrew := hW1.drew
  have hnS : ¬ WS p v w.heap.size := fun e => by have := hS _ e; omega
  have c1 := hX0.cell 1
  simp at c1
  go_region_held3 (fun W => W.cell? ⟨w.heap.size, 1, none⟩ = some (.int .i64 n)) (first | exact c1 | exact hk1 | exact hk2)
    ((first | (go_at_call 17; refine (hnum _ (by first | exact hW1 | exact hdrew)).mono ?_; intro e w1 hl; obtain ⟨rfl, v1, hW2, hF2, hL2⟩ := hl.ok hfit; have hF2' : Fr (WS p v) W0 w1 := ⟨hF2.os, hF2.tape, hF2.output, hF2.size, hF2.block⟩; have hL2' : Loc W0 v v1 := hL2; have hX1 := hX0.fr hF2' hnS; have hk1 : w1.cell? ⟨w.heap.size, 1, none⟩ = some (.int .i64 n) := hX1.cell 1) | (go_at_call 28; refine (hrn _).mono ?_; rintro e w2 ⟨y, rfl, hN2⟩; have hk2 : w2.cell? ⟨w.heap.size, 1, none⟩ = some (.int .i64 n) := (hN2.below.cell (p := ⟨w.heap.size, 1, none⟩) hX1.lt).trans (hX1.cell 1); have HN2 : Hid (New w1 w2 y d) := hN2; obtain ⟨ya, yc, hy⟩ := hN2.own.slice; subst hy; clear hN2)))
  go_wp2_with fail
  go_ret3
  exact LayR.mk hB0 hW2 hF2' hL2' HN2.out
set_option maxHeartbeats 2000000 in
theorem lay_0bad (p : Nat) (v : Value) (bs : List UInt8) (n : Int) (hn : n < 0) (w : World) (hW : Wr w p v bs) (xa : Option Addr) (xl xc : Nat) :
    Calls Try.prog 13 #[.pointer (some ⟨p, 0, none⟩), .agg #[.int .i64 0, .int .i64 n, .slice xa xl xc]] w fun e w' => LayR w w' p v bs none e := by
  go_enter Try.func13, Try.ntmps13
  go_wp2_with fail
  refine named (p := fun X => Calls _ _ _ X _) ?_
  intro W0 hW0
  have hB0 : Below w.heap.size w W0 := by rw [hW0]; exact (Below.refl _ _).alloc (Nat.le_refl _) _
  clear hW0
  have hW1 := hW.below hB0
  have c1 := hW1.has.cell 1
  simp at c1
  refine (wnumber_bad p n hn W0 c1).mono ?_
  rintro e w' ⟨rfl, hw⟩
  obtain rfl := hw.symm
  clear hw
  go_wp2_with fail
  go_ret3
  exact LayR.bad hB0 hW1
set_option maxHeartbeats 2000000 in
theorem lay_1bad (p : Nat) (v : Value) (bs : List UInt8) (n : Int) (hn : inS n = false) (w : World) (hW : Wr w p v bs) (xa : Option Addr) (xl xc : Nat) :
    Calls Try.prog 13 #[.pointer (some ⟨p, 0, none⟩), .agg #[.int .i64 1, .int .i64 n, .slice xa xl xc]] w fun e w' => LayR w w' p v bs none e := by
  have hin := insign_any n
  rw [hn] at hin
  have hbad := fun w c => wsigned_bad p n hn w c
  clear hn
  go_enter Try.func13, Try.ntmps13
  go_wp2_with (first | (go_at_call 26; refine (hin _).mono ?_; rintro e w' ⟨rfl, hw⟩; obtain rfl := hw.symm; clear hw) | fail)
  refine named (p := fun X => Calls _ _ _ X _) ?_
  intro W0 hW0
  have hB0 : Below w.heap.size w W0 := by rw [hW0]; exact (Below.refl _ _).alloc (Nat.le_refl _) _
  clear hW0
  have hW1 := hW.below hB0
  have c1 := hW1.has.cell 1
  simp at c1
  refine (hbad W0 c1).mono ?_
  rintro e w' ⟨rfl, hw⟩
  obtain rfl := hw.symm
  clear hw
  go_wp2_with fail
  go_ret3
  exact LayR.bad hB0 hW1
theorem InAp.fr' {S : Nat → Prop} {w w' : World} {v : Value} {d : List UInt8} (h : InAp S w v d) (k : Fr S w w') : InAp S w' v d := by
  rcases h with h | h
  · exact .inl h
  · exact .inr (h.fr k (fun _ _ e => e))
theorem InAp.in_ {S : Nat → Prop} {w : World} {v : Value} {d : List UInt8} (h : InAp S w v d) : In w v d := by
  rcases h with h | h
  · exact .inl h
  · exact .inr h.bytes
set_option maxRecDepth 10000 in
set_option maxHeartbeats 2000000 in
theorem lay_2 (p : Nat) (v : Value) (bs x : List UInt8) (n : Int) (w : World) (hW : Wr w p v bs) (hfit : bs.length + (bytL x).length ≤ 1048576) (xa : Option Addr) (xc : Nat) (hx : InAp (WS p v) w (.slice xa x.length xc) x) (hsm : x.length ≤ 1000000000) :
    Calls Try.prog 13 #[.pointer (some ⟨p, 0, none⟩), .agg #[.int .i64 2, .int .i64 n, .slice xa x.length xc]] w fun e w' => LayR w w' p v bs (some (bytL x)) e := by
  have hS := hW.lt
  go_enter Try.func13, Try.ntmps13
  go_wp2_with fail
  refine named (p := Code.wp _ _ _ _) ?_
  intro W0 hW0
  have hB0 : Below w.heap.size w W0 := by rw [hW0]; exact (Below.refl _ _).alloc (Nat.le_refl _) _
  have hX0 : Has W0 w.heap.size #[.int .i64 2, .int .i64 n, .slice xa x.length xc] 29 := by rw [hW0]; exact has_new _ _ _ _ rfl
  clear hW0
  have hW1 := hW.below hB0
  have hdrew := hW1.drew
  have hnS : ¬ WS p v w.heap.size := fun e => by have := hS _ e; omega
  have hx1 := hx.below hB0
  have c2 := hX0.cell 2
  simp at c2
  have hd0 : InAp (WS p v) W0.drew (.slice xa x.length xc) x := hx1.fr' (Fr.refl _ _ |> fun h => ⟨h.os, h.tape, h.output, h.size, h.block⟩)
  go_region_held3 (fun W => W.cell? ⟨w.heap.size, 2, none⟩ = some (.slice xa x.length xc)) (first | exact c2 | exact hk1 | exact hk2)
    ((first | (go_at_call 18; refine (wbytes_in p v _ bs x _ (by first | exact hW1 | exact hdrew) (by first | exact hx1 | exact hd0) hsm).mono ?_; intro e w1 hl; obtain ⟨rfl, v1, hW2, hF2, hL2⟩ := hl.ok hfit; have hF2' : Fr (WS p v) W0 w1 := ⟨hF2.os, hF2.tape, hF2.output, hF2.size, hF2.block⟩; have hL2' : Loc W0 v v1 := hL2; have hX1 := hX0.fr hF2' hnS; have hk1 : w1.cell? ⟨w.heap.size, 2, none⟩ = some (.slice xa x.length xc) := hX1.cell 2; have hin1 : In w1 (.slice xa x.length xc) x := (hx1.fr' hF2').in_) | (go_at_call 39; refine (refbytes_any _ x _ hin1 hsm).mono ?_; rintro e w2 ⟨y, rfl, hN2⟩; have hk2 : w2.cell? ⟨w.heap.size, 2, none⟩ = some (.slice xa x.length xc) := (hN2.below.cell (p := ⟨w.heap.size, 2, none⟩) hX1.lt).trans (hX1.cell 2); have HN2 : Hid (New w1 w2 y (bytL x)) := hN2; obtain ⟨ya, yc, hy⟩ := hN2.own.slice; subst hy; clear hN2)))
  go_wp2_with fail
  go_ret3
  exact LayR.mk hB0 hW2 hF2' hL2' HN2.out
end Go.Proofs.Ytgoflpfafkmmgaa
