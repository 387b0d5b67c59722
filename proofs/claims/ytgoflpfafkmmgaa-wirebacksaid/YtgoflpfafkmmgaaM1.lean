/- A reader's calls. -/
import Derived.Test.YtgoflpfafkmmgaaL3
import Derived.Test.YtgoflpfafkmmgaaT2
import Derived.Test.YtgoflpfafkmmgaaT3
import Derived.Test.YtgoflpfafkmmgaaT4
namespace Go.Proofs.Ytgoflpfafkmmgaa
open Go.RowKit

/-- A bound below 0 is an error. -/
def bnd {α : Type} (most : Int) (x : Except Nat α) : Except Nat α := if most < 0 then .error 2 else x
/-- What a reader's call answers, and how the reader stands behind it. -/
def RAns (zero : Value) (w w' : World) (r : Nat) (lv : Value) (rest : List UInt8) (at_ : Nat) (x : Except Nat (Value × List UInt8)) (e : Ending) : Prop := match x with
  | .error ec => e = .returned (.tuple #[zero, .int .i64 ec]) ∧ Flaws w w' r lv rest at_ ec
  | .ok (v, rest') => e = .returned (.tuple #[v, .int .i64 0]) ∧ Took w w' r rest' (at_ + (rest.length - rest'.length))
def RAnsB (w w' : World) (r : Nat) (lv : Value) (rest : List UInt8) (at_ : Nat) (x : Except Nat (List UInt8 × List UInt8)) (e : Ending) : Prop := match x with
  | .error ec => e = .returned (.tuple #[.slice none 0 0, .int .i64 ec]) ∧ Flaws w w' r lv rest at_ ec
  | .ok (d, rest') => ∃ v, e = .returned (.tuple #[v, .int .i64 0]) ∧ Took w w' r rest' (at_ + (rest.length - rest'.length)) ∧ Own w' v d ∧ ∀ k, v.ownBlock = some k → w.heap.size ≤ k
theorem two_boxes (w : World) (x y : Value) (s t : Nat) : Below w.heap.size w ((w.alloc (.cells #[x] s)).alloc (.cells #[y] t)) ∧ Has ((w.alloc (.cells #[x] s)).alloc (.cells #[y] t)) w.heap.size #[x] s ∧ Has ((w.alloc (.cells #[x] s)).alloc (.cells #[y] t)) (w.heap.size + 1) #[y] t ∧ ((w.alloc (.cells #[x] s)).alloc (.cells #[y] t)).heap.size = w.heap.size + 2 :=
  ⟨alloc2_below _ _ _, has_old (has_new _ _ _ _ rfl), has_new _ _ _ _ (by simp), by simp⟩
theorem Rd.below {w w' : World} {r : Nat} {lv : Value} {rest : List UInt8} {at_ fl : Nat} (h : Rd w r lv rest at_ fl) (k : Below w.heap.size w w') : Rd w' r lv rest at_ fl :=
  ⟨h.has.below k h.lt, h.by_.fr (S' := fun _ => False) (Fr.of_below k) (fun _ _ h => h.elim)⟩
/-- What a reader's call answers; what is left lies in no block of R. -/
def RAnsR (R : Nat → Prop) (zero : Value) (w w' : World) (r : Nat) (lv : Value) (rest : List UInt8) (at_ : Nat) (x : Except Nat (Value × List UInt8)) (e : Ending) : Prop := match x with
  | .error ec => e = .returned (.tuple #[zero, .int .i64 ec]) ∧ Flaws w w' r lv rest at_ ec
  | .ok (v, rest') => e = .returned (.tuple #[v, .int .i64 0]) ∧ TookR R w w' r rest' (at_ + (rest.length - rest'.length))
def RAnsBR (R : Nat → Prop) (w w' : World) (r : Nat) (lv : Value) (rest : List UInt8) (at_ : Nat) (x : Except Nat (List UInt8 × List UInt8)) (e : Ending) : Prop := match x with
  | .error ec => e = .returned (.tuple #[.slice none 0 0, .int .i64 ec]) ∧ Flaws w w' r lv rest at_ ec
  | .ok (d, rest') => ∃ v, e = .returned (.tuple #[v, .int .i64 0]) ∧ TookR R w w' r rest' (at_ + (rest.length - rest'.length)) ∧ Own w' v d ∧ ∀ k, v.ownBlock = some k → w.heap.size ≤ k
theorem RAnsR.plain {R : Nat → Prop} {zero : Value} {w w' : World} {r : Nat} {lv : Value} {rest : List UInt8} {at_ : Nat} {x : Except Nat (Value × List UInt8)} {e : Ending} (h : RAnsR R zero w w' r lv rest at_ x e) : RAns zero w w' r lv rest at_ x e := by
  cases x with
  | error ec => exact h
  | ok p => exact ⟨h.1, h.2.took⟩
theorem RAnsBR.plain {R : Nat → Prop} {w w' : World} {r : Nat} {lv : Value} {rest : List UInt8} {at_ : Nat} {x : Except Nat (List UInt8 × List UInt8)} {e : Ending} (h : RAnsBR R w w' r lv rest at_ x e) : RAnsB w w' r lv rest at_ x e := by
  cases x with
  | error ec => exact h
  | ok p => obtain ⟨v, h1, h2, h3⟩ := h; exact ⟨v, h1, h2.took, h3⟩
theorem BytesAp.lp {R : Nat → Prop} {w W : World} {lv : Value} {rest : List UInt8} (h : BytesAp R w lv rest) (k : Below w.heap.size w W) : BytesAp (fun k => R k ∨ k = w.heap.size) W lv rest := by
  obtain ⟨a, c, db, o, h1, h2, h3, h4, h5, h6⟩ := h
  exact ⟨a, c, db, o, h1, h2, h3, fun j hj => (k.cell (p := ⟨db, o + j, none⟩) h5).trans (h4 j hj), Nat.lt_of_lt_of_le h5 k.size, fun e => e.elim h6 (fun e => by omega)⟩
theorem TookR.after {R : Nat → Prop} {w w1 w' : World} {r at_ : Nat} {rest : List UInt8} (h : TookR R w1 w' r rest at_) (k : Below w.heap.size w w1) : TookR R w w' r rest at_ := by
  obtain ⟨lv, h1, h2⟩ := h; exact ⟨lv, h1, (Ex.below k).trans h2⟩
theorem Took.after {w w1 w' : World} {r at_ : Nat} {rest : List UInt8} (h : Took w1 w' r rest at_) (k : Below w.heap.size w w1) : Took w w' r rest at_ := by
  obtain ⟨lv, h1, h2⟩ := h; exact ⟨lv, h1, (Ex.below k).trans h2⟩
theorem Flaws.after {w w1 w' : World} {r at_ ec : Nat} {lv : Value} {rest : List UInt8} (h : Flaws w1 w' r lv rest at_ ec) (k : Below w.heap.size w w1) : Flaws w w' r lv rest at_ ec := ⟨h.1, (Ex.below k).trans h.2⟩

set_option maxHeartbeats 1000000 in
theorem clos64_46 (R : Nat → Prop) (lp b k : Nat) (lv : Value) (l : List UInt8) (most : Int) (W : World) (hH : Has W lp #[lv] 80) (hB : BytesAp (fun k => R k ∨ k = lp) W lv l) (hsm : l.length ≤ 10000000000)
    (hb : W.cell? ⟨b, 0, none⟩ = some (.int .i64 most)) (hk : W.cell? ⟨k, 0, none⟩ = some (.func (Fn.func 46) #[] #[])) :
    Calls Try.prog 64 #[.pointer (some ⟨lp, 0, none⟩), .pointer (some ⟨b, 0, none⟩), .pointer (some ⟨k, 0, none⟩)] W fun e w' => Ans R lp W (vN (bnd most (lnum most l))) e w' := by
  have hbd : ∀ h : ¬ most < 0, _ := fun (h : ¬ most < 0) => lnumber_any R lp lv l most W hH hB hsm
  unfold bnd
  by_cases hm : most < 0
  · rw [if_pos hm]
    have Hf : Hid (Failed lp W 2 (.returned (.tuple #[.int .i64 0, .int .i64 2])) W) := ⟨⟨_, rfl⟩, Ex.refl _ _⟩
    show Calls _ _ _ _ fun e w' => Failed lp W 2 e w'
    clear hbd
    go_enter Try.func64, Try.ntmps64
    go_wp2_with fail
    go_ret2
    exact Hf.out
  · rw [if_neg hm]
    have hw := hbd hm
    clear hbd
    generalize lnum most l = x at *
    cases x with
    | error ec =>
      go_enter Try.func64, Try.ntmps64
      go_wp2_with fail
      refine hw.mono ?_
      rintro e w1 ⟨⟨val, rfl⟩, hE⟩
      have Hf : Hid (Failed lp W ec (.returned (.tuple #[val, .int .i64 ec])) w1) := ⟨⟨_, rfl⟩, hE⟩
      go_wp2_with fail
      go_ret2
      exact Hf.out
    | ok p =>
      obtain ⟨d, rest⟩ := p
      go_enter Try.func64, Try.ntmps64
      go_wp2_with fail
      refine hw.mono ?_
      rintro e w1 ⟨rfl, hr1⟩
      have Hf : Hid (Found R lp W rest (.int .i64 d) (.returned (.tuple #[.int .i64 d, .int .i64 0])) w1) := ⟨rfl, hr1⟩
      clear hr1
      go_wp2_with fail
      go_ret2
      exact Hf.out
set_option maxHeartbeats 1000000 in
theorem clos69_55 (R : Nat → Prop) (lp b k : Nat) (lv : Value) (l : List UInt8) (most : Int) (W : World) (hH : Has W lp #[lv] 80) (hB : BytesAp (fun k => R k ∨ k = lp) W lv l) (hsm : l.length ≤ 10000000000)
    (hb : W.cell? ⟨b, 0, none⟩ = some (.int .i64 most)) (hk : W.cell? ⟨k, 0, none⟩ = some (.func (Fn.func 55) #[] #[])) :
    Calls Try.prog 69 #[.pointer (some ⟨lp, 0, none⟩), .pointer (some ⟨b, 0, none⟩), .pointer (some ⟨k, 0, none⟩)] W fun e w' => Ans R lp W (vS (bnd most (lbyt most l))) e w' := by
  have hbd : ∀ h : ¬ most < 0, _ := fun (h : ¬ most < 0) => ltext_any R lp lv l most W hH hB hsm
  unfold bnd
  by_cases hm : most < 0
  · rw [if_pos hm]
    have Hf : Hid (Failed lp W 2 (.returned (.tuple #[.string ⟨#[]⟩, .int .i64 2])) W) := ⟨⟨_, rfl⟩, Ex.refl _ _⟩
    show Calls _ _ _ _ fun e w' => Failed lp W 2 e w'
    clear hbd
    go_enter Try.func69, Try.ntmps69
    go_wp2_with fail
    go_ret2
    exact Hf.out
  · rw [if_neg hm]
    have hw := hbd hm
    clear hbd
    generalize lbyt most l = x at *
    cases x with
    | error ec =>
      go_enter Try.func69, Try.ntmps69
      go_wp2_with fail
      refine hw.mono ?_
      rintro e w1 ⟨⟨val, rfl⟩, hE⟩
      have Hf : Hid (Failed lp W ec (.returned (.tuple #[val, .int .i64 ec])) w1) := ⟨⟨_, rfl⟩, hE⟩
      go_wp2_with fail
      go_ret2
      exact Hf.out
    | ok p =>
      obtain ⟨d, rest⟩ := p
      go_enter Try.func69, Try.ntmps69
      go_wp2_with fail
      refine hw.mono ?_
      rintro e w1 ⟨rfl, hr1⟩
      have Hf : Hid (Found R lp W rest (.string ⟨d.toArray⟩) (.returned (.tuple #[.string ⟨d.toArray⟩, .int .i64 0])) w1) := ⟨rfl, hr1⟩
      clear hr1
      go_wp2_with fail
      go_ret2
      exact Hf.out
set_option maxHeartbeats 1000000 in
theorem clos67_52 (R : Nat → Prop) (lp b k : Nat) (lv : Value) (l : List UInt8) (most : Int) (W : World) (hH : Has W lp #[lv] 80) (hB : BytesAp (fun k => R k ∨ k = lp) W lv l) (hsm : l.length ≤ 10000000000)
    (hb : W.cell? ⟨b, 0, none⟩ = some (.int .i64 most)) (hk : W.cell? ⟨k, 0, none⟩ = some (.func (Fn.func 52) #[] #[])) :
    Calls Try.prog 67 #[.pointer (some ⟨lp, 0, none⟩), .pointer (some ⟨b, 0, none⟩), .pointer (some ⟨k, 0, none⟩)] W fun e w' => AnsB R lp W (bnd most (lbyt most l)) e w' := by
  have hbd : ∀ h : ¬ most < 0, _ := fun (h : ¬ most < 0) => lbytes_any R lp lv l most W hH hB hsm
  unfold bnd
  by_cases hm : most < 0
  · rw [if_pos hm]
    have Hf : Hid (AnsB R lp W (.error 2) (.returned (.tuple #[.slice none 0 0, .int .i64 2])) W) := ⟨rfl, Ex.refl _ _⟩
    show Calls _ _ _ _ fun e w' => AnsB R lp W (.error 2) e w'
    clear hbd
    go_enter Try.func67, Try.ntmps67
    go_wp2_with fail
    go_ret2
    exact Hf.out
  · rw [if_neg hm]
    have hw := hbd hm
    clear hbd
    generalize lbyt most l = x at *
    cases x with
    | error ec =>
      go_enter Try.func67, Try.ntmps67
      go_wp2_with fail
      refine hw.mono ?_
      rintro e w1 ⟨rfl, hE⟩
      have Hf : Hid (AnsB R lp W (.error ec) (.returned (.tuple #[.slice none 0 0, .int .i64 ec])) w1) := ⟨rfl, hE⟩
      go_wp2_with fail
      go_ret2
      exact Hf.out
    | ok p =>
      obtain ⟨d, rest⟩ := p
      go_enter Try.func67, Try.ntmps67
      go_wp2_with fail
      refine hw.mono ?_
      rintro e w1 ⟨v, ⟨rfl, hE, hr1⟩, hown, hnew⟩
      obtain ⟨va, vc, rfl⟩ := hown.slice
      have Hf : Hid (AnsB R lp W (.ok (d, rest)) (.returned (.tuple #[.slice va d.length vc, .int .i64 0])) w1) := ⟨_, ⟨rfl, hE, hr1⟩, hown, hnew⟩
      clear hown hr1
      go_wp2_with fail
      go_ret2
      exact Hf.out
set_option maxHeartbeats 1000000 in
theorem clos67_68 (R : Nat → Prop) (lp b k : Nat) (lv : Value) (l : List UInt8) (most : Int) (W : World) (hH : Has W lp #[lv] 80) (hB : BytesAp (fun k => R k ∨ k = lp) W lv l) (hsm : l.length ≤ 10000000000)
    (hb : W.cell? ⟨b, 0, none⟩ = some (.int .i64 most)) (hk : W.cell? ⟨k, 0, none⟩ = some (.func (Fn.func 68) #[] #[])) :
    Calls Try.prog 67 #[.pointer (some ⟨lp, 0, none⟩), .pointer (some ⟨b, 0, none⟩), .pointer (some ⟨k, 0, none⟩)] W fun e w' => AnsB R lp W (bnd most (lraw most.toNat l)) e w' := by
  have hbd : ∀ h : ¬ most < 0, _ := fun (h : ¬ most < 0) => (show Calls Try.prog 68 #[.pointer (some ⟨lp, 0, none⟩), .int .i64 most] W fun e w' => AnsB R lp W (lraw most.toNat l) e w' from by have := lraw_any R lp lv l most.toNat W hH hB hsm; rwa [Int.toNat_of_nonneg (by omega)] at this)
  unfold bnd
  by_cases hm : most < 0
  · rw [if_pos hm]
    have Hf : Hid (AnsB R lp W (.error 2) (.returned (.tuple #[.slice none 0 0, .int .i64 2])) W) := ⟨rfl, Ex.refl _ _⟩
    show Calls _ _ _ _ fun e w' => AnsB R lp W (.error 2) e w'
    clear hbd
    go_enter Try.func67, Try.ntmps67
    go_wp2_with fail
    go_ret2
    exact Hf.out
  · rw [if_neg hm]
    have hw := hbd hm
    clear hbd
    generalize lraw most.toNat l = x at *
    cases x with
    | error ec =>
      go_enter Try.func67, Try.ntmps67
      go_wp2_with fail
      refine hw.mono ?_
      rintro e w1 ⟨rfl, hE⟩
      have Hf : Hid (AnsB R lp W (.error ec) (.returned (.tuple #[.slice none 0 0, .int .i64 ec])) w1) := ⟨rfl, hE⟩
      go_wp2_with fail
      go_ret2
      exact Hf.out
    | ok p =>
      obtain ⟨d, rest⟩ := p
      go_enter Try.func67, Try.ntmps67
      go_wp2_with fail
      refine hw.mono ?_
      rintro e w1 ⟨v, ⟨rfl, hE, hr1⟩, hown, hnew⟩
      obtain ⟨va, vc, rfl⟩ := hown.slice
      have Hf : Hid (AnsB R lp W (.ok (d, rest)) (.returned (.tuple #[.slice va d.length vc, .int .i64 0])) w1) := ⟨_, ⟨rfl, hE, hr1⟩, hown, hnew⟩
      clear hown hr1
      go_wp2_with fail
      go_ret2
      exact Hf.out
end Go.Proofs.Ytgoflpfafkmmgaa
