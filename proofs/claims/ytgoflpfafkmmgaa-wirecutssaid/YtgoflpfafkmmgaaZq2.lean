/- Texts put together, in build order: M1, M2, M3, M4, M5, N1, N2, G1, G2, G3, R1, R2. -/
import Derived.Test.YtgoflpfafkmmgaaZq1
import Derived.RangeFuncNested
import Derived.RangeFuncBound
import Derived.RangeFuncCalls
import Derived.RangeFuncLeaves
import Derived.WalkKit
import Derived.OwnWalkIn
import Derived.TacticsInMore
import Derived.Deep.Quiet
import Derived.OrdersIn
/- A reader's calls. -/
namespace Go.Proofs.Ytgoflpfafkmmgaa
open Go.RowKit

/-- A bound below 0 is an error. -/
def bnd {α : Type} (most : Int) (x : Except Nat α) : Except Nat α := if most < 0 then .error 2 else x
/-- What a reader's call answers, and how the reader stands behind it. -/
def RAns (zero : Value) (w w' : World) (r : Nat) (lv : Value) (rest : List UInt8) (at_ : Nat) (x : Except Nat (Value × List UInt8)) (e : Ending) : Prop := match x with
  | .error ec => e = .returned (.tuple #[zero, .int .i64 ec]) ∧ Flaws w w' r lv rest at_ ec
  | .ok (v, rest') => e = .returned (.tuple #[v, .int .i64 0]) ∧ Took w w' r rest' (at_ + (rest.length - rest'.length))
def RAnsB (w w' : World) (r : Nat) (lv : Value) (rest : List UInt8) (at_ : Nat) (x : Except Nat (List UInt8 × List UInt8)) (e : Ending) : Prop := match x with
  | .error ec => e = .returned (.tuple #[.slice none 0 0, .int .i64 ec]) ∧ Flaws w w' r lv rest at_ ec
  | .ok (d, rest') => ∃ v, e = .returned (.tuple #[v, .int .i64 0]) ∧ Took w w' r rest' (at_ + (rest.length - rest'.length)) ∧ Own w' v d ∧ ∀ k, v.ownBlock = some k → w.heap.size ≤ k
theorem two_boxes (w : World) (x y : Value) (s t : Nat) : Below w.heap.size w ((w.alloc (.cells #[x] s)).alloc (.cells #[y] t)) ∧ Has ((w.alloc (.cells #[x] s)).alloc (.cells #[y] t)) w.heap.size #[x] s ∧ Has ((w.alloc (.cells #[x] s)).alloc (.cells #[y] t)) (w.heap.size + 1) #[y] t ∧ ((w.alloc (.cells #[x] s)).alloc (.cells #[y] t)).heap.size = w.heap.size + 2 :=
  ⟨alloc2_below _ _ _, has_old (has_new _ _ _ _ rfl), has_new _ _ _ _ (by simp), by simp⟩
theorem Rd.below {w w' : World} {r : Nat} {lv : Value} {rest : List UInt8} {at_ fl : Nat} (h : Rd w r lv rest at_ fl) (k : Below w.heap.size w w') : Rd w' r lv rest at_ fl :=
  ⟨h.has.below k h.lt, h.by_.fr (S' := fun _ => False) (Fr.of_below k) (fun _ _ h => h.elim)⟩
/-- What a reader's call answers; what is left lies in no block of R. -/
def RAnsR (R : Nat → Prop) (zero : Value) (w w' : World) (r : Nat) (lv : Value) (rest : List UInt8) (at_ : Nat) (x : Except Nat (Value × List UInt8)) (e : Ending) : Prop := match x with
  | .error ec => e = .returned (.tuple #[zero, .int .i64 ec]) ∧ Flaws w w' r lv rest at_ ec
  | .ok (v, rest') => e = .returned (.tuple #[v, .int .i64 0]) ∧ TookR R w w' r rest' (at_ + (rest.length - rest'.length))
def RAnsBR (R : Nat → Prop) (w w' : World) (r : Nat) (lv : Value) (rest : List UInt8) (at_ : Nat) (x : Except Nat (List UInt8 × List UInt8)) (e : Ending) : Prop := match x with
  | .error ec => e = .returned (.tuple #[.slice none 0 0, .int .i64 ec]) ∧ Flaws w w' r lv rest at_ ec
  | .ok (d, rest') => ∃ v, e = .returned (.tuple #[v, .int .i64 0]) ∧ TookR R w w' r rest' (at_ + (rest.length - rest'.length)) ∧ Own w' v d ∧ ∀ k, v.ownBlock = some k → w.heap.size ≤ k
theorem RAnsR.plain {R : Nat → Prop} {zero : Value} {w w' : World} {r : Nat} {lv : Value} {rest : List UInt8} {at_ : Nat} {x : Except Nat (Value × List UInt8)} {e : Ending} (h : RAnsR R zero w w' r lv rest at_ x e) : RAns zero w w' r lv rest at_ x e := by
  cases x with
  | error ec => exact h
  | ok p => exact ⟨h.1, h.2.took⟩
theorem RAnsBR.plain {R : Nat → Prop} {w w' : World} {r : Nat} {lv : Value} {rest : List UInt8} {at_ : Nat} {x : Except Nat (List UInt8 × List UInt8)} {e : Ending} (h : RAnsBR R w w' r lv rest at_ x e) : RAnsB w w' r lv rest at_ x e := by
  cases x with
  | error ec => exact h
  | ok p => obtain ⟨v, h1, h2, h3⟩ := h; exact ⟨v, h1, h2.took, h3⟩
theorem BytesAp.lp {R : Nat → Prop} {w W : World} {lv : Value} {rest : List UInt8} (h : BytesAp R w lv rest) (k : Below w.heap.size w W) : BytesAp (fun k => R k ∨ k = w.heap.size) W lv rest := by
  obtain ⟨a, c, db, o, h1, h2, h3, h4, h5, h6⟩ := h
  exact ⟨a, c, db, o, h1, h2, h3, fun j hj => (k.cell (p := ⟨db, o + j, none⟩) h5).trans (h4 j hj), Nat.lt_of_lt_of_le h5 k.size, fun e => e.elim h6 (fun e => by omega)⟩
theorem TookR.after {R : Nat → Prop} {w w1 w' : World} {r at_ : Nat} {rest : List UInt8} (h : TookR R w1 w' r rest at_) (k : Below w.heap.size w w1) : TookR R w w' r rest at_ := by
  obtain ⟨lv, h1, h2⟩ := h; exact ⟨lv, h1, (Ex.below k).trans h2⟩
theorem Took.after {w w1 w' : World} {r at_ : Nat} {rest : List UInt8} (h : Took w1 w' r rest at_) (k : Below w.heap.size w w1) : Took w w' r rest at_ := by
  obtain ⟨lv, h1, h2⟩ := h; exact ⟨lv, h1, (Ex.below k).trans h2⟩
theorem Flaws.after {w w1 w' : World} {r at_ ec : Nat} {lv : Value} {rest : List UInt8} (h : Flaws w1 w' r lv rest at_ ec) (k : Below w.heap.size w w1) : Flaws w w' r lv rest at_ ec := ⟨h.1, (Ex.below k).trans h.2⟩

set_option maxHeartbeats 1000000 in
theorem clos64_46 (R : Nat → Prop) (lp b k : Nat) (lv : Value) (l : List UInt8) (most : Int) (W : World) (hH : Has W lp #[lv] 80) (hB : BytesAp (fun k => R k ∨ k = lp) W lv l) (hsm : l.length ≤ 10000000000)
    (hb : W.cell? ⟨b, 0, none⟩ = some (.int .i64 most)) (hk : W.cell? ⟨k, 0, none⟩ = some (.func (Fn.func 46) #[] #[])) :
    Calls Try.prog 64 #[.pointer (some ⟨lp, 0, none⟩), .pointer (some ⟨b, 0, none⟩), .pointer (some ⟨k, 0, none⟩)] W fun e w' => Ans R lp W (vN (bnd most (lnum most l))) e w' := by
  have hbd : ∀ h : ¬ most < 0, _ := fun (h : ¬ most < 0) => lnumber_any R lp lv l most W hH hB hsm
  unfold bnd
  by_cases hm : most < 0
  · rw [if_pos hm]
    have Hf : Hid (Failed lp W 2 (.returned (.tuple #[.int .i64 0, .int .i64 2])) W) := ⟨⟨_, rfl⟩, Ex.refl _ _⟩
    show Calls _ _ _ _ fun e w' => Failed lp W 2 e w'
    clear hbd
    go_enter Try.func64, Try.ntmps64
    go_wp2_with fail
    go_ret2
    exact Hf.out
  · rw [if_neg hm]
    have hw := hbd hm
    clear hbd
    generalize lnum most l = x at *
    cases x with
    | error ec =>
      go_enter Try.func64, Try.ntmps64
      go_wp2_with fail
      refine hw.mono ?_
      rintro e w1 ⟨⟨val, rfl⟩, hE⟩
      have Hf : Hid (Failed lp W ec (.returned (.tuple #[val, .int .i64 ec])) w1) := ⟨⟨_, rfl⟩, hE⟩
      go_wp2_with fail
      go_ret2
      exact Hf.out
    | ok p =>
      obtain ⟨d, rest⟩ := p
      go_enter Try.func64, Try.ntmps64
      go_wp2_with fail
      refine hw.mono ?_
      rintro e w1 ⟨rfl, hr1⟩
      have Hf : Hid (Found R lp W rest (.int .i64 d) (.returned (.tuple #[.int .i64 d, .int .i64 0])) w1) := ⟨rfl, hr1⟩
      clear hr1
      go_wp2_with fail
      go_ret2
      exact Hf.out
set_option maxHeartbeats 1000000 in
theorem clos69_55 (R : Nat → Prop) (lp b k : Nat) (lv : Value) (l : List UInt8) (most : Int) (W : World) (hH : Has W lp #[lv] 80) (hB : BytesAp (fun k => R k ∨ k = lp) W lv l) (hsm : l.length ≤ 10000000000)
    (hb : W.cell? ⟨b, 0, none⟩ = some (.int .i64 most)) (hk : W.cell? ⟨k, 0, none⟩ = some (.func (Fn.func 55) #[] #[])) :
    Calls Try.prog 69 #[.pointer (some ⟨lp, 0, none⟩), .pointer (some ⟨b, 0, none⟩), .pointer (some ⟨k, 0, none⟩)] W fun e w' => Ans R lp W (vS (bnd most (lbyt most l))) e w' := by
  have hbd : ∀ h : ¬ most < 0, _ := fun (h : ¬ most < 0) => ltext_any R lp lv l most W hH hB hsm
  unfold bnd
  by_cases hm : most < 0
  · rw [if_pos hm]
    have Hf : Hid (Failed lp W 2 (.returned (.tuple #[.string ⟨#[]⟩, .int .i64 2])) W) := ⟨⟨_, rfl⟩, Ex.refl _ _⟩
    show Calls _ _ _ _ fun e w' => Failed lp W 2 e w'
    clear hbd
    go_enter Try.func69, Try.ntmps69
    go_wp2_with fail
    go_ret2
    exact Hf.out
  · rw [if_neg hm]
    have hw := hbd hm
    clear hbd
    generalize lbyt most l = x at *
    cases x with
    | error ec =>
      go_enter Try.func69, Try.ntmps69
      go_wp2_with fail
      refine hw.mono ?_
      rintro e w1 ⟨⟨val, rfl⟩, hE⟩
      have Hf : Hid (Failed lp W ec (.returned (.tuple #[val, .int .i64 ec])) w1) := ⟨⟨_, rfl⟩, hE⟩
      go_wp2_with fail
      go_ret2
      exact Hf.out
    | ok p =>
      obtain ⟨d, rest⟩ := p
      go_enter Try.func69, Try.ntmps69
      go_wp2_with fail
      refine hw.mono ?_
      rintro e w1 ⟨rfl, hr1⟩
      have Hf : Hid (Found R lp W rest (.string ⟨d.toArray⟩) (.returned (.tuple #[.string ⟨d.toArray⟩, .int .i64 0])) w1) := ⟨rfl, hr1⟩
      clear hr1
      go_wp2_with fail
      go_ret2
      exact Hf.out
set_option maxHeartbeats 1000000 in
theorem clos67_52 (R : Nat → Prop) (lp b k : Nat) (lv : Value) (l : List UInt8) (most : Int) (W : World) (hH : Has W lp #[lv] 80) (hB : BytesAp (fun k => R k ∨ k = lp) W lv l) (hsm : l.length ≤ 10000000000)
    (hb : W.cell? ⟨b, 0, none⟩ = some (.int .i64 most)) (hk : W.cell? ⟨k, 0, none⟩ = some (.func (Fn.func 52) #[] #[])) :
    Calls Try.prog 67 #[.pointer (some ⟨lp, 0, none⟩), .pointer (some ⟨b, 0, none⟩), .pointer (some ⟨k, 0, none⟩)] W fun e w' => AnsB R lp W (bnd most (lbyt most l)) e w' := by
  have hbd : ∀ h : ¬ most < 0, _ := fun (h : ¬ most < 0) => lbytes_any R lp lv l most W hH hB hsm
  unfold bnd
  by_cases hm : most < 0
  · rw [if_pos hm]
    have Hf : Hid (AnsB R lp W (.error 2) (.returned (.tuple #[.slice none 0 0, .int .i64 2])) W) := ⟨rfl, Ex.refl _ _⟩
    show Calls _ _ _ _ fun e w' => AnsB R lp W (.error 2) e w'
    clear hbd
    go_enter Try.func67, Try.ntmps67
    go_wp2_with fail
    go_ret2
    exact Hf.out
  · rw [if_neg hm]
    have hw := hbd hm
    clear hbd
    generalize lbyt most l = x at *
    cases x with
    | error ec =>
      go_enter Try.func67, Try.ntmps67
      go_wp2_with fail
      refine hw.mono ?_
      rintro e w1 ⟨rfl, hE⟩
      have Hf : Hid (AnsB R lp W (.error ec) (.returned (.tuple #[.slice none 0 0, .int .i64 ec])) w1) := ⟨rfl, hE⟩
      go_wp2_with fail
      go_ret2
      exact Hf.out
    | ok p =>
      obtain ⟨d, rest⟩ := p
      go_enter Try.func67, Try.ntmps67
      go_wp2_with fail
      refine hw.mono ?_
      rintro e w1 ⟨v, ⟨rfl, hE, hr1⟩, hown, hnew⟩
      obtain ⟨va, vc, rfl⟩ := hown.slice
      have Hf : Hid (AnsB R lp W (.ok (d, rest)) (.returned (.tuple #[.slice va d.length vc, .int .i64 0])) w1) := ⟨_, ⟨rfl, hE, hr1⟩, hown, hnew⟩
      clear hown hr1
      go_wp2_with fail
      go_ret2
      exact Hf.out
set_option maxHeartbeats 1000000 in
theorem clos67_68 (R : Nat → Prop) (lp b k : Nat) (lv : Value) (l : List UInt8) (most : Int) (W : World) (hH : Has W lp #[lv] 80) (hB : BytesAp (fun k => R k ∨ k = lp) W lv l) (hsm : l.length ≤ 10000000000)
    (hb : W.cell? ⟨b, 0, none⟩ = some (.int .i64 most)) (hk : W.cell? ⟨k, 0, none⟩ = some (.func (Fn.func 68) #[] #[])) :
    Calls Try.prog 67 #[.pointer (some ⟨lp, 0, none⟩), .pointer (some ⟨b, 0, none⟩), .pointer (some ⟨k, 0, none⟩)] W fun e w' => AnsB R lp W (bnd most (lraw most.toNat l)) e w' := by
  have hbd : ∀ h : ¬ most < 0, _ := fun (h : ¬ most < 0) => (show Calls Try.prog 68 #[.pointer (some ⟨lp, 0, none⟩), .int .i64 most] W fun e w' => AnsB R lp W (lraw most.toNat l) e w' from by have := lraw_any R lp lv l most.toNat W hH hB hsm; rwa [Int.toNat_of_nonneg (by omega)] at this)
  unfold bnd
  by_cases hm : most < 0
  · rw [if_pos hm]
    have Hf : Hid (AnsB R lp W (.error 2) (.returned (.tuple #[.slice none 0 0, .int .i64 2])) W) := ⟨rfl, Ex.refl _ _⟩
    show Calls _ _ _ _ fun e w' => AnsB R lp W (.error 2) e w'
    clear hbd
    go_enter Try.func67, Try.ntmps67
    go_wp2_with fail
    go_ret2
    exact Hf.out
  · rw [if_neg hm]
    have hw := hbd hm
    clear hbd
    generalize lraw most.toNat l = x at *
    cases x with
    | error ec =>
      go_enter Try.func67, Try.ntmps67
      go_wp2_with fail
      refine hw.mono ?_
      rintro e w1 ⟨rfl, hE⟩
      have Hf : Hid (AnsB R lp W (.error ec) (.returned (.tuple #[.slice none 0 0, .int .i64 ec])) w1) := ⟨rfl, hE⟩
      go_wp2_with fail
      go_ret2
      exact Hf.out
    | ok p =>
      obtain ⟨d, rest⟩ := p
      go_enter Try.func67, Try.ntmps67
      go_wp2_with fail
      refine hw.mono ?_
      rintro e w1 ⟨v, ⟨rfl, hE, hr1⟩, hown, hnew⟩
      obtain ⟨va, vc, rfl⟩ := hown.slice
      have Hf : Hid (AnsB R lp W (.ok (d, rest)) (.returned (.tuple #[.slice va d.length vc, .int .i64 0])) w1) := ⟨_, ⟨rfl, hE, hr1⟩, hown, hnew⟩
      clear hown hr1
      go_wp2_with fail
      go_ret2
      exact Hf.out
end Go.Proofs.Ytgoflpfafkmmgaa
/- A reader's calls: Number, Bytes, Text, Raw; Signed, Truth. -/
namespace Go.Proofs.Ytgoflpfafkmmgaa
open Go.RowKit

theorem bnd_ok {α : Type} {most : Int} {x : Except Nat α} {p : α} (h : bnd most x = .ok p) : x = .ok p := by
  unfold bnd at h; split at h
  · cases h
  · exact h
theorem bnd_ne {α : Type} {most : Int} {x : Except Nat α} {ec : Nat} (h : bnd most x = .error ec) (hx : ∀ e, x = .error e → e ≠ 0) : ec ≠ 0 := by
  unfold bnd at h; split at h
  · cases h; omega
  · exact hx _ h
theorem lraw_le {n : Nat} {l d rest : List UInt8} (h : lraw n l = .ok (d, rest)) : rest.length ≤ l.length := by
  unfold lraw at h; split at h
  · cases h
  · cases h; simp
theorem lbyt_le {most : Int} {l d rest : List UInt8} (h : lbyt most l = .ok (d, rest)) : rest.length ≤ l.length := by
  unfold lbyt at h; split at h
  · cases h
  · rename_i h'; exact Nat.le_trans (lraw_le h) (lnum_le h')
theorem lsig_le {l rest : List UInt8} {n : Int} (h : lsig l = .ok (n, rest)) : rest.length ≤ l.length := by
  unfold lsig at h; split at h
  · cases h
  · cases h; simp
theorem lsig_ne {l : List UInt8} {ec : Nat} (h : lsig l = .error ec) : ec ≠ 0 := by
  unfold lsig at h; split at h
  · rename_i h'; cases h; have := scan_err l 0 0 _ h'; omega
  · cases h
theorem ltru_le {l rest : List UInt8} {n : Bool} (h : ltru l = .ok (n, rest)) : rest.length ≤ l.length := by
  unfold ltru at h; split at h
  · cases h
  · split at h
    · cases h
    · cases h; simp
theorem ltru_ne {l : List UInt8} {ec : Nat} (h : ltru l = .error ec) : ec ≠ 0 := by
  unfold ltru at h; split at h
  · cases h; omega
  · split at h
    · cases h; omega
    · cases h
set_option maxHeartbeats 400000 in
theorem bounded45_any (K : Nat) (n : Int) (w : World) :
    Calls Try.prog 45 #[.func (Fn.func K) #[] #[], .int .i64 n] w fun e w' => e = .returned (.func (Fn.func 64) #[] #[.pointer (some ⟨w.heap.size + 1, 0, none⟩), .pointer (some ⟨w.heap.size, 0, none⟩)]) ∧ w' = (w.alloc (.cells #[.func (Fn.func K) #[] #[]] 86)).alloc (.cells #[.int .i64 n] 2) := by
  go_enter Try.func45, Try.ntmps45
  go_wp2_with fail
  go_ret
  exact ⟨rfl, rfl⟩
set_option maxHeartbeats 400000 in
theorem bounded51_any (K : Nat) (n : Int) (w : World) :
    Calls Try.prog 51 #[.func (Fn.func K) #[] #[], .int .i64 n] w fun e w' => e = .returned (.func (Fn.func 67) #[] #[.pointer (some ⟨w.heap.size + 1, 0, none⟩), .pointer (some ⟨w.heap.size, 0, none⟩)]) ∧ w' = (w.alloc (.cells #[.func (Fn.func K) #[] #[]] 94)).alloc (.cells #[.int .i64 n] 3) := by
  go_enter Try.func51, Try.ntmps51
  go_wp2_with fail
  go_ret
  exact ⟨rfl, rfl⟩
set_option maxHeartbeats 400000 in
theorem bounded54_any (K : Nat) (n : Int) (w : World) :
    Calls Try.prog 54 #[.func (Fn.func K) #[] #[], .int .i64 n] w fun e w' => e = .returned (.func (Fn.func 69) #[] #[.pointer (some ⟨w.heap.size + 1, 0, none⟩), .pointer (some ⟨w.heap.size, 0, none⟩)]) ∧ w' = (w.alloc (.cells #[.func (Fn.func K) #[] #[]] 98)).alloc (.cells #[.int .i64 n] 3) := by
  go_enter Try.func54, Try.ntmps54
  go_wp2_with fail
  go_ret
  exact ⟨rfl, rfl⟩
set_option maxHeartbeats 1000000 in
theorem rnumberR_any (R : Nat → Prop) (r : Nat) (hRr : R r) (lv : Value) (rest : List UInt8) (at_ : Nat) (most : Int) (w : World) (hR : Rd w r lv rest at_ 0) (hby : BytesAp R w lv rest) (hat : at_ + rest.length ≤ 10000000000) :
    Calls Try.prog 23 #[.pointer (some ⟨r, 0, none⟩), .int .i64 most] w fun e w' => RAnsR R (.int .i64 0) w w' r lv rest at_ (vN (bnd most (lnum most rest))) e := by
  obtain ⟨hB1, hk1, hb1, hz1⟩ := two_boxes w (.func (Fn.func 46) #[] #[]) (.int .i64 most) 86 2
  have hbd := bounded45_any 46 most w
  generalize hw1 : (w.alloc (.cells #[.func (Fn.func 46) #[] #[]] 86)).alloc (.cells #[.int .i64 most] 2) = w1 at *
  clear hw1
  have hR1 := hR.below hB1
  have hby1 := hby.fr (S' := fun _ => False) (Fr.of_below hB1) (fun _ _ h => h.elim)
  have hcl : ∀ W, Has W w1.heap.size #[lv] 80 → Below w1.heap.size w1 W → Calls Try.prog 64 #[.pointer (some ⟨w1.heap.size, 0, none⟩), .pointer (some ⟨w.heap.size + 1, 0, none⟩), .pointer (some ⟨w.heap.size, 0, none⟩)] W fun e w' => Ans R w1.heap.size W (vN (bnd most (lnum most rest))) e w' := fun W h1 h2 => clos64_46 R w1.heap.size (w.heap.size + 1) w.heap.size lv rest most W h1 (hby1.lp h2) (by omega) ((h2.cell (p := ⟨w.heap.size + 1, 0, none⟩) (by simp; omega)).trans hb1.one) ((h2.cell (p := ⟨w.heap.size, 0, none⟩) (by simp; omega)).trans hk1.one)
  have hle : ∀ d rest', bnd most (lnum most rest) = .ok (d, rest') → rest'.length ≤ rest.length := fun d rest' h => lnum_le (bnd_ok h)
  have hne : ∀ ec, bnd most (lnum most rest) = .error ec → ec ≠ 0 := fun ec h => bnd_ne h (fun _ => lnum_ne)
  generalize bnd most (lnum most rest) = x at *
  cases x with
  | error ec =>
    have ht := take44_64_err r lv rest at_ ec w1 hR1 (.pointer (some ⟨w.heap.size + 1, 0, none⟩)) (.pointer (some ⟨w.heap.size, 0, none⟩)) (hne ec rfl) (fun W h1 h2 => (hcl W h1 h2).mono fun e w' h => h)
    clear hcl hne hle
    show Calls _ _ _ _ fun e w' => e = .returned (.tuple #[.int .i64 0, .int .i64 ec]) ∧ Flaws w w' r lv rest at_ ec
    go_enter Try.func23, Try.ntmps23
    go_wp2_with fail
    refine hbd.mono ?_
    rintro e w' ⟨rfl, hw⟩
    subst hw
    clear hbd
    go_wp2_with fail
    refine ht.mono ?_
    rintro e w2 ⟨rfl, hf⟩
    have HF : Hid (Flaws w w2 r lv rest at_ ec) := hf.after hB1
    clear hf ht
    go_wp2_with fail
    go_ret2
    exact ⟨rfl, HF.out⟩
  | ok p =>
    obtain ⟨d, rest'⟩ := p
    have ht := take44_64_ok R r hRr lv rest rest' at_ w1 hR1 (.pointer (some ⟨w.heap.size + 1, 0, none⟩)) (.pointer (some ⟨w.heap.size, 0, none⟩)) (d : Int) (hle d rest' rfl) hat (fun W h1 h2 => hcl W h1 h2)
    clear hcl hne hle
    show Calls _ _ _ _ fun e w' => e = .returned (.tuple #[.int .i64 (d : Int), .int .i64 0]) ∧ TookR R w w' r rest' (at_ + (rest.length - rest'.length))
    go_enter Try.func23, Try.ntmps23
    go_wp2_with fail
    refine hbd.mono ?_
    rintro e w' ⟨rfl, hw⟩
    subst hw
    clear hbd
    go_wp2_with fail
    refine ht.mono ?_
    rintro e w2 ⟨rfl, hf⟩
    have HF : Hid (TookR R w w2 r rest' (at_ + (rest.length - rest'.length))) := hf.after hB1
    clear hf ht
    go_wp2_with fail
    go_ret2
    exact ⟨rfl, HF.out⟩
theorem rnumber_any (r : Nat) (lv : Value) (rest : List UInt8) (at_ : Nat) (most : Int) (w : World) (hR : Rd w r lv rest at_ 0) (hat : at_ + rest.length ≤ 10000000000) :
    Calls Try.prog 23 #[.pointer (some ⟨r, 0, none⟩), .int .i64 most] w fun e w' => RAns (.int .i64 0) w w' r lv rest at_ (vN (bnd most (lnum most rest))) e :=
  (rnumberR_any (· = r) r rfl lv rest at_ most w hR hR.by_ hat).mono fun _ _ h => h.plain
set_option maxHeartbeats 1000000 in
theorem rnumber_flaw (r : Nat) (lv : Value) (rest : List UInt8) (at_ ec : Nat) (most : Int) (w : World) (hR : Rd w r lv rest at_ ec) (hec : ec ≠ 0) :
    Calls Try.prog 23 #[.pointer (some ⟨r, 0, none⟩), .int .i64 most] w fun e w' => e = .returned (.tuple #[.int .i64 0, .int .i64 ec]) ∧ Below w.heap.size w w' := by
  obtain ⟨hB1, hk1, hb1, hz1⟩ := two_boxes w (.func (Fn.func 46) #[] #[]) (.int .i64 most) 86 2
  have hbd := bounded45_any 46 most w
  generalize hw1 : (w.alloc (.cells #[.func (Fn.func 46) #[] #[]] 86)).alloc (.cells #[.int .i64 most] 2) = w1 at *
  clear hw1
  have ht := take44_64_flaw r lv rest at_ ec w1 (hR.below hB1) (.pointer (some ⟨w.heap.size + 1, 0, none⟩)) (.pointer (some ⟨w.heap.size, 0, none⟩)) hec
  go_enter Try.func23, Try.ntmps23
  go_wp2_with fail
  refine hbd.mono ?_
  rintro e w' ⟨rfl, hw⟩
  subst hw
  clear hbd
  go_wp2_with fail
  refine ht.mono ?_
  rintro e w2 ⟨rfl, kk, hw2⟩
  have HF : Hid (Below w.heap.size w w2) := hB1.trans (by rw [hw2]; exact ⟨rfl, rfl, rfl, Nat.le_refl _, fun _ _ => rfl⟩)
  clear ht hw2
  go_wp2_with fail
  go_ret2
  exact ⟨rfl, HF.out⟩
set_option maxHeartbeats 1000000 in
theorem rnumber_nil (most : Int) (w : World) :
    Calls Try.prog 23 #[.pointer none, .int .i64 most] w fun e w' => e = .returned (.tuple #[.int .i64 0, .int .i64 1]) ∧ Below w.heap.size w w' := by
  obtain ⟨hB1, hk1, hb1, hz1⟩ := two_boxes w (.func (Fn.func 46) #[] #[]) (.int .i64 most) 86 2
  have hbd := bounded45_any 46 most w
  generalize hw1 : (w.alloc (.cells #[.func (Fn.func 46) #[] #[]] 86)).alloc (.cells #[.int .i64 most] 2) = w1 at *
  clear hw1
  have ht := take44_64_nil w1 (.pointer (some ⟨w.heap.size + 1, 0, none⟩)) (.pointer (some ⟨w.heap.size, 0, none⟩)) 
  go_enter Try.func23, Try.ntmps23
  go_wp2_with fail
  refine hbd.mono ?_
  rintro e w' ⟨rfl, hw⟩
  subst hw
  clear hbd
  go_wp2_with fail
  refine ht.mono ?_
  rintro e w2 ⟨rfl, hw2⟩
  have HF : Hid (Below w.heap.size w w2) := by rw [hw2]; exact hB1
  clear ht hw2
  go_wp2_with fail
  go_ret2
  exact ⟨rfl, HF.out⟩
end Go.Proofs.Ytgoflpfafkmmgaa
/- A reader's calls, others. -/
namespace Go.Proofs.Ytgoflpfafkmmgaa
open Go.RowKit

set_option maxHeartbeats 1000000 in
theorem rbytesR_any (R : Nat → Prop) (r : Nat) (hRr : R r) (lv : Value) (rest : List UInt8) (at_ : Nat) (most : Int) (w : World) (hR : Rd w r lv rest at_ 0) (hby : BytesAp R w lv rest) (hat : at_ + rest.length ≤ 10000000000) :
    Calls Try.prog 30 #[.pointer (some ⟨r, 0, none⟩), .int .i64 most] w fun e w' => RAnsBR R w w' r lv rest at_ (bnd most (lbyt most rest)) e := by
  obtain ⟨hB1, hk1, hb1, hz1⟩ := two_boxes w (.func (Fn.func 52) #[] #[]) (.int .i64 most) 94 3
  have hbd := bounded51_any 52 most w
  generalize hw1 : (w.alloc (.cells #[.func (Fn.func 52) #[] #[]] 94)).alloc (.cells #[.int .i64 most] 3) = w1 at *
  clear hw1
  have hR1 := hR.below hB1
  have hby1 := hby.fr (S' := fun _ => False) (Fr.of_below hB1) (fun _ _ h => h.elim)
  have hcl : ∀ W, Has W w1.heap.size #[lv] 80 → Below w1.heap.size w1 W → Calls Try.prog 67 #[.pointer (some ⟨w1.heap.size, 0, none⟩), .pointer (some ⟨w.heap.size + 1, 0, none⟩), .pointer (some ⟨w.heap.size, 0, none⟩)] W fun e w' => AnsB R w1.heap.size W (bnd most (lbyt most rest)) e w' := fun W h1 h2 => clos67_52 R w1.heap.size (w.heap.size + 1) w.heap.size lv rest most W h1 (hby1.lp h2) (by omega) ((h2.cell (p := ⟨w.heap.size + 1, 0, none⟩) (by simp; omega)).trans hb1.one) ((h2.cell (p := ⟨w.heap.size, 0, none⟩) (by simp; omega)).trans hk1.one)
  have hle : ∀ d rest', bnd most (lbyt most rest) = .ok (d, rest') → rest'.length ≤ rest.length := fun d rest' h => lbyt_le (bnd_ok h)
  have hne : ∀ ec, bnd most (lbyt most rest) = .error ec → ec ≠ 0 := fun ec h => bnd_ne h (fun _ => lbyt_ne)
  generalize bnd most (lbyt most rest) = x at *
  cases x with
  | error ec =>
    have ht := take50_67_err r lv rest at_ ec w1 hR1 (.pointer (some ⟨w.heap.size + 1, 0, none⟩)) (.pointer (some ⟨w.heap.size, 0, none⟩)) (hne ec rfl) (fun W h1 h2 => (hcl W h1 h2).mono fun e w' h => AnsB.failed h)
    clear hcl hne hle
    show Calls _ _ _ _ fun e w' => e = .returned (.tuple #[.slice none 0 0, .int .i64 ec]) ∧ Flaws w w' r lv rest at_ ec
    go_enter Try.func30, Try.ntmps30
    go_wp2_with fail
    refine hbd.mono ?_
    rintro e w' ⟨rfl, hw⟩
    subst hw
    clear hbd
    go_wp2_with fail
    refine ht.mono ?_
    rintro e w2 ⟨rfl, hf⟩
    have HF : Hid (Flaws w w2 r lv rest at_ ec) := hf.after hB1
    clear hf ht
    go_wp2_with fail
    go_ret2
    exact ⟨rfl, HF.out⟩
  | ok p =>
    obtain ⟨d, rest'⟩ := p
    have hlt := hR.lt
    have ht := take50_67_ok R r hRr lv rest rest' at_ w1 hR1 (.pointer (some ⟨w.heap.size + 1, 0, none⟩)) (.pointer (some ⟨w.heap.size, 0, none⟩)) d (hle d rest' rfl) hat (fun W h1 h2 => (hcl W h1 h2).mono fun e w' h => by
      obtain ⟨v, ha, hb, hc⟩ := h
      exact ⟨v, ha, hb, fun k hk => Nat.lt_of_lt_of_le h1.lt (hc k hk)⟩)
    clear hcl hne hle
    show Calls _ _ _ _ fun e w' => ∃ v, e = .returned (.tuple #[v, .int .i64 0]) ∧ TookR R w w' r rest' (at_ + (rest.length - rest'.length)) ∧ Own w' v d ∧ ∀ k, v.ownBlock = some k → w.heap.size ≤ k
    go_enter Try.func30, Try.ntmps30
    go_wp2_with fail
    refine hbd.mono ?_
    rintro e w' ⟨rfl, hw⟩
    subst hw
    clear hbd
    go_wp2_with fail
    refine ht.mono ?_
    rintro e w2 ⟨v, rfl, hf, hown, hnew⟩
    obtain ⟨va, vc, rfl⟩ := hown.slice
    have HF : Hid (TookR R w w2 r rest' (at_ + (rest.length - rest'.length)) ∧ Own w2 (.slice va d.length vc) d ∧ ∀ k, (Value.slice va d.length vc).ownBlock = some k → w.heap.size ≤ k) := ⟨hf.after hB1, hown, fun k hk => Nat.le_trans hB1.size (hnew k hk)⟩
    clear hf ht hown hnew
    go_wp2_with fail
    go_ret2
    exact ⟨_, rfl, HF.out⟩
theorem rbytes_any (r : Nat) (lv : Value) (rest : List UInt8) (at_ : Nat) (most : Int) (w : World) (hR : Rd w r lv rest at_ 0) (hat : at_ + rest.length ≤ 10000000000) :
    Calls Try.prog 30 #[.pointer (some ⟨r, 0, none⟩), .int .i64 most] w fun e w' => RAnsB w w' r lv rest at_ (bnd most (lbyt most rest)) e :=
  (rbytesR_any (· = r) r rfl lv rest at_ most w hR hR.by_ hat).mono fun _ _ h => h.plain
set_option maxHeartbeats 1000000 in
theorem rbytes_flaw (r : Nat) (lv : Value) (rest : List UInt8) (at_ ec : Nat) (most : Int) (w : World) (hR : Rd w r lv rest at_ ec) (hec : ec ≠ 0) :
    Calls Try.prog 30 #[.pointer (some ⟨r, 0, none⟩), .int .i64 most] w fun e w' => e = .returned (.tuple #[.slice none 0 0, .int .i64 ec]) ∧ Below w.heap.size w w' := by
  obtain ⟨hB1, hk1, hb1, hz1⟩ := two_boxes w (.func (Fn.func 52) #[] #[]) (.int .i64 most) 94 3
  have hbd := bounded51_any 52 most w
  generalize hw1 : (w.alloc (.cells #[.func (Fn.func 52) #[] #[]] 94)).alloc (.cells #[.int .i64 most] 3) = w1 at *
  clear hw1
  have ht := take50_67_flaw r lv rest at_ ec w1 (hR.below hB1) (.pointer (some ⟨w.heap.size + 1, 0, none⟩)) (.pointer (some ⟨w.heap.size, 0, none⟩)) hec
  go_enter Try.func30, Try.ntmps30
  go_wp2_with fail
  refine hbd.mono ?_
  rintro e w' ⟨rfl, hw⟩
  subst hw
  clear hbd
  go_wp2_with fail
  refine ht.mono ?_
  rintro e w2 ⟨rfl, kk, hw2⟩
  have HF : Hid (Below w.heap.size w w2) := hB1.trans (by rw [hw2]; exact ⟨rfl, rfl, rfl, Nat.le_refl _, fun _ _ => rfl⟩)
  clear ht hw2
  go_wp2_with fail
  go_ret2
  exact ⟨rfl, HF.out⟩
set_option maxHeartbeats 1000000 in
theorem rbytes_nil (most : Int) (w : World) :
    Calls Try.prog 30 #[.pointer none, .int .i64 most] w fun e w' => e = .returned (.tuple #[.slice none 0 0, .int .i64 1]) ∧ Below w.heap.size w w' := by
  obtain ⟨hB1, hk1, hb1, hz1⟩ := two_boxes w (.func (Fn.func 52) #[] #[]) (.int .i64 most) 94 3
  have hbd := bounded51_any 52 most w
  generalize hw1 : (w.alloc (.cells #[.func (Fn.func 52) #[] #[]] 94)).alloc (.cells #[.int .i64 most] 3) = w1 at *
  clear hw1
  have ht := take50_67_nil w1 (.pointer (some ⟨w.heap.size + 1, 0, none⟩)) (.pointer (some ⟨w.heap.size, 0, none⟩)) 
  go_enter Try.func30, Try.ntmps30
  go_wp2_with fail
  refine hbd.mono ?_
  rintro e w' ⟨rfl, hw⟩
  subst hw
  clear hbd
  go_wp2_with fail
  refine ht.mono ?_
  rintro e w2 ⟨rfl, hw2⟩
  have HF : Hid (Below w.heap.size w w2) := by rw [hw2]; exact hB1
  clear ht hw2
  go_wp2_with fail
  go_ret2
  exact ⟨rfl, HF.out⟩
set_option maxHeartbeats 1000000 in
theorem rrawR_any (R : Nat → Prop) (r : Nat) (hRr : R r) (lv : Value) (rest : List UInt8) (at_ : Nat) (most : Int) (w : World) (hR : Rd w r lv rest at_ 0) (hby : BytesAp R w lv rest) (hat : at_ + rest.length ≤ 10000000000) :
    Calls Try.prog 60 #[.pointer (some ⟨r, 0, none⟩), .int .i64 most] w fun e w' => RAnsBR R w w' r lv rest at_ (bnd most (lraw most.toNat rest)) e := by
  obtain ⟨hB1, hk1, hb1, hz1⟩ := two_boxes w (.func (Fn.func 68) #[] #[]) (.int .i64 most) 94 3
  have hbd := bounded51_any 68 most w
  generalize hw1 : (w.alloc (.cells #[.func (Fn.func 68) #[] #[]] 94)).alloc (.cells #[.int .i64 most] 3) = w1 at *
  clear hw1
  have hR1 := hR.below hB1
  have hby1 := hby.fr (S' := fun _ => False) (Fr.of_below hB1) (fun _ _ h => h.elim)
  have hcl : ∀ W, Has W w1.heap.size #[lv] 80 → Below w1.heap.size w1 W → Calls Try.prog 67 #[.pointer (some ⟨w1.heap.size, 0, none⟩), .pointer (some ⟨w.heap.size + 1, 0, none⟩), .pointer (some ⟨w.heap.size, 0, none⟩)] W fun e w' => AnsB R w1.heap.size W (bnd most (lraw most.toNat rest)) e w' := fun W h1 h2 => clos67_68 R w1.heap.size (w.heap.size + 1) w.heap.size lv rest most W h1 (hby1.lp h2) (by omega) ((h2.cell (p := ⟨w.heap.size + 1, 0, none⟩) (by simp; omega)).trans hb1.one) ((h2.cell (p := ⟨w.heap.size, 0, none⟩) (by simp; omega)).trans hk1.one)
  have hle : ∀ d rest', bnd most (lraw most.toNat rest) = .ok (d, rest') → rest'.length ≤ rest.length := fun d rest' h => lraw_le (bnd_ok h)
  have hne : ∀ ec, bnd most (lraw most.toNat rest) = .error ec → ec ≠ 0 := fun ec h => bnd_ne h (fun _ => lraw_ne)
  generalize bnd most (lraw most.toNat rest) = x at *
  cases x with
  | error ec =>
    have ht := take50_67_err r lv rest at_ ec w1 hR1 (.pointer (some ⟨w.heap.size + 1, 0, none⟩)) (.pointer (some ⟨w.heap.size, 0, none⟩)) (hne ec rfl) (fun W h1 h2 => (hcl W h1 h2).mono fun e w' h => AnsB.failed h)
    clear hcl hne hle
    show Calls _ _ _ _ fun e w' => e = .returned (.tuple #[.slice none 0 0, .int .i64 ec]) ∧ Flaws w w' r lv rest at_ ec
    go_enter Try.func60, Try.ntmps60
    go_wp2_with fail
    refine hbd.mono ?_
    rintro e w' ⟨rfl, hw⟩
    subst hw
    clear hbd
    go_wp2_with fail
    refine ht.mono ?_
    rintro e w2 ⟨rfl, hf⟩
    have HF : Hid (Flaws w w2 r lv rest at_ ec) := hf.after hB1
    clear hf ht
    go_wp2_with fail
    go_ret2
    exact ⟨rfl, HF.out⟩
  | ok p =>
    obtain ⟨d, rest'⟩ := p
    have hlt := hR.lt
    have ht := take50_67_ok R r hRr lv rest rest' at_ w1 hR1 (.pointer (some ⟨w.heap.size + 1, 0, none⟩)) (.pointer (some ⟨w.heap.size, 0, none⟩)) d (hle d rest' rfl) hat (fun W h1 h2 => (hcl W h1 h2).mono fun e w' h => by
      obtain ⟨v, ha, hb, hc⟩ := h
      exact ⟨v, ha, hb, fun k hk => Nat.lt_of_lt_of_le h1.lt (hc k hk)⟩)
    clear hcl hne hle
    show Calls _ _ _ _ fun e w' => ∃ v, e = .returned (.tuple #[v, .int .i64 0]) ∧ TookR R w w' r rest' (at_ + (rest.length - rest'.length)) ∧ Own w' v d ∧ ∀ k, v.ownBlock = some k → w.heap.size ≤ k
    go_enter Try.func60, Try.ntmps60
    go_wp2_with fail
    refine hbd.mono ?_
    rintro e w' ⟨rfl, hw⟩
    subst hw
    clear hbd
    go_wp2_with fail
    refine ht.mono ?_
    rintro e w2 ⟨v, rfl, hf, hown, hnew⟩
    obtain ⟨va, vc, rfl⟩ := hown.slice
    have HF : Hid (TookR R w w2 r rest' (at_ + (rest.length - rest'.length)) ∧ Own w2 (.slice va d.length vc) d ∧ ∀ k, (Value.slice va d.length vc).ownBlock = some k → w.heap.size ≤ k) := ⟨hf.after hB1, hown, fun k hk => Nat.le_trans hB1.size (hnew k hk)⟩
    clear hf ht hown hnew
    go_wp2_with fail
    go_ret2
    exact ⟨_, rfl, HF.out⟩
theorem rraw_any (r : Nat) (lv : Value) (rest : List UInt8) (at_ : Nat) (most : Int) (w : World) (hR : Rd w r lv rest at_ 0) (hat : at_ + rest.length ≤ 10000000000) :
    Calls Try.prog 60 #[.pointer (some ⟨r, 0, none⟩), .int .i64 most] w fun e w' => RAnsB w w' r lv rest at_ (bnd most (lraw most.toNat rest)) e :=
  (rrawR_any (· = r) r rfl lv rest at_ most w hR hR.by_ hat).mono fun _ _ h => h.plain
set_option maxHeartbeats 1000000 in
theorem rraw_flaw (r : Nat) (lv : Value) (rest : List UInt8) (at_ ec : Nat) (most : Int) (w : World) (hR : Rd w r lv rest at_ ec) (hec : ec ≠ 0) :
    Calls Try.prog 60 #[.pointer (some ⟨r, 0, none⟩), .int .i64 most] w fun e w' => e = .returned (.tuple #[.slice none 0 0, .int .i64 ec]) ∧ Below w.heap.size w w' := by
  obtain ⟨hB1, hk1, hb1, hz1⟩ := two_boxes w (.func (Fn.func 68) #[] #[]) (.int .i64 most) 94 3
  have hbd := bounded51_any 68 most w
  generalize hw1 : (w.alloc (.cells #[.func (Fn.func 68) #[] #[]] 94)).alloc (.cells #[.int .i64 most] 3) = w1 at *
  clear hw1
  have ht := take50_67_flaw r lv rest at_ ec w1 (hR.below hB1) (.pointer (some ⟨w.heap.size + 1, 0, none⟩)) (.pointer (some ⟨w.heap.size, 0, none⟩)) hec
  go_enter Try.func60, Try.ntmps60
  go_wp2_with fail
  refine hbd.mono ?_
  rintro e w' ⟨rfl, hw⟩
  subst hw
  clear hbd
  go_wp2_with fail
  refine ht.mono ?_
  rintro e w2 ⟨rfl, kk, hw2⟩
  have HF : Hid (Below w.heap.size w w2) := hB1.trans (by rw [hw2]; exact ⟨rfl, rfl, rfl, Nat.le_refl _, fun _ _ => rfl⟩)
  clear ht hw2
  go_wp2_with fail
  go_ret2
  exact ⟨rfl, HF.out⟩
set_option maxHeartbeats 1000000 in
theorem rraw_nil (most : Int) (w : World) :
    Calls Try.prog 60 #[.pointer none, .int .i64 most] w fun e w' => e = .returned (.tuple #[.slice none 0 0, .int .i64 1]) ∧ Below w.heap.size w w' := by
  obtain ⟨hB1, hk1, hb1, hz1⟩ := two_boxes w (.func (Fn.func 68) #[] #[]) (.int .i64 most) 94 3
  have hbd := bounded51_any 68 most w
  generalize hw1 : (w.alloc (.cells #[.func (Fn.func 68) #[] #[]] 94)).alloc (.cells #[.int .i64 most] 3) = w1 at *
  clear hw1
  have ht := take50_67_nil w1 (.pointer (some ⟨w.heap.size + 1, 0, none⟩)) (.pointer (some ⟨w.heap.size, 0, none⟩)) 
  go_enter Try.func60, Try.ntmps60
  go_wp2_with fail
  refine hbd.mono ?_
  rintro e w' ⟨rfl, hw⟩
  subst hw
  clear hbd
  go_wp2_with fail
  refine ht.mono ?_
  rintro e w2 ⟨rfl, hw2⟩
  have HF : Hid (Below w.heap.size w w2) := by rw [hw2]; exact hB1
  clear ht hw2
  go_wp2_with fail
  go_ret2
  exact ⟨rfl, HF.out⟩
end Go.Proofs.Ytgoflpfafkmmgaa
/- A reader's calls, others. -/
namespace Go.Proofs.Ytgoflpfafkmmgaa
open Go.RowKit

set_option maxHeartbeats 1000000 in
theorem rtextR_any (R : Nat → Prop) (r : Nat) (hRr : R r) (lv : Value) (rest : List UInt8) (at_ : Nat) (most : Int) (w : World) (hR : Rd w r lv rest at_ 0) (hby : BytesAp R w lv rest) (hat : at_ + rest.length ≤ 10000000000) :
    Calls Try.prog 31 #[.pointer (some ⟨r, 0, none⟩), .int .i64 most] w fun e w' => RAnsR R (.string ⟨#[]⟩) w w' r lv rest at_ (vS (bnd most (lbyt most rest))) e := by
  obtain ⟨hB1, hk1, hb1, hz1⟩ := two_boxes w (.func (Fn.func 55) #[] #[]) (.int .i64 most) 98 3
  have hbd := bounded54_any 55 most w
  generalize hw1 : (w.alloc (.cells #[.func (Fn.func 55) #[] #[]] 98)).alloc (.cells #[.int .i64 most] 3) = w1 at *
  clear hw1
  have hR1 := hR.below hB1
  have hby1 := hby.fr (S' := fun _ => False) (Fr.of_below hB1) (fun _ _ h => h.elim)
  have hcl : ∀ W, Has W w1.heap.size #[lv] 80 → Below w1.heap.size w1 W → Calls Try.prog 69 #[.pointer (some ⟨w1.heap.size, 0, none⟩), .pointer (some ⟨w.heap.size + 1, 0, none⟩), .pointer (some ⟨w.heap.size, 0, none⟩)] W fun e w' => Ans R w1.heap.size W (vS (bnd most (lbyt most rest))) e w' := fun W h1 h2 => clos69_55 R w1.heap.size (w.heap.size + 1) w.heap.size lv rest most W h1 (hby1.lp h2) (by omega) ((h2.cell (p := ⟨w.heap.size + 1, 0, none⟩) (by simp; omega)).trans hb1.one) ((h2.cell (p := ⟨w.heap.size, 0, none⟩) (by simp; omega)).trans hk1.one)
  have hle : ∀ d rest', bnd most (lbyt most rest) = .ok (d, rest') → rest'.length ≤ rest.length := fun d rest' h => lbyt_le (bnd_ok h)
  have hne : ∀ ec, bnd most (lbyt most rest) = .error ec → ec ≠ 0 := fun ec h => bnd_ne h (fun _ => lbyt_ne)
  generalize bnd most (lbyt most rest) = x at *
  cases x with
  | error ec =>
    have ht := take53_69_err r lv rest at_ ec w1 hR1 (.pointer (some ⟨w.heap.size + 1, 0, none⟩)) (.pointer (some ⟨w.heap.size, 0, none⟩)) (hne ec rfl) (fun W h1 h2 => (hcl W h1 h2).mono fun e w' h => h)
    clear hcl hne hle
    show Calls _ _ _ _ fun e w' => e = .returned (.tuple #[.string ⟨#[]⟩, .int .i64 ec]) ∧ Flaws w w' r lv rest at_ ec
    go_enter Try.func31, Try.ntmps31
    go_wp2_with fail
    refine hbd.mono ?_
    rintro e w' ⟨rfl, hw⟩
    subst hw
    clear hbd
    go_wp2_with fail
    refine ht.mono ?_
    rintro e w2 ⟨rfl, hf⟩
    have HF : Hid (Flaws w w2 r lv rest at_ ec) := hf.after hB1
    clear hf ht
    go_wp2_with fail
    go_ret2
    exact ⟨rfl, HF.out⟩
  | ok p =>
    obtain ⟨d, rest'⟩ := p
    have ht := take53_69_ok R r hRr lv rest rest' at_ w1 hR1 (.pointer (some ⟨w.heap.size + 1, 0, none⟩)) (.pointer (some ⟨w.heap.size, 0, none⟩)) ⟨d.toArray⟩ (hle d rest' rfl) hat (fun W h1 h2 => hcl W h1 h2)
    clear hcl hne hle
    show Calls _ _ _ _ fun e w' => e = .returned (.tuple #[.string ⟨d.toArray⟩, .int .i64 0]) ∧ TookR R w w' r rest' (at_ + (rest.length - rest'.length))
    go_enter Try.func31, Try.ntmps31
    go_wp2_with fail
    refine hbd.mono ?_
    rintro e w' ⟨rfl, hw⟩
    subst hw
    clear hbd
    go_wp2_with fail
    refine ht.mono ?_
    rintro e w2 ⟨rfl, hf⟩
    have HF : Hid (TookR R w w2 r rest' (at_ + (rest.length - rest'.length))) := hf.after hB1
    clear hf ht
    go_wp2_with fail
    go_ret2
    exact ⟨rfl, HF.out⟩
theorem rtext_any (r : Nat) (lv : Value) (rest : List UInt8) (at_ : Nat) (most : Int) (w : World) (hR : Rd w r lv rest at_ 0) (hat : at_ + rest.length ≤ 10000000000) :
    Calls Try.prog 31 #[.pointer (some ⟨r, 0, none⟩), .int .i64 most] w fun e w' => RAns (.string ⟨#[]⟩) w w' r lv rest at_ (vS (bnd most (lbyt most rest))) e :=
  (rtextR_any (· = r) r rfl lv rest at_ most w hR hR.by_ hat).mono fun _ _ h => h.plain
set_option maxHeartbeats 1000000 in
theorem rtext_flaw (r : Nat) (lv : Value) (rest : List UInt8) (at_ ec : Nat) (most : Int) (w : World) (hR : Rd w r lv rest at_ ec) (hec : ec ≠ 0) :
    Calls Try.prog 31 #[.pointer (some ⟨r, 0, none⟩), .int .i64 most] w fun e w' => e = .returned (.tuple #[.string ⟨#[]⟩, .int .i64 ec]) ∧ Below w.heap.size w w' := by
  obtain ⟨hB1, hk1, hb1, hz1⟩ := two_boxes w (.func (Fn.func 55) #[] #[]) (.int .i64 most) 98 3
  have hbd := bounded54_any 55 most w
  generalize hw1 : (w.alloc (.cells #[.func (Fn.func 55) #[] #[]] 98)).alloc (.cells #[.int .i64 most] 3) = w1 at *
  clear hw1
  have ht := take53_69_flaw r lv rest at_ ec w1 (hR.below hB1) (.pointer (some ⟨w.heap.size + 1, 0, none⟩)) (.pointer (some ⟨w.heap.size, 0, none⟩)) hec
  go_enter Try.func31, Try.ntmps31
  go_wp2_with fail
  refine hbd.mono ?_
  rintro e w' ⟨rfl, hw⟩
  subst hw
  clear hbd
  go_wp2_with fail
  refine ht.mono ?_
  rintro e w2 ⟨rfl, kk, hw2⟩
  have HF : Hid (Below w.heap.size w w2) := hB1.trans (by rw [hw2]; exact ⟨rfl, rfl, rfl, Nat.le_refl _, fun _ _ => rfl⟩)
  clear ht hw2
  go_wp2_with fail
  go_ret2
  exact ⟨rfl, HF.out⟩
set_option maxHeartbeats 1000000 in
theorem rtext_nil (most : Int) (w : World) :
    Calls Try.prog 31 #[.pointer none, .int .i64 most] w fun e w' => e = .returned (.tuple #[.string ⟨#[]⟩, .int .i64 1]) ∧ Below w.heap.size w w' := by
  obtain ⟨hB1, hk1, hb1, hz1⟩ := two_boxes w (.func (Fn.func 55) #[] #[]) (.int .i64 most) 98 3
  have hbd := bounded54_any 55 most w
  generalize hw1 : (w.alloc (.cells #[.func (Fn.func 55) #[] #[]] 98)).alloc (.cells #[.int .i64 most] 3) = w1 at *
  clear hw1
  have ht := take53_69_nil w1 (.pointer (some ⟨w.heap.size + 1, 0, none⟩)) (.pointer (some ⟨w.heap.size, 0, none⟩)) 
  go_enter Try.func31, Try.ntmps31
  go_wp2_with fail
  refine hbd.mono ?_
  rintro e w' ⟨rfl, hw⟩
  subst hw
  clear hbd
  go_wp2_with fail
  refine ht.mono ?_
  rintro e w2 ⟨rfl, hw2⟩
  have HF : Hid (Below w.heap.size w w2) := by rw [hw2]; exact hB1
  clear ht hw2
  go_wp2_with fail
  go_ret2
  exact ⟨rfl, HF.out⟩
set_option maxHeartbeats 1000000 in
theorem rsignedR_any (R : Nat → Prop) (r : Nat) (hRr : R r) (lv : Value) (rest : List UInt8) (at_ : Nat) (w : World) (hR : Rd w r lv rest at_ 0) (hby : BytesAp R w lv rest) (hat : at_ + rest.length ≤ 10000000000) :
    Calls Try.prog 27 #[.pointer (some ⟨r, 0, none⟩)] w fun e w' => RAnsR R (.int .i64 0) w w' r lv rest at_ (vI (lsig rest)) e := by
  have hcl : ∀ W, Has W w.heap.size #[lv] 80 → Below w.heap.size w W → Calls Try.prog 49 #[.pointer (some ⟨w.heap.size, 0, none⟩)] W fun e w' => Ans R w.heap.size W (vI (lsig rest)) e w' := fun W h1 h2 => lsigned_any R w.heap.size lv rest W h1 (hby.lp h2) (by omega)
  have hle : ∀ d rest', lsig rest = .ok (d, rest') → rest'.length ≤ rest.length := fun d rest' h => lsig_le h
  have hne : ∀ ec, lsig rest = .error ec → ec ≠ 0 := fun ec h => lsig_ne h
  generalize lsig rest = x at *
  cases x with
  | error ec =>
    have ht := take44_49_err r lv rest at_ ec w hR (hne ec rfl) (fun W h1 h2 => (hcl W h1 h2).mono fun e w' h => h)
    clear hcl hne hle
    show Calls _ _ _ _ fun e w' => e = .returned (.tuple #[.int .i64 0, .int .i64 ec]) ∧ Flaws w w' r lv rest at_ ec
    go_enter Try.func27, Try.ntmps27
    go_wp2_with fail
    refine ht.mono ?_
    rintro e w2 ⟨rfl, hf⟩
    have HF : Hid (Flaws w w2 r lv rest at_ ec) := hf
    clear hf ht
    go_wp2_with fail
    go_ret2
    exact ⟨rfl, HF.out⟩
  | ok p =>
    obtain ⟨d, rest'⟩ := p
    have ht := take44_49_ok R r hRr lv rest rest' at_ w hR d (hle d rest' rfl) hat (fun W h1 h2 => hcl W h1 h2)
    clear hcl hne hle
    show Calls _ _ _ _ fun e w' => e = .returned (.tuple #[.int .i64 d, .int .i64 0]) ∧ TookR R w w' r rest' (at_ + (rest.length - rest'.length))
    go_enter Try.func27, Try.ntmps27
    go_wp2_with fail
    refine ht.mono ?_
    rintro e w2 ⟨rfl, hf⟩
    have HF : Hid (TookR R w w2 r rest' (at_ + (rest.length - rest'.length))) := hf
    clear hf ht
    go_wp2_with fail
    go_ret2
    exact ⟨rfl, HF.out⟩
theorem rsigned_any (r : Nat) (lv : Value) (rest : List UInt8) (at_ : Nat) (w : World) (hR : Rd w r lv rest at_ 0) (hat : at_ + rest.length ≤ 10000000000) :
    Calls Try.prog 27 #[.pointer (some ⟨r, 0, none⟩)] w fun e w' => RAns (.int .i64 0) w w' r lv rest at_ (vI (lsig rest)) e :=
  (rsignedR_any (· = r) r rfl lv rest at_ w hR hR.by_ hat).mono fun _ _ h => h.plain
set_option maxHeartbeats 1000000 in
theorem rsigned_flaw (r : Nat) (lv : Value) (rest : List UInt8) (at_ ec : Nat) (w : World) (hR : Rd w r lv rest at_ ec) (hec : ec ≠ 0) :
    Calls Try.prog 27 #[.pointer (some ⟨r, 0, none⟩)] w fun e w' => e = .returned (.tuple #[.int .i64 0, .int .i64 ec]) ∧ Below w.heap.size w w' := by
  have ht := take44_49_flaw r lv rest at_ ec w hR hec
  go_enter Try.func27, Try.ntmps27
  go_wp2_with fail
  refine ht.mono ?_
  rintro e w2 ⟨rfl, kk, hw2⟩
  have HF : Hid (Below w.heap.size w w2) := by rw [hw2]; exact ⟨rfl, rfl, rfl, Nat.le_refl _, fun _ _ => rfl⟩
  clear ht hw2
  go_wp2_with fail
  go_ret2
  exact ⟨rfl, HF.out⟩
set_option maxHeartbeats 1000000 in
theorem rsigned_nil (w : World) :
    Calls Try.prog 27 #[.pointer none] w fun e w' => e = .returned (.tuple #[.int .i64 0, .int .i64 1]) ∧ Below w.heap.size w w' := by
  have ht := take44_49_nil w
  go_enter Try.func27, Try.ntmps27
  go_wp2_with fail
  refine ht.mono ?_
  rintro e w2 ⟨rfl, hw2⟩
  have HF : Hid (Below w.heap.size w w2) := by rw [hw2]; exact Below.refl _ _
  clear ht hw2
  go_wp2_with fail
  go_ret2
  exact ⟨rfl, HF.out⟩
set_option maxHeartbeats 1000000 in
theorem rtruthR_any (R : Nat → Prop) (r : Nat) (hRr : R r) (lv : Value) (rest : List UInt8) (at_ : Nat) (w : World) (hR : Rd w r lv rest at_ 0) (hby : BytesAp R w lv rest) (hat : at_ + rest.length ≤ 10000000000) :
    Calls Try.prog 38 #[.pointer (some ⟨r, 0, none⟩)] w fun e w' => RAnsR R (.bool false) w w' r lv rest at_ (vT (ltru rest)) e := by
  have hcl : ∀ W, Has W w.heap.size #[lv] 80 → Below w.heap.size w W → Calls Try.prog 62 #[.pointer (some ⟨w.heap.size, 0, none⟩)] W fun e w' => Ans R w.heap.size W (vT (ltru rest)) e w' := fun W h1 h2 => ltruth_any R w.heap.size lv rest W h1 (hby.lp h2) (by omega)
  have hle : ∀ d rest', ltru rest = .ok (d, rest') → rest'.length ≤ rest.length := fun d rest' h => ltru_le h
  have hne : ∀ ec, ltru rest = .error ec → ec ≠ 0 := fun ec h => ltru_ne h
  generalize ltru rest = x at *
  cases x with
  | error ec =>
    have ht := take61_62_err r lv rest at_ ec w hR (hne ec rfl) (fun W h1 h2 => (hcl W h1 h2).mono fun e w' h => h)
    clear hcl hne hle
    show Calls _ _ _ _ fun e w' => e = .returned (.tuple #[.bool false, .int .i64 ec]) ∧ Flaws w w' r lv rest at_ ec
    go_enter Try.func38, Try.ntmps38
    go_wp2_with fail
    refine ht.mono ?_
    rintro e w2 ⟨rfl, hf⟩
    have HF : Hid (Flaws w w2 r lv rest at_ ec) := hf
    clear hf ht
    go_wp2_with fail
    go_ret2
    exact ⟨rfl, HF.out⟩
  | ok p =>
    obtain ⟨d, rest'⟩ := p
    have ht := take61_62_ok R r hRr lv rest rest' at_ w hR d (hle d rest' rfl) hat (fun W h1 h2 => hcl W h1 h2)
    clear hcl hne hle
    show Calls _ _ _ _ fun e w' => e = .returned (.tuple #[.bool d, .int .i64 0]) ∧ TookR R w w' r rest' (at_ + (rest.length - rest'.length))
    go_enter Try.func38, Try.ntmps38
    go_wp2_with fail
    refine ht.mono ?_
    rintro e w2 ⟨rfl, hf⟩
    have HF : Hid (TookR R w w2 r rest' (at_ + (rest.length - rest'.length))) := hf
    clear hf ht
    go_wp2_with fail
    go_ret2
    exact ⟨rfl, HF.out⟩
theorem rtruth_any (r : Nat) (lv : Value) (rest : List UInt8) (at_ : Nat) (w : World) (hR : Rd w r lv rest at_ 0) (hat : at_ + rest.length ≤ 10000000000) :
    Calls Try.prog 38 #[.pointer (some ⟨r, 0, none⟩)] w fun e w' => RAns (.bool false) w w' r lv rest at_ (vT (ltru rest)) e :=
  (rtruthR_any (· = r) r rfl lv rest at_ w hR hR.by_ hat).mono fun _ _ h => h.plain
set_option maxHeartbeats 1000000 in
theorem rtruth_flaw (r : Nat) (lv : Value) (rest : List UInt8) (at_ ec : Nat) (w : World) (hR : Rd w r lv rest at_ ec) (hec : ec ≠ 0) :
    Calls Try.prog 38 #[.pointer (some ⟨r, 0, none⟩)] w fun e w' => e = .returned (.tuple #[.bool false, .int .i64 ec]) ∧ Below w.heap.size w w' := by
  have ht := take61_62_flaw r lv rest at_ ec w hR hec
  go_enter Try.func38, Try.ntmps38
  go_wp2_with fail
  refine ht.mono ?_
  rintro e w2 ⟨rfl, kk, hw2⟩
  have HF : Hid (Below w.heap.size w w2) := by rw [hw2]; exact ⟨rfl, rfl, rfl, Nat.le_refl _, fun _ _ => rfl⟩
  clear ht hw2
  go_wp2_with fail
  go_ret2
  exact ⟨rfl, HF.out⟩
set_option maxHeartbeats 1000000 in
theorem rtruth_nil (w : World) :
    Calls Try.prog 38 #[.pointer none] w fun e w' => e = .returned (.tuple #[.bool false, .int .i64 1]) ∧ Below w.heap.size w w' := by
  have ht := take61_62_nil w
  go_enter Try.func38, Try.ntmps38
  go_wp2_with fail
  refine ht.mono ?_
  rintro e w2 ⟨rfl, hw2⟩
  have HF : Hid (Below w.heap.size w w2) := by rw [hw2]; exact Below.refl _ _
  clear ht hw2
  go_wp2_with fail
  go_ret2
  exact ⟨rfl, HF.out⟩
end Go.Proofs.Ytgoflpfafkmmgaa
/- Read, At, End. -/
namespace Go.Proofs.Ytgoflpfafkmmgaa
open Go.RowKit

/-- What is not in it is not in it as it grows. -/
theorem Own.apNew {w : World} {v : Value} {d : List UInt8} (h : Own w v d) (o : Obj) (h0 : 0 < w.heap.size) : BytesAp (· = w.heap.size) (w.alloc o) v d := by
  have h1 : Own (w.alloc o) v d := own_alloc h o
  refine Own.bytesAp h1 (fun i hi e => by have := h.lt' hi; omega) (fun _ => ⟨0, by simp, by omega⟩)
set_option maxHeartbeats 1000000 in
theorem read_any (xv : Value) (x : List UInt8) (w : World) (hx : Bytes w xv x) (hsm : x.length ≤ 10000000000) :
    Calls Try.prog 22 #[xv] w fun e w' => ∃ g lv, e = .returned (.pointer (some ⟨g, 0, none⟩)) ∧ w.heap.size ≤ g ∧ Rd w' g lv x 0 0 ∧ Below w.heap.size w w' := by
  have HX : Hid (Bytes w xv x) := hx
  obtain ⟨xa, xc, xb, xo, rfl, _⟩ := hx
  go_enter Try.func22, Try.ntmps22
  go_wp2_with (refine wpList_append_bytes _ rfl _ _ 80 27 rfl info5 Try.underlying80 Try.underlying27 (.slice none 0 0) _ [] x rfl rfl (Own.nil w) HX.out (by simp; omega) ?_; intro v2 w2 hown2 hgr hloc hnil; clear hnil; rw [List.nil_append] at hown2; obtain ⟨a3, c3, hv2⟩ := hown2.slice; subst hv2)
  go_ret
  have hB : Below w.heap.size w w2 := ⟨hgr.os, hgr.tape, hgr.output, hgr.size, fun k hk => hgr.block k hk (by simp [Value.ownBlock])⟩
  have hz := hB.size
  refine ⟨w2.heap.size, _, rfl, hz, ⟨has_new _ _ _ _ rfl, hown2.apNew _ (by omega)⟩, hB.alloc hz _⟩
set_option maxHeartbeats 400000 in
theorem at_any (r : Nat) (lv : Value) (rest : List UInt8) (at_ fl : Nat) (w : World) (hR : Rd w r lv rest at_ fl) :
    Calls Try.prog 32 #[.pointer (some ⟨r, 0, none⟩)] w fun e w' => e = .returned (.int .i64 at_) ∧ w' = w := by
  have c1 := hR.has.cell 1
  have c3 := hR.has.cell 3
  simp at c1 c3
  go_enter Try.func32, Try.ntmps32
  go_wp2_with (first | (go_at_call 56; refine (rnone_any _ _ c3).mono ?_; rintro e w' ⟨rfl, hw⟩; obtain rfl := hw.symm) | fail)
  go_ret
  exact ⟨rfl, rfl⟩
def endE (rest : List UInt8) (fl : Nat) : Nat := if fl ≠ 0 then fl else if rest.length = 0 then 0 else 122
set_option maxHeartbeats 400000 in
theorem end_any (r : Nat) (lv : Value) (rest : List UInt8) (at_ fl : Nat) (w : World) (hR : Rd w r lv rest at_ fl) :
    Calls Try.prog 34 #[.pointer (some ⟨r, 0, none⟩)] w fun e w' => e = .returned (.int .i64 (endE rest fl)) ∧ w' = w := by
  have c0 := hR.has.cell 0
  have c2 := hR.has.cell 2
  have c3 := hR.has.cell 3
  obtain ⟨la, lc, lb, lo, rfl, _⟩ := id hR.by_
  simp at c0 c2 c3
  by_cases hf : fl ≠ 0
  · have h1 : ¬ (fl : Int) = 0 := by omega
    have he : endE rest fl = fl := by unfold endE; rw [if_pos hf]
    rw [he]
    go_enter Try.func34, Try.ntmps34
    go_wp2_with (first | (go_at_call 56; refine (rnone_any _ _ c3).mono ?_; rintro e w' ⟨rfl, hw⟩; obtain rfl := hw.symm) | fail)
    go_ret
    exact ⟨rfl, rfl⟩
  · have hf0 : fl = 0 := by omega
    subst hf0
    by_cases hl : rest.length = 0
    · have he : endE rest 0 = 0 := by unfold endE; rw [if_neg (by omega), if_pos hl]
      rw [he]
      have h1 : ¬ (0 : Int) < rest.length := by omega
      simp at c2
      go_enter Try.func34, Try.ntmps34
      go_wp2_with (first | (go_at_call 56; refine (rnone_any _ _ c3).mono ?_; rintro e w' ⟨rfl, hw⟩; obtain rfl := hw.symm) | fail)
      go_ret
      exact ⟨rfl, rfl⟩
    · have he : endE rest 0 = 122 := by unfold endE; rw [if_neg (by omega), if_neg hl]
      rw [he]
      have h1 : (0 : Int) < rest.length := by omega
      simp at c2
      go_enter Try.func34, Try.ntmps34
      go_wp2_with (first | (go_at_call 56; refine (rnone_any _ _ c3).mono ?_; rintro e w' ⟨rfl, hw⟩; obtain rfl := hw.symm) | fail)
      go_ret
      exact ⟨rfl, rfl⟩
set_option maxHeartbeats 400000 in
theorem num_any (n : Int) (w : World) :
    Calls Try.prog 14 #[.int .i64 n] w fun e w' => e = .returned (.int .i64 n) ∧ w' = w := by
  go_enter Try.func14, Try.ntmps14
  go_wp2_with fail
  go_ret
  exact ⟨rfl, rfl⟩
end Go.Proofs.Ytgoflpfafkmmgaa
/- works: the chapter's first row, there and back. -/
namespace Go.Proofs.Ytgoflpfafkmmgaa
open Go.RowKit

theorem num300 : numL 300 = [172, 2] := by rw [numL_hi 300 (by omega), numL_lo _ (by omega)]; rfl
theorem num3 : numL (foldN (-2)) = [3] := by rw [show foldN (-2) = 3 from rfl, numL_lo _ (by omega)]; rfl
theorem bytHi : bytL [104, 105] = [2, 104, 105] := by unfold bytL; rw [numL_lo _ (by simp)]; rfl

/-- A writer that lies behind the first N blocks, which stand. -/
structure WrN (N : Nat) (w0 w : World) (p : Nat) (v : Value) (bs : List UInt8) : Prop where
  wr : Wr w p v bs
  below : Below N w0 w
  hi : ∀ k, WS p v k → N ≤ k
  le : N ≤ w.heap.size
theorem Laid.ok {w w' : World} {p : Nat} {v : Value} {bs x : List UInt8} {e : Ending} (h : Laid w w' p v bs x e) (hf : bs.length + x.length ≤ 1048576) : e = .returned (.int .i64 0) ∧ ∃ v', Wr w' p v' (bs ++ x) ∧ Fr (WS p v) w w' ∧ Loc w v v' := by
  unfold Laid at h; rw [if_pos hf] at h; exact h
theorem WrN.step {N : Nat} {w0 w w' : World} {p : Nat} {v v' : Value} {bs bs' : List UInt8} (h : WrN N w0 w p v bs) (hW : Wr w' p v' bs') (hF : Fr (WS p v) w w') (hL : Loc w v v') : WrN N w0 w' p v' bs' := by
  refine ⟨hW, Fr.below h.below hF h.le (fun k hk e => by have := h.hi k e; omega), fun k hk => ?_, Nat.le_trans h.le hF.size⟩
  rcases hk with rfl | hk
  · exact h.hi _ (.inl rfl)
  · rcases hL k hk with h1 | h1
    · exact h.hi k (.inr h1)
    · have := h.le; omega
theorem WrN.laid {N : Nat} {w0 w w' : World} {p : Nat} {v : Value} {bs x : List UInt8} {e : Ending} (h : WrN N w0 w p v bs) (k : Laid w w' p v bs x e) (hf : bs.length + x.length ≤ 1048576) : e = .returned (.int .i64 0) ∧ ∃ v', WrN N w0 w' p v' (bs ++ x) := by
  obtain ⟨h1, v', h2, h3, h4⟩ := k.ok hf
  exact ⟨h1, v', h.step h2 h3 h4⟩
theorem WrN.new (w w' : World) (hB : Below w.heap.size w w') (hW : Wr w' w.heap.size (.slice none 0 0) []) : WrN w.heap.size w w' w.heap.size (.slice none 0 0) [] :=
  ⟨hW, hB, fun k hk => hk.elim (fun e => by omega) (fun e => by cases e), hB.size⟩
/-- A reader that lies behind the first N blocks, which stand. -/
structure RdN (N : Nat) (w0 w : World) (r : Nat) (lv : Value) (rest : List UInt8) (at_ fl : Nat) : Prop where
  rd : Rd w r lv rest at_ fl
  below : Below N w0 w
  hi : N ≤ r
theorem RdN.took {N : Nat} {w0 w w' : World} {r : Nat} {lv : Value} {rest rest' : List UInt8} {at_ at' : Nat} (h : RdN N w0 w r lv rest at_ 0) (k : Took w w' r rest' at') : ∃ lv', RdN N w0 w' r lv' rest' at' 0 := by
  obtain ⟨lv', h1, h2⟩ := k
  exact ⟨lv', h1, Below.ex h.below (by have := h.rd.lt; have := h.hi; omega) h2 h.hi, h.hi⟩
theorem RdN.flaws {N : Nat} {w0 w w' : World} {r : Nat} {lv : Value} {rest : List UInt8} {at_ ec : Nat} (h : RdN N w0 w r lv rest at_ 0) (k : Flaws w w' r lv rest at_ ec) : RdN N w0 w' r lv rest at_ ec :=
  ⟨k.1, Below.ex h.below (by have := h.rd.lt; have := h.hi; omega) k.2 h.hi, h.hi⟩
/-- Owned bytes stand while a reader reads. -/
theorem Own.ex {w w' : World} {v : Value} {d : List UInt8} {r : Nat} (h : Own w v d) (k : Ex r w w') (hr : v.ownBlock ≠ some r) : Own w' v d := h.fr (Fr.of_ex k) (fun i hi e => hr (by rw [hi, e]))

def exB : List UInt8 := [172, 2, 3, 2, 104, 105, 1]
theorem r1 : vN (bnd 300 (lnum 300 [172, 2, 3, 2, 104, 105, 1])) = .ok (.int .i64 300, [3, 2, 104, 105, 1]) := by rfl
theorem r2 : vI (lsig [3, 2, 104, 105, 1]) = .ok (.int .i64 (-2), [2, 104, 105, 1]) := by rfl
theorem r3 : vS (bnd 2 (lbyt 2 [2, 104, 105, 1])) = .ok (.string ⟨#[104, 105]⟩, [1]) := by rfl
theorem r4 : vT (ltru [1]) = .ok (.bool true, []) := by rfl
theorem RAns.ok {zero : Value} {w w' : World} {r : Nat} {lv : Value} {rest rest' : List UInt8} {at_ : Nat} {x : Except Nat (Value × List UInt8)} {v : Value} {e : Ending} (h : RAns zero w w' r lv rest at_ x e) (hx : x = .ok (v, rest')) : e = .returned (.tuple #[v, .int .i64 0]) ∧ Took w w' r rest' (at_ + (rest.length - rest'.length)) := by subst hx; exact h

set_option maxRecDepth 10000 in
set_option maxHeartbeats 2000000 in
theorem works_any (w : World) : Calls Try.prog 11 #[] w fun e w' => e = .returned (.bool true) ∧ Below w.heap.size w w' := by
  go_enter Try.func11, Try.ntmps11
  go_wp2_with fail
  refine (wnew_any w).mono ?_
  rintro e w1 ⟨rfl, hB, hW⟩
  have h1 := WrN.new w w1 hB hW
  clear hB hW
  generalize hNw : w.heap.size = N at h1
  have HN : Hid (w.heap.size = N) := hNw
  clear hNw
  go_wp2_with fail
  refine (wnumber_ok N _ _ 300 (by omega) w1 h1.wr).mono ?_
  intro e w2 hl
  rw [num300] at hl
  obtain ⟨rfl, v2, h2⟩ := h1.laid hl (by simp)
  clear hl h1
  go_wp2_with fail
  refine (wsigned_ok N _ _ (-2) rfl w2 h2.wr).mono ?_
  intro e w3 hl
  rw [num3] at hl
  obtain ⟨rfl, v3, h3⟩ := h2.laid hl (by simp)
  clear hl h2
  go_wp2_with fail
  refine (wtext_any N _ _ [104, 105] w3 h3.wr (by simp)).mono ?_
  intro e w4 hl
  rw [bytHi] at hl
  obtain ⟨rfl, v4, h4⟩ := h3.laid hl (by simp)
  clear hl h3
  go_wp2_with fail
  refine (wtruth_any N _ _ true w4 h4.wr).mono ?_
  intro e w5 hl
  obtain ⟨rfl, v5, h5⟩ := h4.laid hl (by simp)
  clear hl h4
  have e5 : [] ++ [172, 2] ++ [3] ++ [2, 104, 105] ++ [if (true : Bool) = true then (1 : UInt8) else 0] = exB := rfl
  rw [e5] at h5
  clear e5
  go_wp2_with fail
  refine (all_any N _ _ w5 h5.wr).mono ?_
  rintro e w6 ⟨b, rfl, hN6⟩
  have hB6 : Below N w w6 := h5.below.trans (hN6.below.mono h5.le)
  obtain ⟨hO6, hn6, hb6⟩ := hN6
  have hle6 : N ≤ w6.heap.size := Nat.le_trans h5.le hb6.size
  have h06 : 0 < w6.heap.size := Nat.lt_of_lt_of_le (Nat.lt_of_le_of_lt (Nat.zero_le _) h5.wr.has.lt) hb6.size
  clear hb6 h5 hn6
  obtain ⟨ba, bc', rfl⟩ := hO6.slice
  go_wp2_with fail
  refine (read_any _ exB w6 (hO6.bytes h06) (by decide)).mono ?_
  rintro e w7 ⟨g, lv, rfl, hg, hR, hB7⟩
  have hO7 : Own w7 (.slice ba exB.length bc') exB := hO6.fr (S := fun _ => False) (Fr.of_below hB7) (fun _ _ h => h)
  have hog : (Value.slice ba exB.length bc').ownBlock ≠ some g := fun e => by have := hO6.lt' e; omega
  have h7 : RdN N w w7 g lv exB 0 0 := ⟨hR, hB6.trans (hB7.mono hle6), by omega⟩
  clear hR hB7 hO6 hB6 h06
  unfold exB at h7
  go_wp2_with fail
  refine (rnumber_any g _ _ 0 300 w7 h7.rd (by simp)).mono ?_
  intro e w8 hl
  obtain ⟨rfl, ht⟩ := hl.ok r1
  have hO8 := hO7.ex ht.choose_spec.2 hog
  obtain ⟨lv8, h8⟩ := h7.took ht
  clear hl ht h7 hO7
  go_wp2_with fail
  refine (rsigned_any g _ _ _ w8 h8.rd (by simp)).mono ?_
  intro e w9 hl
  obtain ⟨rfl, ht⟩ := hl.ok r2
  have hO9 := hO8.ex ht.choose_spec.2 hog
  obtain ⟨lv9, h9⟩ := h8.took ht
  clear hl ht h8 hO8
  go_wp2_with fail
  refine (rtext_any g _ _ _ 2 w9 h9.rd (by simp)).mono ?_
  intro e w10 hl
  obtain ⟨rfl, ht⟩ := hl.ok r3
  have hO10 := hO9.ex ht.choose_spec.2 hog
  obtain ⟨lv10, h10⟩ := h9.took ht
  clear hl ht h9 hO9
  go_wp2_with fail
  refine (rtruth_any g _ _ _ w10 h10.rd (by simp)).mono ?_
  intro e w11 hl
  obtain ⟨rfl, ht⟩ := hl.ok r4
  have hO11 := hO10.ex ht.choose_spec.2 hog
  obtain ⟨lv11, h11⟩ := h10.took ht
  clear hl ht h10 hO10
  have hen := end_any g _ _ _ _ w11 h11.rd
  have ee : endE [] 0 = 0 := rfl
  rw [ee] at hen
  have hcv := bytes_string Try.underlying27 Try.underlying5 Try.underlying9 w11 _ exB (hO11.bytes (by have := h11.rd.lt; omega))
  have hBe := h11.below
  clear hO11 h11 hog hle6 hg ee
  go_wp2_with (first
    | (go_at_call 14; refine (num_any _ _).mono ?_; rintro e w' ⟨rfl, hw⟩; obtain rfl := hw.symm; clear hw)
    | (go_at_call 34; refine hen.mono ?_; rintro e w' ⟨rfl, hw⟩; obtain rfl := hw.symm; clear hw)
    | (refine wpList_convert_run rfl 27 9 _ rfl _ _ rfl hcv ?_))
  go_ret
  exact ⟨rfl, by rw [HN.out]; exact hBe⟩
end Go.Proofs.Ytgoflpfafkmmgaa
/- WireLong: the law's walk. -/
namespace Go.Proofs.Ytgoflpfafkmmgaa
open Go.RowKit

theorem made_one (z : Value) (n : Nat) : madeCells #[z] n = Array.replicate n z := by
  apply Array.ext
  · simp [madeCells]
  · intro i h1 h2
    simp [madeCells, Nat.mod_one]
theorem zero_bytes (n : Nat) : Array.replicate n (Value.int .u8 0) = byteCells (List.replicate n 0) := by
  unfold byteCells
  rw [List.map_replicate]
  simp
  exact .inr rfl
theorem make_bytes (c : Int) (n : Nat) (hc : c = (n : Int)) (hn : n ≤ 16777216) (w : World) :
    (Instr.makeSlice 27 (.int .i64 c) (.int .i64 c)).run Try.prog w = .ok (.slice (some ⟨w.heap.size, 0, none⟩) n n) (w.alloc (.cells (byteCells (List.replicate n 0)) 5)) := by
  subst hc
  obtain ⟨i0, hi, hz0, hz1, hz2⟩ := info_parts' info5
  rw [run_makeSlice w 27 5 i0 (.int .u8 0) Try.underlying27 hi hz0 .i64 .i64 n n (by omega) (by omega) (by rw [hz1]; omega) (by rw [hz2]; omega) (by omega), hz1]
  simp only [Int.toNat_natCast, Nat.mul_one, Value.cells, made_one, zero_bytes]
theorem ap_row {S : Nat → Prop} (w : World) (x : List UInt8) (hS : ∀ k, S k → k < w.heap.size) (n : Nat) (hn : n = x.length) : BytesAp S (w.alloc (.cells (byteCells x) 5)) (.slice (some ⟨w.heap.size, 0, none⟩) n n) x := by
  subst hn
  refine ⟨_, _, w.heap.size, 0, rfl, Nat.le_refl _, fun _ => rfl, fun j hj => ?_, by simp, fun e => by have := hS _ e; omega⟩
  rw [Nat.zero_add, (has_new w (byteCells x) 5 w.heap.size rfl).cell j]
  exact byteCells_at x j hj
theorem Laid.long {w w' : World} {p : Nat} {v : Value} {bs x : List UInt8} {e : Ending} (h : Laid w w' p v bs x e) (hf : ¬ bs.length + x.length ≤ 1048576) : e = .returned (.int .i64 3) ∧ Wr w' p v bs ∧ Fr (WS p v) w w' := by
  unfold Laid at h; rw [if_neg hf] at h; exact h
theorem WrN.long {N : Nat} {w0 w w' : World} {p : Nat} {v : Value} {bs x : List UInt8} {e : Ending} (h : WrN N w0 w p v bs) (k : Laid w w' p v bs x e) (hf : ¬ bs.length + x.length ≤ 1048576) : e = .returned (.int .i64 3) ∧ WrN N w0 w' p v bs := by
  obtain ⟨h1, h2, h3⟩ := k.long hf
  exact ⟨h1, h.step h2 h3 (fun k hk => .inl hk)⟩
theorem WrN.grow {N : Nat} {w0 w w' : World} {p : Nat} {v : Value} {bs : List UInt8} (h : WrN N w0 w p v bs) (k : Below w.heap.size w w') : WrN N w0 w' p v bs :=
  ⟨h.wr.below k, h.below.trans (k.mono h.le), h.hi, Nat.le_trans h.le k.size⟩
set_option maxRecDepth 10000 in
set_option maxHeartbeats 2000000 in
theorem long_walk (w : World) : Calls Try.prog 5 #[] w fun e w' => e = .returned (.bool true) ∧ Below w.heap.size w w' := by
  obtain ⟨n, hn⟩ : ∃ n : Nat, n = 1048575 := ⟨_, rfl⟩
  have m1 := make_bytes 1048575 n (by omega) (by omega)
  have m2 := make_bytes 2 2 rfl (by omega)
  have l1 : (List.replicate n (0 : UInt8)).length = 1048575 := by rw [List.length_replicate]; exact hn
  have l2 : (List.replicate 2 (0 : UInt8)).length = 2 := rfl
  have hz2 := l2
  generalize List.replicate n (0 : UInt8) = x1 at *
  generalize List.replicate 2 (0 : UInt8) = x2 at *
  have L1 : Hid (x1.length = 1048575 ∧ x2.length = 2 ∧ n = 1048575) := ⟨l1, l2, hn⟩
  clear l1 l2 hn hz2
  go_enter Try.func5, Try.ntmps5
  go_wp2_with fail
  refine (wnew_any w).mono ?_
  rintro e w1 ⟨rfl, hB, hW⟩
  have h1 := WrN.new w w1 hB hW
  clear hB hW
  generalize hNw : w.heap.size = N at h1
  have HN : Hid (w.heap.size = N) := hNw
  clear hNw
  go_wp2_with fail
  refine named (p := fun X => Calls _ _ _ X _) ?_
  intro W2 hW2
  have hB2 : Below w1.heap.size w1 W2 := by rw [hW2]; exact alloc2_below _ _ _
  have hS := h1.wr.lt
  have hP : Parts (WS N (.slice none 0 0)) W2 (.slice (some ⟨w1.heap.size + 1, 0, none⟩) 1 1) [x1] := by
    rw [hW2]; exact parts1 (w1.alloc _) _ (ap_row w1 x1 hS n (by have := L1.out; omega)) (fun k hk => by have := hS k hk; simp; omega)
  clear hW2
  have h2 := h1.grow hB2
  clear h1 hB2 hS
  refine (raw_any N _ _ [] [x1] W2 h2.wr hP (fun d hd => by simp at hd; subst hd; have := L1.out; omega)).mono ?_
  intro e w3 hl
  have ef : [x1].flatten = x1 := by simp
  rw [ef] at hl
  obtain ⟨rfl, v3, h3⟩ := h2.laid hl (by have := L1.out; simp; omega)
  clear hl h2 hP ef
  rw [List.nil_append] at h3
  go_wp2_with fail
  refine named (p := fun X => Calls _ _ _ X _) ?_
  intro W4 hW4
  have hB4 : Below w3.heap.size w3 W4 := by rw [hW4]; exact alloc2_below _ _ _
  have hS := h3.wr.lt
  have hP : Parts (WS N v3) W4 (.slice (some ⟨w3.heap.size + 1, 0, none⟩) 1 1) [x2] := by
    rw [hW4]; exact parts1 (w3.alloc _) _ (ap_row w3 x2 hS 2 (by have := L1.out; omega)) (fun k hk => by have := hS k hk; simp; omega)
  clear hW4
  have h4 := h3.grow hB4
  clear h3 hB4 hS
  refine (raw_any N _ _ x1 [x2] W4 h4.wr hP (fun d hd => by simp at hd; subst hd; have := L1.out; omega)).mono ?_
  intro e w5 hl
  have ef : [x2].flatten = x2 := by simp
  rw [ef] at hl
  obtain ⟨rfl, h5⟩ := h4.long hl (by have := L1.out; omega)
  clear hl h4 hP ef
  go_wp2_with fail
  refine (wtruth_any N _ _ true w5 h5.wr).mono ?_
  intro e w6 hl
  rw [show (if (true : Bool) = true then (1 : UInt8) else 0) = 1 from rfl] at hl
  obtain ⟨rfl, v6, h6⟩ := h5.laid hl (by have := L1.out; simp; omega)
  clear hl h5
  go_wp2_with fail
  have n0 : numL 0 = [0] := by rw [numL_lo 0 (by omega)]; rfl
  refine (wnumber_ok N _ _ 0 (by omega) w6 h6.wr).mono ?_
  intro e w7 hl
  rw [n0] at hl
  obtain ⟨rfl, h7⟩ := h6.long hl (by have := L1.out; simp; omega)
  clear hl h6 n0
  have hall := all_any N _ _ w7 h7.wr
  have hlen : (x1 ++ [(1 : UInt8)]).length = 1048576 := by have := L1.out; simp; omega
  generalize x1 ++ [(1 : UInt8)] = x3 at *
  have hle := h7.le
  have hbe := h7.below
  clear m1 m2 h7
  go_wp2_with (first
    | (go_at_call 14; refine (num_any _ _).mono ?_; rintro e w' ⟨rfl, hw⟩; obtain rfl := hw.symm; clear hw)
    | fail)
  refine hall.mono ?_
  rintro e w8 ⟨u, rfl, hN8⟩
  obtain ⟨ua, uc, rfl⟩ := hN8.own.slice
  rw [hlen]
  have HN8 : Hid (Below w7.heap.size w7 w8) := hN8.below
  clear hN8 hall
  go_wp2_with (first
    | (go_at_call 11; refine (works_any _).mono ?_; rintro e w9 ⟨rfl, hw9⟩)
    | fail)
  go_ret
  refine ⟨rfl, ?_⟩
  rw [HN.out]
  have h8 := hbe.trans (HN8.out.mono hle)
  exact h8.trans (hw9.mono (Nat.le_trans hle HN8.out.size))
end Go.Proofs.Ytgoflpfafkmmgaa
/- The document's answer: Number, InSign, Signed, Bytes, take. -/
namespace Go.Proofs.Ytgoflpfafkmmgaa
open Go.RowKit

theorem hi_byte2 (n : Nat) : (n : Int) % 128 + 128 = bv (UInt8.ofNat (n % 128 + 128)) := by
  rw [bv_of _ (by omega)]; omega
set_option maxRecDepth 10000 in
set_option maxHeartbeats 1000000 in
theorem refnumber_any (n : Nat) (hn : n < 9223372036854775808) (w : World) :
    Calls Try.prog 25 #[.int .i64 n] w fun e w' => ∃ v, e = .returned v ∧ New w w' v (numL n) := by
  go_enter Try.func25, Try.ntmps25
  go_wp2_with fail
  go_loopw [0, 3] (fun t v wr => ∃ m : Nat, ∃ d : List UInt8, t = .int .i64 m ∧ d ++ numL m = numL n ∧ m ≤ n ∧ New w wr v d) (fun t _ _ => (intOf t).toNat)
  case atStart => exact ⟨n, [], rfl, rfl, Nat.le_refl _, Own.nil w, fun k hk => (by cases hk), Below.refl _ _⟩
  case round =>
    obtain ⟨m, d, rfl, hd, hmn, hN⟩ := hrel
    have hdl : Hid (d.length ≤ 9) := by
      have h1 := numL_len9 n hn
      rw [← hd, List.length_append] at h1
      show _ ≤ _
      omega
    have HD : Hid (d ++ numL m = numL n) := hd
    clear hd
    have hmb : m < 9223372036854775808 := by omega
    by_cases hm : m < 128
    · have HM := numL_lo m hm
      have hw : IntKind.u8.wrap (m : Int) = bv (UInt8.ofNat m) := by rw [bv_of _ (by omega), IntKind.wrap_u8]; omega
      have i1 : ¬ (128 : Int) ≤ m := by omega
      have Hx : Hid (d ++ [UInt8.ofNat m] = numL n) := by show _ = _; rw [← HM]; exact HD.out
      clear HM HD
      generalize UInt8.ofNat m = x at *
      go_wp2_with (refine wpList_append_bytes _ rfl _ _ 27 27 rfl info5 Try.underlying27 Try.underlying27 _ _ d [x] rfl rfl (own_alloc hN.own _) (bytes_one _ x) (by have := hdl.out; simp; omega) ?_; intro v' w2 hown2 hgr hloc hnil; clear hnil)
      go_ret
      exact ⟨_, rfl, by rw [← Hx.out]; exact new_step hN hown2 hgr hloc⟩
    · have Hx : Hid ((d ++ [UInt8.ofNat (m % 128 + 128)]) ++ numL (m / 128) = numL n) := by
        show _ = _
        rw [List.append_assoc, List.singleton_append, ← numL_hi m hm]; exact HD.out
      have hw := hi_byte2 m
      have i1 : (128 : Int) ≤ m := by omega
      obtain ⟨q, hq⟩ : ∃ q : Nat, q = m / 128 := ⟨_, rfl⟩
      have i2 : (m : Int) / 128 = (q : Int) := by omega
      rw [← hq] at Hx
      have Hm : Hid (q ≤ n ∧ q < m) := ⟨by omega, by omega⟩
      clear HD hq
      generalize UInt8.ofNat (m % 128 + 128) = x at *
      go_wp2_with (refine wpList_append_bytes _ rfl _ _ 27 27 rfl info5 Try.underlying27 Try.underlying27 _ _ d [x] rfl rfl (own_alloc hN.own _) (bytes_one _ x) (by have := hdl.out; simp; omega) ?_; intro v' w2 hown2 hgr hloc hnil; clear hnil)
      go_roundw
      case rel => exact ⟨q, d ++ [x], rfl, Hx.out, Hm.out.1, new_step hN hown2 hgr hloc⟩
      case measure => have := Hm.out; simp [intOf]; omega


set_option maxHeartbeats 400000 in
theorem insign_any (n : Int) (w : World) :
    Calls Try.prog 26 #[.int .i64 n] w fun e w' => e = .returned (.bool (inS n)) ∧ w' = w := by
  unfold inS
  by_cases h1 : -4611686018427387904 ≤ n
  · have h2 : decide (n < 4611686018427387904) = decide (n ≤ 4611686018427387903) := by rw [Bool.eq_iff_iff]; simp; omega
    have h3 : decide (-4611686018427387904 ≤ n) = true := by simpa using h1
    rw [h3, Bool.true_and, ← h2]
    clear h2 h3
    go_enter Try.func26, Try.ntmps26
    go_wp2_with fail
    go_ret
    exact ⟨rfl, rfl⟩
  · have h3 : decide (-4611686018427387904 ≤ n) = false := by simpa using h1
    rw [h3, Bool.false_and]
    go_enter Try.func26, Try.ntmps26
    go_wp2_with fail
    go_ret
    exact ⟨rfl, rfl⟩
set_option maxHeartbeats 400000 in
theorem refsigned_any (n : Int) (h : inS n = true) (w : World) :
    Calls Try.prog 28 #[.int .i64 n] w fun e w' => ∃ v, e = .returned v ∧ New w w' v (numL (foldN n)) := by
  have hb : -4611686018427387904 ≤ n ∧ n ≤ 4611686018427387903 := by unfold inS at h; simpa using h
  have hr := refnumber_any (foldN n) (foldN_lt n h) w
  have e1 : n < 0 → wrap64 (wrap64 (-2 * n) - 1) = (foldN n : Int) := fun h0 => by
    unfold wrap64; unfold foldN; rw [if_pos h0]; omega
  have e2 : ¬ n < 0 → wrap64 (2 * n) = (foldN n : Int) := fun h0 => by
    unfold wrap64; unfold foldN; rw [if_neg h0]; omega
  clear hb h
  by_cases h0 : n < 0
  · have e3 := e1 h0
    generalize foldN n = m at *
    clear e1 e2
    go_enter Try.func28, Try.ntmps28
    go_wp2_with fail
    refine hr.mono ?_
    rintro e w1 ⟨v, rfl, hN⟩
    have HN : Hid (New w w1 v (numL m)) := hN
    obtain ⟨a, c, rfl⟩ := hN.own.slice
    clear hN hr
    go_wp2_with fail
    go_ret
    exact ⟨_, rfl, HN.out⟩
  · have e3 := e2 h0
    generalize foldN n = m at *
    clear e1 e2
    go_enter Try.func28, Try.ntmps28
    go_wp2_with fail
    refine hr.mono ?_
    rintro e w1 ⟨v, rfl, hN⟩
    have HN : Hid (New w w1 v (numL m)) := hN
    obtain ⟨a, c, rfl⟩ := hN.own.slice
    clear hN hr
    go_wp2_with fail
    go_ret
    exact ⟨_, rfl, HN.out⟩
end Go.Proofs.Ytgoflpfafkmmgaa
/- The document's answer: take. -/
namespace Go.Proofs.Ytgoflpfafkmmgaa
open Go.RowKit

/-- What 'take' answers. -/
def TakeR (l : List UInt8) (at_ : Nat) (e : Ending) : Prop := match scan 0 0 (l.drop at_) with
  | .error ec => e = .returned (.tuple #[.int .i64 0, .int .i64 0, .int .i64 ec])
  | .ok (n, k) => e = .returned (.tuple #[.int .i64 n, .int .i64 ((at_ + k : Nat) : Int), .int .i64 0])
theorem TakeR.err {l : List UInt8} {at_ ec : Nat} {e : Ending} (h : scan 0 0 (l.drop at_) = .error ec) (k : e = .returned (.tuple #[.int .i64 0, .int .i64 0, .int .i64 ec])) : TakeR l at_ e := by unfold TakeR; rw [h]; exact k
theorem TakeR.ok {l : List UInt8} {at_ n k : Nat} {e : Ending} (h : scan 0 0 (l.drop at_) = .ok (n, k)) (hf : e = .returned (.tuple #[.int .i64 n, .int .i64 ((at_ + k : Nat) : Int), .int .i64 0])) : TakeR l at_ e := by unfold TakeR; rw [h]; exact hf
theorem mul_part (b : UInt8) (k U : Nat) (hU : U = 2 ^ (7 * k)) (hk : k ≤ 8) : ∃ M : Nat, M = (b.toNat % 128) * 2 ^ (7 * k) ∧ wrap64 (bv b % 128 * (U : Int)) = (M : Int) ∧ bv b % 128 * (U : Int) = (M : Int) ∧ M ≤ 127 * U ∧ U ≤ 72057594037927936 := by
  have hp : (2 : Nat) ^ (7 * k) ≤ 2 ^ 56 := Nat.pow_le_pow_right (by omega) (by omega)
  have hm : (b.toNat % 128) * U ≤ 127 * U := Nat.mul_le_mul_right _ (by omega)
  have e1 : bv b % 128 * (U : Int) = (((b.toNat % 128) * U : Nat) : Int) := by unfold bv; simp
  refine ⟨(b.toNat % 128) * U, by rw [hU], ?_, e1, hm, by omega⟩
  rw [e1]; unfold wrap64; omega
theorem fin_take {acc M B k p at_ : Nat} (hM : M = B) (hp : p = at_ + k) : Ending.returned (.tuple #[.int .i64 ((acc : Int) + (M : Int)), .int .i64 ((p : Int) + 1), .int .i64 0]) = .returned (.tuple #[.int .i64 ((acc + B : Nat) : Int), .int .i64 ((at_ + (k + 1) : Nat) : Int), .int .i64 0]) := by
  subst hM; subst hp
  have e1 : ((acc + M : Nat) : Int) = (acc : Int) + M := by omega
  have e2 : ((at_ + (k + 1) : Nat) : Int) = ((at_ + k : Nat) : Int) + 1 := by omega
  rw [e1, e2]
set_option maxRecDepth 10000 in
set_option maxHeartbeats 1000000 in
theorem reftake_any (v : Value) (l : List UInt8) (at_ : Nat) (W : World) (hB : Bytes W v l) (hat : at_ ≤ l.length) (hsm : l.length ≤ 10000000000) :
    Calls Try.prog 48 #[v, .int .i64 at_] W fun e w' => TakeR l at_ e ∧ w' = W := by
  obtain ⟨a, cap, db, o, rfl, hcap, ha, hin, hlt⟩ := hB
  go_enter Try.func48, Try.ntmps48
  go_wp2_with fail
  go_loop [7, 8, 9] (fun n u i => ∃ k acc p U : Nat, p = at_ + k ∧ p ≤ l.length ∧ k ≤ 8 ∧ i = .int .i64 p ∧ n = .int .i64 acc ∧ u = .int .i64 U ∧ U = 2 ^ (7 * k) ∧ acc < 2 ^ (7 * k) ∧ scan 0 0 (l.drop at_) = scan k acc (l.drop p)) (fun _ _ i => l.length - (intOf i).toNat)
  case atStart => exact ⟨0, 0, at_, 1, rfl, hat, by omega, rfl, rfl, rfl, rfl, by simp, rfl⟩
  case round =>
    obtain ⟨k, acc, p, U, hp, hpl, hk8, rfl, rfl, rfl, hU, hacc, hsc⟩ := hrel
    by_cases hkl : p < l.length
    · obtain rfl := ha (by intro e; simp [e] at hkl)
      have hc := hin p hkl
      rw [drop_cons l p hkl] at hsc
      generalize l[p]?.getD 0 = b at *
      unfold bc at hc
      have b0 := bv_nonneg b
      have b1 := bv_lt b
      have hbv : Hid (bv b = (b.toNat : Int)) := rfl
      have i1 : (p : Int) < l.length := by omega
      obtain ⟨M, hM, hM1, hM2, hM3, hU1⟩ := mul_part b k U hU hk8
      have Hacc : Hid (acc < 2 ^ (7 * k) ∧ U = 2 ^ (7 * k) ∧ M = (b.toNat % 128) * 2 ^ (7 * k) ∧ p = at_ + k) := ⟨hacc, hU, hM, hp⟩
      have haccU : acc < U := by omega
      clear hacc hU hM
      by_cases h128 : 128 ≤ bv b
      · have hb1 : 128 ≤ b.toNat := by have := hbv.out; omega
        by_cases h8 : k = 8
        · rw [scan_end k acc b _ hb1 h8] at hsc
          have Hsc : Hid (scan 0 0 (l.drop at_) = .error 121) := hsc
          clear hsc
          have h8' : (at_ : Int) + 8 = p := by omega
          clear hp
          go_wp2_with fail
          go_ret3
          exact ⟨TakeR.err Hsc.out rfl, rfl⟩
        · rw [scan_go k acc b _ hb1 h8] at hsc
          have Hsc : Hid (scan 0 0 (l.drop at_) = scan (k + 1) (acc + (b.toNat - 128) * 2 ^ (7 * k)) (l.drop (p + 1))) := hsc
          clear hsc
          have h8' : ¬ (p : Int) = at_ + 8 := by omega
          have hU2 : U * 128 ≤ 72057594037927936 := by
            have := Hacc.out.2.1
            have h7 : (2 : Nat) ^ (7 * k) ≤ 2 ^ 49 := Nat.pow_le_pow_right (by omega) (by omega)
            omega
          clear hp
          go_wp2_with fail
          go_round
          case rel =>
            obtain ⟨h1, h2, h3, h4⟩ := Hacc.out
            have hb := b.toNat_lt
            have e1 : b.toNat % 128 = b.toNat - 128 := by omega
            rw [e1] at h3
            refine ⟨k + 1, acc + M, p + 1, U * 128, by omega, by omega, by omega, by go_num, by go_num, by go_num, by rw [pow7, h2], by rw [pow7]; omega, ?_⟩
            rw [h3]; exact Hsc.out
          case measure => simp [intOf]; omega
      · have hb1 : ¬ 128 ≤ b.toNat := by have := hbv.out; omega
        have hk0 : (0 < k ↔ (at_ : Int) < p) := by omega
        have HK0 : Hid (0 < k ↔ (at_ : Int) < p) := hk0
        clear hp hk0
        by_cases hz : b.toNat = 0 ∧ 0 < k
        · rw [scan_zero k acc b _ hz.1 hz.2] at hsc
          have Hsc : Hid (scan 0 0 (l.drop at_) = .error 121) := hsc
          clear hsc
          have z1 : bv b = 0 := by have := hbv.out; omega
          have z2 : (at_ : Int) < p := HK0.out.1 hz.2
          by_cases h8 : (at_ : Int) + 8 = p
          · go_wp2_with fail
            go_ret3
            exact ⟨TakeR.err Hsc.out rfl, rfl⟩
          · have h8' : ¬ (p : Int) = at_ + 8 := by omega
            go_wp2_with fail
            go_ret3
            exact ⟨TakeR.err Hsc.out rfl, rfl⟩
        · rw [scan_ok k acc b _ hb1 hz] at hsc
          have Hsc : Hid (scan 0 0 (l.drop at_) = .ok (acc + b.toNat * 2 ^ (7 * k), k + 1)) := hsc
          clear hsc
          have HM : Hid (M = b.toNat * 2 ^ (7 * k)) := by have := Hacc.out.2.2.1; rw [Nat.mod_eq_of_lt (by omega)] at this; exact this
          by_cases h8 : (at_ : Int) + 8 = p
          · by_cases z2 : (at_ : Int) < p
            · have z1 : ¬ bv b = 0 := by have := hbv.out; have := HK0.out; omega
              go_wp2_with fail
              go_ret3
              exact ⟨TakeR.ok Hsc.out (fin_take HM.out Hacc.out.2.2.2), rfl⟩
            · exact absurd z2 (by omega)
          · have h8' : ¬ (p : Int) = at_ + 8 := by omega
            by_cases z2 : (at_ : Int) < p
            · have z1 : ¬ bv b = 0 := by have := hbv.out; have := HK0.out; omega
              go_wp2_with fail
              go_ret3
              exact ⟨TakeR.ok Hsc.out (fin_take HM.out Hacc.out.2.2.2), rfl⟩
            · go_wp2_with fail
              go_ret3
              exact ⟨TakeR.ok Hsc.out (fin_take HM.out Hacc.out.2.2.2), rfl⟩
    · have hk2 : p = l.length := by omega
      have hd0 : l.drop p = [] := List.drop_eq_nil_of_le (by omega)
      rw [hd0] at hsc
      clear hd0 hk2 hp
      have Hsc : Hid (scan 0 0 (l.drop at_) = .error 120) := hsc
      clear hsc
      have i1 : ¬ (p : Int) < l.length := by omega
      go_wp2_with fail
      go_ret3
      exact ⟨TakeR.err Hsc.out rfl, rfl⟩
end Go.Proofs.Ytgoflpfafkmmgaa
/- The document's answer: a reader's Number. -/
namespace Go.Proofs.Ytgoflpfafkmmgaa
open Go.RowKit

set_option maxHeartbeats 400000 in
theorem fails_any (a : Option Addr) (n c at_ fl ec : Nat) (w : World) :
    Calls Try.prog 47 #[.agg #[.slice a n c, .int .i64 at_, .int .i64 fl], .int .i64 ec] w fun e w' => e = .returned (.agg #[.slice a n c, .int .i64 at_, .int .i64 ec]) ∧ Below w.heap.size w w' := by
  go_enter Try.func47, Try.ntmps47
  go_wp2_with fail
  exact bodyPost_ret (v := .agg #[.slice a n c, .int .i64 at_, .int .i64 ec]) (by simp [results, Try.results47, go_sem]) rfl ⟨rfl, alloc2_below _ _ _⟩
theorem alloc2_has {w : World} {x y z x' y' z' : Value} : Has ((w.alloc (.cells #[x, y, z] 45)).alloc (.cells #[x', y', z'] 45)) w.heap.size #[x, y, z] 45 ∧ Has ((w.alloc (.cells #[x, y, z] 45)).alloc (.cells #[x', y', z'] 45)) (w.heap.size + 1) #[x', y', z'] 45 ∧ ((w.alloc (.cells #[x, y, z] 45)).alloc (.cells #[x', y', z'] 45)).heap.size = w.heap.size + 2 :=
  ⟨has_old (has_new _ _ _ _ rfl), has_new _ _ _ _ (by simp), by simp⟩
theorem Below.row {B : Nat} {w w1 : World} {g : Nat} {cs : Array Value} (h : Below B w w1) (hg : B ≤ g) : Below B w (w1.setRow g cs) :=
  h.trans ⟨rfl, rfl, rfl, by simp, fun j hj => setRow_other _ _ _ _ (by omega)⟩
theorem set3_below {B g : Nat} {w w1 : World} (h : Below B w w1) (hB : B ≤ w1.heap.size) (hg : B ≤ g) (x y z : Value) : Below B w (((w1.setCell ⟨g, 0, none⟩ x).setCell ⟨g, 1, none⟩ y).setCell ⟨g, 2, none⟩ z) :=
  Below.ex h hB (((Ex.set g w1 0 x).trans (Ex.set g _ 1 y)).trans (Ex.set g _ 2 z)) hg
set_option maxHeartbeats 1000000 in
theorem refnum_flaw (a : Option Addr) (n c at_ fl : Nat) (g : Int) (w : World) (hfl : fl ≠ 0) :
    Calls Try.prog 24 #[.agg #[.slice a n c, .int .i64 at_, .int .i64 fl], .int .i64 g] w fun e w' => e = .returned (.tuple #[.agg #[.slice a n c, .int .i64 at_, .int .i64 fl], .int .i64 0, .int .i64 fl]) ∧ Below w.heap.size w w' := by
  have h1 : ¬ (fl : Int) = 0 := by omega
  go_enter Try.func24, Try.ntmps24
  go_wp2_with fail
  go_region
  go_wp2_with fail
  exact bodyPost_ret (v := .tuple #[.agg #[.slice a n c, .int .i64 at_, .int .i64 fl], .int .i64 0, .int .i64 fl]) (by simp [results, Try.results24, go_sem]) rfl ⟨rfl, (alloc2_below _ _ _).trans ⟨rfl, rfl, rfl, Nat.le_refl _, fun _ _ => rfl⟩⟩
theorem TakeR.of_err {l : List UInt8} {at_ ec : Nat} {e : Ending} (h : TakeR l at_ e) (hs : scan 0 0 (l.drop at_) = .error ec) : e = .returned (.tuple #[.int .i64 0, .int .i64 0, .int .i64 ec]) := by unfold TakeR at h; rw [hs] at h; exact h
theorem TakeR.of_ok {l : List UInt8} {at_ n k : Nat} {e : Ending} (h : TakeR l at_ e) (hs : scan 0 0 (l.drop at_) = .ok (n, k)) : e = .returned (.tuple #[.int .i64 n, .int .i64 ((at_ + k : Nat) : Int), .int .i64 0]) := by unfold TakeR at h; rw [hs] at h; exact h
set_option maxRecDepth 10000 in
set_option maxHeartbeats 1000000 in
theorem refnum_err (a : Option Addr) (c at_ : Nat) (l : List UInt8) (g : Int) (ec : Nat) (w : World) (hB : Bytes w (.slice a l.length c) l) (hat : at_ ≤ l.length) (hsm : l.length ≤ 10000000000) (hx : bnd g (lnum g (l.drop at_)) = .error ec) :
    Calls Try.prog 24 #[.agg #[.slice a l.length c, .int .i64 at_, .int .i64 0], .int .i64 g] w fun e w' => e = .returned (.tuple #[.agg #[.slice a l.length c, .int .i64 at_, .int .i64 ec], .int .i64 0, .int .i64 ec]) ∧ Below w.heap.size w w' := by
  unfold bnd at hx
  by_cases hg : g < 0
  · rw [if_pos hg] at hx
    cases hx
    go_enter Try.func24, Try.ntmps24
    go_wp2_with fail
    refine named (p := fun X => Calls _ _ _ X _) ?_
    intro W0 hW0
    have hB0 : Below w.heap.size w W0 := by rw [hW0]; exact alloc2_below _ _ _
    obtain ⟨hA, hC, hz⟩ : Has W0 w.heap.size #[.slice a l.length c, .int .i64 at_, .int .i64 0] 45 ∧ Has W0 (w.heap.size + 1) #[.slice none 0 0, .int .i64 0, .int .i64 0] 45 ∧ W0.heap.size = w.heap.size + 2 := by rw [hW0]; exact alloc2_has
    clear hW0
    refine (fails_any a l.length c at_ 0 2 W0).mono ?_
    rintro e W1 ⟨rfl, hB1⟩
    have hC1 := hC.below hB1 (by omega)
    have hB : Below w.heap.size w W1 := hB0.trans (hB1.mono (by omega))
    have s0 := hC1.cell 0
    have s1 := hC1.cell 1
    have s2 := hC1.cell 2
    have f0 := hC1.free 0
    have f1 := hC1.free 1
    have f2 := hC1.free 2
    simp at s0 s1 s2
    clear hA hC
    go_wp2_with fail
    exact bodyPost_ret (v := .tuple #[.agg #[.slice a l.length c, .int .i64 at_, .int .i64 2], .int .i64 0, .int .i64 2]) (by simp [results, Try.results24, go_sem, s0, s1, s2]) rfl ⟨rfl, set3_below hB hB.size (by omega) _ _ _⟩
  · rw [if_neg hg] at hx
    unfold lnum at hx
    cases hs : scan 0 0 (l.drop at_) with
    | error ec0 =>
      rw [hs] at hx
      obtain rfl : ec0 = ec := by cases hx; rfl
      have he' : ¬ (ec0 : Int) = 0 := by have := scan_err _ 0 0 ec0 hs; omega
      have HS : Hid (scan 0 0 (l.drop at_) = .error ec0) := hs
      clear hs hx
      go_enter Try.func24, Try.ntmps24
      go_wp2_with fail
      refine named (p := fun X => Calls _ _ _ X _) ?_
      intro W0 hW0
      have hB0 : Below w.heap.size w W0 := by rw [hW0]; exact alloc2_below _ _ _
      obtain ⟨hA, hC, hz⟩ : Has W0 w.heap.size #[.slice a l.length c, .int .i64 at_, .int .i64 0] 45 ∧ Has W0 (w.heap.size + 1) #[.slice none 0 0, .int .i64 0, .int .i64 0] 45 ∧ W0.heap.size = w.heap.size + 2 := by rw [hW0]; exact alloc2_has
      clear hW0
      have HB : Hid (Bytes W0 (.slice a l.length c) l) := hB.below hB0
      refine (reftake_any _ l at_ W0 HB.out hat hsm).mono ?_
      rintro e W1 ⟨he, hw1⟩
      obtain rfl := hw1.symm
      clear hw1
      obtain rfl := he.of_err HS.out
      have q0 := hA.cell 0
      have q1 := hA.cell 1
      have q2 := hA.cell 2
      simp at q0 q1 q2
      go_wp2_with fail
      refine (fails_any a l.length c at_ 0 ec0 W0).mono ?_
      rintro e W1 ⟨rfl, hB1⟩
      have hC1 := hC.below hB1 (by omega)
      have hB : Below w.heap.size w W1 := hB0.trans (hB1.mono (by omega))
      have s0 := hC1.cell 0
      have s1 := hC1.cell 1
      have s2 := hC1.cell 2
      have f0 := hC1.free 0
      have f1 := hC1.free 1
      have f2 := hC1.free 2
      simp at s0 s1 s2
      clear hA hC
      go_wp2_with fail
      exact bodyPost_ret (v := .tuple #[.agg #[.slice a l.length c, .int .i64 at_, .int .i64 ec0], .int .i64 0, .int .i64 ec0]) (by simp [results, Try.results24, go_sem, s0, s1, s2]) rfl ⟨rfl, set3_below hB hB.size (by omega) _ _ _⟩
    | ok p =>
      obtain ⟨n, k⟩ := p
      rw [hs] at hx
      have hgn : g < n := by
        by_cases h : g < n
        · exact h
        · simp only [if_neg h] at hx; cases hx
      simp only [if_pos hgn] at hx
      cases hx
      have HS : Hid (scan 0 0 (l.drop at_) = .ok (n, k)) := hs
      clear hs
      go_enter Try.func24, Try.ntmps24
      go_wp2_with fail
      refine named (p := fun X => Calls _ _ _ X _) ?_
      intro W0 hW0
      have hB0 : Below w.heap.size w W0 := by rw [hW0]; exact alloc2_below _ _ _
      obtain ⟨hA, hC, hz⟩ : Has W0 w.heap.size #[.slice a l.length c, .int .i64 at_, .int .i64 0] 45 ∧ Has W0 (w.heap.size + 1) #[.slice none 0 0, .int .i64 0, .int .i64 0] 45 ∧ W0.heap.size = w.heap.size + 2 := by rw [hW0]; exact alloc2_has
      clear hW0
      have HB : Hid (Bytes W0 (.slice a l.length c) l) := hB.below hB0
      refine (reftake_any _ l at_ W0 HB.out hat hsm).mono ?_
      rintro e W1 ⟨he, hw1⟩
      obtain rfl := hw1.symm
      clear hw1
      obtain rfl := he.of_ok HS.out
      generalize ((at_ + k : Nat) : Int) = q at *
      have q0 := hA.cell 0
      have q1 := hA.cell 1
      have q2 := hA.cell 2
      simp at q0 q1 q2
      go_wp2_with fail
      refine (fails_any a l.length c at_ 0 3 W0).mono ?_
      rintro e W1 ⟨rfl, hB1⟩
      have hC1 := hC.below hB1 (by omega)
      have hB : Below w.heap.size w W1 := hB0.trans (hB1.mono (by omega))
      have s0 := hC1.cell 0
      have s1 := hC1.cell 1
      have s2 := hC1.cell 2
      have f0 := hC1.free 0
      have f1 := hC1.free 1
      have f2 := hC1.free 2
      simp at s0 s1 s2
      clear hA hC
      go_wp2_with fail
      exact bodyPost_ret (v := .tuple #[.agg #[.slice a l.length c, .int .i64 at_, .int .i64 3], .int .i64 0, .int .i64 3]) (by simp [results, Try.results24, go_sem, s0, s1, s2]) rfl ⟨rfl, set3_below hB hB.size (by omega) _ _ _⟩
set_option maxRecDepth 10000 in
set_option maxHeartbeats 1000000 in
theorem refnum_ok (a : Option Addr) (c at_ : Nat) (l rest : List UInt8) (g : Int) (n : Nat) (w : World) (hB : Bytes w (.slice a l.length c) l) (hat : at_ ≤ l.length) (hsm : l.length ≤ 10000000000) (hx : bnd g (lnum g (l.drop at_)) = .ok (n, rest)) :
    Calls Try.prog 24 #[.agg #[.slice a l.length c, .int .i64 at_, .int .i64 0], .int .i64 g] w fun e w' => e = .returned (.tuple #[.agg #[.slice a l.length c, .int .i64 ((l.length - rest.length : Nat) : Int), .int .i64 0], .int .i64 n, .int .i64 0]) ∧ Below w.heap.size w w' := by
  unfold bnd at hx
  by_cases hg : g < 0
  · rw [if_pos hg] at hx; cases hx
  · rw [if_neg hg] at hx
    unfold lnum at hx
    cases hs : scan 0 0 (l.drop at_) with
    | error ec0 => rw [hs] at hx; cases hx
    | ok p =>
      obtain ⟨n0, k⟩ := p
      rw [hs] at hx
      have hgn : ¬ g < n0 := fun h => by simp only [if_pos h] at hx; cases hx
      simp only [if_neg hgn] at hx
      simp only [Except.ok.injEq, Prod.mk.injEq] at hx
      obtain ⟨rfl, rfl⟩ := hx
      have hb := scan_lt hs
      simp at hb
      have ha' : l.length - ((l.drop at_).drop k).length = at_ + k := by simp; omega
      rw [ha']
      clear ha'
      have HS : Hid (scan 0 0 (l.drop at_) = .ok (n0, k)) := hs
      clear hs
      generalize hq0 : at_ + k = q
      go_enter Try.func24, Try.ntmps24
      go_wp2_with fail
      refine named (p := fun X => Calls _ _ _ X _) ?_
      intro W0 hW0
      have hB0 : Below w.heap.size w W0 := by rw [hW0]; exact alloc2_below _ _ _
      obtain ⟨hA, hC, hz⟩ : Has W0 w.heap.size #[.slice a l.length c, .int .i64 at_, .int .i64 0] 45 ∧ Has W0 (w.heap.size + 1) #[.slice none 0 0, .int .i64 0, .int .i64 0] 45 ∧ W0.heap.size = w.heap.size + 2 := by rw [hW0]; exact alloc2_has
      clear hW0
      have HB : Hid (Bytes W0 (.slice a l.length c) l) := hB.below hB0
      refine (reftake_any _ l at_ W0 HB.out hat hsm).mono ?_
      rintro e W1 ⟨he, hw1⟩
      obtain rfl := hw1.symm
      clear hw1
      obtain rfl := he.of_ok HS.out
      rw [hq0]
      have q0 := hA.cell 0
      have q1 := hA.cell 1
      have q2 := hA.cell 2
      have f1 := hA.free 1
      simp at q0 q1 q2
      have s0 := hC.cell 0
      have s1 := hC.cell 1
      have s2 := hC.cell 2
      have g0 := hC.free 0
      have g1 := hC.free 1
      have g2 := hC.free 2
      simp at s0 s1 s2
      have hB2 : Below w.heap.size w (W0.setCell ⟨w.heap.size, 1, none⟩ (.int .i64 (q : Int))) := Below.ex hB0 hB0.size (Ex.set _ _ _ _) (Nat.le_refl _)
      go_wp2_with fail
      exact bodyPost_ret (v := .tuple #[.agg #[.slice a l.length c, .int .i64 (q : Int), .int .i64 0], .int .i64 n0, .int .i64 0]) (by simp [results, Try.results24, go_sem, s0, s1, s2]) rfl ⟨rfl, set3_below hB2 hB2.size (by omega) _ _ _⟩
end Go.Proofs.Ytgoflpfafkmmgaa
/- A range over a function whose body never leaves it: two laws at the wide fence, whatever the function does between its rounds. -/
namespace Go.Proofs.Ytgoflpfafkmmgaa
open Go.RowKit
variable {n : Nat} {P : Program}

/-- The loop's record. -/
def recOf (fn : FuncId) (tmps : Array Value) (ps : Array Tmp) (assign body : Code) (D : Nat) (st : LoopState) : Loop :=
  { state := st, pending := none, fn, tmps, params := ps, assign, body, defers := D }

/-- The statement: the call of the function that is ranged over, at yield; behind it the record is exhausted. -/
theorem wp_range {g : Operand} {ps : Array Tmp} {assign body : Code} {Q : Exit → Act → World → Prop} {a : Act} {w : World} {gf : Nat} {lb : Array Value}
    (hg : a.eval g = .func (.func gf) #[] lb) (eg : ∀ args w, (callFunc gf args).run P w = .ok (.enter gf args) w) (R : World → Prop)
    (hcall : ∀ fn W1, Below w.heap.size w W1 → W1.heap.size = w.heap.size + 2 → W1.heap[w.heap.size]? = some (.deferred (some [])) → W1.heap[w.heap.size + 1]? = some (.loop (recOf fn a.tmps ps assign body w.heap.size .ready)) →
      CallsIn Fence.wide (n - 1) P gf (#[.func (.yield (w.heap.size + 1)) #[] #[]] ++ lb) W1 fun e W3 => (∃ v, e = .returned v) ∧ W3.heap[w.heap.size + 1]? = W1.heap[w.heap.size + 1]? ∧ R W3)
    (hdone : ∀ W3 o, R W3 → Q .normal { a with defers := { target := .collected w.heap.size, args := #[] } :: a.defers } (W3.putObj (w.heap.size + 1) o)) :
    (Code.rangeFunc g ps assign body).wpIn Fence.wide n P Q a w := by
  refine wpIn_rangeFunc ?_
  intro fn _
  obtain ⟨W1, hW1⟩ : ∃ W1, (w.alloc (.deferred (some []))).alloc (.loop (recOf fn a.tmps ps assign body w.heap.size .ready)) = W1 := ⟨_, rfl⟩
  have hL : W1.heap[w.heap.size + 1]? = some (.loop (recOf fn a.tmps ps assign body w.heap.size .ready)) := by
    rw [← hW1]
    have := World.alloc_heap_new (w.alloc (.deferred (some []))) (.loop (recOf fn a.tmps ps assign body w.heap.size .ready)); rwa [World.size_alloc] at this
  refine ⟨w.heap.size + 1, [{ target := .collected w.heap.size, args := #[] }], W1, { target := .fn (.func gf) lb, args := #[.func (.yield (w.heap.size + 1)) #[] #[]] }, W1, gf,
    #[.func (.yield (w.heap.size + 1)) #[] #[]] ++ lb, W1, ?_, ?_, ?_, ?_, (fun h => by cases h), ?_⟩
  · rw [← hW1]; exact run_enterLoop_outer _ _ _ _ _
  · simp only [resolve, hg]
    simp [go_sem]
  · intro f' _; trivial
  · simp [invoke, go_sem, eg]
  · have hD : W1.heap[w.heap.size]? = some (.deferred (some [])) := by
      rw [← hW1]; exact (Below.heap_alloc _ _ _ (by simp)).trans (World.alloc_heap_new w _)
    refine (hcall fn W1 (by rw [← hW1]; exact ((Below.refl _ w).alloc (Nat.le_refl _) _).alloc (by simp) _) (by rw [← hW1]; simp) hD hL).mono ?_
    rintro e W3 ⟨⟨v, rfl⟩, hl3, hR⟩
    rw [hL] at hl3
    refine ⟨none, _, run_endLoop hl3 (by simp [recOf]), ?_⟩
    exact hdone W3 _ hR

/-- One round: the assignment to the loop's variable, then the body, which comes to its end. -/
theorem yield_round {fn : FuncId} {tmps : Array Value} {ps : Array Tmp} {assign body : Code} {D l : Nat} {W : World} {args : Array Value} {R : World → Prop}
    (hl : W.heap[l]? = some (.loop (recOf fn tmps ps assign body D .ready))) (hps : args.size = ps.size)
    (h : assign.wpIn (Fence.wide.inRound l) n P (Exit.then (fun a₁ w₁ => w₁.heap[l]? = some (.loop (recOf fn tmps ps assign body D .ready)) ∧
        body.wpIn (Fence.wide.inRound l) n P (fun e _ W3 => e = .normal ∧ W3.heap[l]? = some (.loop (recOf fn tmps ps assign body D .busy)) ∧ R (W3.putObj l (.loop (recOf fn tmps ps assign body D .ready)))) a₁ (w₁.putObj l (.loop (recOf fn tmps ps assign body D .busy))))
      (fun _ _ _ => False)) { tmps := (ps.zip args).foldl (fun t (p, v) => t.setIfInBounds p v) tmps, defers := [] } W) :
    YieldAt Fence.wide n P l args W fun e W' => e = .returned (.bool true) ∧ R W' := by
  have hy := run_yield (P := P) (args := args) hl hps
  refine ⟨fn, _, assign, body, hy, roundIn_of_wpIn trivial ?_⟩
  refine wpIn_mono h ?_
  rintro e a₁ w₁ hp
  cases e with
  | normal =>
    obtain ⟨hl1, hb⟩ := hp
    refine ⟨_, run_beginRound hl1 rfl, ?_⟩
    refine wpIn_mono hb ?_
    rintro e a3 W3 ⟨rfl, hl3, hR⟩
    exact ⟨_, _, run_endRound (P := P) none hl3, rfl, hR⟩
  | _ => exact hp
/-- The same, the record under two names. -/
theorem yield_round' {fn : FuncId} {tmps : Array Value} {ps : Array Tmp} {assign body : Code} {D l : Nat} {W : World} {args : Array Value} {R : World → Prop}
    (hl : W.heap[l]? = some (.loop (recOf fn tmps ps assign body D .ready))) (hps : args.size = ps.size)
    (h : ∀ RR RB : Obj, W.heap[l]? = some RR → assign.wpIn (Fence.wide.inRound l) n P (Exit.then (fun a₁ w₁ => w₁.heap[l]? = some RR ∧
        body.wpIn (Fence.wide.inRound l) n P (fun e _ W3 => e = .normal ∧ W3.heap[l]? = some RB ∧ R (W3.putObj l RR)) a₁ (w₁.putObj l RB))
      (fun _ _ _ => False)) { tmps := (ps.zip args).foldl (fun t (p, v) => t.setIfInBounds p v) tmps, defers := [] } W) :
    YieldAt Fence.wide n P l args W fun e W' => e = .returned (.bool true) ∧ R W' :=
  yield_round hl hps (h _ _ hl)
end Go.Proofs.Ytgoflpfafkmmgaa
/- A region that draws its order, whose operations but the last only read: in every order the last one comes last, and the others are as if in the order of the text. In a round of a range over a function, too. -/
namespace Go.Proofs.Ytgoflpfafkmmgaa
open Go.RowKit
variable {n : Nat} {P : Program}

theorem wpIn_of_quiet {o : Oper} {l : Nat} {a : Act} {C : World → Prop} {K : Act → Prop} {K' : Act → World → Prop} {Q : Exit → Act → World → Prop} {w : World} (hd : ∀ c, o.op ≠ .defer c) (hw : C w)
    (h : ∀ a w', C w' → K a → K' a w') (hh : o.quiet P a C K) : o.wpIn (Fence.wide.inRound l) n P a w K' Q := by
  obtain ⟨v, h1, h2⟩ := hh
  have h3 := h1 w hw
  unfold Oper.quietAt at h3
  unfold Oper.wpIn
  refine ⟨fun _ _ => trivial, ?_⟩
  rw [Oper.semAt_plain (Fence.wide.inRound l) _ o hd]
  generalize (execOp a.eval o).run P w = r at *
  cases r with
  | ok x w' =>
    cases x <;> simp only [Oper.quietUpon, Oper.uponIn] at h3 ⊢
    case value u => obtain ⟨rfl, rfl⟩ := h3; exact h _ _ hw h2
    case skip => obtain ⟨rfl, rfl⟩ := h3; exact h _ _ hw h2
    case enter f args =>
      obtain ⟨rfl, h3⟩ := h3
      refine ⟨fun e => (by cases e), CallsIn.inRound l (callsIn_wide.2 (h3.mono ?_))⟩
      rintro e w'' ⟨rfl, hc⟩
      exact h _ _ hc h2
  | halt x w' => exact h3.elim

/-- Each operation ahead of the last has one behind it that waits for it. -/
def covers (ops : Array Oper) : Bool := (List.range (ops.size - 1)).all fun i => (List.range ops.size).any fun j => decide (i < j) && (((ops[j]?).map (·.after.any fun e => Region.binds .any e && e.on == i)).getD false)
/-- No operation is guarded, defers or selects. -/
def plainOps (ops : Array Oper) : Bool := ops.all fun o => o.guard.isNone && (match o.op with | .defer _ => false | .select _ _ => false | _ => true)

structure Shut (ops : Array Oper) (L : Nat) (listed : Array Bool) : Prop where
  size : listed.size = L
  shut : ∀ i, listed.getD i false = true → ∀ o, ops[i]? = some o → ∀ e ∈ o.after, Region.binds .any e = true → e.on < L → listed.getD e.on false = true

theorem getD_push (l : Array Bool) (i : Nat) (d : Bool) (h : i ≠ l.size) : (l.push false).getD i d = l.getD i d := by
  simp only [Array.getD_eq_getD_getElem?, Array.getElem?_push, if_neg h]

theorem listed_all {ops : Array Oper} {L : Nat} (hL : ops.size = L + 1) (hc : covers ops = true) {listed : Array Bool} (hs : Shut ops L listed)
    (hlast : ∀ o, ops[L]? = some o → ∀ e ∈ o.after, Region.binds .any e = true → e.on < L → listed.getD e.on false = true) : ∀ k i, L - i ≤ k → i < L → listed.getD i false = true := by
  have hcov : ∀ i, i < L → ∃ j, j ≤ L ∧ i < j ∧ ∃ o, ops[j]? = some o ∧ ∃ e ∈ o.after, Region.binds .any e = true ∧ e.on = i := fun i hi => by
    unfold covers at hc
    rw [List.all_eq_true] at hc
    have := hc i (by simp; omega)
    rw [List.any_eq_true] at this
    obtain ⟨j, hj, hb⟩ := this
    simp only [Bool.and_eq_true, decide_eq_true_eq] at hb
    obtain ⟨hij, hb⟩ := hb
    cases ho : ops[j]? with
    | none => rw [ho] at hb; simp at hb
    | some o =>
      rw [ho] at hb
      simp only [Option.map_some, Option.getD_some, Array.any_eq_true'] at hb
      obtain ⟨e, he, hb⟩ := hb
      simp only [Bool.and_eq_true, beq_iff_eq] at hb
      exact ⟨j, by simp at hj; omega, hij, o, ho, e, he, hb⟩
  intro k
  induction k with
  | zero => intro i h1 h2; omega
  | succ k ih =>
    intro i h1 h2
    obtain ⟨j, hj, hij, o, ho, e, he, hb, rfl⟩ := hcov i h2
    by_cases hjL : j = L
    · subst hjL; exact hlast o ho e he hb h2
    · exact hs.shut j (ih j (by omega) (by omega)) o ho e he hb h2

/-- Every operation waits for earlier ones alone. -/
def topo (ops : Array Oper) : Bool := (List.range ops.size).all fun i => ((ops[i]?).map (·.after.all fun e => decide (e.on < i))).getD true

theorem getD_push_false (l : Array Bool) (i : Nat) : (l.push false).getD i false = l.getD i false := by
  by_cases h : i = l.size
  · subst h; simp
  · exact getD_push l i false h

theorem mem_ready {ops : Array Oper} {listed : Array Bool} {i : Nat} : i ∈ Region.ready .any ops listed ↔ i < ops.size ∧ listed.getD i true = false ∧ ∃ o, ops[i]? = some o ∧ ∀ e ∈ o.after, Region.binds .any e = true → listed.getD e.on false = true := by
  unfold Region.ready
  rw [List.mem_filter, List.mem_range, Bool.and_eq_true, Bool.not_eq_true']
  constructor
  · rintro ⟨h1, h2, h3⟩
    refine ⟨h1, h2, ?_⟩
    cases ho : ops[i]? with
    | none => rw [ho] at h3; simp at h3
    | some o =>
      rw [ho] at h3
      refine ⟨o, rfl, fun e he hb => ?_⟩
      simp only [Option.map_some, Option.getD_some, Array.all_eq_true'] at h3
      have := h3 e he
      rw [hb] at this; simpa using this
  · rintro ⟨h1, h2, o, ho, h3⟩
    refine ⟨h1, h2, ?_⟩
    rw [ho]
    simp only [Option.map_some, Option.getD_some, Array.all_eq_true']
    intro e he
    cases hb : Region.binds .any e with
    | false => rfl
    | true => simpa using h3 e he hb

section
variable {l L : Nat} {ops : Array Oper} {C : World → Prop} {Qf : Act → Prop} {Q : Exit → Act → World → Prop}

theorem ready_pop (hL : ops.size = L + 1) {listed : Array Bool} (hs : listed.size = L) {i : Nat} (hi : i < L) : i ∈ Region.ready .any ops (listed.push false) ↔ i ∈ Region.ready .any ops.pop listed := by
  rw [mem_ready, mem_ready]
  have e : ops.pop[i]? = ops[i]? := by rw [Array.getElem?_pop, if_pos (by omega)]
  rw [e, getD_push listed i true (by omega)]
  simp only [getD_push_false, Array.size_pop, hL]
  constructor
  · rintro ⟨_, r⟩; exact ⟨by omega, r⟩
  · rintro ⟨_, r⟩; exact ⟨by omega, r⟩

theorem all_of_none (hL : ops.size = L + 1) (ht : topo ops = true) {listed : Array Bool} (hs : listed.size = L) (hr : Region.ready .any ops.pop listed = []) : ∀ i, i < L → listed.getD i false = true := by
  intro i
  induction i using Nat.strongRecOn with
  | ind i ih =>
    intro hi
    cases hv : listed.getD i false with
    | true => rfl
    | false =>
      have hin : i ∈ Region.ready .any ops.pop listed := by
        rw [mem_ready]
        have ho : ops.pop[i]? = some ops[i] := by rw [Array.getElem?_pop, if_pos (by omega), Array.getElem?_eq_getElem (by omega)]
        refine ⟨by simp; omega, ?_, ops[i], ho, fun e he _ => ?_⟩
        · rw [Array.getD_eq_getD_getElem?, Array.getElem?_eq_getElem (by omega)] at hv ⊢; exact hv
        · unfold topo at ht
          rw [List.all_eq_true] at ht
          have := ht i (by simp; omega)
          rw [Array.getElem?_eq_getElem (by omega)] at this
          simp only [Option.map_some, Option.getD_some, Array.all_eq_true', decide_eq_true_eq] at this
          have := this e he
          exact ih e.on this (by omega)
      rw [hr] at hin; cases hin

theorem ready_none_of_all {listed : Array Bool} (hs : listed.size = ops.size) (h : ∀ i, i < ops.size → listed.getD i false = true) : Region.ready .any ops listed = [] := by
  rw [List.eq_nil_iff_forall_not_mem]
  intro i hi
  rw [mem_ready] at hi
  have := h i hi.1
  have h2 := hi.2.1
  rw [Array.getD_eq_getD_getElem?, Array.getElem?_eq_getElem (by omega)] at this h2
  simp at this h2
  rw [this] at h2; cases h2

theorem wpAnyIn_last (hL : ops.size = L + 1) (hc : covers ops = true) (ht : topo ops = true) (hp : plainOps ops = true)
    (hfin : ∀ a w, C w → Qf a → wpOpIn (Fence.wide.inRound l) n P ops Q L (fun a' w' => Q .normal a' w') a w) :
    ∀ (fuel : Nat) (listed : Array Bool) (a : Act) (w : World), C w → Shut ops L listed → wpAnyQ P .any ops.pop C Qf fuel listed a → wpAnyIn (Fence.wide.inRound l) n P .any ops Q (fuel + 1) (listed.push false) a w := by
  have plain : ∀ (i : Nat) (o : Oper), ops[i]? = some o → o.guard = none ∧ ∀ c, o.op ≠ .defer c := fun i o ho => by
    unfold plainOps at hp
    rw [Array.all_eq_true'] at hp
    have := hp o (Array.mem_of_getElem? ho)
    simp only [Bool.and_eq_true, Option.isNone_iff_eq_none] at this
    refine ⟨this.1, fun c hc => ?_⟩
    rw [hc] at this; simp at this
  have last : ∀ fuel listed a w, C w → Shut ops L listed → Region.ready .any ops.pop listed = [] → Qf a → wpAnyIn (Fence.wide.inRound l) n P .any ops Q (fuel + 1) (listed.push false) a w := fun fuel listed a w hw hs hr hq => by
    have hall := all_of_none hL ht hs.size hr
    have hrd : ∀ i, i ∈ Region.ready .any ops (listed.push false) → i = L := fun i hi => by
      have h1 := (mem_ready.1 hi).1
      by_cases h : i < L
      · rw [ready_pop hL hs.size h, hr] at hi; cases hi
      · omega
    have hLr : L ∈ Region.ready .any ops (listed.push false) := by
      rw [mem_ready]
      refine ⟨by omega, ?_, ops[L], by rw [Array.getElem?_eq_getElem (by omega)], fun e he _ => ?_⟩
      · have := hs.size; subst this; simp
      · unfold topo at ht
        rw [List.all_eq_true] at ht
        have := ht L (by simp; omega)
        rw [Array.getElem?_eq_getElem (by omega)] at this
        simp only [Option.map_some, Option.getD_some, Array.all_eq_true', decide_eq_true_eq] at this
        rw [getD_push_false]
        exact hall _ (this e he)
    refine ⟨fun h0 => (by rw [h0] at hLr; cases hLr), fun i hi => ?_⟩
    obtain rfl := hrd i hi
    refine wpOpIn_mono (fun a' w' hq' => wpAnyIn_done ?_ hq' _) (hfin a w hw hq)
    refine ready_none_of_all (by simp [hs.size, hL]) (fun j hj => ?_)
    have hsz := hs.size
    by_cases e : j = i
    · subst e; simp [Array.getD_eq_getD_getElem?, hsz]
    · have := hall j (by omega)
      rw [Array.getD_eq_getD_getElem?, Array.getElem?_setIfInBounds, if_neg (Ne.symm e), Array.getElem?_push, if_neg (by omega), ← Array.getD_eq_getD_getElem?]
      exact this
  intro fuel
  induction fuel with
  | zero => intro listed a w hw hs h; exact last 0 listed a w hw hs h.1 h.2
  | succ fuel ih =>
    intro listed a w hw hs h
    by_cases hr : Region.ready .any ops.pop listed = []
    · exact last _ listed a w hw hs hr (h.1 hr)
    · have hnL : L ∉ Region.ready .any ops (listed.push false) := fun hi => hr (by
        obtain ⟨_, _, o, ho, hdep⟩ := mem_ready.1 hi
        have hall := listed_all hL hc hs (fun o' ho' e he hb _ => by
          rw [ho] at ho'; cases ho'
          have := hdep e he hb
          rwa [getD_push_false] at this)
        refine ready_none_of_all (by simp [hs.size, hL]) (fun i hi => ?_)
        simp [hL] at hi
        exact hall L i (by omega) hi)
      refine ⟨fun h0 => ?_, fun i hi => ?_⟩
      · exfalso
        obtain ⟨i, hi⟩ := List.exists_mem_of_ne_nil _ hr
        have hiL : i < L := by have := (mem_ready.1 hi).1; simp at this; omega
        rw [← ready_pop hL hs.size hiL, h0] at hi; cases hi
      · have hiL : i < L := by
          have h1 := (mem_ready.1 hi).1
          have h2 : i ≠ L := fun e => hnL (e ▸ hi)
          omega
        have hi' := (ready_pop hL hs.size hiL).1 hi
        obtain ⟨_, hun, o, ho, hdep⟩ := mem_ready.1 hi'
        have ho2 : ops[i]? = some o := by rw [← ho, Array.getElem?_pop, if_pos (by omega)]
        have hq := h.2 i hi'
        unfold qOp at hq
        rw [ho] at hq
        obtain ⟨hg, hd⟩ := plain i o ho2
        have hwant : ∀ (os : Array Oper), Region.wanted o (yielded os a.tmps) = true := fun os => by simp [Region.wanted, hg]
        simp only [hwant, if_true] at hq
        unfold wpOpIn
        rw [ho2]
        simp only [hwant, if_true]
        refine wpIn_of_quiet hd hw (fun a' w' hw' hk => ?_) hq
        rw [show (listed.push false).setIfInBounds i true = (listed.setIfInBounds i true).push false by
          apply Array.ext_getElem?
          intro j
          have hsz := hs.size
          simp only [Array.getElem?_setIfInBounds, Array.getElem?_push, Array.size_push, Array.size_setIfInBounds]
          by_cases e : i = j
          · subst e; simp [show i < listed.size by omega, show ¬ i = listed.size by omega, show i < listed.size + 1 by omega]
          · simp [e]]
        refine ih _ a' w' hw' ⟨by simp [hs.size], fun j hj o' ho' e he hb hlt => ?_⟩ hk
        have hsz := hs.size
        have key : ∀ q, (listed.setIfInBounds i true).getD q false = if q = i then true else listed.getD q false := fun q => by
          rw [Array.getD_eq_getD_getElem?, Array.getElem?_setIfInBounds]
          by_cases e : i = q
          · subst e; simp [show i < listed.size by omega]
          · rw [if_neg e, if_neg (Ne.symm e), Array.getD_eq_getD_getElem?]
        rw [key] at hj ⊢
        by_cases eq : e.on = i
        · rw [if_pos eq]
        · rw [if_neg eq]
          by_cases ej : j = i
          · subst ej; rw [ho2] at ho'; cases ho'; exact hdep e he hb
          · rw [if_neg ej] at hj; exact hs.shut j hj o' ho' e he hb hlt

/-- **The region, in a round.** -/
theorem wpIn_region_last {id : Nat} {a : Act} {w : World} {rs : List Oper} {o : Oper} (hm : P.follows .mixedOrders = true) (hB : Region.lexB .any rs.toArray = true)
    (hc : covers (rs ++ [o]).toArray = true) (ht : topo (rs ++ [o]).toArray = true) (hp : plainOps (rs ++ [o]).toArray = true)
    (h : wpQuiet P rs.toArray (fun w' => ∃ k, w' = w.drewN k) (fun a' => ∀ k, wpOpIn (Fence.wide.inRound l) n P (rs ++ [o]).toArray Q rs.length (fun a' w' => Q .normal a' w') a' (w.drewN k)) rs a) :
    (Code.region id (rs ++ [o]).toArray true).wpIn (Fence.wide.inRound l) n P Q a w := by
  refine wpIn_region_any hm ?_
  simp only [Region.lexB, Bool.and_eq_true] at hB
  have hq := wpAnyQ_lex (P := P) (C := fun w' => ∃ k, w' = w.drewN k) (md := .any) hB.1 rs 0 (Array.replicate rs.length false) a (by simp) (by simpa using hB.2) h
  have := wpAnyIn_last (l := l) (n := n) (P := P) (L := rs.length) (ops := (rs ++ [o]).toArray) (Q := Q) (C := fun w' => ∃ k, w' = w.drewN k) (Qf := fun a' => ∀ k, wpOpIn (Fence.wide.inRound l) n P (rs ++ [o]).toArray Q rs.length (fun a' w' => Q .normal a' w') a' (w.drewN k))
    (by simp) hc ht hp (fun a w' hw hq => by obtain ⟨k, rfl⟩ := hw; exact hq k) rs.length (Array.replicate rs.length false) a (w.drewN 1) ⟨1, rfl⟩
    ⟨by simp, fun i hi => by
      exfalso
      rw [Array.getD_eq_getD_getElem?, Array.getElem?_replicate] at hi
      split at hi <;> simp at hi⟩ (by simpa using hq)
  have e : (Array.replicate rs.length false).push false = Array.replicate (rs ++ [o]).toArray.size false := by simp [Array.replicate_succ]
  rw [e] at this
  have hs : (rs ++ [o]).toArray.size = rs.length + 1 := by simp
  rw [hs]
  rw [hs] at this
  exact this
/-- The same of a list that is written out. -/
theorem wpIn_region_last_lit {id : Nat} {a : Act} {w : World} {ls : List Oper} (hne : ls ≠ []) (hm : P.follows .mixedOrders = true) (hB : Region.lexB .any ls.dropLast.toArray = true)
    (hc : covers ls.toArray = true) (ht : topo ls.toArray = true) (hp : plainOps ls.toArray = true)
    (h : wpQuiet P ls.dropLast.toArray (fun w' => ∃ k, w' = w.drewN k) (fun a' => ∀ k, wpOpIn (Fence.wide.inRound l) n P ls.toArray Q (ls.length - 1) (fun a' w' => Q .normal a' w') a' (w.drewN k)) ls.dropLast a) :
    (Code.region id ls.toArray true).wpIn (Fence.wide.inRound l) n P Q a w := by
  have e := List.dropLast_concat_getLast hne
  have hl : ls.dropLast.length = ls.length - 1 := by simp
  have := wpIn_region_last (l := l) (n := n) (P := P) (Q := Q) (id := id) (a := a) (w := w) (rs := ls.dropLast) (o := ls.getLast hne) hm hB (by rw [e]; exact hc) (by rw [e]; exact ht) (by rw [e]; exact hp) (by rw [e, hl]; exact h)
  rwa [e] at this
/-- A whole row is loaded, quietly. -/
theorem wpQuiet_load_row {C : World → Prop} {Q : Act → Prop} {a : Act} {o : Oper} {rest : List Oper} (hgd : o.guard = none) (ty : TypeId) (x : Operand) (ho : o.op = .load ty x) (ad : Addr) (hx : a.eval x = .pointer (some ad)) (cs : Array Value)
    (hrun : ∀ w, C w → (Instr.loadAt ty (.pointer (some ad))).run P w = .ok (.agg cs) w) (h : wpQuiet P ops C Q rest (a.put o.dst (.agg cs))) : wpQuiet P ops C Q (o :: rest) a := by
  refine wpQuiet_step fun K hK => ?_
  have hw : Region.wanted o (yielded ops a.tmps) = true := by simp [Region.wanted, hgd]
  rw [if_pos hw]
  refine ⟨.agg cs, fun w hw => ?_, hK _ h⟩
  unfold Oper.quietAt execOp
  simp only [ho, hx, hrun w hw, Sem.run_bind, Sem.run_pure, Result.andThen_ok]
  exact ⟨rfl, rfl⟩
end
end Go.Proofs.Ytgoflpfafkmmgaa
