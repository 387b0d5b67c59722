/- A reader's calls: Number, Bytes, Text, Raw; Signed, Truth. -/
import Derived.Test.YtgoflpfafkmmgaaM1
namespace Go.Proofs.Ytgoflpfafkmmgaa
open Go.RowKit

theorem bnd_ok {α : Type} {most : Int} {x : Except Nat α} {p : α} (h : bnd most x = .ok p) : x = .ok p := by
  unfold bnd at h; split at h
  · cases h
  · exact h
theorem bnd_ne {α : Type} {most : Int} {x : Except Nat α} {ec : Nat} (h : bnd most x = .error ec) (hx : ∀ e, x = .error e → e ≠ 0) : ec ≠ 0 := by
  unfold bnd at h; split at h
  · cases h; omega
  · exact hx _ h
theorem lraw_le {n : Nat} {l d rest : List UInt8} (h : lraw n l = .ok (d, rest)) : rest.length ≤ l.length := by
  unfold lraw at h; split at h
  · cases h
  · cases h; simp
theorem lbyt_le {most : Int} {l d rest : List UInt8} (h : lbyt most l = .ok (d, rest)) : rest.length ≤ l.length := by
  unfold lbyt at h; split at h
  · cases h
  · rename_i h'; exact Nat.le_trans (lraw_le h) (lnum_le h')
theorem lsig_le {l rest : List UInt8} {n : Int} (h : lsig l = .ok (n, rest)) : rest.length ≤ l.length := by
  unfold lsig at h; split at h
  · cases h
  · cases h; simp
theorem lsig_ne {l : List UInt8} {ec : Nat} (h : lsig l = .error ec) : ec ≠ 0 := by
  unfold lsig at h; split at h
  · rename_i h'; cases h; have := scan_err l 0 0 _ h'; omega
  · cases h
theorem ltru_le {l rest : List UInt8} {n : Bool} (h : ltru l = .ok (n, rest)) : rest.length ≤ l.length := by
  unfold ltru at h; split at h
  · cases h
  · split at h
    · cases h
    · cases h; simp
theorem ltru_ne {l : List UInt8} {ec : Nat} (h : ltru l = .error ec) : ec ≠ 0 := by
  unfold ltru at h; split at h
  · cases h; omega
  · split at h
    · cases h; omega
    · cases h
set_option maxHeartbeats 400000 in
theorem bounded45_any (K : Nat) (n : Int) (w : World) :
    Calls Try.prog 45 #[.func (Fn.func K) #[] #[], .int .i64 n] w fun e w' => e = .returned (.func (Fn.func 64) #[] #[.pointer (some ⟨w.heap.size + 1, 0, none⟩), .pointer (some ⟨w.heap.size, 0, none⟩)]) ∧ w' = (w.alloc (.cells #[.func (Fn.func K) #[] #[]] 86)).alloc (.cells #[.int .i64 n] 2) := by
  go_enter Try.func45, Try.ntmps45
  go_wp2_with fail
  go_ret
  exact ⟨rfl, rfl⟩
set_option maxHeartbeats 400000 in
theorem bounded51_any (K : Nat) (n : Int) (w : World) :
    Calls Try.prog 51 #[.func (Fn.func K) #[] #[], .int .i64 n] w fun e w' => e = .returned (.func (Fn.func 67) #[] #[.pointer (some ⟨w.heap.size + 1, 0, none⟩), .pointer (some ⟨w.heap.size, 0, none⟩)]) ∧ w' = (w.alloc (.cells #[.func (Fn.func K) #[] #[]] 94)).alloc (.cells #[.int .i64 n] 3) := by
  go_enter Try.func51, Try.ntmps51
  go_wp2_with fail
  go_ret
  exact ⟨rfl, rfl⟩
set_option maxHeartbeats 400000 in
theorem bounded54_any (K : Nat) (n : Int) (w : World) :
    Calls Try.prog 54 #[.func (Fn.func K) #[] #[], .int .i64 n] w fun e w' => e = .returned (.func (Fn.func 69) #[] #[.pointer (some ⟨w.heap.size + 1, 0, none⟩), .pointer (some ⟨w.heap.size, 0, none⟩)]) ∧ w' = (w.alloc (.cells #[.func (Fn.func K) #[] #[]] 98)).alloc (.cells #[.int .i64 n] 3) := by
  go_enter Try.func54, Try.ntmps54
  go_wp2_with fail
  go_ret
  exact ⟨rfl, rfl⟩
set_option maxHeartbeats 1000000 in
theorem rnumberR_any (R : Nat → Prop) (r : Nat) (hRr : R r) (lv : Value) (rest : List UInt8) (at_ : Nat) (most : Int) (w : World) (hR : Rd w r lv rest at_ 0) (hby : BytesAp R w lv rest) (hat : at_ + rest.length ≤ 10000000000) :
    Calls Try.prog 23 #[.pointer (some ⟨r, 0, none⟩), .int .i64 most] w fun e w' => RAnsR R (.int .i64 0) w w' r lv rest at_ (vN (bnd most (lnum most rest))) e := by
  obtain ⟨hB1, hk1, hb1, hz1⟩ := two_boxes w (.func (Fn.func 46) #[] #[]) (.int .i64 most) 86 2
  have hbd := bounded45_any 46 most w
  generalize hw1 : (w.alloc (.cells #[.func (Fn.func 46) #[] #[]] 86)).alloc (.cells #[.int .i64 most] 2) = w1 at *
  clear hw1
  have hR1 := hR.below hB1
  have hby1 := hby.fr (S' := fun _ => False) (Fr.of_below hB1) (fun _ _ h => h.elim)
  have hcl : ∀ W, Has W w1.heap.size #[lv] 80 → Below w1.heap.size w1 W → Calls Try.prog 64 #[.pointer (some ⟨w1.heap.size, 0, none⟩), .pointer (some ⟨w.heap.size + 1, 0, none⟩), .pointer (some ⟨w.heap.size, 0, none⟩)] W fun e w' => Ans R w1.heap.size W (vN (bnd most (lnum most rest))) e w' := fun W h1 h2 => clos64_46 R w1.heap.size (w.heap.size + 1) w.heap.size lv rest most W h1 (hby1.lp h2) (by omega) ((h2.cell (p := ⟨w.heap.size + 1, 0, none⟩) (by simp; omega)).trans hb1.one) ((h2.cell (p := ⟨w.heap.size, 0, none⟩) (by simp; omega)).trans hk1.one)
  have hle : ∀ d rest', bnd most (lnum most rest) = .ok (d, rest') → rest'.length ≤ rest.length := fun d rest' h => lnum_le (bnd_ok h)
  have hne : ∀ ec, bnd most (lnum most rest) = .error ec → ec ≠ 0 := fun ec h => bnd_ne h (fun _ => lnum_ne)
  generalize bnd most (lnum most rest) = x at *
  cases x with
  | error ec =>
    have ht := take44_64_err r lv rest at_ ec w1 hR1 (.pointer (some ⟨w.heap.size + 1, 0, none⟩)) (.pointer (some ⟨w.heap.size, 0, none⟩)) (hne ec rfl) (fun W h1 h2 => (hcl W h1 h2).mono fun e w' h => h)
    clear hcl hne hle
    show Calls _ _ _ _ fun e w' => e = .returned (.tuple #[.int .i64 0, .int .i64 ec]) ∧ Flaws w w' r lv rest at_ ec
    go_enter Try.func23, Try.ntmps23
    go_wp2_with fail
    refine hbd.mono ?_
    rintro e w' ⟨rfl, hw⟩
    subst hw
    clear hbd
    go_wp2_with fail
    refine ht.mono ?_
    rintro e w2 ⟨rfl, hf⟩
    have HF : Hid (Flaws w w2 r lv rest at_ ec) := hf.after hB1
    clear hf ht
    go_wp2_with fail
    go_ret2
    exact ⟨rfl, HF.out⟩
  | ok p =>
    obtain ⟨d, rest'⟩ := p
    have ht := take44_64_ok R r hRr lv rest rest' at_ w1 hR1 (.pointer (some ⟨w.heap.size + 1, 0, none⟩)) (.pointer (some ⟨w.heap.size, 0, none⟩)) (d : Int) (hle d rest' rfl) hat (fun W h1 h2 => hcl W h1 h2)
    clear hcl hne hle
    show Calls _ _ _ _ fun e w' => e = .returned (.tuple #[.int .i64 (d : Int), .int .i64 0]) ∧ TookR R w w' r rest' (at_ + (rest.length - rest'.length))
    go_enter Try.func23, Try.ntmps23
    go_wp2_with fail
    refine hbd.mono ?_
    rintro e w' ⟨rfl, hw⟩
    subst hw
    clear hbd
    go_wp2_with fail
    refine ht.mono ?_
    rintro e w2 ⟨rfl, hf⟩
    have HF : Hid (TookR R w w2 r rest' (at_ + (rest.length - rest'.length))) := hf.after hB1
    clear hf ht
    go_wp2_with fail
    go_ret2
    exact ⟨rfl, HF.out⟩
theorem rnumber_any (r : Nat) (lv : Value) (rest : List UInt8) (at_ : Nat) (most : Int) (w : World) (hR : Rd w r lv rest at_ 0) (hat : at_ + rest.length ≤ 10000000000) :
    Calls Try.prog 23 #[.pointer (some ⟨r, 0, none⟩), .int .i64 most] w fun e w' => RAns (.int .i64 0) w w' r lv rest at_ (vN (bnd most (lnum most rest))) e :=
  (rnumberR_any (· = r) r rfl lv rest at_ most w hR hR.by_ hat).mono fun _ _ h => h.plain
set_option maxHeartbeats 1000000 in
theorem rnumber_flaw (r : Nat) (lv : Value) (rest : List UInt8) (at_ ec : Nat) (most : Int) (w : World) (hR : Rd w r lv rest at_ ec) (hec : ec ≠ 0) :
    Calls Try.prog 23 #[.pointer (some ⟨r, 0, none⟩), .int .i64 most] w fun e w' => e = .returned (.tuple #[.int .i64 0, .int .i64 ec]) ∧ Below w.heap.size w w' := by
  obtain ⟨hB1, hk1, hb1, hz1⟩ := two_boxes w (.func (Fn.func 46) #[] #[]) (.int .i64 most) 86 2
  have hbd := bounded45_any 46 most w
  generalize hw1 : (w.alloc (.cells #[.func (Fn.func 46) #[] #[]] 86)).alloc (.cells #[.int .i64 most] 2) = w1 at *
  clear hw1
  have ht := take44_64_flaw r lv rest at_ ec w1 (hR.below hB1) (.pointer (some ⟨w.heap.size + 1, 0, none⟩)) (.pointer (some ⟨w.heap.size, 0, none⟩)) hec
  go_enter Try.func23, Try.ntmps23
  go_wp2_with fail
  refine hbd.mono ?_
  rintro e w' ⟨rfl, hw⟩
  subst hw
  clear hbd
  go_wp2_with fail
  refine ht.mono ?_
  rintro e w2 ⟨rfl, kk, hw2⟩
  have HF : Hid (Below w.heap.size w w2) := hB1.trans (by rw [hw2]; exact ⟨rfl, rfl, rfl, Nat.le_refl _, fun _ _ => rfl⟩)
  clear ht hw2
  go_wp2_with fail
  go_ret2
  exact ⟨rfl, HF.out⟩
set_option maxHeartbeats 1000000 in
theorem rnumber_nil (most : Int) (w : World) :
    Calls Try.prog 23 #[.pointer none, .int .i64 most] w fun e w' => e = .returned (.tuple #[.int .i64 0, .int .i64 1]) ∧ Below w.heap.size w w' := by
  obtain ⟨hB1, hk1, hb1, hz1⟩ := two_boxes w (.func (Fn.func 46) #[] #[]) (.int .i64 most) 86 2
  have hbd := bounded45_any 46 most w
  generalize hw1 : (w.alloc (.cells #[.func (Fn.func 46) #[] #[]] 86)).alloc (.cells #[.int .i64 most] 2) = w1 at *
  clear hw1
  have ht := take44_64_nil w1 (.pointer (some ⟨w.heap.size + 1, 0, none⟩)) (.pointer (some ⟨w.heap.size, 0, none⟩)) 
  go_enter Try.func23, Try.ntmps23
  go_wp2_with fail
  refine hbd.mono ?_
  rintro e w' ⟨rfl, hw⟩
  subst hw
  clear hbd
  go_wp2_with fail
  refine ht.mono ?_
  rintro e w2 ⟨rfl, hw2⟩
  have HF : Hid (Below w.heap.size w w2) := by rw [hw2]; exact hB1
  clear ht hw2
  go_wp2_with fail
  go_ret2
  exact ⟨rfl, HF.out⟩
end Go.Proofs.Ytgoflpfafkmmgaa
