/- A reader's calls, others. -/
import Derived.Test.YtgoflpfafkmmgaaM2
namespace Go.Proofs.Ytgoflpfafkmmgaa
open Go.RowKit

set_option maxHeartbeats 1000000 in
theorem rbytesR_any (R : Nat → Prop) (r : Nat) (hRr : R r) (lv : Value) (rest : List UInt8) (at_ : Nat) (most : Int) (w : World) (hR : Rd w r lv rest at_ 0) (hby : BytesAp R w lv rest) (hat : at_ + rest.length ≤ 10000000000) :
    Calls Try.prog 30 #[.pointer (some ⟨r, 0, none⟩), .int .i64 most] w fun e w' => RAnsBR R w w' r lv rest at_ (bnd most (lbyt most rest)) e := by
  obtain ⟨hB1, hk1, hb1, hz1⟩ := two_boxes w (.func (Fn.func 52) #[] #[]) (.int .i64 most) 94 3
  have hbd := bounded51_any 52 most w
  generalize hw1 : (w.alloc (.cells #[.func (Fn.func 52) #[] #[]] 94)).alloc (.cells #[.int .i64 most] 3) = w1 at *
  clear hw1
  have hR1 := hR.below hB1
  have hby1 := hby.fr (S' := fun _ => False) (Fr.of_below hB1) (fun _ _ h => h.elim)
  have hcl : ∀ W, Has W w1.heap.size #[lv] 80 → Below w1.heap.size w1 W → Calls Try.prog 67 #[.pointer (some ⟨w1.heap.size, 0, none⟩), .pointer (some ⟨w.heap.size + 1, 0, none⟩), .pointer (some ⟨w.heap.size, 0, none⟩)] W fun e w' => AnsB R w1.heap.size W (bnd most (lbyt most rest)) e w' := fun W h1 h2 => clos67_52 R w1.heap.size (w.heap.size + 1) w.heap.size lv rest most W h1 (hby1.lp h2) (by omega) ((h2.cell (p := ⟨w.heap.size + 1, 0, none⟩) (by simp; omega)).trans hb1.one) ((h2.cell (p := ⟨w.heap.size, 0, none⟩) (by simp; omega)).trans hk1.one)
  have hle : ∀ d rest', bnd most (lbyt most rest) = .ok (d, rest') → rest'.length ≤ rest.length := fun d rest' h => lbyt_le (bnd_ok h)
  have hne : ∀ ec, bnd most (lbyt most rest) = .error ec → ec ≠ 0 := fun ec h => bnd_ne h (fun _ => lbyt_ne)
  generalize bnd most (lbyt most rest) = x at *
  cases x with
  | error ec =>
    have ht := take50_67_err r lv rest at_ ec w1 hR1 (.pointer (some ⟨w.heap.size + 1, 0, none⟩)) (.pointer (some ⟨w.heap.size, 0, none⟩)) (hne ec rfl) (fun W h1 h2 => (hcl W h1 h2).mono fun e w' h => AnsB.failed h)
    clear hcl hne hle
    show Calls _ _ _ _ fun e w' => e = .returned (.tuple #[.slice none 0 0, .int .i64 ec]) ∧ Flaws w w' r lv rest at_ ec
    go_enter Try.func30, Try.ntmps30
    go_wp2_with fail
    refine hbd.mono ?_
    rintro e w' ⟨rfl, hw⟩
    subst hw
    clear hbd
    go_wp2_with fail
    refine ht.mono ?_
    rintro e w2 ⟨rfl, hf⟩
    have HF : Hid (Flaws w w2 r lv rest at_ ec) := hf.after hB1
    clear hf ht
    go_wp2_with fail
    go_ret2
    exact ⟨rfl, HF.out⟩
  | ok p =>
    obtain ⟨d, rest'⟩ := p
    have hlt := hR.lt
    have ht := take50_67_ok R r hRr lv rest rest' at_ w1 hR1 (.pointer (some ⟨w.heap.size + 1, 0, none⟩)) (.pointer (some ⟨w.heap.size, 0, none⟩)) d (hle d rest' rfl) hat (fun W h1 h2 => (hcl W h1 h2).mono fun e w' h => by
      obtain ⟨v, ha, hb, hc⟩ := h
      exact ⟨v, ha, hb, fun k hk => Nat.lt_of_lt_of_le h1.lt (hc k hk)⟩)
    clear hcl hne hle
    show Calls _ _ _ _ fun e w' => ∃ v, e = .returned (.tuple #[v, .int .i64 0]) ∧ TookR R w w' r rest' (at_ + (rest.length - rest'.length)) ∧ Own w' v d ∧ ∀ k, v.ownBlock = some k → w.heap.size ≤ k
    go_enter Try.func30, Try.ntmps30
    go_wp2_with fail
    refine hbd.mono ?_
    rintro e w' ⟨rfl, hw⟩
    subst hw
    clear hbd
    go_wp2_with fail
    refine ht.mono ?_
    rintro e w2 ⟨v, rfl, hf, hown, hnew⟩
    obtain ⟨va, vc, rfl⟩ := hown.slice
    have HF : Hid (TookR R w w2 r rest' (at_ + (rest.length - rest'.length)) ∧ Own w2 (.slice va d.length vc) d ∧ ∀ k, (Value.slice va d.length vc).ownBlock = some k → w.heap.size ≤ k) := ⟨hf.after hB1, hown, fun k hk => Nat.le_trans hB1.size (hnew k hk)⟩
    clear hf ht hown hnew
    go_wp2_with fail
    go_ret2
    exact ⟨_, rfl, HF.out⟩
theorem rbytes_any (r : Nat) (lv : Value) (rest : List UInt8) (at_ : Nat) (most : Int) (w : World) (hR : Rd w r lv rest at_ 0) (hat : at_ + rest.length ≤ 10000000000) :
    Calls Try.prog 30 #[.pointer (some ⟨r, 0, none⟩), .int .i64 most] w fun e w' => RAnsB w w' r lv rest at_ (bnd most (lbyt most rest)) e :=
  (rbytesR_any (· = r) r rfl lv rest at_ most w hR hR.by_ hat).mono fun _ _ h => h.plain
set_option maxHeartbeats 1000000 in
theorem rbytes_flaw (r : Nat) (lv : Value) (rest : List UInt8) (at_ ec : Nat) (most : Int) (w : World) (hR : Rd w r lv rest at_ ec) (hec : ec ≠ 0) :
    Calls Try.prog 30 #[.pointer (some ⟨r, 0, none⟩), .int .i64 most] w fun e w' => e = .returned (.tuple #[.slice none 0 0, .int .i64 ec]) ∧ Below w.heap.size w w' := by
  obtain ⟨hB1, hk1, hb1, hz1⟩ := two_boxes w (.func (Fn.func 52) #[] #[]) (.int .i64 most) 94 3
  have hbd := bounded51_any 52 most w
  generalize hw1 : (w.alloc (.cells #[.func (Fn.func 52) #[] #[]] 94)).alloc (.cells #[.int .i64 most] 3) = w1 at *
  clear hw1
  have ht := take50_67_flaw r lv rest at_ ec w1 (hR.below hB1) (.pointer (some ⟨w.heap.size + 1, 0, none⟩)) (.pointer (some ⟨w.heap.size, 0, none⟩)) hec
  go_enter Try.func30, Try.ntmps30
  go_wp2_with fail
  refine hbd.mono ?_
  rintro e w' ⟨rfl, hw⟩
  subst hw
  clear hbd
  go_wp2_with fail
  refine ht.mono ?_
  rintro e w2 ⟨rfl, kk, hw2⟩
  have HF : Hid (Below w.heap.size w w2) := hB1.trans (by rw [hw2]; exact ⟨rfl, rfl, rfl, Nat.le_refl _, fun _ _ => rfl⟩)
  clear ht hw2
  go_wp2_with fail
  go_ret2
  exact ⟨rfl, HF.out⟩
set_option maxHeartbeats 1000000 in
theorem rbytes_nil (most : Int) (w : World) :
    Calls Try.prog 30 #[.pointer none, .int .i64 most] w fun e w' => e = .returned (.tuple #[.slice none 0 0, .int .i64 1]) ∧ Below w.heap.size w w' := by
  obtain ⟨hB1, hk1, hb1, hz1⟩ := two_boxes w (.func (Fn.func 52) #[] #[]) (.int .i64 most) 94 3
  have hbd := bounded51_any 52 most w
  generalize hw1 : (w.alloc (.cells #[.func (Fn.func 52) #[] #[]] 94)).alloc (.cells #[.int .i64 most] 3) = w1 at *
  clear hw1
  have ht := take50_67_nil w1 (.pointer (some ⟨w.heap.size + 1, 0, none⟩)) (.pointer (some ⟨w.heap.size, 0, none⟩)) 
  go_enter Try.func30, Try.ntmps30
  go_wp2_with fail
  refine hbd.mono ?_
  rintro e w' ⟨rfl, hw⟩
  subst hw
  clear hbd
  go_wp2_with fail
  refine ht.mono ?_
  rintro e w2 ⟨rfl, hw2⟩
  have HF : Hid (Below w.heap.size w w2) := by rw [hw2]; exact hB1
  clear ht hw2
  go_wp2_with fail
  go_ret2
  exact ⟨rfl, HF.out⟩
set_option maxHeartbeats 1000000 in
theorem rrawR_any (R : Nat → Prop) (r : Nat) (hRr : R r) (lv : Value) (rest : List UInt8) (at_ : Nat) (most : Int) (w : World) (hR : Rd w r lv rest at_ 0) (hby : BytesAp R w lv rest) (hat : at_ + rest.length ≤ 10000000000) :
    Calls Try.prog 60 #[.pointer (some ⟨r, 0, none⟩), .int .i64 most] w fun e w' => RAnsBR R w w' r lv rest at_ (bnd most (lraw most.toNat rest)) e := by
  obtain ⟨hB1, hk1, hb1, hz1⟩ := two_boxes w (.func (Fn.func 68) #[] #[]) (.int .i64 most) 94 3
  have hbd := bounded51_any 68 most w
  generalize hw1 : (w.alloc (.cells #[.func (Fn.func 68) #[] #[]] 94)).alloc (.cells #[.int .i64 most] 3) = w1 at *
  clear hw1
  have hR1 := hR.below hB1
  have hby1 := hby.fr (S' := fun _ => False) (Fr.of_below hB1) (fun _ _ h => h.elim)
  have hcl : ∀ W, Has W w1.heap.size #[lv] 80 → Below w1.heap.size w1 W → Calls Try.prog 67 #[.pointer (some ⟨w1.heap.size, 0, none⟩), .pointer (some ⟨w.heap.size + 1, 0, none⟩), .pointer (some ⟨w.heap.size, 0, none⟩)] W fun e w' => AnsB R w1.heap.size W (bnd most (lraw most.toNat rest)) e w' := fun W h1 h2 => clos67_68 R w1.heap.size (w.heap.size + 1) w.heap.size lv rest most W h1 (hby1.lp h2) (by omega) ((h2.cell (p := ⟨w.heap.size + 1, 0, none⟩) (by simp; omega)).trans hb1.one) ((h2.cell (p := ⟨w.heap.size, 0, none⟩) (by simp; omega)).trans hk1.one)
  have hle : ∀ d rest', bnd most (lraw most.toNat rest) = .ok (d, rest') → rest'.length ≤ rest.length := fun d rest' h => lraw_le (bnd_ok h)
  have hne : ∀ ec, bnd most (lraw most.toNat rest) = .error ec → ec ≠ 0 := fun ec h => bnd_ne h (fun _ => lraw_ne)
  generalize bnd most (lraw most.toNat rest) = x at *
  cases x with
  | error ec =>
    have ht := take50_67_err r lv rest at_ ec w1 hR1 (.pointer (some ⟨w.heap.size + 1, 0, none⟩)) (.pointer (some ⟨w.heap.size, 0, none⟩)) (hne ec rfl) (fun W h1 h2 => (hcl W h1 h2).mono fun e w' h => AnsB.failed h)
    clear hcl hne hle
    show Calls _ _ _ _ fun e w' => e = .returned (.tuple #[.slice none 0 0, .int .i64 ec]) ∧ Flaws w w' r lv rest at_ ec
    go_enter Try.func60, Try.ntmps60
    go_wp2_with fail
    refine hbd.mono ?_
    rintro e w' ⟨rfl, hw⟩
    subst hw
    clear hbd
    go_wp2_with fail
    refine ht.mono ?_
    rintro e w2 ⟨rfl, hf⟩
    have HF : Hid (Flaws w w2 r lv rest at_ ec) := hf.after hB1
    clear hf ht
    go_wp2_with fail
    go_ret2
    exact ⟨rfl, HF.out⟩
  | ok p =>
    obtain ⟨d, rest'⟩ := p
    have hlt := hR.lt
    have ht := take50_67_ok R r hRr lv rest rest' at_ w1 hR1 (.pointer (some ⟨w.heap.size + 1, 0, none⟩)) (.pointer (some ⟨w.heap.size, 0, none⟩)) d (hle d rest' rfl) hat (fun W h1 h2 => (hcl W h1 h2).mono fun e w' h => by
      obtain ⟨v, ha, hb, hc⟩ := h
      exact ⟨v, ha, hb, fun k hk => Nat.lt_of_lt_of_le h1.lt (hc k hk)⟩)
    clear hcl hne hle
    show Calls _ _ _ _ fun e w' => ∃ v, e = .returned (.tuple #[v, .int .i64 0]) ∧ TookR R w w' r rest' (at_ + (rest.length - rest'.length)) ∧ Own w' v d ∧ ∀ k, v.ownBlock = some k → w.heap.size ≤ k
    go_enter Try.func60, Try.ntmps60
    go_wp2_with fail
    refine hbd.mono ?_
    rintro e w' ⟨rfl, hw⟩
    subst hw
    clear hbd
    go_wp2_with fail
    refine ht.mono ?_
    rintro e w2 ⟨v, rfl, hf, hown, hnew⟩
    obtain ⟨va, vc, rfl⟩ := hown.slice
    have HF : Hid (TookR R w w2 r rest' (at_ + (rest.length - rest'.length)) ∧ Own w2 (.slice va d.length vc) d ∧ ∀ k, (Value.slice va d.length vc).ownBlock = some k → w.heap.size ≤ k) := ⟨hf.after hB1, hown, fun k hk => Nat.le_trans hB1.size (hnew k hk)⟩
    clear hf ht hown hnew
    go_wp2_with fail
    go_ret2
    exact ⟨_, rfl, HF.out⟩
theorem rraw_any (r : Nat) (lv : Value) (rest : List UInt8) (at_ : Nat) (most : Int) (w : World) (hR : Rd w r lv rest at_ 0) (hat : at_ + rest.length ≤ 10000000000) :
    Calls Try.prog 60 #[.pointer (some ⟨r, 0, none⟩), .int .i64 most] w fun e w' => RAnsB w w' r lv rest at_ (bnd most (lraw most.toNat rest)) e :=
  (rrawR_any (· = r) r rfl lv rest at_ most w hR hR.by_ hat).mono fun _ _ h => h.plain
set_option maxHeartbeats 1000000 in
theorem rraw_flaw (r : Nat) (lv : Value) (rest : List UInt8) (at_ ec : Nat) (most : Int) (w : World) (hR : Rd w r lv rest at_ ec) (hec : ec ≠ 0) :
    Calls Try.prog 60 #[.pointer (some ⟨r, 0, none⟩), .int .i64 most] w fun e w' => e = .returned (.tuple #[.slice none 0 0, .int .i64 ec]) ∧ Below w.heap.size w w' := by
  obtain ⟨hB1, hk1, hb1, hz1⟩ := two_boxes w (.func (Fn.func 68) #[] #[]) (.int .i64 most) 94 3
  have hbd := bounded51_any 68 most w
  generalize hw1 : (w.alloc (.cells #[.func (Fn.func 68) #[] #[]] 94)).alloc (.cells #[.int .i64 most] 3) = w1 at *
  clear hw1
  have ht := take50_67_flaw r lv rest at_ ec w1 (hR.below hB1) (.pointer (some ⟨w.heap.size + 1, 0, none⟩)) (.pointer (some ⟨w.heap.size, 0, none⟩)) hec
  go_enter Try.func60, Try.ntmps60
  go_wp2_with fail
  refine hbd.mono ?_
  rintro e w' ⟨rfl, hw⟩
  subst hw
  clear hbd
  go_wp2_with fail
  refine ht.mono ?_
  rintro e w2 ⟨rfl, kk, hw2⟩
  have HF : Hid (Below w.heap.size w w2) := hB1.trans (by rw [hw2]; exact ⟨rfl, rfl, rfl, Nat.le_refl _, fun _ _ => rfl⟩)
  clear ht hw2
  go_wp2_with fail
  go_ret2
  exact ⟨rfl, HF.out⟩
set_option maxHeartbeats 1000000 in
theorem rraw_nil (most : Int) (w : World) :
    Calls Try.prog 60 #[.pointer none, .int .i64 most] w fun e w' => e = .returned (.tuple #[.slice none 0 0, .int .i64 1]) ∧ Below w.heap.size w w' := by
  obtain ⟨hB1, hk1, hb1, hz1⟩ := two_boxes w (.func (Fn.func 68) #[] #[]) (.int .i64 most) 94 3
  have hbd := bounded51_any 68 most w
  generalize hw1 : (w.alloc (.cells #[.func (Fn.func 68) #[] #[]] 94)).alloc (.cells #[.int .i64 most] 3) = w1 at *
  clear hw1
  have ht := take50_67_nil w1 (.pointer (some ⟨w.heap.size + 1, 0, none⟩)) (.pointer (some ⟨w.heap.size, 0, none⟩)) 
  go_enter Try.func60, Try.ntmps60
  go_wp2_with fail
  refine hbd.mono ?_
  rintro e w' ⟨rfl, hw⟩
  subst hw
  clear hbd
  go_wp2_with fail
  refine ht.mono ?_
  rintro e w2 ⟨rfl, hw2⟩
  have HF : Hid (Below w.heap.size w w2) := by rw [hw2]; exact hB1
  clear ht hw2
  go_wp2_with fail
  go_ret2
  exact ⟨rfl, HF.out⟩
end Go.Proofs.Ytgoflpfafkmmgaa
