/- A reader's calls, others. -/
import Derived.Test.YtgoflpfafkmmgaaM2
namespace Go.Proofs.Ytgoflpfafkmmgaa
open Go.RowKit

set_option maxHeartbeats 1000000 in
theorem rtextR_any (R : Nat → Prop) (r : Nat) (hRr : R r) (lv : Value) (rest : List UInt8) (at_ : Nat) (most : Int) (w : World) (hR : Rd w r lv rest at_ 0) (hby : BytesAp R w lv rest) (hat : at_ + rest.length ≤ 10000000000) :
    Calls Try.prog 31 #[.pointer (some ⟨r, 0, none⟩), .int .i64 most] w fun e w' => RAnsR R (.string ⟨#[]⟩) w w' r lv rest at_ (vS (bnd most (lbyt most rest))) e := by
  obtain ⟨hB1, hk1, hb1, hz1⟩ := two_boxes w (.func (Fn.func 55) #[] #[]) (.int .i64 most) 98 3
  have hbd := bounded54_any 55 most w
  generalize hw1 : (w.alloc (.cells #[.func (Fn.func 55) #[] #[]] 98)).alloc (.cells #[.int .i64 most] 3) = w1 at *
  clear hw1
  have hR1 := hR.below hB1
  have hby1 := hby.fr (S' := fun _ => False) (Fr.of_below hB1) (fun _ _ h => h.elim)
  have hcl : ∀ W, Has W w1.heap.size #[lv] 80 → Below w1.heap.size w1 W → Calls Try.prog 69 #[.pointer (some ⟨w1.heap.size, 0, none⟩), .pointer (some ⟨w.heap.size + 1, 0, none⟩), .pointer (some ⟨w.heap.size, 0, none⟩)] W fun e w' => Ans R w1.heap.size W (vS (bnd most (lbyt most rest))) e w' := fun W h1 h2 => clos69_55 R w1.heap.size (w.heap.size + 1) w.heap.size lv rest most W h1 (hby1.lp h2) (by omega) ((h2.cell (p := ⟨w.heap.size + 1, 0, none⟩) (by simp; omega)).trans hb1.one) ((h2.cell (p := ⟨w.heap.size, 0, none⟩) (by simp; omega)).trans hk1.one)
  have hle : ∀ d rest', bnd most (lbyt most rest) = .ok (d, rest') → rest'.length ≤ rest.length := fun d rest' h => lbyt_le (bnd_ok h)
  have hne : ∀ ec, bnd most (lbyt most rest) = .error ec → ec ≠ 0 := fun ec h => bnd_ne h (fun _ => lbyt_ne)
  generalize bnd most (lbyt most rest) = x at *
  cases x with
  | error ec =>
    have ht := take53_69_err r lv rest at_ ec w1 hR1 (.pointer (some ⟨w.heap.size + 1, 0, none⟩)) (.pointer (some ⟨w.heap.size, 0, none⟩)) (hne ec rfl) (fun W h1 h2 => (hcl W h1 h2).mono fun e w' h => h)
    clear hcl hne hle
    show Calls _ _ _ _ fun e w' => e = .returned (.tuple #[.string ⟨#[]⟩, .int .i64 ec]) ∧ Flaws w w' r lv rest at_ ec
    go_enter Try.func31, Try.ntmps31
    go_wp2_with fail
    refine hbd.mono ?_
    rintro e w' ⟨rfl, hw⟩
    subst hw
    clear hbd
    go_wp2_with fail
    refine ht.mono ?_
    rintro e w2 ⟨rfl, hf⟩
    have HF : Hid (Flaws w w2 r lv rest at_ ec) := hf.after hB1
    clear hf ht
    go_wp2_with fail
    go_ret2
    exact ⟨rfl, HF.out⟩
  | ok p =>
    obtain ⟨d, rest'⟩ := p
    have ht := take53_69_ok R r hRr lv rest rest' at_ w1 hR1 (.pointer (some ⟨w.heap.size + 1, 0, none⟩)) (.pointer (some ⟨w.heap.size, 0, none⟩)) ⟨d.toArray⟩ (hle d rest' rfl) hat (fun W h1 h2 => hcl W h1 h2)
    clear hcl hne hle
    show Calls _ _ _ _ fun e w' => e = .returned (.tuple #[.string ⟨d.toArray⟩, .int .i64 0]) ∧ TookR R w w' r rest' (at_ + (rest.length - rest'.length))
    go_enter Try.func31, Try.ntmps31
    go_wp2_with fail
    refine hbd.mono ?_
    rintro e w' ⟨rfl, hw⟩
    subst hw
    clear hbd
    go_wp2_with fail
    refine ht.mono ?_
    rintro e w2 ⟨rfl, hf⟩
    have HF : Hid (TookR R w w2 r rest' (at_ + (rest.length - rest'.length))) := hf.after hB1
    clear hf ht
    go_wp2_with fail
    go_ret2
    exact ⟨rfl, HF.out⟩
theorem rtext_any (r : Nat) (lv : Value) (rest : List UInt8) (at_ : Nat) (most : Int) (w : World) (hR : Rd w r lv rest at_ 0) (hat : at_ + rest.length ≤ 10000000000) :
    Calls Try.prog 31 #[.pointer (some ⟨r, 0, none⟩), .int .i64 most] w fun e w' => RAns (.string ⟨#[]⟩) w w' r lv rest at_ (vS (bnd most (lbyt most rest))) e :=
  (rtextR_any (· = r) r rfl lv rest at_ most w hR hR.by_ hat).mono fun _ _ h => h.plain
set_option maxHeartbeats 1000000 in
theorem rtext_flaw (r : Nat) (lv : Value) (rest : List UInt8) (at_ ec : Nat) (most : Int) (w : World) (hR : Rd w r lv rest at_ ec) (hec : ec ≠ 0) :
    Calls Try.prog 31 #[.pointer (some ⟨r, 0, none⟩), .int .i64 most] w fun e w' => e = .returned (.tuple #[.string ⟨#[]⟩, .int .i64 ec]) ∧ Below w.heap.size w w' := by
  obtain ⟨hB1, hk1, hb1, hz1⟩ := two_boxes w (.func (Fn.func 55) #[] #[]) (.int .i64 most) 98 3
  have hbd := bounded54_any 55 most w
  generalize hw1 : (w.alloc (.cells #[.func (Fn.func 55) #[] #[]] 98)).alloc (.cells #[.int .i64 most] 3) = w1 at *
  clear hw1
  have ht := take53_69_flaw r lv rest at_ ec w1 (hR.below hB1) (.pointer (some ⟨w.heap.size + 1, 0, none⟩)) (.pointer (some ⟨w.heap.size, 0, none⟩)) hec
  go_enter Try.func31, Try.ntmps31
  go_wp2_with fail
  refine hbd.mono ?_
  rintro e w' ⟨rfl, hw⟩
  subst hw
  clear hbd
  go_wp2_with fail
  refine ht.mono ?_
  rintro e w2 ⟨rfl, kk, hw2⟩
  have HF : Hid (Below w.heap.size w w2) := hB1.trans (by rw [hw2]; exact ⟨rfl, rfl, rfl, Nat.le_refl _, fun _ _ => rfl⟩)
  clear ht hw2
  go_wp2_with fail
  go_ret2
  exact ⟨rfl, HF.out⟩
set_option maxHeartbeats 1000000 in
theorem rtext_nil (most : Int) (w : World) :
    Calls Try.prog 31 #[.pointer none, .int .i64 most] w fun e w' => e = .returned (.tuple #[.string ⟨#[]⟩, .int .i64 1]) ∧ Below w.heap.size w w' := by
  obtain ⟨hB1, hk1, hb1, hz1⟩ := two_boxes w (.func (Fn.func 55) #[] #[]) (.int .i64 most) 98 3
  have hbd := bounded54_any 55 most w
  generalize hw1 : (w.alloc (.cells #[.func (Fn.func 55) #[] #[]] 98)).alloc (.cells #[.int .i64 most] 3) = w1 at *
  clear hw1
  have ht := take53_69_nil w1 (.pointer (some ⟨w.heap.size + 1, 0, none⟩)) (.pointer (some ⟨w.heap.size, 0, none⟩)) 
  go_enter Try.func31, Try.ntmps31
  go_wp2_with fail
  refine hbd.mono ?_
  rintro e w' ⟨rfl, hw⟩
  subst hw
  clear hbd
  go_wp2_with fail
  refine ht.mono ?_
  rintro e w2 ⟨rfl, hw2⟩
  have HF : Hid (Below w.heap.size w w2) := by rw [hw2]; exact hB1
  clear ht hw2
  go_wp2_with fail
  go_ret2
  exact ⟨rfl, HF.out⟩
set_option maxHeartbeats 1000000 in
theorem rsignedR_any (R : Nat → Prop) (r : Nat) (hRr : R r) (lv : Value) (rest : List UInt8) (at_ : Nat) (w : World) (hR : Rd w r lv rest at_ 0) (hby : BytesAp R w lv rest) (hat : at_ + rest.length ≤ 10000000000) :
    Calls Try.prog 27 #[.pointer (some ⟨r, 0, none⟩)] w fun e w' => RAnsR R (.int .i64 0) w w' r lv rest at_ (vI (lsig rest)) e := by
  have hcl : ∀ W, Has W w.heap.size #[lv] 80 → Below w.heap.size w W → Calls Try.prog 49 #[.pointer (some ⟨w.heap.size, 0, none⟩)] W fun e w' => Ans R w.heap.size W (vI (lsig rest)) e w' := fun W h1 h2 => lsigned_any R w.heap.size lv rest W h1 (hby.lp h2) (by omega)
  have hle : ∀ d rest', lsig rest = .ok (d, rest') → rest'.length ≤ rest.length := fun d rest' h => lsig_le h
  have hne : ∀ ec, lsig rest = .error ec → ec ≠ 0 := fun ec h => lsig_ne h
  generalize lsig rest = x at *
  cases x with
  | error ec =>
    have ht := take44_49_err r lv rest at_ ec w hR (hne ec rfl) (fun W h1 h2 => (hcl W h1 h2).mono fun e w' h => h)
    clear hcl hne hle
    show Calls _ _ _ _ fun e w' => e = .returned (.tuple #[.int .i64 0, .int .i64 ec]) ∧ Flaws w w' r lv rest at_ ec
    go_enter Try.func27, Try.ntmps27
    go_wp2_with fail
    refine ht.mono ?_
    rintro e w2 ⟨rfl, hf⟩
    have HF : Hid (Flaws w w2 r lv rest at_ ec) := hf
    clear hf ht
    go_wp2_with fail
    go_ret2
    exact ⟨rfl, HF.out⟩
  | ok p =>
    obtain ⟨d, rest'⟩ := p
    have ht := take44_49_ok R r hRr lv rest rest' at_ w hR d (hle d rest' rfl) hat (fun W h1 h2 => hcl W h1 h2)
    clear hcl hne hle
    show Calls _ _ _ _ fun e w' => e = .returned (.tuple #[.int .i64 d, .int .i64 0]) ∧ TookR R w w' r rest' (at_ + (rest.length - rest'.length))
    go_enter Try.func27, Try.ntmps27
    go_wp2_with fail
    refine ht.mono ?_
    rintro e w2 ⟨rfl, hf⟩
    have HF : Hid (TookR R w w2 r rest' (at_ + (rest.length - rest'.length))) := hf
    clear hf ht
    go_wp2_with fail
    go_ret2
    exact ⟨rfl, HF.out⟩
theorem rsigned_any (r : Nat) (lv : Value) (rest : List UInt8) (at_ : Nat) (w : World) (hR : Rd w r lv rest at_ 0) (hat : at_ + rest.length ≤ 10000000000) :
    Calls Try.prog 27 #[.pointer (some ⟨r, 0, none⟩)] w fun e w' => RAns (.int .i64 0) w w' r lv rest at_ (vI (lsig rest)) e :=
  (rsignedR_any (· = r) r rfl lv rest at_ w hR hR.by_ hat).mono fun _ _ h => h.plain
set_option maxHeartbeats 1000000 in
theorem rsigned_flaw (r : Nat) (lv : Value) (rest : List UInt8) (at_ ec : Nat) (w : World) (hR : Rd w r lv rest at_ ec) (hec : ec ≠ 0) :
    Calls Try.prog 27 #[.pointer (some ⟨r, 0, none⟩)] w fun e w' => e = .returned (.tuple #[.int .i64 0, .int .i64 ec]) ∧ Below w.heap.size w w' := by
  have ht := take44_49_flaw r lv rest at_ ec w hR hec
  go_enter Try.func27, Try.ntmps27
  go_wp2_with fail
  refine ht.mono ?_
  rintro e w2 ⟨rfl, kk, hw2⟩
  have HF : Hid (Below w.heap.size w w2) := by rw [hw2]; exact ⟨rfl, rfl, rfl, Nat.le_refl _, fun _ _ => rfl⟩
  clear ht hw2
  go_wp2_with fail
  go_ret2
  exact ⟨rfl, HF.out⟩
set_option maxHeartbeats 1000000 in
theorem rsigned_nil (w : World) :
    Calls Try.prog 27 #[.pointer none] w fun e w' => e = .returned (.tuple #[.int .i64 0, .int .i64 1]) ∧ Below w.heap.size w w' := by
  have ht := take44_49_nil w
  go_enter Try.func27, Try.ntmps27
  go_wp2_with fail
  refine ht.mono ?_
  rintro e w2 ⟨rfl, hw2⟩
  have HF : Hid (Below w.heap.size w w2) := by rw [hw2]; exact Below.refl _ _
  clear ht hw2
  go_wp2_with fail
  go_ret2
  exact ⟨rfl, HF.out⟩
set_option maxHeartbeats 1000000 in
theorem rtruthR_any (R : Nat → Prop) (r : Nat) (hRr : R r) (lv : Value) (rest : List UInt8) (at_ : Nat) (w : World) (hR : Rd w r lv rest at_ 0) (hby : BytesAp R w lv rest) (hat : at_ + rest.length ≤ 10000000000) :
    Calls Try.prog 38 #[.pointer (some ⟨r, 0, none⟩)] w fun e w' => RAnsR R (.bool false) w w' r lv rest at_ (vT (ltru rest)) e := by
  have hcl : ∀ W, Has W w.heap.size #[lv] 80 → Below w.heap.size w W → Calls Try.prog 62 #[.pointer (some ⟨w.heap.size, 0, none⟩)] W fun e w' => Ans R w.heap.size W (vT (ltru rest)) e w' := fun W h1 h2 => ltruth_any R w.heap.size lv rest W h1 (hby.lp h2) (by omega)
  have hle : ∀ d rest', ltru rest = .ok (d, rest') → rest'.length ≤ rest.length := fun d rest' h => ltru_le h
  have hne : ∀ ec, ltru rest = .error ec → ec ≠ 0 := fun ec h => ltru_ne h
  generalize ltru rest = x at *
  cases x with
  | error ec =>
    have ht := take61_62_err r lv rest at_ ec w hR (hne ec rfl) (fun W h1 h2 => (hcl W h1 h2).mono fun e w' h => h)
    clear hcl hne hle
    show Calls _ _ _ _ fun e w' => e = .returned (.tuple #[.bool false, .int .i64 ec]) ∧ Flaws w w' r lv rest at_ ec
    go_enter Try.func38, Try.ntmps38
    go_wp2_with fail
    refine ht.mono ?_
    rintro e w2 ⟨rfl, hf⟩
    have HF : Hid (Flaws w w2 r lv rest at_ ec) := hf
    clear hf ht
    go_wp2_with fail
    go_ret2
    exact ⟨rfl, HF.out⟩
  | ok p =>
    obtain ⟨d, rest'⟩ := p
    have ht := take61_62_ok R r hRr lv rest rest' at_ w hR d (hle d rest' rfl) hat (fun W h1 h2 => hcl W h1 h2)
    clear hcl hne hle
    show Calls _ _ _ _ fun e w' => e = .returned (.tuple #[.bool d, .int .i64 0]) ∧ TookR R w w' r rest' (at_ + (rest.length - rest'.length))
    go_enter Try.func38, Try.ntmps38
    go_wp2_with fail
    refine ht.mono ?_
    rintro e w2 ⟨rfl, hf⟩
    have HF : Hid (TookR R w w2 r rest' (at_ + (rest.length - rest'.length))) := hf
    clear hf ht
    go_wp2_with fail
    go_ret2
    exact ⟨rfl, HF.out⟩
theorem rtruth_any (r : Nat) (lv : Value) (rest : List UInt8) (at_ : Nat) (w : World) (hR : Rd w r lv rest at_ 0) (hat : at_ + rest.length ≤ 10000000000) :
    Calls Try.prog 38 #[.pointer (some ⟨r, 0, none⟩)] w fun e w' => RAns (.bool false) w w' r lv rest at_ (vT (ltru rest)) e :=
  (rtruthR_any (· = r) r rfl lv rest at_ w hR hR.by_ hat).mono fun _ _ h => h.plain
set_option maxHeartbeats 1000000 in
theorem rtruth_flaw (r : Nat) (lv : Value) (rest : List UInt8) (at_ ec : Nat) (w : World) (hR : Rd w r lv rest at_ ec) (hec : ec ≠ 0) :
    Calls Try.prog 38 #[.pointer (some ⟨r, 0, none⟩)] w fun e w' => e = .returned (.tuple #[.bool false, .int .i64 ec]) ∧ Below w.heap.size w w' := by
  have ht := take61_62_flaw r lv rest at_ ec w hR hec
  go_enter Try.func38, Try.ntmps38
  go_wp2_with fail
  refine ht.mono ?_
  rintro e w2 ⟨rfl, kk, hw2⟩
  have HF : Hid (Below w.heap.size w w2) := by rw [hw2]; exact ⟨rfl, rfl, rfl, Nat.le_refl _, fun _ _ => rfl⟩
  clear ht hw2
  go_wp2_with fail
  go_ret2
  exact ⟨rfl, HF.out⟩
set_option maxHeartbeats 1000000 in
theorem rtruth_nil (w : World) :
    Calls Try.prog 38 #[.pointer none] w fun e w' => e = .returned (.tuple #[.bool false, .int .i64 1]) ∧ Below w.heap.size w w' := by
  have ht := take61_62_nil w
  go_enter Try.func38, Try.ntmps38
  go_wp2_with fail
  refine ht.mono ?_
  rintro e w2 ⟨rfl, hw2⟩
  have HF : Hid (Below w.heap.size w w2) := by rw [hw2]; exact Below.refl _ _
  clear ht hw2
  go_wp2_with fail
  go_ret2
  exact ⟨rfl, HF.out⟩
end Go.Proofs.Ytgoflpfafkmmgaa
