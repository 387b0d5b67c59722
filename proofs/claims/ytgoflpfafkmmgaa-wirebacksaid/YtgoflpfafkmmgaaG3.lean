/- The document's answer: a reader's Number. -/
import Derived.Test.YtgoflpfafkmmgaaG2
import Derived.Test.YtgoflpfafkmmgaaM2
namespace Go.Proofs.Ytgoflpfafkmmgaa
open Go.RowKit

set_option maxHeartbeats 400000 in
theorem fails_any (a : Option Addr) (n c at_ fl ec : Nat) (w : World) :
    Calls Try.prog 47 #[.agg #[.slice a n c, .int .i64 at_, .int .i64 fl], .int .i64 ec] w fun e w' => e = .returned (.agg #[.slice a n c, .int .i64 at_, .int .i64 ec]) ∧ Below w.heap.size w w' := by
  go_enter Try.func47, Try.ntmps47
  go_wp2_with fail
  exact bodyPost_ret (v := .agg #[.slice a n c, .int .i64 at_, .int .i64 ec]) (by simp [results, Try.results47, go_sem]) rfl ⟨rfl, alloc2_below _ _ _⟩
theorem alloc2_has {w : World} {x y z x' y' z' : Value} : Has ((w.alloc (.cells #[x, y, z] 45)).alloc (.cells #[x', y', z'] 45)) w.heap.size #[x, y, z] 45 ∧ Has ((w.alloc (.cells #[x, y, z] 45)).alloc (.cells #[x', y', z'] 45)) (w.heap.size + 1) #[x', y', z'] 45 ∧ ((w.alloc (.cells #[x, y, z] 45)).alloc (.cells #[x', y', z'] 45)).heap.size = w.heap.size + 2 :=
  ⟨has_old (has_new _ _ _ _ rfl), has_new _ _ _ _ (by simp), by simp⟩
theorem Below.row {B : Nat} {w w1 : World} {g : Nat} {cs : Array Value} (h : Below B w w1) (hg : B ≤ g) : Below B w (w1.setRow g cs) :=
  h.trans ⟨rfl, rfl, rfl, by simp, fun j hj => setRow_other _ _ _ _ (by omega)⟩
theorem set3_below {B g : Nat} {w w1 : World} (h : Below B w w1) (hB : B ≤ w1.heap.size) (hg : B ≤ g) (x y z : Value) : Below B w (((w1.setCell ⟨g, 0, none⟩ x).setCell ⟨g, 1, none⟩ y).setCell ⟨g, 2, none⟩ z) :=
  Below.ex h hB (((Ex.set g w1 0 x).trans (Ex.set g _ 1 y)).trans (Ex.set g _ 2 z)) hg
set_option maxHeartbeats 1000000 in
theorem refnum_flaw (a : Option Addr) (n c at_ fl : Nat) (g : Int) (w : World) (hfl : fl ≠ 0) :
    Calls Try.prog 24 #[.agg #[.slice a n c, .int .i64 at_, .int .i64 fl], .int .i64 g] w fun e w' => e = .returned (.tuple #[.agg #[.slice a n c, .int .i64 at_, .int .i64 fl], .int .i64 0, .int .i64 fl]) ∧ Below w.heap.size w w' := by
  have h1 : ¬ (fl : Int) = 0 := by omega
  go_enter Try.func24, Try.ntmps24
  go_wp2_with fail
  go_region
  go_wp2_with fail
  exact bodyPost_ret (v := .tuple #[.agg #[.slice a n c, .int .i64 at_, .int .i64 fl], .int .i64 0, .int .i64 fl]) (by simp [results, Try.results24, go_sem]) rfl ⟨rfl, (alloc2_below _ _ _).trans ⟨rfl, rfl, rfl, Nat.le_refl _, fun _ _ => rfl⟩⟩
theorem TakeR.of_err {l : List UInt8} {at_ ec : Nat} {e : Ending} (h : TakeR l at_ e) (hs : scan 0 0 (l.drop at_) = .error ec) : e = .returned (.tuple #[.int .i64 0, .int .i64 0, .int .i64 ec]) := by unfold TakeR at h; rw [hs] at h; exact h
theorem TakeR.of_ok {l : List UInt8} {at_ n k : Nat} {e : Ending} (h : TakeR l at_ e) (hs : scan 0 0 (l.drop at_) = .ok (n, k)) : e = .returned (.tuple #[.int .i64 n, .int .i64 ((at_ + k : Nat) : Int), .int .i64 0]) := by unfold TakeR at h; rw [hs] at h; exact h
set_option maxRecDepth 10000 in
set_option maxHeartbeats 1000000 in
theorem refnum_err (a : Option Addr) (c at_ : Nat) (l : List UInt8) (g : Int) (ec : Nat) (w : World) (hB : Bytes w (.slice a l.length c) l) (hat : at_ ≤ l.length) (hsm : l.length ≤ 10000000000) (hx : bnd g (lnum g (l.drop at_)) = .error ec) :
    Calls Try.prog 24 #[.agg #[.slice a l.length c, .int .i64 at_, .int .i64 0], .int .i64 g] w fun e w' => e = .returned (.tuple #[.agg #[.slice a l.length c, .int .i64 at_, .int .i64 ec], .int .i64 0, .int .i64 ec]) ∧ Below w.heap.size w w' := by
  unfold bnd at hx
  by_cases hg : g < 0
  · rw [if_pos hg] at hx
    cases hx
    go_enter Try.func24, Try.ntmps24
    go_wp2_with fail
    refine named (p := fun X => Calls _ _ _ X _) ?_
    intro W0 hW0
    have hB0 : Below w.heap.size w W0 := by rw [hW0]; exact alloc2_below _ _ _
    obtain ⟨hA, hC, hz⟩ : Has W0 w.heap.size #[.slice a l.length c, .int .i64 at_, .int .i64 0] 45 ∧ Has W0 (w.heap.size + 1) #[.slice none 0 0, .int .i64 0, .int .i64 0] 45 ∧ W0.heap.size = w.heap.size + 2 := by rw [hW0]; exact alloc2_has
    clear hW0
    refine (fails_any a l.length c at_ 0 2 W0).mono ?_
    rintro e W1 ⟨rfl, hB1⟩
    have hC1 := hC.below hB1 (by omega)
    have hB : Below w.heap.size w W1 := hB0.trans (hB1.mono (by omega))
    have s0 := hC1.cell 0
    have s1 := hC1.cell 1
    have s2 := hC1.cell 2
    have f0 := hC1.free 0
    have f1 := hC1.free 1
    have f2 := hC1.free 2
    simp at s0 s1 s2
    clear hA hC
    go_wp2_with fail
    exact bodyPost_ret (v := .tuple #[.agg #[.slice a l.length c, .int .i64 at_, .int .i64 2], .int .i64 0, .int .i64 2]) (by simp [results, Try.results24, go_sem, s0, s1, s2]) rfl ⟨rfl, set3_below hB hB.size (by omega) _ _ _⟩
  · rw [if_neg hg] at hx
    unfold lnum at hx
    cases hs : scan 0 0 (l.drop at_) with
    | error ec0 =>
      rw [hs] at hx
      obtain rfl : ec0 = ec := by cases hx; rfl
      have he' : ¬ (ec0 : Int) = 0 := by have := scan_err _ 0 0 ec0 hs; omega
      have HS : Hid (scan 0 0 (l.drop at_) = .error ec0) := hs
      clear hs hx
      go_enter Try.func24, Try.ntmps24
      go_wp2_with fail
      refine named (p := fun X => Calls _ _ _ X _) ?_
      intro W0 hW0
      have hB0 : Below w.heap.size w W0 := by rw [hW0]; exact alloc2_below _ _ _
      obtain ⟨hA, hC, hz⟩ : Has W0 w.heap.size #[.slice a l.length c, .int .i64 at_, .int .i64 0] 45 ∧ Has W0 (w.heap.size + 1) #[.slice none 0 0, .int .i64 0, .int .i64 0] 45 ∧ W0.heap.size = w.heap.size + 2 := by rw [hW0]; exact alloc2_has
      clear hW0
      have HB : Hid (Bytes W0 (.slice a l.length c) l) := hB.below hB0
      refine (reftake_any _ l at_ W0 HB.out hat hsm).mono ?_
      rintro e W1 ⟨he, hw1⟩
      obtain rfl := hw1.symm
      clear hw1
      obtain rfl := he.of_err HS.out
      have q0 := hA.cell 0
      have q1 := hA.cell 1
      have q2 := hA.cell 2
      simp at q0 q1 q2
      go_wp2_with fail
      refine (fails_any a l.length c at_ 0 ec0 W0).mono ?_
      rintro e W1 ⟨rfl, hB1⟩
      have hC1 := hC.below hB1 (by omega)
      have hB : Below w.heap.size w W1 := hB0.trans (hB1.mono (by omega))
      have s0 := hC1.cell 0
      have s1 := hC1.cell 1
      have s2 := hC1.cell 2
      have f0 := hC1.free 0
      have f1 := hC1.free 1
      have f2 := hC1.free 2
      simp at s0 s1 s2
      clear hA hC
      go_wp2_with fail
      exact bodyPost_ret (v := .tuple #[.agg #[.slice a l.length c, .int .i64 at_, .int .i64 ec0], .int .i64 0, .int .i64 ec0]) (by simp [results, Try.results24, go_sem, s0, s1, s2]) rfl ⟨rfl, set3_below hB hB.size (by omega) _ _ _⟩
    | ok p =>
      obtain ⟨n, k⟩ := p
      rw [hs] at hx
      have hgn : g < n := by
        by_cases h : g < n
        · exact h
        · simp only [if_neg h] at hx; cases hx
      simp only [if_pos hgn] at hx
      cases hx
      have HS : Hid (scan 0 0 (l.drop at_) = .ok (n, k)) := hs
      clear hs
      go_enter Try.func24, Try.ntmps24
      go_wp2_with fail
      refine named (p := fun X => Calls _ _ _ X _) ?_
      intro W0 hW0
      have hB0 : Below w.heap.size w W0 := by rw [hW0]; exact alloc2_below _ _ _
      obtain ⟨hA, hC, hz⟩ : Has W0 w.heap.size #[.slice a l.length c, .int .i64 at_, .int .i64 0] 45 ∧ Has W0 (w.heap.size + 1) #[.slice none 0 0, .int .i64 0, .int .i64 0] 45 ∧ W0.heap.size = w.heap.size + 2 := by rw [hW0]; exact alloc2_has
      clear hW0
      have HB : Hid (Bytes W0 (.slice a l.length c) l) := hB.below hB0
      refine (reftake_any _ l at_ W0 HB.out hat hsm).mono ?_
      rintro e W1 ⟨he, hw1⟩
      obtain rfl := hw1.symm
      clear hw1
      obtain rfl := he.of_ok HS.out
      generalize ((at_ + k : Nat) : Int) = q at *
      have q0 := hA.cell 0
      have q1 := hA.cell 1
      have q2 := hA.cell 2
      simp at q0 q1 q2
      go_wp2_with fail
      refine (fails_any a l.length c at_ 0 3 W0).mono ?_
      rintro e W1 ⟨rfl, hB1⟩
      have hC1 := hC.below hB1 (by omega)
      have hB : Below w.heap.size w W1 := hB0.trans (hB1.mono (by omega))
      have s0 := hC1.cell 0
      have s1 := hC1.cell 1
      have s2 := hC1.cell 2
      have f0 := hC1.free 0
      have f1 := hC1.free 1
      have f2 := hC1.free 2
      simp at s0 s1 s2
      clear hA hC
      go_wp2_with fail
      exact bodyPost_ret (v := .tuple #[.agg #[.slice a l.length c, .int .i64 at_, .int .i64 3], .int .i64 0, .int .i64 3]) (by simp [results, Try.results24, go_sem, s0, s1, s2]) rfl ⟨rfl, set3_below hB hB.size (by omega) _ _ _⟩
set_option maxRecDepth 10000 in
set_option maxHeartbeats 1000000 in
theorem refnum_ok (a : Option Addr) (c at_ : Nat) (l rest : List UInt8) (g : Int) (n : Nat) (w : World) (hB : Bytes w (.slice a l.length c) l) (hat : at_ ≤ l.length) (hsm : l.length ≤ 10000000000) (hx : bnd g (lnum g (l.drop at_)) = .ok (n, rest)) :
    Calls Try.prog 24 #[.agg #[.slice a l.length c, .int .i64 at_, .int .i64 0], .int .i64 g] w fun e w' => e = .returned (.tuple #[.agg #[.slice a l.length c, .int .i64 ((l.length - rest.length : Nat) : Int), .int .i64 0], .int .i64 n, .int .i64 0]) ∧ Below w.heap.size w w' := by
  unfold bnd at hx
  by_cases hg : g < 0
  · rw [if_pos hg] at hx; cases hx
  · rw [if_neg hg] at hx
    unfold lnum at hx
    cases hs : scan 0 0 (l.drop at_) with
    | error ec0 => rw [hs] at hx; cases hx
    | ok p =>
      obtain ⟨n0, k⟩ := p
      rw [hs] at hx
      have hgn : ¬ g < n0 := fun h => by simp only [if_pos h] at hx; cases hx
      simp only [if_neg hgn] at hx
      simp only [Except.ok.injEq, Prod.mk.injEq] at hx
      obtain ⟨rfl, rfl⟩ := hx
      have hb := scan_lt hs
      simp at hb
      have ha' : l.length - ((l.drop at_).drop k).length = at_ + k := by simp; omega
      rw [ha']
      clear ha'
      have HS : Hid (scan 0 0 (l.drop at_) = .ok (n0, k)) := hs
      clear hs
      generalize hq0 : at_ + k = q
      go_enter Try.func24, Try.ntmps24
      go_wp2_with fail
      refine named (p := fun X => Calls _ _ _ X _) ?_
      intro W0 hW0
      have hB0 : Below w.heap.size w W0 := by rw [hW0]; exact alloc2_below _ _ _
      obtain ⟨hA, hC, hz⟩ : Has W0 w.heap.size #[.slice a l.length c, .int .i64 at_, .int .i64 0] 45 ∧ Has W0 (w.heap.size + 1) #[.slice none 0 0, .int .i64 0, .int .i64 0] 45 ∧ W0.heap.size = w.heap.size + 2 := by rw [hW0]; exact alloc2_has
      clear hW0
      have HB : Hid (Bytes W0 (.slice a l.length c) l) := hB.below hB0
      refine (reftake_any _ l at_ W0 HB.out hat hsm).mono ?_
      rintro e W1 ⟨he, hw1⟩
      obtain rfl := hw1.symm
      clear hw1
      obtain rfl := he.of_ok HS.out
      rw [hq0]
      have q0 := hA.cell 0
      have q1 := hA.cell 1
      have q2 := hA.cell 2
      have f1 := hA.free 1
      simp at q0 q1 q2
      have s0 := hC.cell 0
      have s1 := hC.cell 1
      have s2 := hC.cell 2
      have g0 := hC.free 0
      have g1 := hC.free 1
      have g2 := hC.free 2
      simp at s0 s1 s2
      have hB2 : Below w.heap.size w (W0.setCell ⟨w.heap.size, 1, none⟩ (.int .i64 (q : Int))) := Below.ex hB0 hB0.size (Ex.set _ _ _ _) (Nat.le_refl _)
      go_wp2_with fail
      exact bodyPost_ret (v := .tuple #[.agg #[.slice a l.length c, .int .i64 (q : Int), .int .i64 0], .int .i64 n0, .int .i64 0]) (by simp [results, Try.results24, go_sem, s0, s1, s2]) rfl ⟨rfl, set3_below hB2 hB2.size (by omega) _ _ _⟩
end Go.Proofs.Ytgoflpfafkmmgaa
