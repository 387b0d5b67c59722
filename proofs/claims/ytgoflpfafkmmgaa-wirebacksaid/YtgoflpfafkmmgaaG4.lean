/- The document's answer: a reader's Bytes. -/
import Derived.Test.YtgoflpfafkmmgaaN3
namespace Go.Proofs.Ytgoflpfafkmmgaa
open Go.RowKit

theorem slice_mid27 (a : Option Addr) (n cap i j : Nat) (hi : i ≤ j) (hk : j ≤ cap) (w : World) :
    (Instr.slice 27 (.slice a n cap) (some (.int .i64 (i : Int))) (some (.int .i64 (j : Int))) none).run Try.prog w = .ok (.slice (if cap = i then a else a.map (·.add (i * 1))) (j - i) (cap - i)) w := by
  have he : Try.prog.elem 27 = 5 := by kernel_rfl
  have hu : Try.prog.underlying 27 = some (.slice (Try.prog.elem 27)) := by rw [he]; exact Try.underlying27
  obtain ⟨i0, hi', _, hz1, _⟩ := info_parts' info5
  rw [run_slice_lh w 27 a n cap hu .i64 .i64 i j (by omega) (by omega) (by omega), he]
  simp [sizeOf, typeInfo, hi', hz1, sliced]
/-- Bytes in the midst of bytes. -/
theorem BytesAp.mid {S : Nat → Prop} {w : World} {a : Option Addr} {n cap : Nat} {l : List UInt8} (h : BytesAp S w (.slice a n cap) l) (i j : Nat) (hi : i ≤ j) (hj : j ≤ l.length) :
    BytesAp S w (.slice (if cap = i then a else a.map (·.add (i * 1))) (j - i) (cap - i)) ((l.drop i).take (j - i)) := by
  have h1 := h.drop i (by omega)
  obtain ⟨a1, c1, db, o, he, hcap, ha, hin, hlt, hs⟩ := h1
  simp only [Value.slice.injEq] at he
  obtain ⟨e1, e2, e3⟩ := he
  rw [e1]
  refine ⟨a1, cap - i, db, o, by simp; omega, by simp at hcap ⊢; omega, fun hne => ha (by intro e; rw [e] at hne; simp at hne), fun q hq => ?_, hlt, hs⟩
  simp at hq
  rw [hin q (by simp; omega), List.getElem?_take_of_lt (by omega)]
theorem set3_has {w : World} {g t : Nat} {x y z x' y' z' : Value} (h : Has w g #[x, y, z] t) : Has (((w.setCell ⟨g, 0, none⟩ x').setCell ⟨g, 1, none⟩ y').setCell ⟨g, 2, none⟩ z') g #[x', y', z'] t := by
  have := ((h.set 0 x').set 1 y').set 2 z'
  simpa using this
theorem alloc_below {B : Nat} {w w1 : World} (h : Below B w w1) (hB : B ≤ w1.heap.size) (o : Obj) : Below B w (w1.alloc o) := h.alloc hB o
set_option maxRecDepth 10000 in
set_option maxHeartbeats 2000000 in
theorem refbyt_numerr (a : Option Addr) (c at_ bl fl ec : Nat) (g : Int) (w : World) (hec : ec ≠ 0)
    (hc : ∀ W, Below w.heap.size w W → Calls Try.prog 24 #[.agg #[.slice a bl c, .int .i64 at_, .int .i64 fl], .int .i64 g] W fun e w' => e = .returned (.tuple #[.agg #[.slice a bl c, .int .i64 at_, .int .i64 ec], .int .i64 0, .int .i64 ec]) ∧ Below W.heap.size W w') :
    Calls Try.prog 29 #[.agg #[.slice a bl c, .int .i64 at_, .int .i64 fl], .int .i64 g] w fun e w' => e = .returned (.tuple #[.agg #[.slice a bl c, .int .i64 at_, .int .i64 ec], .slice none 0 0, .int .i64 ec]) ∧ Below w.heap.size w w' := by
  have he' : ¬ (ec : Int) = 0 := by omega
  go_enter Try.func29, Try.ntmps29
  go_wp2_with fail
  refine named (p := fun X => Calls _ _ _ X _) ?_
  intro W0 hW0
  have hB0 : Below w.heap.size w W0 := by rw [hW0]; exact alloc2_below _ _ _
  obtain ⟨hA, hC, hz⟩ : Has W0 w.heap.size #[.slice a bl c, .int .i64 at_, .int .i64 fl] 45 ∧ Has W0 (w.heap.size + 1) #[.slice none 0 0, .int .i64 0, .int .i64 0] 45 ∧ W0.heap.size = w.heap.size + 2 := by rw [hW0]; exact alloc2_has
  clear hW0
  refine (hc W0 hB0).mono ?_
  rintro e W1 ⟨rfl, hB1⟩
  have hC1 := hC.below hB1 (by omega)
  have hB : Below w.heap.size w W1 := hB0.trans (hB1.mono (by omega))
  have hz1 := hB1.size
  have s0 := hC1.cell 0
  have s1 := hC1.cell 1
  have s2 := hC1.cell 2
  have f0 := hC1.free 0
  have f1 := hC1.free 1
  have f2 := hC1.free 2
  have n1 : ¬ w.heap.size + 1 = W1.heap.size := by omega
  have n2 : w.heap.size + 1 < W1.heap.size := by omega
  simp at s0 s1 s2
  clear hA hC hc
  go_wp2_with fail
  refine named (p := fun X => bodyPost _ _ _ _ _ X) ?_
  intro Wf hWf
  have hBf : Below w.heap.size w Wf := by rw [hWf]; exact alloc_below (set3_below hB hB.size (by omega) _ _ _) (by simp; omega) _
  have hHf : Has Wf (w.heap.size + 1) #[.slice a bl c, .int .i64 at_, .int .i64 ec] 45 := by rw [hWf]; exact has_old (set3_has hC1)
  clear hWf
  have r0 := hHf.cell 0
  have r1 := hHf.cell 1
  have r2 := hHf.cell 2
  simp at r0 r1 r2
  exact bodyPost_ret (v := .tuple #[.agg #[.slice a bl c, .int .i64 at_, .int .i64 ec], .slice none 0 0, .int .i64 ec]) (by simp [results, Try.results29, go_sem, r0, r1, r2]) rfl ⟨rfl, hBf⟩
set_option maxRecDepth 10000 in
set_option maxHeartbeats 2000000 in
theorem refbyt_ends (a : Option Addr) (c at_ bl q n : Nat) (g : Int) (w : World) (hlt : bl < q + n) (hbl : bl ≤ 10000000000) (hql : q ≤ bl)
    (hc : ∀ W, Below w.heap.size w W → Calls Try.prog 24 #[.agg #[.slice a bl c, .int .i64 at_, .int .i64 0], .int .i64 g] W fun e w' => e = .returned (.tuple #[.agg #[.slice a bl c, .int .i64 q, .int .i64 0], .int .i64 n, .int .i64 0]) ∧ Below W.heap.size W w') :
    Calls Try.prog 29 #[.agg #[.slice a bl c, .int .i64 at_, .int .i64 0], .int .i64 g] w fun e w' => e = .returned (.tuple #[.agg #[.slice a bl c, .int .i64 at_, .int .i64 120], .slice none 0 0, .int .i64 120]) ∧ Below w.heap.size w w' := by
  have i1 : (bl : Int) - q < n := by omega
  go_enter Try.func29, Try.ntmps29
  go_wp2_with fail
  refine named (p := fun X => Calls _ _ _ X _) ?_
  intro W0 hW0
  have hB0 : Below w.heap.size w W0 := by rw [hW0]; exact alloc2_below _ _ _
  obtain ⟨hA, hC, hz⟩ : Has W0 w.heap.size #[.slice a bl c, .int .i64 at_, .int .i64 0] 45 ∧ Has W0 (w.heap.size + 1) #[.slice none 0 0, .int .i64 0, .int .i64 0] 45 ∧ W0.heap.size = w.heap.size + 2 := by rw [hW0]; exact alloc2_has
  clear hW0
  refine (hc W0 hB0).mono ?_
  rintro e W1 ⟨rfl, hB1⟩
  have hA1 := hA.below hB1 (by omega)
  have hC1 := hC.below hB1 (by omega)
  have hB : Below w.heap.size w W1 := hB0.trans (hB1.mono (by omega))
  have hz1 := hB1.size
  have q0 := hA1.cell 0
  have q1 := hA1.cell 1
  have q2 := hA1.cell 2
  have n1 : ¬ w.heap.size = W1.heap.size := by omega
  have n2 : w.heap.size < W1.heap.size := by omega
  simp at q0 q1 q2
  clear hA hC hc
  go_wp2_with fail
  refine named (p := fun X => Calls _ _ _ X _) ?_
  intro W2 hW2
  have hB2 : Below W1.heap.size W1 W2 := by rw [hW2]; exact (Below.refl _ _).alloc (Nat.le_refl _) _
  have hz2 : W2.heap.size = W1.heap.size + 1 := by rw [hW2]; simp
  clear hW2
  refine (fails_any a bl c at_ 0 120 W2).mono ?_
  rintro e W3 ⟨rfl, hB3⟩
  have hC3 := (hC1.below hB2 (by omega)).below hB3 (by omega)
  have hBf : Below w.heap.size w W3 := (hB.trans (hB2.mono (by omega))).trans (hB3.mono (by omega))
  have s0 := hC3.cell 0
  have s1 := hC3.cell 1
  have s2 := hC3.cell 2
  have f0 := hC3.free 0
  have f1 := hC3.free 1
  have f2 := hC3.free 2
  simp at s0 s1 s2
  clear q0 q1 q2 hA1 hC1
  go_wp2_with fail
  exact bodyPost_ret (v := .tuple #[.agg #[.slice a bl c, .int .i64 at_, .int .i64 120], .slice none 0 0, .int .i64 120]) (by simp [results, Try.results29, go_sem, s0, s1, s2]) rfl ⟨rfl, set3_below hBf hBf.size (by omega) _ _ _⟩
set_option maxRecDepth 10000 in
set_option maxHeartbeats 2000000 in
theorem refbyt_ok (a : Option Addr) (c at_ bl q n : Nat) (l : List UInt8) (g : Int) (w : World) (hle : q + n ≤ bl) (hbl : bl ≤ 10000000000) (hbe : bl = l.length) (hB0' : Bytes w (.slice a bl c) l)
    (hc : ∀ W, Below w.heap.size w W → Calls Try.prog 24 #[.agg #[.slice a bl c, .int .i64 at_, .int .i64 0], .int .i64 g] W fun e w' => e = .returned (.tuple #[.agg #[.slice a bl c, .int .i64 q, .int .i64 0], .int .i64 n, .int .i64 0]) ∧ Below W.heap.size W w') :
    Calls Try.prog 29 #[.agg #[.slice a bl c, .int .i64 at_, .int .i64 0], .int .i64 g] w fun e w' => (∃ ya yl yc, e = .returned (.tuple #[.agg #[.slice a bl c, .int .i64 ((q + n : Nat) : Int), .int .i64 0], .slice ya yl yc, .int .i64 0]) ∧ Bytes w' (.slice ya yl yc) ((l.drop q).take n)) ∧ Below w.heap.size w w' := by
  have hap := hB0'.ap (S := fun _ => False) (fun _ _ h => h)
  have hcap : bl ≤ c := by obtain ⟨a', c', _, _, he, hc', _⟩ := hap; simp only [Value.slice.injEq] at he; omega
  have hM := hap.mid q (q + n) (by omega) (by omega)
  have hsl := slice_mid27 a bl c q (q + n) (by omega) (by omega)
  rw [Nat.add_sub_cancel_left] at hM hsl
  have Hc : Hid (q + n ≤ bl ∧ bl ≤ c ∧ bl = l.length) := ⟨hle, hcap, hbe⟩
  obtain ⟨q2, hq2⟩ : ∃ k : Nat, k = q + n := ⟨_, rfl⟩
  have e1 : (q : Int) + n = (q2 : Int) := by omega
  rw [← hq2] at hsl ⊢
  clear hq2 hcap hap
  generalize (if c = q then a else a.map (·.add (q * 1))) = ya at *
  generalize c - q = yc at *
  have HM : Hid (Bytes w (.slice ya n yc) ((l.drop q).take n)) := hM.bytes
  clear hM hB0' hbe
  have i1 : ¬ (bl : Int) - q < n := by omega
  go_enter Try.func29, Try.ntmps29
  go_wp2_with fail
  refine named (p := fun X => Calls _ _ _ X _) ?_
  intro W0 hW0
  have hB0 : Below w.heap.size w W0 := by rw [hW0]; exact alloc2_below _ _ _
  obtain ⟨hA, hC, hz⟩ : Has W0 w.heap.size #[.slice a bl c, .int .i64 at_, .int .i64 0] 45 ∧ Has W0 (w.heap.size + 1) #[.slice none 0 0, .int .i64 0, .int .i64 0] 45 ∧ W0.heap.size = w.heap.size + 2 := by rw [hW0]; exact alloc2_has
  clear hW0
  refine (hc W0 hB0).mono ?_
  rintro e W1 ⟨rfl, hB1⟩
  have hC1 := hC.below hB1 (by omega)
  have hB : Below w.heap.size w W1 := hB0.trans (hB1.mono (by omega))
  have hz1 := hB1.size
  have s0 := hC1.cell 0
  have s1 := hC1.cell 1
  have s2 := hC1.cell 2
  have f0 := hC1.free 0
  have f1 := hC1.free 1
  have f2 := hC1.free 2
  have n1 : ¬ w.heap.size + 1 = W1.heap.size := by omega
  have n2 : w.heap.size + 1 < W1.heap.size := by omega
  simp at s0 s1 s2
  clear hA hC hc
  go_wp2_with fail
  refine named (p := fun X => bodyPost _ _ _ _ _ X) ?_
  intro Wf hWf
  have hBf : Below w.heap.size w Wf := by rw [hWf]; exact alloc_below (set3_below hB hB.size (by omega) _ _ _) (by simp; omega) _
  have hHf : Has Wf (w.heap.size + 1) #[.slice a bl c, .int .i64 (q2 : Int), .int .i64 0] 45 := by rw [hWf]; exact has_old (set3_has hC1)
  clear hWf
  have r0 := hHf.cell 0
  have r1 := hHf.cell 1
  have r2 := hHf.cell 2
  simp at r0 r1 r2
  exact bodyPost_ret (v := .tuple #[.agg #[.slice a bl c, .int .i64 (q2 : Int), .int .i64 0], .slice ya n yc, .int .i64 0]) (by simp [results, Try.results29, go_sem, r0, r1, r2]) rfl ⟨⟨ya, n, yc, rfl, HM.out.below hBf⟩, hBf⟩

def vd (x : Except Nat (List UInt8 × List UInt8)) : List UInt8 := match x with | .error _ => [] | .ok (d, _) => d
/-- What a reader's Bytes answers, by the document. -/
theorem refbyt_any (a : Option Addr) (c at_ bl : Nat) (l : List UInt8) (hbl : bl = l.length) (g : Int) (w : World) (hB : Bytes w (.slice a bl c) l) (hat : at_ ≤ l.length) (hsm : l.length ≤ 10000000000) :
    Calls Try.prog 29 #[.agg #[.slice a bl c, .int .i64 at_, .int .i64 0], .int .i64 g] w fun e w' => (∃ ya yl yc, e = .returned (.tuple #[.agg #[.slice a bl c, .int .i64 ((atN l at_ (bnd g (lbyt g (l.drop at_))) : Nat) : Int), .int .i64 ((vec (bnd g (lbyt g (l.drop at_))) : Nat) : Int)], .slice ya yl yc, .int .i64 ((vec (bnd g (lbyt g (l.drop at_))) : Nat) : Int)]) ∧ Bytes w' (.slice ya yl yc) (vd (bnd g (lbyt g (l.drop at_))))) ∧ Below w.heap.size w w' := by
  have h0 : 0 < w.heap.size := by obtain ⟨_, _, _, _, _, _, _, _, h⟩ := hB; omega
  have hc : ∀ W, Below w.heap.size w W → _ := fun W hW => refnum_any' a c at_ bl l hbl g W (hB.below hW) hat hsm
  have key : bnd g (lbyt g (l.drop at_)) = match bnd g (lnum g (l.drop at_)) with | .error ec => .error ec | .ok (n, rest) => lraw n rest := by
    unfold bnd lbyt
    by_cases hg : g < 0
    · simp only [if_pos hg]
    · simp only [if_neg hg]
      cases lnum g (l.drop at_) with
      | error e => rfl
      | ok p => rfl
  rw [key]
  cases hx : bnd g (lnum g (l.drop at_)) with
  | error ec =>
    rw [hx] at hc
    exact (refbyt_numerr a c at_ bl 0 ec g w (bnd_ne hx (fun _ => lnum_ne)) hc).mono fun e w' ⟨h1, h2⟩ => ⟨⟨none, 0, 0, h1, bytes_nil _ (Nat.lt_of_lt_of_le h0 h2.size)⟩, h2⟩
  | ok p =>
    obtain ⟨n, rest⟩ := p
    rw [hx] at hc
    have hle := lnum_le (bnd_ok hx)
    simp only [List.length_drop] at hle
    have hrest : rest = l.drop (l.length - rest.length) := by
      have h1 := bnd_ok hx
      unfold lnum at h1
      split at h1
      · cases h1
      · rename_i n0 k0 hs
        split at h1
        · cases h1
        · simp only [Except.ok.injEq, Prod.mk.injEq] at h1
          have hk := scan_lt hs
          simp only [List.length_drop] at hk
          rw [← h1.2, List.drop_drop]
          congr 1
          simp; omega
    have hc' : ∀ W, Below w.heap.size w W → Calls Try.prog 24 #[.agg #[.slice a bl c, .int .i64 at_, .int .i64 0], .int .i64 g] W fun e w' => e = .returned (.tuple #[.agg #[.slice a bl c, .int .i64 ((l.length - rest.length : Nat) : Int), .int .i64 0], .int .i64 n, .int .i64 0]) ∧ Below W.heap.size W w' := hc
    show Calls _ _ _ _ fun e w' => (∃ ya yl yc, e = .returned (.tuple #[.agg #[.slice a bl c, .int .i64 ((atN l at_ (lraw n rest) : Nat) : Int), .int .i64 ((vec (lraw n rest) : Nat) : Int)], .slice ya yl yc, .int .i64 ((vec (lraw n rest) : Nat) : Int)]) ∧ Bytes w' (.slice ya yl yc) (vd (lraw n rest))) ∧ Below w.heap.size w w'
    by_cases hr : rest.length < n
    · have e1 : lraw n rest = .error 120 := by unfold lraw; rw [if_pos hr]
      rw [e1]
      exact (refbyt_ends a c at_ bl (l.length - rest.length) n g w (by omega) (by omega) (by omega) hc').mono fun e w' ⟨h1, h2⟩ => ⟨⟨none, 0, 0, h1, bytes_nil _ (Nat.lt_of_lt_of_le h0 h2.size)⟩, h2⟩
    · have e1 : lraw n rest = .ok (rest.take n, rest.drop n) := by unfold lraw; rw [if_neg hr]
      rw [e1]
      refine (refbyt_ok a c at_ bl (l.length - rest.length) n l g w (by omega) (by omega) hbl hB hc').mono fun e w' ⟨⟨ya, yl, yc, h1, h3⟩, h2⟩ => ⟨⟨ya, yl, yc, ?_, ?_⟩, h2⟩
      · rw [h1]
        have e2 : l.length - rest.length + n = l.length - (rest.drop n).length := by simp; omega
        rw [e2]
        rfl
      · rw [← hrest] at h3; exact h3
end Go.Proofs.Ytgoflpfafkmmgaa
