/- works: the chapter's first row, there and back. -/
import Derived.Test.YtgoflpfafkmmgaaM5
namespace Go.Proofs.Ytgoflpfafkmmgaa
open Go.RowKit

theorem num300 : numL 300 = [172, 2] := by rw [numL_hi 300 (by omega), numL_lo _ (by omega)]; rfl
theorem num3 : numL (foldN (-2)) = [3] := by rw [show foldN (-2) = 3 from rfl, numL_lo _ (by omega)]; rfl
theorem bytHi : bytL [104, 105] = [2, 104, 105] := by unfold bytL; rw [numL_lo _ (by simp)]; rfl

/-- A writer that lies behind the first N blocks, which stand. -/
structure WrN (N : Nat) (w0 w : World) (p : Nat) (v : Value) (bs : List UInt8) : Prop where
  wr : Wr w p v bs
  below : Below N w0 w
  hi : ∀ k, WS p v k → N ≤ k
  le : N ≤ w.heap.size
theorem Laid.ok {w w' : World} {p : Nat} {v : Value} {bs x : List UInt8} {e : Ending} (h : Laid w w' p v bs x e) (hf : bs.length + x.length ≤ 1048576) : e = .returned (.int .i64 0) ∧ ∃ v', Wr w' p v' (bs ++ x) ∧ Fr (WS p v) w w' ∧ Loc w v v' := by
  unfold Laid at h; rw [if_pos hf] at h; exact h
theorem WrN.step {N : Nat} {w0 w w' : World} {p : Nat} {v v' : Value} {bs bs' : List UInt8} (h : WrN N w0 w p v bs) (hW : Wr w' p v' bs') (hF : Fr (WS p v) w w') (hL : Loc w v v') : WrN N w0 w' p v' bs' := by
  refine ⟨hW, Fr.below h.below hF h.le (fun k hk e => by have := h.hi k e; omega), fun k hk => ?_, Nat.le_trans h.le hF.size⟩
  rcases hk with rfl | hk
  · exact h.hi _ (.inl rfl)
  · rcases hL k hk with h1 | h1
    · exact h.hi k (.inr h1)
    · have := h.le; omega
theorem WrN.laid {N : Nat} {w0 w w' : World} {p : Nat} {v : Value} {bs x : List UInt8} {e : Ending} (h : WrN N w0 w p v bs) (k : Laid w w' p v bs x e) (hf : bs.length + x.length ≤ 1048576) : e = .returned (.int .i64 0) ∧ ∃ v', WrN N w0 w' p v' (bs ++ x) := by
  obtain ⟨h1, v', h2, h3, h4⟩ := k.ok hf
  exact ⟨h1, v', h.step h2 h3 h4⟩
theorem WrN.new (w w' : World) (hB : Below w.heap.size w w') (hW : Wr w' w.heap.size (.slice none 0 0) []) : WrN w.heap.size w w' w.heap.size (.slice none 0 0) [] :=
  ⟨hW, hB, fun k hk => hk.elim (fun e => by omega) (fun e => by cases e), hB.size⟩
/-- A reader that lies behind the first N blocks, which stand. -/
structure RdN (N : Nat) (w0 w : World) (r : Nat) (lv : Value) (rest : List UInt8) (at_ fl : Nat) : Prop where
  rd : Rd w r lv rest at_ fl
  below : Below N w0 w
  hi : N ≤ r
theorem RdN.took {N : Nat} {w0 w w' : World} {r : Nat} {lv : Value} {rest rest' : List UInt8} {at_ at' : Nat} (h : RdN N w0 w r lv rest at_ 0) (k : Took w w' r rest' at') : ∃ lv', RdN N w0 w' r lv' rest' at' 0 := by
  obtain ⟨lv', h1, h2⟩ := k
  exact ⟨lv', h1, Below.ex h.below (by have := h.rd.lt; have := h.hi; omega) h2 h.hi, h.hi⟩
theorem RdN.flaws {N : Nat} {w0 w w' : World} {r : Nat} {lv : Value} {rest : List UInt8} {at_ ec : Nat} (h : RdN N w0 w r lv rest at_ 0) (k : Flaws w w' r lv rest at_ ec) : RdN N w0 w' r lv rest at_ ec :=
  ⟨k.1, Below.ex h.below (by have := h.rd.lt; have := h.hi; omega) k.2 h.hi, h.hi⟩
/-- Owned bytes stand while a reader reads. -/
theorem Own.ex {w w' : World} {v : Value} {d : List UInt8} {r : Nat} (h : Own w v d) (k : Ex r w w') (hr : v.ownBlock ≠ some r) : Own w' v d := h.fr (Fr.of_ex k) (fun i hi e => hr (by rw [hi, e]))

def exB : List UInt8 := [172, 2, 3, 2, 104, 105, 1]
theorem r1 : vN (bnd 300 (lnum 300 [172, 2, 3, 2, 104, 105, 1])) = .ok (.int .i64 300, [3, 2, 104, 105, 1]) := by rfl
theorem r2 : vI (lsig [3, 2, 104, 105, 1]) = .ok (.int .i64 (-2), [2, 104, 105, 1]) := by rfl
theorem r3 : vS (bnd 2 (lbyt 2 [2, 104, 105, 1])) = .ok (.string ⟨#[104, 105]⟩, [1]) := by rfl
theorem r4 : vT (ltru [1]) = .ok (.bool true, []) := by rfl
theorem RAns.ok {zero : Value} {w w' : World} {r : Nat} {lv : Value} {rest rest' : List UInt8} {at_ : Nat} {x : Except Nat (Value × List UInt8)} {v : Value} {e : Ending} (h : RAns zero w w' r lv rest at_ x e) (hx : x = .ok (v, rest')) : e = .returned (.tuple #[v, .int .i64 0]) ∧ Took w w' r rest' (at_ + (rest.length - rest'.length)) := by subst hx; exact h

set_option maxRecDepth 10000 in
set_option maxHeartbeats 2000000 in
theorem works_any (w : World) : Calls Try.prog 11 #[] w fun e w' => e = .returned (.bool true) ∧ Below w.heap.size w w' := by
  go_enter Try.func11, Try.ntmps11
  go_wp2_with fail
  refine (wnew_any w).mono ?_
  rintro e w1 ⟨rfl, hB, hW⟩
  have h1 := WrN.new w w1 hB hW
  clear hB hW
  generalize hNw : w.heap.size = N at h1
  have HN : Hid (w.heap.size = N) := hNw
  clear hNw
  go_wp2_with fail
  refine (wnumber_ok N _ _ 300 (by omega) w1 h1.wr).mono ?_
  intro e w2 hl
  rw [num300] at hl
  obtain ⟨rfl, v2, h2⟩ := h1.laid hl (by simp)
  clear hl h1
  go_wp2_with fail
  refine (wsigned_ok N _ _ (-2) rfl w2 h2.wr).mono ?_
  intro e w3 hl
  rw [num3] at hl
  obtain ⟨rfl, v3, h3⟩ := h2.laid hl (by simp)
  clear hl h2
  go_wp2_with fail
  refine (wtext_any N _ _ [104, 105] w3 h3.wr (by simp)).mono ?_
  intro e w4 hl
  rw [bytHi] at hl
  obtain ⟨rfl, v4, h4⟩ := h3.laid hl (by simp)
  clear hl h3
  go_wp2_with fail
  refine (wtruth_any N _ _ true w4 h4.wr).mono ?_
  intro e w5 hl
  obtain ⟨rfl, v5, h5⟩ := h4.laid hl (by simp)
  clear hl h4
  have e5 : [] ++ [172, 2] ++ [3] ++ [2, 104, 105] ++ [if (true : Bool) = true then (1 : UInt8) else 0] = exB := rfl
  rw [e5] at h5
  clear e5
  go_wp2_with fail
  refine (all_any N _ _ w5 h5.wr).mono ?_
  rintro e w6 ⟨b, rfl, hN6⟩
  have hB6 : Below N w w6 := h5.below.trans (hN6.below.mono h5.le)
  obtain ⟨hO6, hn6, hb6⟩ := hN6
  have hle6 : N ≤ w6.heap.size := Nat.le_trans h5.le hb6.size
  have h06 : 0 < w6.heap.size := Nat.lt_of_lt_of_le (Nat.lt_of_le_of_lt (Nat.zero_le _) h5.wr.has.lt) hb6.size
  clear hb6 h5 hn6
  obtain ⟨ba, bc', rfl⟩ := hO6.slice
  go_wp2_with fail
  refine (read_any _ exB w6 (hO6.bytes h06) (by decide)).mono ?_
  rintro e w7 ⟨g, lv, rfl, hg, hR, hB7⟩
  have hO7 : Own w7 (.slice ba exB.length bc') exB := hO6.fr (S := fun _ => False) (Fr.of_below hB7) (fun _ _ h => h)
  have hog : (Value.slice ba exB.length bc').ownBlock ≠ some g := fun e => by have := hO6.lt' e; omega
  have h7 : RdN N w w7 g lv exB 0 0 := ⟨hR, hB6.trans (hB7.mono hle6), by omega⟩
  clear hR hB7 hO6 hB6 h06
  unfold exB at h7
  go_wp2_with fail
  refine (rnumber_any g _ _ 0 300 w7 h7.rd (by simp)).mono ?_
  intro e w8 hl
  obtain ⟨rfl, ht⟩ := hl.ok r1
  have hO8 := hO7.ex ht.choose_spec.2 hog
  obtain ⟨lv8, h8⟩ := h7.took ht
  clear hl ht h7 hO7
  go_wp2_with fail
  refine (rsigned_any g _ _ _ w8 h8.rd (by simp)).mono ?_
  intro e w9 hl
  obtain ⟨rfl, ht⟩ := hl.ok r2
  have hO9 := hO8.ex ht.choose_spec.2 hog
  obtain ⟨lv9, h9⟩ := h8.took ht
  clear hl ht h8 hO8
  go_wp2_with fail
  refine (rtext_any g _ _ _ 2 w9 h9.rd (by simp)).mono ?_
  intro e w10 hl
  obtain ⟨rfl, ht⟩ := hl.ok r3
  have hO10 := hO9.ex ht.choose_spec.2 hog
  obtain ⟨lv10, h10⟩ := h9.took ht
  clear hl ht h9 hO9
  go_wp2_with fail
  refine (rtruth_any g _ _ _ w10 h10.rd (by simp)).mono ?_
  intro e w11 hl
  obtain ⟨rfl, ht⟩ := hl.ok r4
  have hO11 := hO10.ex ht.choose_spec.2 hog
  obtain ⟨lv11, h11⟩ := h10.took ht
  clear hl ht h10 hO10
  have hen := end_any g _ _ _ _ w11 h11.rd
  have ee : endE [] 0 = 0 := rfl
  rw [ee] at hen
  have hcv := bytes_string Try.underlying27 Try.underlying5 Try.underlying9 w11 _ exB (hO11.bytes (by have := h11.rd.lt; omega))
  have hBe := h11.below
  clear hO11 h11 hog hle6 hg ee
  go_wp2_with (first
    | (go_at_call 14; refine (num_any _ _).mono ?_; rintro e w' ⟨rfl, hw⟩; obtain rfl := hw.symm; clear hw)
    | (go_at_call 34; refine hen.mono ?_; rintro e w' ⟨rfl, hw⟩; obtain rfl := hw.symm; clear hw)
    | (refine wpList_convert_run rfl 27 9 _ rfl _ _ rfl hcv ?_))
  go_ret
  exact ⟨rfl, by rw [HN.out]; exact hBe⟩
end Go.Proofs.Ytgoflpfafkmmgaa
