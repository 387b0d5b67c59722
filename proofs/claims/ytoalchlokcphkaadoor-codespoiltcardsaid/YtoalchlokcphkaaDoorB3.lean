/- CodeReads: the law's walk. -/
import Derived.Test.YtoalchlokcphkaaDoorG7
import Derived.Test.YtoalchlokcphkaaDoorB1
namespace Go.Proofs.YtoalchlokcphkaaDoor
open Go.RowKit

theorem prg_nil (w : World) (h : 0 < w.heap.size) : Prg w (.slice none 0 0) [] := ⟨none, 0, 0, 0, rfl, fun h => absurd rfl h, ⟨fun k i h => by simp at h, fun k i h => by simp at h, fun k i h => by simp at h, fun k i h => by simp at h, fun k i h => by simp at h⟩, h⟩
set_option maxRecDepth 10000 in
set_option maxHeartbeats 2000000 in
theorem reads_long (v : Value) (d : List UInt8) (w : World) (hv : Bytes w v d) (hG : Glob w) (hl : 2100 < d.length) :
    Calls Tryd.prog 4 #[v] w fun e w' => e = .returned (.bool true) ∧ Below w.heap.size w w' := by
  obtain ⟨a, c, b, o, rfl, hc, _⟩ := hv
  have hk := known_any w hG
  have hl' : (2100 : Int) < d.length := by omega
  generalize d.length = n at *
  go_enter Tryd.func4, Tryd.ntmps4
  go_wp2_with fail
  refine hk.mono ?_
  rintro e W1 ⟨rfl, hB1⟩
  go_wp2_with fail
  go_ret
  exact ⟨rfl, hB1⟩
set_option maxRecDepth 10000 in
set_option maxHeartbeats 2000000 in
/-- Both tell the same error. -/
theorem reads_bad (v : Value) (d : List UInt8) (w : World) (hv : Bytes w v d) (hG : Glob w) (hl : d.length ≤ 2100) (E : Int) (hE : E ≠ 0)
    (h1 : ∀ W, Below w.heap.size w W → Calls Tryd.prog 15 #[v] W fun e w' => e = .returned (.tuple #[.agg #[.int .i64 0, .slice none 0 0], .int .i64 E]) ∧ Below W.heap.size W w')
    (h2 : ∀ W, Below w.heap.size w W → Calls Tryd.prog 18 #[v] W fun e w' => e = .returned (.tuple #[.agg #[.int .i64 0, .slice none 0 0], .int .i64 E]) ∧ Below W.heap.size W w') :
    Calls Tryd.prog 4 #[v] w fun e w' => e = .returned (.bool true) ∧ Below w.heap.size w w' := by
  obtain ⟨a, c, b, o, rfl, hc, _⟩ := hv
  have hl' : ¬ (2100 : Int) < d.length := by omega
  generalize d.length = n at *
  have hE' : (E != 0) = true := by simpa using hE
  have hE2 : (E != E) = false := by simp
  have h3 : ∀ W : World, 0 < W.heap.size → _ := fun W hz => rsame_any 0 0 (.slice none 0 0) (.slice none 0 0) [] [] W (prg_nil W hz) (prg_nil W hz) (by simp)
  have h0 := hG.size
  go_enter Tryd.func4, Tryd.ntmps4
  go_wp2_with fail
  refine (h1 w (Below.refl _ _)).mono ?_
  rintro e W1 ⟨rfl, hB1⟩
  obtain ⟨W2, hW2⟩ : ∃ W2, W2 = W1.alloc (.cells #[.int .i64 0, .slice none 0 0] 24) := ⟨_, rfl⟩
  have hB2 : Below W1.heap.size W1 W2 := by rw [hW2]; exact (Below.refl _ _).alloc (Nat.le_refl _) _
  have hX2 : Has W2 W1.heap.size #[.int .i64 0, .slice none 0 0] 24 := by rw [hW2]; exact has_new _ _ _ _ rfl
  have hBw2 := hB1.trans (hB2.mono hB1.size)
  go_wp2_with fail
  rw [← hW2]
  clear hW2
  refine (h2 W2 hBw2).mono ?_
  rintro e W3 ⟨rfl, hB3⟩
  obtain ⟨W4, hW4⟩ : ∃ W4, W4 = W3.alloc (.cells #[.int .i64 0, .slice none 0 0] 24) := ⟨_, rfl⟩
  have hB4 : Below W3.heap.size W3 W4 := by rw [hW4]; exact (Below.refl _ _).alloc (Nat.le_refl _) _
  have hX4 : Has W4 W3.heap.size #[.int .i64 0, .slice none 0 0] 24 := by rw [hW4]; exact has_new _ _ _ _ rfl
  have hX4' := (hX2.below hB3 hX2.lt).below hB4 (Nat.lt_of_lt_of_le hX2.lt hB3.size)
  have hBw4 := (hBw2.trans (hB3.mono hBw2.size)).trans (hB4.mono (by have := hBw2.size; have := hB3.size; omega))
  have x0 := hX4'.cell 0
  have x1 := hX4'.cell 1
  rw [hW4] at x0 x1
  clear hX2 hB1 hB2 hBw2 hB3 hB4 h1 h2
  go_wp2_with fail
  rw [← hW4]
  clear hW4 x0 x1
  refine (h3 W4 (by have := hBw4.size; omega)).mono ?_
  rintro e W5 ⟨b5, rfl, hb5, hB5⟩
  obtain rfl : b5 = true := hb5.2 (by simp)
  have hBw5 := hBw4.trans (hB5.mono hBw4.size)
  have hk := known_any W5 (hG.below hBw5 hG.size)
  clear hb5 h3
  go_wp2_with fail
  refine hk.mono ?_
  rintro e W6 ⟨rfl, hB6⟩
  go_wp2_with fail
  go_ret
  exact ⟨rfl, hBw5.trans (hB6.mono hBw5.size)⟩
set_option maxRecDepth 10000 in
set_option maxHeartbeats 2000000 in
theorem reads_ok (v : Value) (d : List UInt8) (ctx : Nat) (l : List Ins) (w : World) (hv : Bytes w v d) (hG : Glob w) (hl : d.length ≤ 2100) (hE : chkE ctx l = 0) (hu : ∀ i ∈ l, i.imm < 4294967296) (hd : progL ctx l = d)
    (h1 : ∀ W, Below w.heap.size w W → Calls Tryd.prog 15 #[v] W fun e w' => ∃ sv, e = .returned (.tuple #[.agg #[.int .i64 ctx, sv], .int .i64 0]) ∧ Prg w' sv l ∧ Below W.heap.size W w')
    (h2 : ∀ W, Below w.heap.size w W → Calls Tryd.prog 18 #[v] W fun e w' => ∃ sv, e = .returned (.tuple #[.agg #[.int .i64 ctx, sv], .int .i64 0]) ∧ Prg w' sv l ∧ Below W.heap.size W w') :
    Calls Tryd.prog 4 #[v] w fun e w' => e = .returned (.bool true) ∧ Below w.heap.size w w' := by
  have hl2 : l.length ≤ 1000000 := by have := (chkE_zero hE).2.1; omega
  have hv0 := hv
  obtain ⟨a, c, b, o, rfl, hc, _⟩ := hv
  have hl' : ¬ (2100 : Int) < d.length := by omega
  obtain ⟨n, hn⟩ : ∃ n, n = d.length := ⟨_, rfl⟩
  rw [← hn] at hv0 hl' h1 h2 ⊢
  clear hn hc
  have h3 : ∀ (W : World) s1 s2, Prg W s1 l → Prg W s2 l → _ := fun W s1 s2 hp hq => rsame_any ctx ctx s1 s2 l l W hp hq hl2
  have h4 : ∀ W s1, Prg W s1 l → Glob W → _ := fun W s1 hp hg => encode_ok ctx s1 l W hp hg hu hE
  rw [show ((ctx : Int)).toNat = ctx by omega, hd] at h4
  have h0 := hG.size
  clear hE hd hl hl2 hu
  go_enter Tryd.func4, Tryd.ntmps4
  go_wp2_with fail
  refine (h1 w (Below.refl _ _)).mono ?_
  rintro e W1 ⟨s1, rfl, hP1, hB1⟩
  obtain ⟨W2, hW2⟩ : ∃ W2, W2 = W1.alloc (.cells #[.int .i64 ctx, s1] 24) := ⟨_, rfl⟩
  have hB2 : Below W1.heap.size W1 W2 := by rw [hW2]; exact (Below.refl _ _).alloc (Nat.le_refl _) _
  have hX2 : Has W2 W1.heap.size #[.int .i64 ctx, s1] 24 := by rw [hW2]; exact has_new _ _ _ _ rfl
  have hBw2 := hB1.trans (hB2.mono hB1.size)
  have hP2 := hP1.below hB2
  obtain ⟨a1, c1, hs1⟩ := hP1.slice
  obtain ⟨n1, hn1⟩ : ∃ n1, n1 = l.length := ⟨_, rfl⟩
  have HN : Hid (n1 = l.length) := hn1
  rw [← hn1] at hs1
  subst hs1
  clear hn1
  go_wp2_with fail
  rw [← hW2]
  clear hW2
  refine (h2 W2 hBw2).mono ?_
  rintro e W3 ⟨s3, rfl, hP3, hB3⟩
  obtain ⟨W4, hW4⟩ : ∃ W4, W4 = W3.alloc (.cells #[.int .i64 ctx, s3] 24) := ⟨_, rfl⟩
  have hB4 : Below W3.heap.size W3 W4 := by rw [hW4]; exact (Below.refl _ _).alloc (Nat.le_refl _) _
  have hX4 : Has W4 W3.heap.size #[.int .i64 ctx, s3] 24 := by rw [hW4]; exact has_new _ _ _ _ rfl
  have hX4' := (hX2.below hB3 hX2.lt).below hB4 (Nat.lt_of_lt_of_le hX2.lt hB3.size)
  have hBw4 := (hBw2.trans (hB3.mono hBw2.size)).trans (hB4.mono (by have := hBw2.size; have := hB3.size; omega))
  have hP4 := (hP2.below hB3).below hB4
  have hQ4 := hP3.below hB4
  obtain ⟨a3, c3, hs3⟩ := hP3.slice
  rw [← HN.out] at hs3
  subst hs3
  have x0 := hX4'.cell 0
  have x1 := hX4'.cell 1
  rw [hW4] at x0 x1
  clear hX2 hB1 hB2 hBw2 hB3 hB4 h1 h2 hP1 hP2 hP3
  go_wp2_with fail
  rw [← hW4]
  clear hW4 x0 x1
  refine (h3 W4 _ _ hP4 hQ4).mono ?_
  rintro e W5 ⟨b5, rfl, hb5, hB5⟩
  obtain rfl : b5 = true := hb5.2 (by simp)
  have hBw5 := hBw4.trans (hB5.mono hBw4.size)
  have hX5 := hX4'.below hB5 hX4'.lt
  have hP5 := hP4.below hB5
  have x0 := hX5.cell 0
  have x1 := hX5.cell 1
  clear hb5 h3 hX4 hX4' hP4 hQ4
  go_wp2_with fail
  refine (h4 W5 _ hP5 (hG.below hBw5 hG.size)).mono ?_
  rintro e W6 ⟨v6, rfl, hO6, hn6, hB6⟩
  have hBw6 := hBw5.trans (hB6.mono hBw5.size)
  have hv6 := hO6.bytes (by have := hBw6.size; omega)
  have hk := known_any W6 (hG.below hBw6 hG.size)
  have hcv := bytes_string (P := Tryd.prog) Tryd.underlying27 Tryd.underlying5 Tryd.underlying9 W6 _ _ (hv0.below hBw6)
  have hcw := bytes_string (P := Tryd.prog) Tryd.underlying27 Tryd.underlying5 Tryd.underlying9 W6 _ _ hv6
  clear h4 x0 x1 hX5 hP5 hO6 hn6 hv6
  generalize (⟨d.toArray⟩ : ByteArray) = T at *
  go_wp2_with (first | refine wpList_convert_run rfl 27 9 _ rfl v6 _ rfl hcw ?_ | refine wpList_convert_run rfl 27 9 _ rfl _ _ rfl hcv ?_)
  refine hk.mono ?_
  rintro e W7 ⟨rfl, hB7⟩
  go_wp2_with fail
  go_ret
  exact ⟨rfl, hBw6.trans (hB7.mono hBw6.size)⟩
theorem reads_walk (v : Value) (d : List UInt8) (w : World) (hv : Bytes w v d) (hG : Glob w) :
    Calls Tryd.prog 4 #[v] w fun e w' => e = .returned (.bool true) ∧ Below w.heap.size w w' := by
  by_cases hl : 2100 < d.length
  · exact reads_long v d w hv hG hl
  cases hw : wholeB d
  · exact reads_bad v d w hv hG (by omega) 150 (by decide) (fun W hB => decode_no v d W (hv.below hB) (by omega) hw) (fun W hB => rread_no v d W (hv.below hB) (by omega) hw)
  · obtain ⟨x2, x3, x4, x5, r, rfl, hr⟩ := wholeB_of hw
    have hlr : r.length ≤ 900000 := by simp at hl; omega
    by_cases hE : chkE (numL [x2, x3] : Nat) (insesL r) = 0
    · refine reads_ok v _ (numL [x2, x3]) (insesL r) w hv hG (by omega) hE (body_inses _ r hr).2.2 (prog_back hr) (fun W hB => (decode_yes v x2 x3 x4 x5 r W (hv.below hB) hr hlr (hG.below hB hG.size)).1 hE) (fun W hB => ?_)
      refine (rread_yes v x2 x3 x4 x5 r W (hv.below hB) hr _ hE).mono ?_
      rintro e w' ⟨h1, _, h3⟩
      obtain ⟨sv, h4, h5⟩ := h1 rfl
      exact ⟨sv, h4, h5, h3⟩
    · refine reads_bad v _ w hv hG (by omega) _ hE (fun W hB => (decode_yes v x2 x3 x4 x5 r W (hv.below hB) hr hlr (hG.below hB hG.size)).2 hE) (fun W hB => ?_)
      refine (rread_yes v x2 x3 x4 x5 r W (hv.below hB) hr _ rfl).mono ?_
      rintro e w' ⟨_, h2, h3⟩
      exact ⟨h2 hE, h3⟩
end Go.Proofs.YtoalchlokcphkaaDoor
