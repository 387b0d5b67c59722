/- A writer's calls: Number, Signed, Bytes, Text, Truth. -/
import Derived.Test.YtgoflpfafkmmgaaW3
namespace Go.Proofs.Ytgoflpfafkmmgaa
open Go.RowKit

theorem New.wr {w w' : World} {v u : Value} {d bs : List UInt8} {p : Nat} (h : New w w' u d) (hW : Wr w p v bs) : Wr w' p v bs := hW.below h.below

set_option maxHeartbeats 400000 in
theorem figure_ok (p : Nat) (v : Value) (bs : List UInt8) (n : Nat) (hn : n < 9223372036854775808) (w : World) (hW : Wr w p v bs) :
    Calls Try.prog 41 #[.pointer (some ⟨p, 0, none⟩), .int .i64 n, .bool true] w fun e w' => Laid w w' p v bs (numL n) e := by
  have c1 := hW.has.cell 1
  simp at c1
  go_enter Try.func41, Try.ntmps41
  go_wp2_with (first | (go_at_call 40; refine (wnone_any _ _ c1).mono ?_; rintro e w' ⟨rfl, hw⟩; obtain rfl := hw.symm) | fail)
  refine (number64_any n hn w).mono ?_
  rintro e w1 ⟨u, rfl, hN⟩
  obtain ⟨ua, uc, rfl⟩ := hN.own.slice
  go_wp2_with fail
  have hS : ∀ k, WS p v k → k < w.heap.size := hW.lt
  have hz := hN.below.size
  have hW1 : Wr (w1.alloc (.cells #[.slice ua (numL n).length uc] 27)) p v bs := (hN.wr hW).below ((Below.refl _ _).alloc (Nat.le_refl _) _)
  refine (raw_any p v _ bs [numL n] _ hW1 (parts1 w1 _ (hN.ap (numL_ne n) hS) (fun k hk => Nat.lt_of_lt_of_le (hS k hk) hz)) (fun d hd => by simp at hd; subst hd; have := numL_len9 n hn; omega)).mono ?_
  intro e w2 h
  have h' := h.after ((hN.below).alloc hz _)
  clear h
  have h3 : ∃ r, e = .returned (.int .i64 r) := by
    unfold Laid at h'
    split at h'
    · exact ⟨_, h'.1⟩
    · exact ⟨_, h'.1⟩
  obtain ⟨r, rfl⟩ := h3
  simp only [List.flatten_cons, List.flatten_nil, List.append_nil] at h'
  have H : Hid (Laid w w2 p v bs (numL n) (.returned (.int .i64 r))) := h'
  clear h'
  go_wp2_with fail
  go_ret
  exact H.out

theorem Laid.code {w w' : World} {p : Nat} {v : Value} {bs x : List UInt8} {e : Ending} (h : Laid w w' p v bs x e) : ∃ r, e = .returned (.int .i64 r) := by
  unfold Laid at h
  split at h
  · exact ⟨_, h.1⟩
  · exact ⟨_, h.1⟩
set_option maxHeartbeats 400000 in
theorem figure_bad (p : Nat) (n : Int) (w : World) (c1 : w.cell? ⟨p, 1, none⟩ = some (.bool true)) :
    Calls Try.prog 41 #[.pointer (some ⟨p, 0, none⟩), .int .i64 n, .bool false] w fun e w' => e = .returned (.int .i64 2) ∧ w' = w := by
  go_enter Try.func41, Try.ntmps41
  go_wp2_with (first | (go_at_call 40; refine (wnone_any _ _ c1).mono ?_; rintro e w' ⟨rfl, hw⟩; obtain rfl := hw.symm) | fail)
  go_ret
  exact ⟨rfl, rfl⟩
set_option maxHeartbeats 400000 in
theorem figure_nil (n : Int) (b : Bool) (w : World) :
    Calls Try.prog 41 #[.pointer none, .int .i64 n, .bool b] w fun e w' => e = .returned (.int .i64 1) ∧ w' = w := by
  go_enter Try.func41, Try.ntmps41
  go_wp2_with (first | (go_at_call 40; refine (wnone_nil _).mono ?_; rintro e w' ⟨rfl, hw⟩; obtain rfl := hw.symm) | fail)
  go_ret
  exact ⟨rfl, rfl⟩
set_option maxHeartbeats 400000 in
theorem wnumber_ok (p : Nat) (v : Value) (bs : List UInt8) (n : Nat) (hn : n < 9223372036854775808) (w : World) (hW : Wr w p v bs) :
    Calls Try.prog 16 #[.pointer (some ⟨p, 0, none⟩), .int .i64 n] w fun e w' => Laid w w' p v bs (numL n) e := by
  go_enter Try.func16, Try.ntmps16
  go_wp2_with fail
  refine (figure_ok p v bs n hn w hW).mono ?_
  intro e w2 h
  obtain ⟨r, rfl⟩ := h.code
  have H : Hid (Laid w w2 p v bs (numL n) (.returned (.int .i64 r))) := h
  clear h
  go_wp2_with fail
  go_ret
  exact H.out
set_option maxHeartbeats 400000 in
theorem wnumber_bad (p : Nat) (n : Int) (hn : n < 0) (w : World) (c1 : w.cell? ⟨p, 1, none⟩ = some (.bool true)) :
    Calls Try.prog 16 #[.pointer (some ⟨p, 0, none⟩), .int .i64 n] w fun e w' => e = .returned (.int .i64 2) ∧ w' = w := by
  have hd : decide (0 ≤ n) = false := by simp; omega
  go_enter Try.func16, Try.ntmps16
  go_wp2_with (first | (go_at_call 41; refine (figure_bad p n _ c1).mono ?_; rintro e w' ⟨rfl, hw⟩; obtain rfl := hw.symm) | fail)
  go_ret
  exact ⟨rfl, rfl⟩
set_option maxHeartbeats 400000 in
theorem wnumber_nil (n : Int) (w : World) :
    Calls Try.prog 16 #[.pointer none, .int .i64 n] w fun e w' => e = .returned (.int .i64 1) ∧ w' = w := by
  go_enter Try.func16, Try.ntmps16
  go_wp2_with (first | (go_at_call 41; refine (figure_nil n _ _).mono ?_; rintro e w' ⟨rfl, hw⟩; obtain rfl := hw.symm) | fail)
  go_ret
  exact ⟨rfl, rfl⟩

/-- What a signed number is folded to. -/
def foldN (n : Int) : Nat := if n < 0 then (2 * (-1 - n) + 1).toNat else (2 * n).toNat
def inS (n : Int) : Bool := decide (-4611686018427387904 ≤ n) && decide (n ≤ 4611686018427387903)
theorem foldN_lt (n : Int) (h : inS n = true) : foldN n < 9223372036854775808 := by
  unfold inS at h; simp at h; unfold foldN; split <;> omega
set_option maxHeartbeats 400000 in
theorem folded_ok (n : Int) (h : inS n = true) (w : World) :
    Calls Try.prog 42 #[.int .i64 n] w fun e w' => e = .returned (.int .i64 (foldN n)) ∧ w' = w := by
  have hb : -4611686018427387904 ≤ n ∧ n ≤ 4611686018427387903 := by unfold inS at h; simpa using h
  have e1 : n < 0 → wrap64 (wrap64 (2 * wrap64 (-1 - n)) + 1) = (foldN n : Int) := fun h0 => by
    unfold wrap64; unfold foldN; rw [if_pos h0]; omega
  have e2 : ¬ n < 0 → wrap64 (2 * n) = (foldN n : Int) := fun h0 => by
    unfold wrap64; unfold foldN; rw [if_neg h0]; omega
  clear hb h
  by_cases h0 : n < 0
  · have e3 := e1 h0
    generalize foldN n = m at *
    clear e1 e2
    go_enter Try.func42, Try.ntmps42
    go_wp2_with fail
    go_ret
    refine ⟨?_, rfl⟩
    show Ending.returned (.int .i64 _) = _
    rw [e3]
  · have e3 := e2 h0
    generalize foldN n = m at *
    clear e1 e2
    go_enter Try.func42, Try.ntmps42
    go_wp2_with fail
    go_ret
    exact ⟨rfl, rfl⟩
theorem folded_any (n : Int) (w : World) :
    Calls Try.prog 42 #[.int .i64 n] w fun e w' => (∃ m : Int, e = .returned (.int .i64 m)) ∧ w' = w := by
  by_cases h0 : n < 0
  · go_enter Try.func42, Try.ntmps42
    go_wp2_with fail
    go_ret
    exact ⟨⟨_, rfl⟩, rfl⟩
  · go_enter Try.func42, Try.ntmps42
    go_wp2_with fail
    go_ret
    exact ⟨⟨_, rfl⟩, rfl⟩
set_option maxHeartbeats 400000 in
theorem wsigned_ok (p : Nat) (v : Value) (bs : List UInt8) (n : Int) (hn : inS n = true) (w : World) (hW : Wr w p v bs) :
    Calls Try.prog 17 #[.pointer (some ⟨p, 0, none⟩), .int .i64 n] w fun e w' => Laid w w' p v bs (numL (foldN n)) e := by
  have hf := folded_ok n hn w
  have hl := foldN_lt n hn
  have hg := figure_ok p v bs (foldN n) hl w hW
  have hb : -4611686018427387904 ≤ n ∧ n ≤ 4611686018427387903 := by unfold inS at hn; simpa using hn
  obtain ⟨h1, h2⟩ := hb
  clear hn hl
  generalize foldN n = m at *
  go_enter Try.func17, Try.ntmps17
  go_wp2_with (first | (go_at_call 42; refine hf.mono ?_; rintro e w' ⟨rfl, hw⟩; obtain rfl := hw.symm) | fail)
  refine hg.mono ?_
  intro e w2 h
  obtain ⟨r, rfl⟩ := h.code
  have H : Hid (Laid w w2 p v bs (numL m) (.returned (.int .i64 r))) := h
  clear h
  go_wp2_with fail
  go_ret
  exact H.out
set_option maxHeartbeats 400000 in
theorem wsigned_bad (p : Nat) (n : Int) (hn : inS n = false) (w : World) (c1 : w.cell? ⟨p, 1, none⟩ = some (.bool true)) :
    Calls Try.prog 17 #[.pointer (some ⟨p, 0, none⟩), .int .i64 n] w fun e w' => e = .returned (.int .i64 2) ∧ w' = w := by
  unfold inS at hn
  by_cases h1 : -4611686018427387904 ≤ n
  · have h2 : ¬ n ≤ 4611686018427387903 := by simp [h1] at hn; omega
    have h3 : decide (n ≤ 4611686018427387903) = false := by simpa using h2
    clear hn
    go_enter Try.func17, Try.ntmps17
    go_wp2_with (first | (go_at_call 42; refine (folded_any n _).mono ?_; rintro e w' ⟨⟨m, rfl⟩, hw⟩; obtain rfl := hw.symm) | (go_at_call 41; refine (figure_bad p _ _ c1).mono ?_; rintro e w' ⟨rfl, hw⟩; obtain rfl := hw.symm) | fail)
    go_ret
    exact ⟨rfl, rfl⟩
  · have h3 : decide (-4611686018427387904 ≤ n) = false := by simpa using h1
    clear hn
    go_enter Try.func17, Try.ntmps17
    go_wp2_with (first | (go_at_call 42; refine (folded_any n _).mono ?_; rintro e w' ⟨⟨m, rfl⟩, hw⟩; obtain rfl := hw.symm) | (go_at_call 41; refine (figure_bad p _ _ c1).mono ?_; rintro e w' ⟨rfl, hw⟩; obtain rfl := hw.symm) | fail)
    go_ret
    exact ⟨rfl, rfl⟩
set_option maxHeartbeats 400000 in
theorem wsigned_nil (w : World) :
    Calls Try.prog 17 #[.pointer none, .int .i64 1] w fun e w' => e = .returned (.int .i64 1) ∧ w' = w := by
  go_enter Try.func17, Try.ntmps17
  go_wp2_with (first | (go_at_call 42; refine (folded_any 1 _).mono ?_; rintro e w' ⟨⟨m, rfl⟩, hw⟩; obtain rfl := hw.symm) | (go_at_call 41; refine (figure_nil _ _ _).mono ?_; rintro e w' ⟨rfl, hw⟩; obtain rfl := hw.symm) | fail)
  go_ret
  exact ⟨rfl, rfl⟩

theorem two_le (x : List UInt8) (h : x.length ≤ 1000000000) : ∀ d ∈ [numL x.length, x], d.length ≤ 1000000000 := by
  intro d hd
  have := numL_len9 x.length (by omega)
  simp only [List.mem_cons, List.not_mem_nil, or_false] at hd
  rcases hd with e | e
  · rw [e]; omega
  · rw [e]; exact h
/-- Bytes' bytes. -/
def bytL (x : List UInt8) : List UInt8 := numL x.length ++ x
set_option maxHeartbeats 400000 in
theorem wbytes_any (p : Nat) (v xv : Value) (bs x : List UInt8) (w : World) (hW : Wr w p v bs) (hx : BytesAp (WS p v) w xv x) (hsm : x.length ≤ 1000000000) :
    Calls Try.prog 18 #[.pointer (some ⟨p, 0, none⟩), xv] w fun e w' => Laid w w' p v bs (bytL x) e := by
  obtain ⟨xa, xc, xb, xo, hxv, _⟩ := id hx
  have Hx : Hid (BytesAp (WS p v) w xv x) := hx
  clear hx
  subst hxv
  go_enter Try.func18, Try.ntmps18
  go_wp2_with fail
  refine (numberI_any x.length (by omega) w).mono ?_
  rintro e w1 ⟨u, rfl, hN⟩
  obtain ⟨ua, uc, rfl⟩ := hN.own.slice
  go_wp2_with fail
  have hS : ∀ k, WS p v k → k < w.heap.size := hW.lt
  have hz := hN.below.size
  have hW1 : Wr (w1.alloc (.cells #[.slice ua (numL x.length).length uc, .slice xa x.length xc] 27)) p v bs := (hN.wr hW).below ((Below.refl _ _).alloc (Nat.le_refl _) _)
  refine (raw_any p v _ bs [numL x.length, x] _ hW1 (parts2 w1 _ _ (hN.ap (numL_ne _) hS) (Hx.out.fr (S' := fun _ => False) (Fr.of_below hN.below) (fun _ _ h => h.elim)) (fun k hk => Nat.lt_of_lt_of_le (hS k hk) hz)) (two_le x hsm)).mono ?_
  intro e w2 h
  have h' := h.after ((hN.below).alloc hz _)
  clear h
  obtain ⟨r, rfl⟩ := h'.code
  have ef : [numL x.length, x].flatten = bytL x := by simp [bytL]
  rw [ef] at h'
  have H : Hid (Laid w w2 p v bs (bytL x) (.returned (.int .i64 r))) := h'
  clear h'
  go_wp2_with fail
  go_ret
  exact H.out

set_option maxHeartbeats 400000 in
theorem wbytes_nil (a : Option Addr) (n c : Nat) (hn : n ≤ 1000000000) (w : World) :
    Calls Try.prog 18 #[.pointer none, .slice a n c] w fun e w' => e = .returned (.int .i64 1) ∧ Below w.heap.size w w' := by
  go_enter Try.func18, Try.ntmps18
  go_wp2_with fail
  refine (numberI_any n (by omega) w).mono ?_
  rintro e w1 ⟨u, rfl, hN⟩
  obtain ⟨ua, uc, rfl⟩ := hN.own.slice
  have hz := hN.below.size
  go_wp2_with (first | (go_at_call 21; refine (raw_nil _ _ _ _).mono ?_; rintro e w' ⟨rfl, hw⟩; obtain rfl := hw.symm) | fail)
  go_ret
  exact ⟨rfl, hN.below.alloc hz _⟩
/-- The bytes of a text, laid anew. -/
theorem lit_bytes (w : World) (l : List UInt8) {S : Nat → Prop} (hS : ∀ k, S k → k < w.heap.size) : BytesAp S (Lib.bytesWorld w 5 ⟨l.toArray⟩) (.slice (some ⟨w.heap.size, 0, none⟩) l.length (grownCap w l.length 0 5)) l := by
  refine ⟨_, _, w.heap.size, 0, rfl, grownCap_ge w l.length 0 5, fun _ => rfl, fun j hj => ?_, by rw [Lib.bytesWorld_size]; omega, fun e => by have := hS _ e; omega⟩
  rw [Nat.zero_add, Lib.bytesWorld_cell w 5 ⟨l.toArray⟩ j hj]
  simp [bc, bv, List.getD]
theorem bytesWorld_below (w : World) (s : ByteArray) : Below w.heap.size w (Lib.bytesWorld w 5 s) :=
  ⟨rfl, rfl, rfl, by rw [Lib.bytesWorld_size]; omega, fun j hj => Lib.bytesWorld_at_old w 5 s j hj⟩
set_option maxHeartbeats 400000 in
theorem wtext_any (p : Nat) (v : Value) (bs x : List UInt8) (w : World) (hW : Wr w p v bs) (hsm : x.length ≤ 1000000000) :
    Calls Try.prog 19 #[.pointer (some ⟨p, 0, none⟩), .string ⟨x.toArray⟩] w fun e w' => Laid w w' p v bs (bytL x) e := by
  have hcv := Lib.run_convert_string_bytes (P := Try.prog) w 9 27 5 ⟨x.toArray⟩ Try.underlying9 Try.underlying27 Try.underlying5
  have hb := lit_bytes w x (S := WS p v) hW.lt
  have hB := bytesWorld_below w ⟨x.toArray⟩
  generalize Lib.bytesWorld w 5 ⟨x.toArray⟩ = w1 at *
  have e1 : ByteArray.size ⟨x.toArray⟩ = x.length := rfl
  rw [e1] at hcv
  clear e1
  generalize grownCap w x.length 0 5 = c at *
  generalize (⟨x.toArray⟩ : ByteArray) = s at *
  go_enter Try.func19, Try.ntmps19
  go_wp2_with fail
  refine (wbytes_any p v _ bs x w1 (hW.below hB) hb hsm).mono ?_
  intro e w2 h
  have h' := h.after hB
  clear h
  obtain ⟨r, rfl⟩ := h'.code
  have H : Hid (Laid w w2 p v bs (bytL x) (.returned (.int .i64 r))) := h'
  clear h' hcv
  go_wp2_with fail
  go_ret
  exact H.out
set_option maxHeartbeats 400000 in
theorem wtext_nil (x : List UInt8) (w : World) (hsm : x.length ≤ 1000000000) :
    Calls Try.prog 19 #[.pointer none, .string ⟨x.toArray⟩] w fun e w' => e = .returned (.int .i64 1) ∧ Below w.heap.size w w' := by
  have hcv := Lib.run_convert_string_bytes (P := Try.prog) w 9 27 5 ⟨x.toArray⟩ Try.underlying9 Try.underlying27 Try.underlying5
  have hB := bytesWorld_below w ⟨x.toArray⟩
  generalize Lib.bytesWorld w 5 ⟨x.toArray⟩ = w1 at *
  have e1 : ByteArray.size ⟨x.toArray⟩ = x.length := rfl
  rw [e1] at hcv
  clear e1
  generalize grownCap w x.length 0 5 = c at *
  generalize (⟨x.toArray⟩ : ByteArray) = s at *
  go_enter Try.func19, Try.ntmps19
  go_wp2_with fail
  refine (wbytes_nil _ x.length c hsm w1).mono ?_
  rintro e w2 ⟨rfl, h⟩
  clear hcv
  go_wp2_with fail
  go_ret
  exact ⟨rfl, hB.trans (h.mono hB.size)⟩
theorem alloc2_below (w : World) (o o' : Obj) : Below w.heap.size w ((w.alloc o).alloc o') := ((Below.refl _ _).alloc (Nat.le_refl _) _).alloc (by simp) _
theorem ap_one {S : Nat → Prop} (w : World) (x : UInt8) (z : Int) (hz : z = bv x) (hS : ∀ k, S k → k < w.heap.size) : BytesAp S (w.alloc (.cells #[.int .u8 z] 5)) (.slice (some ⟨w.heap.size, 0, none⟩) 1 1) [x] := by
  refine ⟨_, _, w.heap.size, 0, rfl, Nat.le_refl _, fun _ => rfl, fun j hj => ?_, by simp, fun e => by have := hS _ e; omega⟩
  obtain rfl : j = 0 := by simpa using hj
  subst hz
  exact (has_new w #[bc x] 5 w.heap.size rfl).cell 0
set_option maxHeartbeats 400000 in
theorem wtruth_any (p : Nat) (v : Value) (bs : List UInt8) (b : Bool) (w : World) (hW : Wr w p v bs) :
    Calls Try.prog 20 #[.pointer (some ⟨p, 0, none⟩), .bool b] w fun e w' => Laid w w' p v bs [if b then 1 else 0] e := by
  have hS := hW.lt
  cases b with
  | false =>
    go_enter Try.func20, Try.ntmps20
    go_wp2_with fail
    refine named (p := fun X => Calls _ _ _ X _) ?_
    intro W0 hW0
    have hB0 : Below w.heap.size w W0 := by rw [hW0]; exact alloc2_below _ _ _
    have hP : Parts (WS p v) W0 (.slice (some ⟨w.heap.size + 1, 0, none⟩) 1 1) [[0]] := by
      rw [hW0]; exact parts1 (w.alloc _) _ (ap_one w 0 0 rfl hS) (fun k hk => by have := hS k hk; simp; omega)
    clear hW0
    refine (raw_any p v _ bs [[0]] W0 (hW.below hB0) hP (fun d hd => by simp at hd; subst hd; simp)).mono ?_
    intro e w2 h
    have h' := h.after hB0
    clear h
    obtain ⟨r, rfl⟩ := h'.code
    have e1 : [[(0 : UInt8)]].flatten = [0] := rfl
    rw [e1] at h'
    have H : Hid (Laid w w2 p v bs [0] (.returned (.int .i64 r))) := h'
    clear h'
    go_wp2_with fail
    go_ret
    exact H.out
  | true =>
    go_enter Try.func20, Try.ntmps20
    go_wp2_with fail
    refine named (p := fun X => Calls _ _ _ X _) ?_
    intro W0 hW0
    have hB0 : Below w.heap.size w W0 := by rw [hW0]; exact alloc2_below _ _ _
    have hP : Parts (WS p v) W0 (.slice (some ⟨w.heap.size + 1, 0, none⟩) 1 1) [[1]] := by
      rw [hW0]; exact parts1 (w.alloc _) _ (ap_one w 1 1 rfl hS) (fun k hk => by have := hS k hk; simp; omega)
    clear hW0
    refine (raw_any p v _ bs [[1]] W0 (hW.below hB0) hP (fun d hd => by simp at hd; subst hd; simp)).mono ?_
    intro e w2 h
    have h' := h.after hB0
    clear h
    obtain ⟨r, rfl⟩ := h'.code
    have e1 : [[(1 : UInt8)]].flatten = [1] := rfl
    rw [e1] at h'
    have H : Hid (Laid w w2 p v bs [1] (.returned (.int .i64 r))) := h'
    clear h'
    go_wp2_with fail
    go_ret
    exact H.out
set_option maxHeartbeats 400000 in
theorem wtruth_nil (b : Bool) (w : World) :
    Calls Try.prog 20 #[.pointer none, .bool b] w fun e w' => e = .returned (.int .i64 1) ∧ Below w.heap.size w w' := by
  cases b
  all_goals
    go_enter Try.func20, Try.ntmps20
    go_wp2_with (first | (go_at_call 21; refine (raw_nil _ _ _ _).mono ?_; rintro e w' ⟨rfl, hw⟩; obtain rfl := hw.symm) | fail)
    go_ret
    exact ⟨rfl, alloc2_below _ _ _⟩
end Go.Proofs.Ytgoflpfafkmmgaa
