/- What was laid is taken: same. -/
import Derived.Test.YtgoflpfafkmmgaaP2
import Derived.Test.YtgoflpfafkmmgaaK1
namespace Go.Proofs.Ytgoflpfafkmmgaa
open Go.RowKit

theorem bnd_pos {α : Type} {most : Int} (x : Except Nat α) (h : 0 ≤ most) : bnd most x = x := by unfold bnd; rw [if_neg (by omega)]
/-- A reader behind what was laid. -/
def Behind (w w' : World) (r : Nat) (rest : List UInt8) (at_ : Nat) (e : Ending) : Prop := e = .returned (.bool true) ∧ ∃ lv', Rd w' r lv' rest at_ 0 ∧ Ex r w w'
theorem Took.behind {w W0 w1 : World} {r at_ : Nat} {out rest : List UInt8} (h : Took W0 w1 r rest (at_ + ((out ++ rest).length - rest.length))) (hB : Below w.heap.size w W0) : Behind w w1 r rest (at_ + out.length) (.returned (.bool true)) := by
  obtain ⟨lv', h1, h2⟩ := h
  have e : (out ++ rest).length - rest.length = out.length := by simp
  rw [e] at h1
  exact ⟨rfl, lv', h1, (Ex.below hB).trans h2⟩
set_option maxRecDepth 10000 in
set_option maxHeartbeats 2000000 in
theorem same_0 (r : Nat) (lv : Value) (rest : List UInt8) (at_ : Nat) (n : Nat) (hn : n < 9223372036854775808) (xa : Option Addr) (xl xc : Nat) (w : World) (hR : Rd w r lv (numL n ++ rest) at_ 0) (hat : at_ + (numL n ++ rest).length ≤ 10000000000) :
    Calls Try.prog 36 #[.pointer (some ⟨r, 0, none⟩), .agg #[.int .i64 0, .int .i64 n, .slice xa xl xc]] w fun e w' => Behind w w' r rest (at_ + (numL n).length) e := by
  have hx : vN (bnd (n : Int) (lnum n (numL n ++ rest))) = .ok (.int .i64 n, rest) := by rw [bnd_pos _ (by omega), lnum_num n rest hn _ (Int.le_refl _)]; rfl
  have hrl := hR.lt
  go_enter Try.func36, Try.ntmps36
  go_wp2_with fail
  refine named (p := fun X => Calls _ _ _ X _) ?_
  intro W0 hW0
  have hB0 : Below w.heap.size w W0 := by rw [hW0]; exact (Below.refl _ _).alloc (Nat.le_refl _) _
  have hX0 : Has W0 w.heap.size #[.int .i64 0, .int .i64 n, .slice xa xl xc] 29 := by rw [hW0]; exact has_new _ _ _ _ rfl
  clear hW0
  refine (rnumber_any r lv _ at_ n W0 (hR.below hB0) hat).mono ?_
  intro e w1 hl
  obtain ⟨rfl, ht⟩ := hl.ok hx
  have hEx := ht.choose_spec.2
  have hX1 := hX0.ex hEx (by omega)
  have q1 := hX1.cell 1
  have q2 := hX1.cell 2
  simp at q1 q2
  have HF : Hid (Behind w w1 r rest (at_ + (numL n).length) (.returned (.bool true))) := ht.behind hB0
  clear hl ht hEx
  go_wp2_with (first | (go_at_call 14; refine (num_any _ _).mono ?_; rintro e w' ⟨rfl, hw⟩; obtain rfl := hw.symm; clear hw) | fail)
  go_ret
  exact HF.out
set_option maxRecDepth 10000 in
set_option maxHeartbeats 2000000 in
theorem same_1 (r : Nat) (lv : Value) (rest : List UInt8) (at_ : Nat) (n : Int) (hn : inS n = true) (xa : Option Addr) (xl xc : Nat) (w : World) (hR : Rd w r lv (numL (foldN n) ++ rest) at_ 0) (hat : at_ + (numL (foldN n) ++ rest).length ≤ 10000000000) :
    Calls Try.prog 36 #[.pointer (some ⟨r, 0, none⟩), .agg #[.int .i64 1, .int .i64 n, .slice xa xl xc]] w fun e w' => Behind w w' r rest (at_ + (numL (foldN n)).length) e := by
  have hx : vI (lsig (numL (foldN n) ++ rest)) = .ok (.int .i64 n, rest) := by rw [lsig_num rest n hn]; rfl
  clear hn
  have hrl := hR.lt
  go_enter Try.func36, Try.ntmps36
  go_wp2_with fail
  refine named (p := fun X => Calls _ _ _ X _) ?_
  intro W0 hW0
  have hB0 : Below w.heap.size w W0 := by rw [hW0]; exact (Below.refl _ _).alloc (Nat.le_refl _) _
  have hX0 : Has W0 w.heap.size #[.int .i64 1, .int .i64 n, .slice xa xl xc] 29 := by rw [hW0]; exact has_new _ _ _ _ rfl
  clear hW0
  refine (rsigned_any r lv _ at_ W0 (hR.below hB0) hat).mono ?_
  intro e w1 hl
  obtain ⟨rfl, ht⟩ := hl.ok hx
  have hEx := ht.choose_spec.2
  have hX1 := hX0.ex hEx (by omega)
  have q1 := hX1.cell 1
  have q2 := hX1.cell 2
  simp at q1 q2
  have HF : Hid (Behind w w1 r rest (at_ + (numL (foldN n)).length) (.returned (.bool true))) := ht.behind hB0
  clear hl ht hEx
  go_wp2_with (first | (go_at_call 14; refine (num_any _ _).mono ?_; rintro e w' ⟨rfl, hw⟩; obtain rfl := hw.symm; clear hw) | fail)
  go_ret
  exact HF.out
set_option maxRecDepth 10000 in
set_option maxHeartbeats 2000000 in
theorem same_2 (r : Nat) (lv : Value) (rest : List UInt8) (at_ : Nat) (n : Int) (d : List UInt8) (hd : d.length ≤ 1000000000) (xa : Option Addr) (xc : Nat) (w : World) (hb : In w (.slice xa d.length xc) d) (hR : Rd w r lv (bytL d ++ rest) at_ 0) (hat : at_ + (bytL d ++ rest).length ≤ 10000000000) :
    Calls Try.prog 36 #[.pointer (some ⟨r, 0, none⟩), .agg #[.int .i64 2, .int .i64 n, .slice xa d.length xc]] w fun e w' => Behind w w' r rest (at_ + (bytL d).length) e := by
  have hx : bnd (d.length : Int) (lbyt (d.length : Int) (bytL d ++ rest)) = .ok (d, rest) := by rw [bnd_pos _ (by omega), lbyt_byt d rest (by omega)]
  have hrl := hR.lt
  go_enter Try.func36, Try.ntmps36
  go_wp2_with fail
  refine named (p := fun X => Calls _ _ _ X _) ?_
  intro W0 hW0
  have hB0 : Below w.heap.size w W0 := by rw [hW0]; exact (Below.refl _ _).alloc (Nat.le_refl _) _
  have hX0 : Has W0 w.heap.size #[.int .i64 2, .int .i64 n, .slice xa d.length xc] 29 := by rw [hW0]; exact has_new _ _ _ _ rfl
  clear hW0
  refine (rbytes_any r lv _ at_ d.length W0 (hR.below hB0) hat).mono ?_
  intro e w1 hl
  rw [hx] at hl
  obtain ⟨v, rfl, ht, hO, _⟩ := hl
  have hEx := ht.choose_spec.2
  have hX1 := hX0.ex hEx (by omega)
  have q1 := hX1.cell 1
  have q2 := hX1.cell 2
  simp at q1 q2
  have hbx := ((hb.bytes hB0 (by have := hX0.lt; omega)).notReader (hR.below hB0)).ex hEx (by have := hX1.lt; omega)
  have cv := bytes_string Try.underlying27 Try.underlying5 Try.underlying9 w1 _ d hbx
  have cv2 := bytes_string Try.underlying27 Try.underlying5 Try.underlying9 w1 _ d (hO.bytes (by have := hX1.lt; omega))
  obtain ⟨va, vc, rfl⟩ := hO.slice
  generalize (⟨d.toArray⟩ : ByteArray) = s at *
  have HF : Hid (Behind w w1 r rest (at_ + (bytL d).length) (.returned (.bool true))) := ht.behind hB0
  clear ht hEx
  go_wp2_with (first | (go_at_call 14; refine (num_any _ _).mono ?_; rintro e w' ⟨rfl, hw⟩; obtain rfl := hw.symm; clear hw) | (refine wpList_convert_run rfl 27 9 _ rfl (.slice va d.length vc) _ rfl cv2 ?_) | (refine wpList_convert_run rfl 27 9 _ rfl (.slice xa d.length xc) _ rfl cv ?_) | fail)
  go_ret
  exact HF.out
set_option maxRecDepth 10000 in
set_option maxHeartbeats 2000000 in
theorem same_3 (r : Nat) (lv : Value) (rest : List UInt8) (at_ : Nat) (n : Int) (d : List UInt8) (hd : d.length ≤ 1000000000) (xa : Option Addr) (xc : Nat) (w : World) (hb : In w (.slice xa d.length xc) d) (hR : Rd w r lv (bytL d ++ rest) at_ 0) (hat : at_ + (bytL d ++ rest).length ≤ 10000000000) :
    Calls Try.prog 36 #[.pointer (some ⟨r, 0, none⟩), .agg #[.int .i64 3, .int .i64 n, .slice xa d.length xc]] w fun e w' => Behind w w' r rest (at_ + (bytL d).length) e := by
  have hx : vS (bnd (d.length : Int) (lbyt (d.length : Int) (bytL d ++ rest))) = .ok (.string ⟨d.toArray⟩, rest) := by rw [bnd_pos _ (by omega), lbyt_byt d rest (by omega)]; rfl
  have hrl := hR.lt
  go_enter Try.func36, Try.ntmps36
  go_wp2_with fail
  refine named (p := fun X => Calls _ _ _ X _) ?_
  intro W0 hW0
  have hB0 : Below w.heap.size w W0 := by rw [hW0]; exact (Below.refl _ _).alloc (Nat.le_refl _) _
  have hX0 : Has W0 w.heap.size #[.int .i64 3, .int .i64 n, .slice xa d.length xc] 29 := by rw [hW0]; exact has_new _ _ _ _ rfl
  clear hW0
  refine (rtext_any r lv _ at_ d.length W0 (hR.below hB0) hat).mono ?_
  intro e w1 hl
  obtain ⟨rfl, ht⟩ := hl.ok hx
  have hEx := ht.choose_spec.2
  have hX1 := hX0.ex hEx (by omega)
  have q1 := hX1.cell 1
  have q2 := hX1.cell 2
  simp at q1 q2
  have hbx := ((hb.bytes hB0 (by have := hX0.lt; omega)).notReader (hR.below hB0)).ex hEx (by have := hX1.lt; omega)
  have cv := bytes_string Try.underlying27 Try.underlying5 Try.underlying9 w1 _ d hbx
  generalize (⟨d.toArray⟩ : ByteArray) = s at *
  have HF : Hid (Behind w w1 r rest (at_ + (bytL d).length) (.returned (.bool true))) := ht.behind hB0
  clear hl ht hEx
  go_wp2_with (first | (go_at_call 14; refine (num_any _ _).mono ?_; rintro e w' ⟨rfl, hw⟩; obtain rfl := hw.symm; clear hw) | (refine wpList_convert_run rfl 27 9 _ rfl (.slice xa d.length xc) _ rfl cv ?_) | fail)
  go_ret
  exact HF.out
set_option maxRecDepth 10000 in
set_option maxHeartbeats 2000000 in
theorem same_4true (r : Nat) (lv : Value) (rest : List UInt8) (at_ : Nat) (n : Int) (hn : ¬ n = 0) (xa : Option Addr) (xl xc : Nat) (w : World) (hR : Rd w r lv ([1] ++ rest) at_ 0) (hat : at_ + ([1] ++ rest).length ≤ 10000000000) :
    Calls Try.prog 36 #[.pointer (some ⟨r, 0, none⟩), .agg #[.int .i64 4, .int .i64 n, .slice xa xl xc]] w fun e w' => Behind w w' r rest (at_ + ([1]).length) e := by
  have hx : vT (ltru ([1] ++ rest)) = .ok (.bool true, rest) := rfl
  have hn1 : (n != 0) = true := by simpa using hn
  clear hn
  have hrl := hR.lt
  go_enter Try.func36, Try.ntmps36
  go_wp2_with fail
  refine named (p := fun X => Calls _ _ _ X _) ?_
  intro W0 hW0
  have hB0 : Below w.heap.size w W0 := by rw [hW0]; exact (Below.refl _ _).alloc (Nat.le_refl _) _
  have hX0 : Has W0 w.heap.size #[.int .i64 4, .int .i64 n, .slice xa xl xc] 29 := by rw [hW0]; exact has_new _ _ _ _ rfl
  clear hW0
  refine (rtruth_any r lv _ at_ W0 (hR.below hB0) hat).mono ?_
  intro e w1 hl
  obtain ⟨rfl, ht⟩ := hl.ok hx
  have hEx := ht.choose_spec.2
  have hX1 := hX0.ex hEx (by omega)
  have q1 := hX1.cell 1
  have q2 := hX1.cell 2
  simp at q1 q2
  have HF : Hid (Behind w w1 r rest (at_ + ([1]).length) (.returned (.bool true))) := ht.behind hB0
  clear hl ht hEx
  go_wp2_with (first | (go_at_call 14; refine (num_any _ _).mono ?_; rintro e w' ⟨rfl, hw⟩; obtain rfl := hw.symm; clear hw) | fail)
  go_ret
  exact HF.out
set_option maxRecDepth 10000 in
set_option maxHeartbeats 2000000 in
theorem same_4false (r : Nat) (lv : Value) (rest : List UInt8) (at_ : Nat) (n : Int) (hn : n = 0) (xa : Option Addr) (xl xc : Nat) (w : World) (hR : Rd w r lv ([0] ++ rest) at_ 0) (hat : at_ + ([0] ++ rest).length ≤ 10000000000) :
    Calls Try.prog 36 #[.pointer (some ⟨r, 0, none⟩), .agg #[.int .i64 4, .int .i64 n, .slice xa xl xc]] w fun e w' => Behind w w' r rest (at_ + ([0]).length) e := by
  have hx : vT (ltru ([0] ++ rest)) = .ok (.bool false, rest) := rfl
  have hn1 : (n != 0) = false := by simp [hn]
  clear hn
  have hrl := hR.lt
  go_enter Try.func36, Try.ntmps36
  go_wp2_with fail
  refine named (p := fun X => Calls _ _ _ X _) ?_
  intro W0 hW0
  have hB0 : Below w.heap.size w W0 := by rw [hW0]; exact (Below.refl _ _).alloc (Nat.le_refl _) _
  have hX0 : Has W0 w.heap.size #[.int .i64 4, .int .i64 n, .slice xa xl xc] 29 := by rw [hW0]; exact has_new _ _ _ _ rfl
  clear hW0
  refine (rtruth_any r lv _ at_ W0 (hR.below hB0) hat).mono ?_
  intro e w1 hl
  obtain ⟨rfl, ht⟩ := hl.ok hx
  have hEx := ht.choose_spec.2
  have hX1 := hX0.ex hEx (by omega)
  have q1 := hX1.cell 1
  have q2 := hX1.cell 2
  simp at q1 q2
  have HF : Hid (Behind w w1 r rest (at_ + ([0]).length) (.returned (.bool true))) := ht.behind hB0
  clear hl ht hEx
  go_wp2_with (first | (go_at_call 14; refine (num_any _ _).mono ?_; rintro e w' ⟨rfl, hw⟩; obtain rfl := hw.symm; clear hw) | fail)
  go_ret
  exact HF.out
end Go.Proofs.Ytgoflpfafkmmgaa
