/- Numbers as texts: the program's and the document's. -/
import Derived.Test.YtoalchlokcphkaaDoorX2
import Derived.Lib.ItoaLen
namespace Go.Proofs.YtoalchlokcphkaaDoor
open Go.RowKit

/-- A text of these bytes. -/
abbrev str (l : List UInt8) : ByteArray := ⟨l.toArray⟩
theorem str_add (a b : List UInt8) : str a ++ str b = str (a ++ b) := by
  apply ByteArray.ext
  rw [ByteArray.data_append]
  simp
theorem cat_run {o : Oper} {a : Act} {w : World} (x y : Operand) (ho : o.op = .binOp .add 9 x y 9) (l m : List UInt8) (hx : a.eval x = .string (str l)) (hy : a.eval y = .string (str m)) (hs : l.length + m.length ≤ 1000000) :
    (execOp a.eval o).run Tryd.prog w = .ok (.value (.string (str (l ++ m)))) w := by
  have h := run_string_add_sum (P := Tryd.prog) w (str l) (str m) (by simp [ByteArray.size]; omega)
  rw [str_add] at h
  unfold execOp
  simp [ho, hx, hy, binOp, eqGuard, h]
/-- Two texts in one. -/
theorem wpList_cat {ops : Array Oper} {rest : List Oper} {o : Oper} {a : Act} {w : World} {Q : Exit → Act → World → Prop} (hw : Region.wanted o (yielded ops a.tmps) = true) (x y : Operand) (ho : o.op = .binOp .add 9 x y 9) (l m : List UInt8) (hx : a.eval x = .string (str l)) (hy : a.eval y = .string (str m)) (hs : l.length + m.length ≤ 1000000)
    (h : wpList Tryd.prog ops Q rest (a.put o.dst (.string (str (l ++ m)))) w) : wpList Tryd.prog ops Q (o :: rest) a w := wpList_run hw (cat_run x y ho l m hx hy hs) h
theorem itoa_any (n : Int) (h0 : -9223372036854775808 ≤ n) (h1 : n ≤ 9223372036854775807) (w : World) (htab : Tab w) :
    Calls Tryd.prog 45 #[.int .i64 n] w fun e w' => e = .returned (.string (str (Lib.itoa n))) ∧ Below w.heap.size w w' :=
  (sh_strconv_Itoa n h0 h1 w htab).mono fun _ _ ⟨h, k, os, e2⟩ => ⟨h, e2 ▸ grow_below w k os⟩
theorem fmt_any (u : Nat) (hu : u < 18446744073709551616) (w : World) (htab : Tab w) :
    Calls Tryd.prog 32 #[.int .u64 u, .int .i64 10] w fun e w' => e = .returned (.string (str (Lib.decDigits u))) ∧ Below w.heap.size w w' := by
  go_enter Tryd.func32, Tryd.ntmps32
  go_wp2_with (go_at_call 46; refine (fmtu_any u hu _ htab).mono ?_; rintro e W1 ⟨rfl, hB1⟩)
  go_ret
  exact ⟨rfl, hB1⟩
theorem register_any (n : Int) (h0 : 0 ≤ n) (h1 : n ≤ 9) (w : World) :
    Calls Tryd.prog 31 #[.int .i64 n] w fun e w' => e = .returned (.string (str (114 :: Lib.decDigits n.toNat))) ∧ w' = w := by
  obtain ⟨m, rfl⟩ : ∃ m : Nat, n = m := ⟨n.toNat, by omega⟩
  rw [Int.toNat_natCast]
  have hm : m < 100 := by omega
  have HL : Hid ((Lib.decDigits m).length ≤ 21) := by show _ ≤ _; have := Lib.itoa_length_le m (by omega) (by omega); rwa [Lib.itoa_nonneg] at this
  go_enter Tryd.func31, Tryd.ntmps31
  go_wp2_with (first
    | (go_at_call 45; refine (sh_strconv_Itoa_small m hm _).mono ?_; rintro e w' ⟨rfl, hw⟩; obtain rfl := hw.symm)
    | refine wpList_cat rfl _ _ rfl [114] (Lib.decDigits m) rfl rfl (by have := HL.out; simp; omega) ?_)
  go_ret
  exact ⟨rfl, rfl⟩
theorem signed_any (n : Int) (h0 : -32768 ≤ n) (h1 : n ≤ 32767) (w : World) (htab : Tab w) :
    Calls Tryd.prog 33 #[.int .i64 n] w fun e w' => e = .returned (.string (str (if n < 0 then Lib.itoa n else 43 :: Lib.itoa n))) ∧ Below w.heap.size w w' := by
  have hi := itoa_any n (by omega) (by omega) w htab
  by_cases hn : n < 0
  · rw [if_pos hn]
    go_enter Tryd.func33, Tryd.ntmps33
    go_wp2_with (go_at_call 45; refine hi.mono ?_; rintro e W1 ⟨rfl, hB1⟩)
    go_ret
    exact ⟨rfl, hB1⟩
  · rw [if_neg hn]
    have HL : Hid ((Lib.itoa n).length ≤ 21) := Lib.itoa_length_le n (by omega) (by omega)
    go_enter Tryd.func33, Tryd.ntmps33
    go_wp2_with (first
      | (go_at_call 45; refine hi.mono ?_; rintro e W1 ⟨rfl, hB1⟩)
      | refine wpList_cat rfl _ _ rfl [43] (Lib.itoa n) rfl rfl (by have := HL.out; simp; omega) ?_)
    go_ret
    exact ⟨rfl, hB1⟩
theorem dec_step (u : Nat) (h : 10 ≤ u) : Lib.decDigits u = Lib.decDigits (u / 10) ++ [UInt8.ofNat (48 + u % 10)] := by
  rw [Lib.decDigits, dif_neg (by omega)]
set_option maxRecDepth 10000 in
set_option maxHeartbeats 1000000 in
theorem digits_any (n : Nat) (hn : n < 9223372036854775808) (w : World) :
    Calls Tryd.prog 37 #[.int .i64 n] w fun e w' => e = .returned (.string (str (Lib.decDigits n))) ∧ Below w.heap.size w w' := by
  go_enter Tryd.func37, Tryd.ntmps37
  go_wp2
  go_loopw [0, 3] (fun nv sv wr => ∃ (m : Nat) (a : List UInt8), nv = .int .i64 (m : Nat) ∧ m ≤ n ∧ sv = .string (str a) ∧ Lib.decDigits m ++ a = Lib.decDigits n ∧ Below w.heap.size w wr) (fun nv _ _ => (intOf nv).toNat)
  case atStart => exact ⟨n, [], rfl, Nat.le_refl _, rfl, by simp, Below.refl _ _⟩
  case round =>
    obtain ⟨m, a, rfl, hm, rfl, hcat, hB⟩ := hrel
    have HC : Hid (Lib.decDigits m ++ a = Lib.decDigits n) := hcat
    clear hcat
    have e1 : (48 : Int) + (m : Int) % 10 = bv (UInt8.ofNat (48 + m % 10)) := by rw [bv_of]; omega
    have hcv := bytes_string (P := Tryd.prog) Tryd.underlying27 Tryd.underlying5 Tryd.underlying9 (wr.alloc (.cells #[.int .u8 (bv (UInt8.ofNat (48 + m % 10)))] 5)) (.slice (some ⟨wr.heap.size, 0, none⟩) 1 1) [UInt8.ofNat (48 + m % 10)] (bytes_block wr [UInt8.ofNat (48 + m % 10)] 1 rfl _ rfl)
    have HA : Hid (a.length ≤ 21) := by
      show _ ≤ _
      have h1 := congrArg List.length HC.out
      rw [List.length_append] at h1
      have h2 := Lib.itoa_length_le n (by omega) (by omega)
      rw [Lib.itoa_nonneg] at h2
      omega
    have hB1 : Below w.heap.size w (wr.alloc (.cells #[.int .u8 (bv (UInt8.ofNat (48 + m % 10)))] 5)) := hB.alloc hB.size _
    have hz1 := bv_nonneg (UInt8.ofNat (48 + m % 10))
    have hz2 := bv_lt (UInt8.ofNat (48 + m % 10))
    obtain ⟨z, hz⟩ : ∃ z, z = UInt8.ofNat (48 + m % 10) := ⟨_, rfl⟩
    have HZ : Hid (z = UInt8.ofNat (48 + m % 10)) := hz
    rw [← hz] at e1 hcv hB1 hz1 hz2
    clear hz
    by_cases h0 : m < 10
    · have hq : (m : Int) / 10 = 0 := by omega
      go_wp2_with (first | refine wpList_convert_run rfl 27 9 _ rfl _ _ rfl hcv ?_ | refine wpList_cat rfl _ _ rfl [z] a rfl rfl (by have := HA.out; simp; omega) ?_)
      go_ret
      refine ⟨?_, hB1⟩
      rw [← HC.out, Lib.decDigits_one h0, show z = UInt8.ofNat (48 + m) by rw [HZ.out, Nat.mod_eq_of_lt h0]]
      rfl
    · have hq : ¬ (m : Int) / 10 = 0 := by omega
      go_wp2_with (first | refine wpList_convert_run rfl 27 9 _ rfl _ _ rfl hcv ?_ | refine wpList_cat rfl _ _ rfl [z] a rfl rfl (by have := HA.out; simp; omega) ?_)
      go_roundw
      case rel =>
        refine ⟨m / 10, z :: a, by first | rfl | (congr 1), by omega, rfl, ?_, hB1⟩
        rw [← HC.out, dec_step m (by omega), HZ.out]; simp
      case measure => simp [intOf]; omega
end Go.Proofs.YtoalchlokcphkaaDoor
