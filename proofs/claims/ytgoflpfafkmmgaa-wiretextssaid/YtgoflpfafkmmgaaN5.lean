/- WireTexts: the law's walk. -/
import Derived.Test.YtgoflpfafkmmgaaH1
import Derived.Test.YtgoflpfafkmmgaaP1
namespace Go.Proofs.Ytgoflpfafkmmgaa
open Go.RowKit

def wtextsΦ (s : ByteArray) (ca ya : Option Addr) (cl cc yl yc r q g fv av : Nat) : Nat → Value → World → Prop
  | 0, v, _ => v = .int .i64 0
  | 1, v, _ => v = .int .i64 0
  | 2, v, _ => v = .bool true
  | 3, v, _ => v = .bool true
  | 4, v, _ => v = .slice ca cl cc
  | 5, v, _ => v = .string s
  | 6, v, _ => v = .slice ya yl yc
  | 7, v, _ => v = .string s
  | 8, v, _ => v = .bool true
  | 9, v, _ => v = .bool true
  | 10, v, _ => v = .bool true
  | 11, v, _ => v = .string s
  | 12, v, _ => v = .slice ya yl yc
  | 13, v, _ => v = .string s
  | 14, v, _ => v = .bool true
  | 15, v, _ => v = .bool true
  | 16, v, _ => v = .bool true
  | 17, v, _ => v = .int .i64 fv
  | 18, v, _ => v = .int .i64 fv
  | 19, v, _ => v = .int .i64 fv
  | 20, v, _ => v = .bool true
  | 21, v, _ => v = .bool true
  | 22, v, _ => v = .bool true
  | 23, v, _ => v = .int .i64 fv
  | 24, v, _ => v = .int .i64 fv
  | 25, v, _ => v = .int .i64 fv
  | 26, v, _ => v = .bool true
  | 27, v, _ => v = .bool true
  | 28, v, _ => v = .bool true
  | 29, v, _ => v = .pointer (some ⟨r, 0, none⟩)
  | 30, v, _ => v = .int .i64 av
  | 31, v, _ => v = .pointer (some ⟨g, 1, none⟩)
  | 32, v, _ => v = .int .i64 av
  | 33, v, _ => v = .bool true
  | 34, v, _ => v = .bool true
  | 35, v, _ => v = .bool true
  | 36, v, _ => v = .pointer (some ⟨q, 0, none⟩)
  | 37, v, _ => v = .int .i64 av
  | 38, v, _ => v = .pointer (some ⟨g, 1, none⟩)
  | 39, v, _ => v = .int .i64 av
  | 40, v, _ => v = .bool true
  | 41, v, _ => v = .bool true
  | 42, v, _ => v = .bool true
  | 43, v, _ => v = .bool true
  | 44, v, _ => v = .bool true
  | 45, v, _ => v = .bool true
  | _, _, _ => False

set_option maxRecDepth 100000 in
set_option maxHeartbeats 4000000 in
theorem wtexts_short (bv' : Value) (b : List UInt8) (most : Int) (xv : Value) (x : List UInt8) (w : World) (hb : In w bv' b) (hx : In w xv x) (hlb : b.length ≤ 300) (hlx : x.length ≤ 50) :
    Calls Try.prog 7 #[bv', .int .i64 most, xv] w fun e w' => e = .returned (.bool true) ∧ Below w.heap.size w w' := by
  obtain ⟨xa, xc, rfl⟩ := hx.slice
  obtain ⟨ba0, bc0, rfl⟩ := hb.slice
  have i0 : ¬ (300 : Int) < b.length := by omega
  have i1 : ¬ (50 : Int) < x.length := by omega
  have hl9 := numL_len9 b.length (by omega)
  have hbl : (bytL b).length ≤ 400 := by unfold bytL; simp; omega
  go_enter Try.func7, Try.ntmps7
  go_wp2_with fail
  refine (wnew_any w).mono ?_
  rintro e w1 ⟨rfl, hB, hW⟩
  have h1 := WrN.new w w1 hB hW
  have hin := hb.inap hB (S := WS w.heap.size (.slice none 0 0)) h1.hi
  clear hB hW hb
  generalize hNw : w.heap.size = p at h1 hin
  have HN : Hid (w.heap.size = p) := hNw
  clear hNw
  go_wp2_with fail
  refine (wbytes_in p _ _ [] b w1 h1.wr hin (by omega)).mono ?_
  intro e w2 hl
  obtain ⟨rfl, v2, h2⟩ := h1.laid hl (by simp; omega)
  rw [List.nil_append] at h2
  clear hl h1 hin
  generalize bytL b = d0 at *
  go_wp2_with fail
  refine (all_any p _ _ w2 h2.wr).mono ?_
  rintro e w3 ⟨u, rfl, hN3⟩
  obtain ⟨hO3, hn3, hB3⟩ := hN3
  have hz2 := h2.le
  have hz3 := hB3.size
  have h03 : 0 < w3.heap.size := Nat.lt_of_lt_of_le (Nat.lt_of_le_of_lt (Nat.zero_le _) h2.wr.has.lt) hz3
  have hBa : Below p w w3 := h2.below.trans (hB3.mono hz2)
  have HX : Hid (Bytes w3 (.slice xa x.length xc) x) := hx.bytes (by rw [HN.out]; exact hBa) h03
  have hu3 : ∀ k, u.ownBlock = some k → p ≤ k := fun k hk => Nat.le_trans hz2 (hn3 k hk)
  clear h2 hB3 hn3 hx
  obtain ⟨ua, uc, rfl⟩ := hO3.slice
  go_wp2_with (refine wpList_append_bytes _ rfl _ _ 27 27 rfl info5 Try.underlying27 Try.underlying27 _ _ d0 x rfl rfl hO3 HX.out (by omega) ?_; intro vb w4 hO4 hg4 hL4 hnil; clear hnil; obtain ⟨ba, bcap, hvb⟩ := hO4.slice; obtain ⟨bl, hbl'⟩ : ∃ k : Nat, k = (d0 ++ x).length := ⟨_, rfl⟩; rw [← hbl'] at hvb; have HBL : Hid (bl = (d0 ++ x).length) := hbl'; clear hbl'; subst hvb)
  have hBb : Below p w w4 := Fr.below hBa (grown_fr hg4) (by omega) (fun k hk e => by have := hu3 k e; omega)
  have hz4 := hg4.size
  have hlen : (d0 ++ x).length ≤ 1000 := by simp; omega
  clear hO3 hu3 hBa HX hg4 hL4 hbl
  generalize d0 ++ x = l at *
  refine named (p := fun X => Calls _ _ _ X _) ?_
  intro W5 hW5
  have hB5 : Below w4.heap.size w4 W5 := by rw [hW5]; exact (Below.refl _ _).alloc (Nat.le_refl _) _
  have hX5 : Has W5 w4.heap.size #[.slice ba bl bcap, .int .i64 0, .int .i64 0] 45 := by rw [hW5]; exact has_new _ _ _ _ rfl
  have hz5 : W5.heap.size = w4.heap.size + 1 := by rw [hW5]; simp
  clear hW5
  have hO5 : Own W5 (.slice ba bl bcap) l := hO4.fr (S := fun _ => False) (Fr.of_below hB5) (fun _ _ h => h)
  have hBc : Below p w W5 := hBb.trans (hB5.mono (by omega))
  clear hO4 hBb hB5
  refine (read_any _ _ W5 (hO5.bytes (by omega)) (by omega)).mono ?_
  rintro e w6 ⟨r, lv, rfl, hr, hR6, hB6⟩
  have hO6 : Own w6 (.slice ba bl bcap) l := hO5.fr (S := fun _ => False) (Fr.of_below hB6) (fun _ _ h => h)
  have hX6 := hX5.below hB6 (by omega)
  have hBd : Below p w w6 := hBc.trans (hB6.mono (by omega))
  have hz6 := hB6.size
  have hor : ∀ k, (Value.slice ba bl bcap).ownBlock = some k → k < W5.heap.size := fun k e => hO5.lt' e
  clear hO5 hX5 hBc hB6
  go_wp2_with fail
  refine (readx_any _ _ w6 (hO6.bytes (by omega)) (by omega)).mono ?_
  rintro e w7 ⟨q, lv2, rfl, hq, hQ7, hB7, hI7⟩
  have hO7 : Own w7 (.slice ba bl bcap) l := hO6.fr (S := fun _ => False) (Fr.of_below hB7) (fun _ _ h => h)
  have hX7 := hX6.below hB7 (by omega)
  have hR7 := hR6.below hB7
  have hrl := hR6.lt
  have hBe : Below p w w7 := hBd.trans (hB7.mono (by omega))
  have hz7 := hB7.size
  have hql := hQ7.lt
  clear hO6 hX6 hBd hB7 hR6
  have q0 := hX7.cell 0
  have q1 := hX7.cell 1
  have q2 := hX7.cell 2
  simp at q0 q1 q2
  have hrb := refbyt_any ba bcap 0 bl l HBL.out most w7 (hO7.bytes (by omega)) (by omega) (by omega)
  rw [List.drop_zero] at hrb
  go_wp2_with fail
  refine hrb.mono ?_
  rintro e w8 ⟨⟨ya, yl, yc, rfl, hY8⟩, hB8⟩
  have hz8 := hB8.size
  have hR8 := hR7.below hB8
  have hQ8 := hQ7.below hB8
  have hI8 := hI7.below hB8
  have hBf : Below p w w8 := hBe.trans (hB8.mono (by omega))
  clear hrb hX7 q0 q1 q2 hO7 hBe hB8 hR7 hQ7
  go_wp2_with fail
  refine named (p := fun X => Calls _ _ _ X _) ?_
  intro W9 hW9
  have hB9 : Below w8.heap.size w8 W9 := by rw [hW9]; exact (Below.refl _ _).alloc (Nat.le_refl _) _
  have hX9 : Has W9 w8.heap.size #[.slice ba bl bcap, .int .i64 ((atN l 0 (bnd most (lbyt most l)) : Nat) : Int), .int .i64 ((vec (bnd most (lbyt most l)) : Nat) : Int)] 45 := by rw [hW9]; exact has_new _ _ _ _ rfl
  have hz9 : W9.heap.size = w8.heap.size + 1 := by rw [hW9]; simp
  clear hW9
  have hR9 := hR8.below hB9
  have hQ9 := hQ8.below hB9
  have hI9 := (hI8.below hB9).mono (S' := (· = r)) (fun k _ e => .inl (by omega))
  have hY9 := hY8.below hB9
  have hBg : Below p w W9 := hBf.trans (hB9.mono (by omega))
  clear hR8 hQ8 hY8 hBf hB9
  refine (rbytes_any r _ l 0 most W9 hR9 (by omega)).mono ?_
  intro e w10 hl
  obtain ⟨c, rfl, hC10, hcn, hRx, hE10⟩ := hl.all
  obtain ⟨lvr, restr, flr, hR10⟩ := hRx
  have hz10 := hE10.size
  have hQ10 := hQ9.ex hE10 (by omega) hI9
  have hX10 := hX9.ex hE10 (by omega)
  have hY10 : Bytes w10 (.slice ya yl yc) (vd (bnd most (lbyt most l))) := (hY9.notReader hR9).ex hE10 (by omega)
  have hBh : Below p w w10 := Below.ex hBg (by omega) hE10 (by omega)
  have hcn' : ∀ k, c.ownBlock = some k → k ≠ q := fun k hk e => by have := hcn k hk; omega
  clear hl hR9 hQ9 hX9 hY9 hBg hE10 hI9 hI8 hI7
  obtain ⟨ca, cc, rfl⟩ := hC10.slice
  go_wp2_with fail
  refine (rtext_any q _ l 0 most w10 hQ10 (by omega)).mono ?_
  intro e w11 hl
  obtain ⟨rfl, hQx, hE11⟩ := hl.text
  obtain ⟨lvq, restq, flq, hQ11⟩ := hQx
  have hz11 := hE11.size
  have hR11 : Rd w11 r lvr restr (atN l 0 (bnd most (lbyt most l))) flr := hR10.ex hE11 (by omega) (hR10.by_.bytes.notReader hQ10)
  have hX11 := hX10.ex hE11 (by omega)
  have hC11 : Own w11 _ _ := hC10.ex hE11 (fun e => hcn' q e rfl)
  have hY11 : Bytes w11 (.slice ya yl yc) (vd (bnd most (lbyt most l))) := (hY10.notReader hQ10).ex hE11 (by omega)
  have hBi : Below p w w11 := Below.ex hBh (by omega) hE11 (by omega)
  clear hl hR10 hQ10 hX10 hC10 hY10 hBh hE11 hcn hcn'
  go_wp2_with fail
  refine named (p := Code.wp _ _ _ _) ?_
  intro W0 hW0
  have hB0 : Below p w W0 := by rw [hW0]; exact hBi
  have hC : Bytes W0 (.slice ca (vd (bnd most (lbyt most l))).length cc) (vd (bnd most (lbyt most l))) := by rw [hW0]; exact hC11.bytes (by omega)
  have hY : Bytes W0 (.slice ya yl yc) (vd (bnd most (lbyt most l))) := by rw [hW0]; exact hY11
  have hR : Rd W0 r lvr restr (atN l 0 (bnd most (lbyt most l))) flr := by rw [hW0]; exact hR11
  have hQ : Rd W0 q lvq restq (atN l 0 (bnd most (lbyt most l))) flq := by rw [hW0]; exact hQ11
  have hX : Has W0 w8.heap.size #[.slice ba bl bcap, .int .i64 ((atN l 0 (bnd most (lbyt most l)) : Nat) : Int), .int .i64 ((vec (bnd most (lbyt most l)) : Nat) : Int)] 45 := by rw [hW0]; exact hX11
  have hz0 : W0.heap.size = w11.heap.size := by rw [hW0]
  clear hW0 hBi hC11 hY11 hR11 hQ11 hX11 HBL
  generalize atN l 0 (bnd most (lbyt most l)) = av at *
  generalize vec (bnd most (lbyt most l)) = fv at *
  generalize vd (bnd most (lbyt most l)) = d at *
  generalize d.length = cl at *
  generalize hs : (⟨d.toArray⟩ : ByteArray) = s at *
  generalize hgg : w8.heap.size = g at *
  obtain ⟨N, hNe⟩ : ∃ N, N = W0.heap.size := ⟨_, rfl⟩
  have hN : N ≤ W0.heap.size := by omega
  refine wp_region_owes (A := [0, 1, 3, 7, 15, 31, 15, 79, 255, 511, 1023, 2047, 2047, 6143, 16383, 32767, 65535, 131071, 262143, 131071, 1048575, 2097151, 4194303, 8388607, 16777215, 8388607, 67108863, 134217727, 268435455, 536870911, 1073741823, 536870911, 2684354559, 8589934591, 17179869183, 34359738367, 68719476735, 137438953471, 68719476735, 343597383679, 1099511627775, 2199023255551, 4398046511103, 8796093022207, 17592186044415, 35184372088831]) (need := [[(8, none)], [(62, some 0)], [(63, some 1)], [(64, some 2)], [(16, none), (65, some 3)], [(66, some 4), (65, some 3)], [(14, none), (65, some 3)], [(68, some 6), (65, some 3)], [(67, some 5), (69, some 7), (65, some 3)], [(65, some 3), (70, some 8)], [(71, some 9)], [(18, none), (72, some 10)], [(14, none), (72, some 10)], [(74, some 12), (72, some 10)], [(73, some 11), (75, some 13), (72, some 10)], [(72, some 10), (76, some 14)], [(77, some 15)], [(17, none), (78, some 16)], [(79, some 17), (78, some 16)], [(15, none), (78, some 16)], [(80, some 18), (81, some 19), (78, some 16)], [(78, some 16), (82, some 20)], [(83, some 21)], [(19, none), (84, some 22)], [(85, some 23), (84, some 22)], [(15, none), (84, some 22)], [(86, some 24), (87, some 25), (84, some 22)], [(84, some 22), (88, some 26)], [(89, some 27)], [(11, none), (90, some 28)], [(91, some 29), (90, some 28)], [(13, none), (90, some 28)], [(93, some 31), (90, some 28)], [(92, some 30), (94, some 32), (90, some 28)], [(90, some 28), (95, some 33)], [(96, some 34)], [(12, none), (97, some 35)], [(98, some 36), (97, some 35)], [(13, none), (97, some 35)], [(100, some 38), (97, some 35)], [(99, some 37), (101, some 39), (97, some 35)], [(97, some 35), (102, some 40)], [(103, some 41)], [(104, some 42)], [(104, some 42), (105, some 43)], [(106, some 44)]]) (wtextsΦ s ca ya cl cc yl yc r q g fv av) N 107 (by kernel_rfl) (by kernel_rfl) (by kernel_rfl) (by kernel_rfl) (by kernel_rfl) (by kernel_rfl) rfl ?stable ?hop ?hend
  case stable =>
    intro i v p q hpq h
    unfold wtextsΦ at h ⊢
    split at h <;> first | exact h | exact h
  case hop =>
    refine ⟨?_, ?_, ?_, ?_, ?_, ?_, ?_, ?_, ?_, ?_, ?_, ?_, ?_, ?_, ?_, ?_, ?_, ?_, ?_, ?_, ?_, ?_, ?_, ?_, ?_, ?_, ?_, ?_, ?_, ?_, ?_, ?_, ?_, ?_, ?_, ?_, ?_, ?_, ?_, ?_, ?_, ?_, ?_, ?_, ?_, ?_, trivial⟩
    · intro a w hle hE
      have h8 : a.tmps.getD 8 undef = .int .i64 0 := hE (8, none) (by simp)
      rw [if_pos (wanted_plain rfl)]
      refine owe_value (v := .int .i64 0) ?_ (Le.refl _ _) rfl
      go_simp
    · intro a w hle hE
      have h62 : a.tmps.getD 62 undef = .int .i64 0 := hE (62, some 0) (by simp)
      rw [if_pos (wanted_plain rfl)]
      refine owe_call (f := 14) (args := #[.int .i64 0]) (by go_simp) ?_
      refine (num_any _ w).mono ?_
      rintro e w1 ⟨rfl, rfl⟩
      exact ⟨_, rfl, Le.refl _ _, rfl⟩
    · intro a w hle hE
      have h63 : a.tmps.getD 63 undef = .int .i64 0 := hE (63, some 1) (by simp)
      rw [if_pos (wanted_plain rfl)]
      refine owe_value (v := .bool true) ?_ (Le.refl _ _) rfl
      go_simp
    · intro a w hle hE
      have h64 : a.tmps.getD 64 undef = .bool true := hE (64, some 2) (by simp)
      rw [if_pos (wanted_plain rfl)]
      refine owe_value (v := .bool true) ?_ (Le.refl _ _) rfl
      go_simp
    · intro a w hle hE
      have h16 : a.tmps.getD 16 undef = .slice ca cl cc := hE (16, none) (by simp)
      have h65 : a.tmps.getD 65 undef = .bool true := hE (65, some 3) (by simp)
      rw [if_pos (wanted_of (j := 3) (b := true) (d := 65) rfl rfl h65)]
      refine owe_value (v := .slice ca cl cc) ?_ (Le.refl _ _) rfl
      go_simp
    · intro a w hle hE
      have h66 : a.tmps.getD 66 undef = .slice ca cl cc := hE (66, some 4) (by simp)
      have h65 : a.tmps.getD 65 undef = .bool true := hE (65, some 3) (by simp)
      rw [if_pos (wanted_of (j := 3) (b := true) (d := 65) rfl rfl h65)]
      have hcv := bytes_string Try.underlying27 Try.underlying5 Try.underlying9 w _ d (hC.le hle)
      rw [hs] at hcv
      refine owe_value (v := .string s) ?_ (Le.refl _ _) rfl
      have e1 : a.eval (.tmp 66) = _ := h66
      unfold execOp
      simp only [e1, hcv, Sem.run_bind, Sem.run_pure, Result.andThen_ok]
    · intro a w hle hE
      have h14 : a.tmps.getD 14 undef = .slice ya yl yc := hE (14, none) (by simp)
      have h65 : a.tmps.getD 65 undef = .bool true := hE (65, some 3) (by simp)
      rw [if_pos (wanted_of (j := 3) (b := true) (d := 65) rfl rfl h65)]
      refine owe_value (v := .slice ya yl yc) ?_ (Le.refl _ _) rfl
      go_simp
    · intro a w hle hE
      have h68 : a.tmps.getD 68 undef = .slice ya yl yc := hE (68, some 6) (by simp)
      have h65 : a.tmps.getD 65 undef = .bool true := hE (65, some 3) (by simp)
      rw [if_pos (wanted_of (j := 3) (b := true) (d := 65) rfl rfl h65)]
      have hcv := bytes_string Try.underlying27 Try.underlying5 Try.underlying9 w _ d (hY.le hle)
      rw [hs] at hcv
      refine owe_value (v := .string s) ?_ (Le.refl _ _) rfl
      have e1 : a.eval (.tmp 68) = _ := h68
      unfold execOp
      simp only [e1, hcv, Sem.run_bind, Sem.run_pure, Result.andThen_ok]
    · intro a w hle hE
      have h67 : a.tmps.getD 67 undef = .string s := hE (67, some 5) (by simp)
      have h69 : a.tmps.getD 69 undef = .string s := hE (69, some 7) (by simp)
      have h65 : a.tmps.getD 65 undef = .bool true := hE (65, some 3) (by simp)
      rw [if_pos (wanted_of (j := 3) (b := true) (d := 65) rfl rfl h65)]
      refine owe_value (v := .bool true) ?_ (Le.refl _ _) rfl
      go_simp
    · intro a w hle hE
      have h65 : a.tmps.getD 65 undef = .bool true := hE (65, some 3) (by simp)
      have h70 : a.tmps.getD 70 undef = .bool true := hE (70, some 8) (by simp)
      rw [if_pos (wanted_plain rfl)]
      refine owe_value (v := .bool true) ?_ (Le.refl _ _) rfl
      go_simp
    · intro a w hle hE
      have h71 : a.tmps.getD 71 undef = .bool true := hE (71, some 9) (by simp)
      rw [if_pos (wanted_plain rfl)]
      refine owe_value (v := .bool true) ?_ (Le.refl _ _) rfl
      go_simp
    · intro a w hle hE
      have h18 : a.tmps.getD 18 undef = .string s := hE (18, none) (by simp)
      have h72 : a.tmps.getD 72 undef = .bool true := hE (72, some 10) (by simp)
      rw [if_pos (wanted_of (j := 10) (b := true) (d := 72) rfl rfl h72)]
      refine owe_value (v := .string s) ?_ (Le.refl _ _) rfl
      go_simp
    · intro a w hle hE
      have h14 : a.tmps.getD 14 undef = .slice ya yl yc := hE (14, none) (by simp)
      have h72 : a.tmps.getD 72 undef = .bool true := hE (72, some 10) (by simp)
      rw [if_pos (wanted_of (j := 10) (b := true) (d := 72) rfl rfl h72)]
      refine owe_value (v := .slice ya yl yc) ?_ (Le.refl _ _) rfl
      go_simp
    · intro a w hle hE
      have h74 : a.tmps.getD 74 undef = .slice ya yl yc := hE (74, some 12) (by simp)
      have h72 : a.tmps.getD 72 undef = .bool true := hE (72, some 10) (by simp)
      rw [if_pos (wanted_of (j := 10) (b := true) (d := 72) rfl rfl h72)]
      have hcv := bytes_string Try.underlying27 Try.underlying5 Try.underlying9 w _ d (hY.le hle)
      rw [hs] at hcv
      refine owe_value (v := .string s) ?_ (Le.refl _ _) rfl
      have e1 : a.eval (.tmp 74) = _ := h74
      unfold execOp
      simp only [e1, hcv, Sem.run_bind, Sem.run_pure, Result.andThen_ok]
    · intro a w hle hE
      have h73 : a.tmps.getD 73 undef = .string s := hE (73, some 11) (by simp)
      have h75 : a.tmps.getD 75 undef = .string s := hE (75, some 13) (by simp)
      have h72 : a.tmps.getD 72 undef = .bool true := hE (72, some 10) (by simp)
      rw [if_pos (wanted_of (j := 10) (b := true) (d := 72) rfl rfl h72)]
      refine owe_value (v := .bool true) ?_ (Le.refl _ _) rfl
      go_simp
    · intro a w hle hE
      have h72 : a.tmps.getD 72 undef = .bool true := hE (72, some 10) (by simp)
      have h76 : a.tmps.getD 76 undef = .bool true := hE (76, some 14) (by simp)
      rw [if_pos (wanted_plain rfl)]
      refine owe_value (v := .bool true) ?_ (Le.refl _ _) rfl
      go_simp
    · intro a w hle hE
      have h77 : a.tmps.getD 77 undef = .bool true := hE (77, some 15) (by simp)
      rw [if_pos (wanted_plain rfl)]
      refine owe_value (v := .bool true) ?_ (Le.refl _ _) rfl
      go_simp
    · intro a w hle hE
      have h17 : a.tmps.getD 17 undef = .int .i64 fv := hE (17, none) (by simp)
      have h78 : a.tmps.getD 78 undef = .bool true := hE (78, some 16) (by simp)
      rw [if_pos (wanted_of (j := 16) (b := true) (d := 78) rfl rfl h78)]
      refine owe_value (v := .int .i64 fv) ?_ (Le.refl _ _) rfl
      go_simp
    · intro a w hle hE
      have h79 : a.tmps.getD 79 undef = .int .i64 fv := hE (79, some 17) (by simp)
      have h78 : a.tmps.getD 78 undef = .bool true := hE (78, some 16) (by simp)
      rw [if_pos (wanted_of (j := 16) (b := true) (d := 78) rfl rfl h78)]
      refine owe_call (f := 14) (args := #[.int .i64 fv]) (by go_simp) ?_
      refine (num_any _ w).mono ?_
      rintro e w1 ⟨rfl, rfl⟩
      exact ⟨_, rfl, Le.refl _ _, rfl⟩
    · intro a w hle hE
      have h15 : a.tmps.getD 15 undef = .int .i64 fv := hE (15, none) (by simp)
      have h78 : a.tmps.getD 78 undef = .bool true := hE (78, some 16) (by simp)
      rw [if_pos (wanted_of (j := 16) (b := true) (d := 78) rfl rfl h78)]
      refine owe_value (v := .int .i64 fv) ?_ (Le.refl _ _) rfl
      go_simp
    · intro a w hle hE
      have h80 : a.tmps.getD 80 undef = .int .i64 fv := hE (80, some 18) (by simp)
      have h81 : a.tmps.getD 81 undef = .int .i64 fv := hE (81, some 19) (by simp)
      have h78 : a.tmps.getD 78 undef = .bool true := hE (78, some 16) (by simp)
      rw [if_pos (wanted_of (j := 16) (b := true) (d := 78) rfl rfl h78)]
      refine owe_value (v := .bool true) ?_ (Le.refl _ _) rfl
      go_simp
    · intro a w hle hE
      have h78 : a.tmps.getD 78 undef = .bool true := hE (78, some 16) (by simp)
      have h82 : a.tmps.getD 82 undef = .bool true := hE (82, some 20) (by simp)
      rw [if_pos (wanted_plain rfl)]
      refine owe_value (v := .bool true) ?_ (Le.refl _ _) rfl
      go_simp
    · intro a w hle hE
      have h83 : a.tmps.getD 83 undef = .bool true := hE (83, some 21) (by simp)
      rw [if_pos (wanted_plain rfl)]
      refine owe_value (v := .bool true) ?_ (Le.refl _ _) rfl
      go_simp
    · intro a w hle hE
      have h19 : a.tmps.getD 19 undef = .int .i64 fv := hE (19, none) (by simp)
      have h84 : a.tmps.getD 84 undef = .bool true := hE (84, some 22) (by simp)
      rw [if_pos (wanted_of (j := 22) (b := true) (d := 84) rfl rfl h84)]
      refine owe_value (v := .int .i64 fv) ?_ (Le.refl _ _) rfl
      go_simp
    · intro a w hle hE
      have h85 : a.tmps.getD 85 undef = .int .i64 fv := hE (85, some 23) (by simp)
      have h84 : a.tmps.getD 84 undef = .bool true := hE (84, some 22) (by simp)
      rw [if_pos (wanted_of (j := 22) (b := true) (d := 84) rfl rfl h84)]
      refine owe_call (f := 14) (args := #[.int .i64 fv]) (by go_simp) ?_
      refine (num_any _ w).mono ?_
      rintro e w1 ⟨rfl, rfl⟩
      exact ⟨_, rfl, Le.refl _ _, rfl⟩
    · intro a w hle hE
      have h15 : a.tmps.getD 15 undef = .int .i64 fv := hE (15, none) (by simp)
      have h84 : a.tmps.getD 84 undef = .bool true := hE (84, some 22) (by simp)
      rw [if_pos (wanted_of (j := 22) (b := true) (d := 84) rfl rfl h84)]
      refine owe_value (v := .int .i64 fv) ?_ (Le.refl _ _) rfl
      go_simp
    · intro a w hle hE
      have h86 : a.tmps.getD 86 undef = .int .i64 fv := hE (86, some 24) (by simp)
      have h87 : a.tmps.getD 87 undef = .int .i64 fv := hE (87, some 25) (by simp)
      have h84 : a.tmps.getD 84 undef = .bool true := hE (84, some 22) (by simp)
      rw [if_pos (wanted_of (j := 22) (b := true) (d := 84) rfl rfl h84)]
      refine owe_value (v := .bool true) ?_ (Le.refl _ _) rfl
      go_simp
    · intro a w hle hE
      have h84 : a.tmps.getD 84 undef = .bool true := hE (84, some 22) (by simp)
      have h88 : a.tmps.getD 88 undef = .bool true := hE (88, some 26) (by simp)
      rw [if_pos (wanted_plain rfl)]
      refine owe_value (v := .bool true) ?_ (Le.refl _ _) rfl
      go_simp
    · intro a w hle hE
      have h89 : a.tmps.getD 89 undef = .bool true := hE (89, some 27) (by simp)
      rw [if_pos (wanted_plain rfl)]
      refine owe_value (v := .bool true) ?_ (Le.refl _ _) rfl
      go_simp
    · intro a w hle hE
      have h11 : a.tmps.getD 11 undef = .pointer (some ⟨r, 0, none⟩) := hE (11, none) (by simp)
      have h90 : a.tmps.getD 90 undef = .bool true := hE (90, some 28) (by simp)
      rw [if_pos (wanted_of (j := 28) (b := true) (d := 90) rfl rfl h90)]
      refine owe_value (v := .pointer (some ⟨r, 0, none⟩)) ?_ (Le.refl _ _) rfl
      go_simp
    · intro a w hle hE
      have h91 : a.tmps.getD 91 undef = .pointer (some ⟨r, 0, none⟩) := hE (91, some 29) (by simp)
      have h90 : a.tmps.getD 90 undef = .bool true := hE (90, some 28) (by simp)
      rw [if_pos (wanted_of (j := 28) (b := true) (d := 90) rfl rfl h90)]
      refine owe_call (f := 32) (args := #[.pointer (some ⟨r, 0, none⟩)]) (by go_simp) ?_
      refine (at_any r _ _ _ _ w (hR.below (by rw [← hNe]; exact hle.below))).mono ?_
      rintro e w1 ⟨rfl, rfl⟩
      exact ⟨_, rfl, Le.refl _ _, rfl⟩
    · intro a w hle hE
      have h13 : a.tmps.getD 13 undef = .pointer (some ⟨g, 0, none⟩) := hE (13, none) (by simp)
      have h90 : a.tmps.getD 90 undef = .bool true := hE (90, some 28) (by simp)
      rw [if_pos (wanted_of (j := 28) (b := true) (d := 90) rfl rfl h90)]
      refine owe_value (v := .pointer (some ⟨g, 1, none⟩)) ?_ (Le.refl _ _) rfl
      go_simp
    · intro a w hle hE
      have h93 : a.tmps.getD 93 undef = .pointer (some ⟨g, 1, none⟩) := hE (93, some 31) (by simp)
      have h90 : a.tmps.getD 90 undef = .bool true := hE (90, some 28) (by simp)
      rw [if_pos (wanted_of (j := 28) (b := true) (d := 90) rfl rfl h90)]
      have hcell : w.cell? ⟨g, 1, none⟩ = some (.int .i64 av) := (hle.cells ⟨g, 1, none⟩ hX.lt).trans (hX.cell 1)
      refine owe_value (v := .int .i64 av) ?_ (Le.refl _ _) rfl
      go_simp
    · intro a w hle hE
      have h92 : a.tmps.getD 92 undef = .int .i64 av := hE (92, some 30) (by simp)
      have h94 : a.tmps.getD 94 undef = .int .i64 av := hE (94, some 32) (by simp)
      have h90 : a.tmps.getD 90 undef = .bool true := hE (90, some 28) (by simp)
      rw [if_pos (wanted_of (j := 28) (b := true) (d := 90) rfl rfl h90)]
      refine owe_value (v := .bool true) ?_ (Le.refl _ _) rfl
      go_simp
    · intro a w hle hE
      have h90 : a.tmps.getD 90 undef = .bool true := hE (90, some 28) (by simp)
      have h95 : a.tmps.getD 95 undef = .bool true := hE (95, some 33) (by simp)
      rw [if_pos (wanted_plain rfl)]
      refine owe_value (v := .bool true) ?_ (Le.refl _ _) rfl
      go_simp
    · intro a w hle hE
      have h96 : a.tmps.getD 96 undef = .bool true := hE (96, some 34) (by simp)
      rw [if_pos (wanted_plain rfl)]
      refine owe_value (v := .bool true) ?_ (Le.refl _ _) rfl
      go_simp
    · intro a w hle hE
      have h12 : a.tmps.getD 12 undef = .pointer (some ⟨q, 0, none⟩) := hE (12, none) (by simp)
      have h97 : a.tmps.getD 97 undef = .bool true := hE (97, some 35) (by simp)
      rw [if_pos (wanted_of (j := 35) (b := true) (d := 97) rfl rfl h97)]
      refine owe_value (v := .pointer (some ⟨q, 0, none⟩)) ?_ (Le.refl _ _) rfl
      go_simp
    · intro a w hle hE
      have h98 : a.tmps.getD 98 undef = .pointer (some ⟨q, 0, none⟩) := hE (98, some 36) (by simp)
      have h97 : a.tmps.getD 97 undef = .bool true := hE (97, some 35) (by simp)
      rw [if_pos (wanted_of (j := 35) (b := true) (d := 97) rfl rfl h97)]
      refine owe_call (f := 32) (args := #[.pointer (some ⟨q, 0, none⟩)]) (by go_simp) ?_
      refine (at_any q _ _ _ _ w (hQ.below (by rw [← hNe]; exact hle.below))).mono ?_
      rintro e w1 ⟨rfl, rfl⟩
      exact ⟨_, rfl, Le.refl _ _, rfl⟩
    · intro a w hle hE
      have h13 : a.tmps.getD 13 undef = .pointer (some ⟨g, 0, none⟩) := hE (13, none) (by simp)
      have h97 : a.tmps.getD 97 undef = .bool true := hE (97, some 35) (by simp)
      rw [if_pos (wanted_of (j := 35) (b := true) (d := 97) rfl rfl h97)]
      refine owe_value (v := .pointer (some ⟨g, 1, none⟩)) ?_ (Le.refl _ _) rfl
      go_simp
    · intro a w hle hE
      have h100 : a.tmps.getD 100 undef = .pointer (some ⟨g, 1, none⟩) := hE (100, some 38) (by simp)
      have h97 : a.tmps.getD 97 undef = .bool true := hE (97, some 35) (by simp)
      rw [if_pos (wanted_of (j := 35) (b := true) (d := 97) rfl rfl h97)]
      have hcell : w.cell? ⟨g, 1, none⟩ = some (.int .i64 av) := (hle.cells ⟨g, 1, none⟩ hX.lt).trans (hX.cell 1)
      refine owe_value (v := .int .i64 av) ?_ (Le.refl _ _) rfl
      go_simp
    · intro a w hle hE
      have h99 : a.tmps.getD 99 undef = .int .i64 av := hE (99, some 37) (by simp)
      have h101 : a.tmps.getD 101 undef = .int .i64 av := hE (101, some 39) (by simp)
      have h97 : a.tmps.getD 97 undef = .bool true := hE (97, some 35) (by simp)
      rw [if_pos (wanted_of (j := 35) (b := true) (d := 97) rfl rfl h97)]
      refine owe_value (v := .bool true) ?_ (Le.refl _ _) rfl
      go_simp
    · intro a w hle hE
      have h97 : a.tmps.getD 97 undef = .bool true := hE (97, some 35) (by simp)
      have h102 : a.tmps.getD 102 undef = .bool true := hE (102, some 40) (by simp)
      rw [if_pos (wanted_plain rfl)]
      refine owe_value (v := .bool true) ?_ (Le.refl _ _) rfl
      go_simp
    · intro a w hle hE
      have h103 : a.tmps.getD 103 undef = .bool true := hE (103, some 41) (by simp)
      rw [if_pos (wanted_plain rfl)]
      refine owe_value (v := .bool true) ?_ (Le.refl _ _) rfl
      go_simp
    · intro a w hle hE
      have h104 : a.tmps.getD 104 undef = .bool true := hE (104, some 42) (by simp)
      rw [if_pos (wanted_of (j := 42) (b := true) (d := 104) rfl rfl h104)]
      refine owe_call (f := 11) (args := #[]) (by go_simp) ?_
      refine (works_any w).mono ?_
      rintro e w1 ⟨rfl, hb⟩
      exact ⟨_, rfl, Le.of hb (Nat.le_trans hN hle.size), rfl⟩
    · intro a w hle hE
      have h104 : a.tmps.getD 104 undef = .bool true := hE (104, some 42) (by simp)
      have h105 : a.tmps.getD 105 undef = .bool true := hE (105, some 43) (by simp)
      rw [if_pos (wanted_plain rfl)]
      refine owe_value (v := .bool true) ?_ (Le.refl _ _) rfl
      go_simp
    · intro a w hle hE
      have h106 : a.tmps.getD 106 undef = .bool true := hE (106, some 44) (by simp)
      rw [if_pos (wanted_plain rfl)]
      refine owe_value (v := .bool true) ?_ (Le.refl _ _) rfl
      go_simp
  case hend =>
    intro a w' hle hdef hsz hall hold
    have h0 : a.tmps.getD 6 undef = .bool true := hall 45 _ 6 rfl rfl
    go_wp2_with fail
    refine bodyPost_ret (results_tmp rfl _ _ _) hdef ?_
    refine ⟨by rw [h0], ?_⟩
    rw [HN.out]
    exact hB0.trans (hle.below.mono (by omega))
theorem wtexts_long (a a' : Option Addr) (k c k' c' : Nat) (most : Int) (w : World) (h : ¬ (k ≤ 300 ∧ k' ≤ 50)) :
    Calls Try.prog 7 #[.slice a k c, .int .i64 most, .slice a' k' c'] w fun e w' => e = .returned (.bool true) ∧ Below w.heap.size w w' := by
  by_cases h1 : k ≤ 300
  · have i0 : ¬ (300 : Int) < k := by omega
    have i1 : (50 : Int) < k' := by omega
    go_enter Try.func7, Try.ntmps7
    go_wp2_with (first
      | (go_at_call 11; refine (works_any _).mono ?_; rintro e w3 ⟨rfl, hw3⟩)
      | fail)
    go_ret
    exact ⟨rfl, hw3⟩
  · have i0 : (300 : Int) < k := by omega
    go_enter Try.func7, Try.ntmps7
    go_wp2_with (first
      | (go_at_call 11; refine (works_any _).mono ?_; rintro e w3 ⟨rfl, hw3⟩)
      | fail)
    go_ret
    exact ⟨rfl, hw3⟩
theorem wtexts_walk (bv' : Value) (b : List UInt8) (most : Int) (_hm : (Lit.int .i64 most).wf = true) (xv : Value) (x : List UInt8) (w : World) (hb : In w bv' b) (hx : In w xv x) :
    Calls Try.prog 7 #[bv', .int .i64 most, xv] w fun e w' => e = .returned (.bool true) ∧ Below w.heap.size w w' := by
  by_cases h : b.length ≤ 300 ∧ x.length ≤ 50
  · exact wtexts_short bv' b most xv x w hb hx h.1 h.2
  · obtain ⟨xa, xc, rfl⟩ := hx.slice
    obtain ⟨ba0, bc0, rfl⟩ := hb.slice
    exact wtexts_long ba0 xa _ bc0 _ xc most w h
end Go.Proofs.Ytgoflpfafkmmgaa
