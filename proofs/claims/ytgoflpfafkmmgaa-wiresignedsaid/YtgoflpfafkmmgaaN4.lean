/- WireSigned: the law's walk. -/
import Derived.Test.YtgoflpfafkmmgaaN3
import Derived.Test.YtgoflpfafkmmgaaP1
namespace Go.Proofs.Ytgoflpfafkmmgaa
open Go.RowKit

def signedΦ (d : List UInt8) (s : ByteArray) (p : Nat) (n : Int) : Nat → Value → World → Prop
  | 0, v, _ => v = .int .i64 0
  | 1, v, _ => v = .int .i64 0
  | 2, v, _ => v = .int .i64 0
  | 3, v, _ => v = .int .i64 0
  | 4, v, _ => v = .int .i64 0
  | 5, v, _ => v = .bool true
  | 6, v, _ => v = .bool true
  | 7, v, _ => v = .pointer (some ⟨p, 0, none⟩)
  | 8, v, w => Bytes w v d
  | 9, v, _ => v = .string s
  | 10, v, _ => v = .int .i64 n
  | 11, v, w => Bytes w v d
  | 12, v, _ => v = .string s
  | 13, v, _ => v = .bool true
  | 14, v, _ => v = .bool true
  | 15, v, _ => v = .bool true
  | 16, v, _ => v = .int .i64 n
  | 17, v, _ => v = .int .i64 n
  | 18, v, _ => v = .bool true
  | 19, v, _ => v = .bool true
  | 20, v, _ => v = .bool true
  | 21, v, _ => v = .bool true
  | 22, v, _ => v = .bool true
  | 23, v, _ => v = .bool true
  | _, _, _ => False

set_option maxRecDepth 100000 in
set_option maxHeartbeats 4000000 in
theorem signed_in (n : Int) (hn : inS n = true) (xv : Value) (x : List UInt8) (w : World) (hx : In w xv x) (hlx : x.length ≤ 100) :
    Calls Try.prog 6 #[.int .i64 n, xv] w fun e w' => e = .returned (.bool true) ∧ Below w.heap.size w w' := by
  obtain ⟨xa, xc, rfl⟩ := hx.slice
  have hl9 := numL_len9 (foldN n) (foldN_lt n hn)
  have hws := fun p v bs w h => wsigned_ok p v bs n hn w h
  have hrs := refsigned_any n hn
  have hsg := lsig_num x n hn
  have hin := insign_any n
  rw [hn] at hin
  have i1 : ¬ (100 : Int) < x.length := by omega
  clear hn
  generalize numL (foldN n) = d at *
  go_enter Try.func6, Try.ntmps6
  go_wp2_with fail
  refine (wnew_any w).mono ?_
  rintro e w1 ⟨rfl, hB, hW⟩
  have h1 := WrN.new w w1 hB hW
  clear hB hW
  generalize hNw : w.heap.size = p at h1
  have HN : Hid (w.heap.size = p) := hNw
  clear hNw
  go_wp2_with fail
  refine (hws p _ _ w1 h1.wr).mono ?_
  intro e w2 hl
  obtain ⟨rfl, v2, h2⟩ := h1.laid hl (by simp; omega)
  rw [List.nil_append] at h2
  clear hl h1 hws
  go_wp2_with (first | (go_at_call 26; refine (hin _).mono ?_; rintro e w' ⟨rfl, hw⟩; obtain rfl := hw.symm; clear hw) | fail)
  refine (all_any p _ _ w2 h2.wr).mono ?_
  rintro e w3 ⟨u, rfl, hN3⟩
  obtain ⟨hO3, hn3, hB3⟩ := hN3
  have hz2 := h2.le
  have hz3 := hB3.size
  have h03 : 0 < w3.heap.size := Nat.lt_of_lt_of_le (Nat.lt_of_le_of_lt (Nat.zero_le _) h2.wr.has.lt) hz3
  have h3 := h2.grow hB3
  have HX : Hid (Bytes w3 (.slice xa x.length xc) x) := hx.bytes (by rw [HN.out]; exact h3.below) h03
  have hu3 : ∀ k, u.ownBlock = some k → ¬ WS p v2 k := fun k hk e => by have := hn3 k hk; have := h2.wr.lt k e; omega
  have hu4 : ∀ k, u.ownBlock = some k → p ≤ k := fun k hk => Nat.le_trans hz2 (hn3 k hk)
  clear h2 hB3 hn3 hx hin
  obtain ⟨ua, uc, rfl⟩ := hO3.slice
  go_wp2_with (refine wpList_append_bytes _ rfl _ _ 27 27 rfl info5 Try.underlying27 Try.underlying27 _ _ d x rfl rfl hO3 HX.out (by omega) ?_; intro vb w4 hO4 hg4 hL4 hnil; clear hnil; obtain ⟨ba, bcap, hvb⟩ := hO4.slice; obtain ⟨bl, hbl⟩ : ∃ k : Nat, k = (d ++ x).length := ⟨_, rfl⟩; rw [← hbl] at hvb; have HBL : Hid (bl = (d ++ x).length) := hbl; clear hbl; subst hvb)
  have hF4 := grown_fr hg4
  have hz4 := hg4.size
  have hW4 : Wr w4 p v2 d := h3.wr.fr hF4 (fun k e e' => hu3 k e e')
  have hB4 : Below p w w4 := Fr.below h3.below hF4 (by omega) (fun k hk e => by have := hu4 k e; omega)
  have hlb : (d ++ x).length ≤ 1000 := by simp; omega
  have hb4 : Bytes w4 (.slice ba bl bcap) (d ++ x) := hO4.bytes (by omega)
  clear hO3 hu3 hu4 HX hg4 hL4 h3 hF4 hO4
  refine (read_any _ _ w4 hb4 (by omega)).mono ?_
  rintro e w5 ⟨g, lv, rfl, hg, hR, hB5⟩
  have hW5 := hW4.below hB5
  have hBc : Below p w w5 := hB4.trans (hB5.mono (by omega))
  have hz5 := hB5.size
  have hgW : ¬ WS p v2 g := fun e => by have := hW4.lt g e; omega
  clear hb4 hB5 hB4 hW4
  go_wp2_with fail
  refine (rsigned_any g _ _ 0 w5 hR (by omega)).mono ?_
  intro e w6 hl
  have hsg' : vI (lsig (d ++ x)) = .ok (.int .i64 n, x) := by rw [hsg]; rfl
  obtain ⟨rfl, ht⟩ := hl.ok hsg'
  have hE6 := ht.choose_spec.2
  have hWr6 := hW5.fr (Fr.of_ex hE6) (fun k e e' => hgW (by rw [← e]; exact e'))
  have hz6 := hE6.size
  have hB6 : Below p w w6 := Below.ex hBc (by omega) hE6 (by omega)
  clear hl ht hE6 hR hW5 hBc hsg hsg' hg hgW HBL hlb
  go_wp2_with fail
  refine named (p := Code.wp _ _ _ _) ?_
  intro W0 hW0
  have hB0 : Below p w W0 := by rw [hW0]; exact hB6
  have hWr : Wr W0 p v2 d := by rw [hW0]; exact hWr6
  clear hW0 hB6 hWr6
  have hrn := hrs
  have hplt := hWr.has.lt
  generalize hs : (⟨d.toArray⟩ : ByteArray) = s at *
  obtain ⟨N, hNe⟩ : ∃ N, N = W0.heap.size := ⟨_, rfl⟩
  have hN : N ≤ W0.heap.size := by omega
  have hNpos : 0 < N := by omega
  refine wp_region_owes (A := [0, 1, 0, 7, 15, 31, 63, 127, 255, 511, 127, 1535, 3583, 8191, 16383, 32767, 65535, 65535, 262143, 524287, 1048575, 2097151, 4194303, 8388607]) (need := [[(6, none)], [(41, some 0)], [(8, none)], [(43, some 2)], [(42, some 1), (44, some 3)], [(45, some 4)], [(46, some 5)], [(5, none), (47, some 6)], [(48, some 7), (47, some 6)], [(49, some 8), (47, some 6)], [(0, none), (47, some 6)], [(51, some 10), (47, some 6)], [(52, some 11), (47, some 6)], [(50, some 9), (53, some 12), (47, some 6)], [(47, some 6), (54, some 13)], [(55, some 14)], [(7, none), (56, some 15)], [(0, none), (56, some 15)], [(57, some 16), (58, some 17), (56, some 15)], [(56, some 15), (59, some 18)], [(60, some 19)], [(61, some 20)], [(61, some 20), (62, some 21)], [(63, some 22)]]) (signedΦ d s p n) N 64 (by kernel_rfl) (by kernel_rfl) (by kernel_rfl) (by kernel_rfl) (by kernel_rfl) (by kernel_rfl) rfl ?stable ?hop ?hend
  case stable =>
    intro i v p q hpq h
    unfold signedΦ at h ⊢
    split at h <;> first | exact h | exact h.le hpq
  case hop =>
    refine ⟨?_, ?_, ?_, ?_, ?_, ?_, ?_, ?_, ?_, ?_, ?_, ?_, ?_, ?_, ?_, ?_, ?_, ?_, ?_, ?_, ?_, ?_, ?_, ?_, trivial⟩
    · intro a w hle hE
      have h6 : a.tmps.getD 6 undef = .int .i64 0 := hE (6, none) (by simp)
      rw [if_pos (wanted_plain rfl)]
      refine owe_value (v := .int .i64 0) ?_ (Le.refl _ _) rfl
      go_simp
    · intro a w hle hE
      have h41 : a.tmps.getD 41 undef = .int .i64 0 := hE (41, some 0) (by simp)
      rw [if_pos (wanted_plain rfl)]
      refine owe_call (f := 14) (args := #[.int .i64 0]) (by go_simp) ?_
      refine (num_any _ w).mono ?_
      rintro e w1 ⟨rfl, rfl⟩
      exact ⟨_, rfl, Le.refl _ _, rfl⟩
    · intro a w hle hE
      have h8 : a.tmps.getD 8 undef = .int .i64 0 := hE (8, none) (by simp)
      rw [if_pos (wanted_plain rfl)]
      refine owe_value (v := .int .i64 0) ?_ (Le.refl _ _) rfl
      go_simp
    · intro a w hle hE
      have h43 : a.tmps.getD 43 undef = .int .i64 0 := hE (43, some 2) (by simp)
      rw [if_pos (wanted_plain rfl)]
      refine owe_call (f := 14) (args := #[.int .i64 0]) (by go_simp) ?_
      refine (num_any _ w).mono ?_
      rintro e w1 ⟨rfl, rfl⟩
      exact ⟨_, rfl, Le.refl _ _, rfl⟩
    · intro a w hle hE
      have h42 : a.tmps.getD 42 undef = .int .i64 0 := hE (42, some 1) (by simp)
      have h44 : a.tmps.getD 44 undef = .int .i64 0 := hE (44, some 3) (by simp)
      rw [if_pos (wanted_plain rfl)]
      refine owe_value (v := .int .i64 0) ?_ (Le.refl _ _) rfl
      go_simp
      all_goals rfl
    · intro a w hle hE
      have h45 : a.tmps.getD 45 undef = .int .i64 0 := hE (45, some 4) (by simp)
      rw [if_pos (wanted_plain rfl)]
      refine owe_value (v := .bool true) ?_ (Le.refl _ _) rfl
      go_simp
    · intro a w hle hE
      have h46 : a.tmps.getD 46 undef = .bool true := hE (46, some 5) (by simp)
      rw [if_pos (wanted_plain rfl)]
      refine owe_value (v := .bool true) ?_ (Le.refl _ _) rfl
      go_simp
    · intro a w hle hE
      have h5 : a.tmps.getD 5 undef = .pointer (some ⟨p, 0, none⟩) := hE (5, none) (by simp)
      have h47 : a.tmps.getD 47 undef = .bool true := hE (47, some 6) (by simp)
      rw [if_pos (wanted_of (j := 6) (b := true) (d := 47) rfl rfl h47)]
      refine owe_value (v := .pointer (some ⟨p, 0, none⟩)) ?_ (Le.refl _ _) rfl
      go_simp
    · intro a w hle hE
      have h48 : a.tmps.getD 48 undef = .pointer (some ⟨p, 0, none⟩) := hE (48, some 7) (by simp)
      have h47 : a.tmps.getD 47 undef = .bool true := hE (47, some 6) (by simp)
      rw [if_pos (wanted_of (j := 6) (b := true) (d := 47) rfl rfl h47)]
      refine owe_call (f := 15) (args := #[.pointer (some ⟨p, 0, none⟩)]) (by go_simp) ?_
      refine (all_any p v2 d w (hWr.below (by rw [← hNe]; exact hle.below))).mono ?_
      rintro e w1 ⟨v, rfl, hN1⟩
      exact ⟨_, rfl, Le.of hN1.below (Nat.le_trans hN hle.size), hN1.own.bytes (Nat.lt_of_lt_of_le hNpos (Nat.le_trans hN (Nat.le_trans hle.size hN1.below.size)))⟩
    · intro a w hle hE
      have h49 : Bytes w (a.tmps.getD 49 undef) d := hE (49, some 8) (by simp)
      have h47 : a.tmps.getD 47 undef = .bool true := hE (47, some 6) (by simp)
      rw [if_pos (wanted_of (j := 6) (b := true) (d := 47) rfl rfl h47)]
      have hcv := bytes_string Try.underlying27 Try.underlying5 Try.underlying9 w _ d h49
      rw [hs] at hcv
      refine owe_value (v := .string s) ?_ (Le.refl _ _) rfl
      have e1 : a.eval (.tmp 49) = a.tmps.getD 49 undef := rfl
      unfold execOp
      simp only [e1, hcv, Sem.run_bind, Sem.run_pure, Result.andThen_ok]
    · intro a w hle hE
      have h0 : a.tmps.getD 0 undef = .int .i64 n := hE (0, none) (by simp)
      have h47 : a.tmps.getD 47 undef = .bool true := hE (47, some 6) (by simp)
      rw [if_pos (wanted_of (j := 6) (b := true) (d := 47) rfl rfl h47)]
      refine owe_value (v := .int .i64 n) ?_ (Le.refl _ _) rfl
      go_simp
    · intro a w hle hE
      have h51 : a.tmps.getD 51 undef = .int .i64 n := hE (51, some 10) (by simp)
      have h47 : a.tmps.getD 47 undef = .bool true := hE (47, some 6) (by simp)
      rw [if_pos (wanted_of (j := 6) (b := true) (d := 47) rfl rfl h47)]
      refine owe_call (f := 28) (args := #[.int .i64 n]) (by go_simp) ?_
      refine (hrn w).mono ?_
      rintro e w1 ⟨v, rfl, hN1⟩
      exact ⟨_, rfl, Le.of hN1.below (Nat.le_trans hN hle.size), hN1.own.bytes (Nat.lt_of_lt_of_le hNpos (Nat.le_trans hN (Nat.le_trans hle.size hN1.below.size)))⟩
    · intro a w hle hE
      have h52 : Bytes w (a.tmps.getD 52 undef) d := hE (52, some 11) (by simp)
      have h47 : a.tmps.getD 47 undef = .bool true := hE (47, some 6) (by simp)
      rw [if_pos (wanted_of (j := 6) (b := true) (d := 47) rfl rfl h47)]
      have hcv := bytes_string Try.underlying27 Try.underlying5 Try.underlying9 w _ d h52
      rw [hs] at hcv
      refine owe_value (v := .string s) ?_ (Le.refl _ _) rfl
      have e1 : a.eval (.tmp 52) = a.tmps.getD 52 undef := rfl
      unfold execOp
      simp only [e1, hcv, Sem.run_bind, Sem.run_pure, Result.andThen_ok]
    · intro a w hle hE
      have h50 : a.tmps.getD 50 undef = .string s := hE (50, some 9) (by simp)
      have h53 : a.tmps.getD 53 undef = .string s := hE (53, some 12) (by simp)
      have h47 : a.tmps.getD 47 undef = .bool true := hE (47, some 6) (by simp)
      rw [if_pos (wanted_of (j := 6) (b := true) (d := 47) rfl rfl h47)]
      refine owe_value (v := .bool true) ?_ (Le.refl _ _) rfl
      go_simp
    · intro a w hle hE
      have h47 : a.tmps.getD 47 undef = .bool true := hE (47, some 6) (by simp)
      have h54 : a.tmps.getD 54 undef = .bool true := hE (54, some 13) (by simp)
      rw [if_pos (wanted_plain rfl)]
      refine owe_value (v := .bool true) ?_ (Le.refl _ _) rfl
      go_simp
    · intro a w hle hE
      have h55 : a.tmps.getD 55 undef = .bool true := hE (55, some 14) (by simp)
      rw [if_pos (wanted_plain rfl)]
      refine owe_value (v := .bool true) ?_ (Le.refl _ _) rfl
      go_simp
    · intro a w hle hE
      have h7 : a.tmps.getD 7 undef = .int .i64 n := hE (7, none) (by simp)
      have h56 : a.tmps.getD 56 undef = .bool true := hE (56, some 15) (by simp)
      rw [if_pos (wanted_of (j := 15) (b := true) (d := 56) rfl rfl h56)]
      refine owe_value (v := .int .i64 n) ?_ (Le.refl _ _) rfl
      go_simp
    · intro a w hle hE
      have h0 : a.tmps.getD 0 undef = .int .i64 n := hE (0, none) (by simp)
      have h56 : a.tmps.getD 56 undef = .bool true := hE (56, some 15) (by simp)
      rw [if_pos (wanted_of (j := 15) (b := true) (d := 56) rfl rfl h56)]
      refine owe_value (v := .int .i64 n) ?_ (Le.refl _ _) rfl
      go_simp
    · intro a w hle hE
      have h57 : a.tmps.getD 57 undef = .int .i64 n := hE (57, some 16) (by simp)
      have h58 : a.tmps.getD 58 undef = .int .i64 n := hE (58, some 17) (by simp)
      have h56 : a.tmps.getD 56 undef = .bool true := hE (56, some 15) (by simp)
      rw [if_pos (wanted_of (j := 15) (b := true) (d := 56) rfl rfl h56)]
      refine owe_value (v := .bool true) ?_ (Le.refl _ _) rfl
      go_simp
    · intro a w hle hE
      have h56 : a.tmps.getD 56 undef = .bool true := hE (56, some 15) (by simp)
      have h59 : a.tmps.getD 59 undef = .bool true := hE (59, some 18) (by simp)
      rw [if_pos (wanted_plain rfl)]
      refine owe_value (v := .bool true) ?_ (Le.refl _ _) rfl
      go_simp
    · intro a w hle hE
      have h60 : a.tmps.getD 60 undef = .bool true := hE (60, some 19) (by simp)
      rw [if_pos (wanted_plain rfl)]
      refine owe_value (v := .bool true) ?_ (Le.refl _ _) rfl
      go_simp
    · intro a w hle hE
      have h61 : a.tmps.getD 61 undef = .bool true := hE (61, some 20) (by simp)
      rw [if_pos (wanted_of (j := 20) (b := true) (d := 61) rfl rfl h61)]
      refine owe_call (f := 11) (args := #[]) (by go_simp) ?_
      refine (works_any w).mono ?_
      rintro e w1 ⟨rfl, hb⟩
      exact ⟨_, rfl, Le.of hb (Nat.le_trans hN hle.size), rfl⟩
    · intro a w hle hE
      have h61 : a.tmps.getD 61 undef = .bool true := hE (61, some 20) (by simp)
      have h62 : a.tmps.getD 62 undef = .bool true := hE (62, some 21) (by simp)
      rw [if_pos (wanted_plain rfl)]
      refine owe_value (v := .bool true) ?_ (Le.refl _ _) rfl
      go_simp
    · intro a w hle hE
      have h63 : a.tmps.getD 63 undef = .bool true := hE (63, some 22) (by simp)
      rw [if_pos (wanted_plain rfl)]
      refine owe_value (v := .bool true) ?_ (Le.refl _ _) rfl
      go_simp
  case hend =>
    intro a w' hle hdef hsz hall hold
    have h0 : a.tmps.getD 4 undef = .bool true := hall 23 _ 4 rfl rfl
    go_wp2_with fail
    refine bodyPost_ret (results_tmp rfl _ _ _) hdef ?_
    refine ⟨by rw [h0], ?_⟩
    rw [HN.out]
    exact hB0.trans (hle.below.mono (by omega))
set_option maxRecDepth 100000 in
set_option maxHeartbeats 1000000 in
theorem signed_out (n : Int) (hn : inS n = false) (a : Option Addr) (k c : Nat) (w : World) (hlx : k ≤ 100) :
    Calls Try.prog 6 #[.int .i64 n, .slice a k c] w fun e w' => e = .returned (.bool true) ∧ Below w.heap.size w w' := by
  have i1 : ¬ (100 : Int) < k := by omega
  have hin := insign_any n
  rw [hn] at hin
  go_enter Try.func6, Try.ntmps6
  go_wp2_with fail
  refine (wnew_any w).mono ?_
  rintro e w1 ⟨rfl, hB, hW⟩
  have c1 := hW.has.cell 1
  simp at c1
  have hz := hB.size
  have hbad := wsigned_bad _ n hn w1 c1
  clear hn
  go_wp2_with (first
    | (go_at_call 17; refine hbad.mono ?_; rintro e w' ⟨rfl, hw⟩; obtain rfl := hw.symm; clear hw)
    | (go_at_call 26; refine (hin _).mono ?_; rintro e w' ⟨rfl, hw⟩; obtain rfl := hw.symm; clear hw)
    | (go_at_call 14; refine (num_any _ _).mono ?_; rintro e w' ⟨rfl, hw⟩; obtain rfl := hw.symm; clear hw)
    | fail)
  refine (all_any _ _ _ w1 hW).mono ?_
  rintro e w2 ⟨u, rfl, hN2⟩
  obtain ⟨ua, uc, hu⟩ := hN2.own.slice
  rw [List.length_nil] at hu
  subst hu
  have HB2 : Hid (Below w.heap.size w w2) := hB.trans (hN2.below.mono hz)
  have hz2 := hN2.below.size
  clear hN2 hin hbad
  go_wp2_with (first
    | (go_at_call 11; refine (works_any _).mono ?_; rintro e w3 ⟨rfl, hw3⟩)
    | fail)
  go_ret
  exact ⟨rfl, HB2.out.trans (hw3.mono (by omega))⟩
theorem signed_long (n : Int) (a : Option Addr) (k c : Nat) (w : World) (hlx : ¬ k ≤ 100) :
    Calls Try.prog 6 #[.int .i64 n, .slice a k c] w fun e w' => e = .returned (.bool true) ∧ Below w.heap.size w w' := by
  have i1 : (100 : Int) < k := by omega
  go_enter Try.func6, Try.ntmps6
  go_wp2_with (first
    | (go_at_call 11; refine (works_any _).mono ?_; rintro e w3 ⟨rfl, hw3⟩)
    | fail)
  go_ret
  exact ⟨rfl, hw3⟩
theorem signed_walk (n : Int) (_hn : (Lit.int .i64 n).wf = true) (xv : Value) (x : List UInt8) (w : World) (hx : In w xv x) :
    Calls Try.prog 6 #[.int .i64 n, xv] w fun e w' => e = .returned (.bool true) ∧ Below w.heap.size w w' := by
  obtain ⟨xa, xc, hxv⟩ := hx.slice
  by_cases hl : x.length ≤ 100
  · cases h0 : inS n with
    | false => rw [hxv]; exact signed_out n h0 xa _ xc w hl
    | true => exact signed_in n h0 xv x w hx hl
  · rw [hxv]; exact signed_long n xa _ xc w hl
end Go.Proofs.Ytgoflpfafkmmgaa
