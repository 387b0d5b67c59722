/- WireNumbers: the law's walk. -/
import Derived.Test.YtgoflpfafkmmgaaN2
import Derived.Test.YtgoflpfafkmmgaaG3
import Derived.Test.YtgoflpfafkmmgaaR3
import Derived.Test.YtgoflpfafkmmgaaF1
namespace Go.Proofs.Ytgoflpfafkmmgaa
open Go.RowKit

theorem Bytes.le {N : Nat} {w w' : World} {v : Value} {d : List UInt8} (h : Bytes w v d) (k : Le N w w') : Bytes w' v d := by
  obtain ⟨a, cap, db, o, h1, h2, h3, h4, h5⟩ := h
  exact ⟨a, cap, db, o, h1, h2, h3, fun j hj => (k.cells ⟨db, o + j, none⟩ h5).trans (h4 j hj), Nat.lt_of_lt_of_le h5 k.size⟩
/-- The number that is answered, and the error. -/
def vmv (x : Except Nat (Nat × List UInt8)) : Int := match x with | .error _ => 0 | .ok (n, _) => n
def vec {α : Type} (x : Except Nat α) : Nat := match x with | .error e => e | .ok _ => 0
theorem RAns.num {w w' : World} {r : Nat} {lv : Value} {rest : List UInt8} {at_ : Nat} {x : Except Nat (Nat × List UInt8)} {e : Ending} (h : RAns (.int .i64 0) w w' r lv rest at_ (vN x) e) : e = .returned (.tuple #[.int .i64 (vmv x), .int .i64 (vec x)]) ∧ Ex r w w' := by
  cases x with
  | error ec => exact ⟨h.1, h.2.2⟩
  | ok p => exact ⟨h.1, h.2.choose_spec.2⟩
def atN {α : Type} (l : List UInt8) (at_ : Nat) (x : Except Nat (α × List UInt8)) : Nat := match x with | .error _ => at_ | .ok (_, rest) => l.length - rest.length
theorem refnum_any (a : Option Addr) (c at_ : Nat) (l : List UInt8) (g : Int) (w : World) (hB : Bytes w (.slice a l.length c) l) (hat : at_ ≤ l.length) (hsm : l.length ≤ 10000000000) :
    Calls Try.prog 24 #[.agg #[.slice a l.length c, .int .i64 at_, .int .i64 0], .int .i64 g] w fun e w' => e = .returned (.tuple #[.agg #[.slice a l.length c, .int .i64 ((atN l at_ (bnd g (lnum g (l.drop at_))) : Nat) : Int), .int .i64 ((vec (bnd g (lnum g (l.drop at_))) : Nat) : Int)], .int .i64 (vmv (bnd g (lnum g (l.drop at_)))), .int .i64 ((vec (bnd g (lnum g (l.drop at_))) : Nat) : Int)]) ∧ Below w.heap.size w w' := by
  cases hx : bnd g (lnum g (l.drop at_)) with
  | error ec => exact refnum_err a c at_ l g ec w hB hat hsm hx
  | ok p => obtain ⟨n, rest⟩ := p; exact refnum_ok a c at_ l rest g n w hB hat hsm hx
theorem refnum_any' (a : Option Addr) (c at_ bl : Nat) (l : List UInt8) (hbl : bl = l.length) (g : Int) (w : World) (hB : Bytes w (.slice a bl c) l) (hat : at_ ≤ l.length) (hsm : l.length ≤ 10000000000) :
    Calls Try.prog 24 #[.agg #[.slice a bl c, .int .i64 at_, .int .i64 0], .int .i64 g] w fun e w' => e = .returned (.tuple #[.agg #[.slice a bl c, .int .i64 ((atN l at_ (bnd g (lnum g (l.drop at_))) : Nat) : Int), .int .i64 ((vec (bnd g (lnum g (l.drop at_))) : Nat) : Int)], .int .i64 (vmv (bnd g (lnum g (l.drop at_)))), .int .i64 ((vec (bnd g (lnum g (l.drop at_))) : Nat) : Int)]) ∧ Below w.heap.size w w' := by
  subst hbl; exact refnum_any a c at_ l g w hB hat hsm
theorem slice_head27 (a : Option Addr) (n cap k : Nat) (hk : k ≤ cap) (w : World) :
    (Instr.slice 27 (.slice a n cap) none (some (.int .i64 (k : Int))) none).run Try.prog w = .ok (.slice (if cap = 0 then a else a.map (·.add (0 * 1))) (k - 0) (cap - 0)) w := by
  have he : Try.prog.elem 27 = 5 := by kernel_rfl
  have hu : Try.prog.underlying 27 = some (.slice (Try.prog.elem 27)) := by rw [he]; exact Try.underlying27
  obtain ⟨i0, hi, _, hz1, _⟩ := info_parts' info5
  rw [run_slice_h w 27 a n cap hu .i64 k (by omega) (by omega), he]
  simp [sizeOf, typeInfo, hi, hz1, sliced]
theorem run_sliceAt27 (x : Value) (lo hi mx : Option Value) (w : World) : (Instr.sliceAt 27 x lo hi mx).run Try.prog w = (Instr.slice 27 x lo hi mx).run Try.prog w := by
  have he : Try.prog.elem 27 = 5 := by kernel_rfl
  have hu : Try.prog.underlying 27 = some (.slice (Try.prog.elem 27)) := by rw [he]; exact Try.underlying27
  exact run_sliceAt_slice w 27 x lo hi mx hu
def numbersΦ (d : List UInt8) (s : ByteArray) (ba xa pa : Option Addr) (bl bcap xl xc pl pc nl fv : Nat) (n mv : Int) : Nat → Value → World → Prop
  | 0, v, _ => v = .int .i64 0
  | 1, v, _ => v = .int .i64 0
  | 2, v, _ => v = .bool true
  | 3, v, _ => v = .bool true
  | 4, v, _ => v = .slice ba bl bcap
  | 5, v, _ => v = .slice ba bl bcap
  | 6, v, _ => v = .int .i64 bl
  | 7, v, _ => v = .slice xa xl xc
  | 8, v, _ => v = .int .i64 xl
  | 9, v, _ => v = .int .i64 nl
  | 10, v, _ => v = .slice pa pl pc
  | 11, v, _ => v = .string s
  | 12, v, _ => v = .int .i64 n
  | 13, v, w => Bytes w v d
  | 14, v, _ => v = .string s
  | 15, v, _ => v = .bool true
  | 16, v, _ => v = .bool true
  | 17, v, _ => v = .bool true
  | 18, v, _ => v = .int .i64 mv
  | 19, v, _ => v = .int .i64 mv
  | 20, v, _ => v = .bool true
  | 21, v, _ => v = .bool true
  | 22, v, _ => v = .bool true
  | 23, v, _ => v = .int .i64 fv
  | 24, v, _ => v = .int .i64 fv
  | 25, v, _ => v = .int .i64 fv
  | 26, v, _ => v = .bool true
  | 27, v, _ => v = .bool true
  | 28, v, _ => v = .bool true
  | 29, v, _ => v = .bool true
  | 30, v, _ => v = .bool true
  | 31, v, _ => v = .bool true
  | _, _, _ => False

set_option maxRecDepth 100000 in
set_option maxHeartbeats 4000000 in
theorem numbers_nonneg (n : Nat) (hn : n < 9223372036854775808) (most : Int) (xv : Value) (x : List UInt8) (w : World) (hx : In w xv x) (hlx : x.length ≤ 100) :
    Calls Try.prog 4 #[.int .i64 n, .int .i64 most, xv] w fun e w' => e = .returned (.bool true) ∧ Below w.heap.size w w' := by
  obtain ⟨xa, xc, rfl⟩ := hx.slice
  have hn0 : ¬ (n : Int) < 0 := by omega
  have hl9 := numL_len9 n hn
  have i1 : ¬ (100 : Int) < x.length := by omega
  go_enter Try.func4, Try.ntmps4
  go_wp2_with fail
  refine (wnew_any w).mono ?_
  rintro e w1 ⟨rfl, hB, hW⟩
  have h1 := WrN.new w w1 hB hW
  clear hB hW
  generalize hNw : w.heap.size = N0 at h1
  have HN : Hid (w.heap.size = N0) := hNw
  clear hNw
  go_wp2_with fail
  refine (wnumber_ok N0 _ _ n hn w1 h1.wr).mono ?_
  intro e w2 hl
  obtain ⟨rfl, v2, h2⟩ := h1.laid hl (by simp; omega)
  rw [List.nil_append] at h2
  clear hl h1
  go_wp2_with fail
  refine (all_any N0 _ _ w2 h2.wr).mono ?_
  rintro e w3 ⟨u, rfl, hN3⟩
  obtain ⟨hO3, hn3, hB3⟩ := hN3
  have hz2 := h2.le
  have hz3 := hB3.size
  have h03 : 0 < w3.heap.size := Nat.lt_of_lt_of_le (Nat.lt_of_le_of_lt (Nat.zero_le _) h2.wr.has.lt) hz3
  have hBa : Below N0 w w3 := h2.below.trans (hB3.mono hz2)
  have HX : Hid (Bytes w3 (.slice xa x.length xc) x) := hx.bytes (by rw [HN.out]; exact hBa) h03
  have hu3 : ∀ k, u.ownBlock = some k → N0 ≤ k := fun k hk => Nat.le_trans hz2 (hn3 k hk)
  clear h2 hB3 hn3 hx
  obtain ⟨ua, uc, rfl⟩ := hO3.slice
  go_wp2_with (refine wpList_append_bytes _ rfl _ _ 27 27 rfl info5 Try.underlying27 Try.underlying27 _ _ (numL n) x rfl rfl hO3 HX.out (by omega) ?_; intro vb w4 hO4 hg4 hL4 hnil; clear hnil; obtain ⟨ba, bcap, hvb⟩ := hO4.slice; obtain ⟨bl, hbl⟩ : ∃ k : Nat, k = (numL n ++ x).length := ⟨_, rfl⟩; rw [← hbl] at hvb; have HBL : Hid (bl = (numL n ++ x).length) := hbl; clear hbl; subst hvb)
  have hBb : Below N0 w w4 := Fr.below hBa (grown_fr hg4) (by omega) (fun k hk e => by have := hu3 k e; omega)
  have hz4 := hg4.size
  have hlb : (numL n ++ x).length ≤ 1000 := by simp; omega
  have hb4 : Bytes w4 (.slice ba bl bcap) (numL n ++ x) := hO4.bytes (by omega)
  clear hO3 hu3 hBa HX hg4 hL4
  refine (read_any _ _ w4 hb4 (by omega)).mono ?_
  rintro e w5 ⟨g, lv, rfl, hg, hR, hB5⟩
  have hO5 : Own w5 (.slice ba bl bcap) (numL n ++ x) := hO4.fr (S := fun _ => False) (Fr.of_below hB5) (fun _ _ h => h)
  have hog : (Value.slice ba bl bcap).ownBlock ≠ some g := fun e => by have := hO4.lt' e; omega
  have hBc : Below N0 w w5 := hBb.trans (hB5.mono (by omega))
  have hz5 := hB5.size
  clear hO4 hb4 hB5 hBb
  go_wp2_with fail
  refine (rnumber_any g _ _ 0 most w5 hR (by omega)).mono ?_
  intro e w6 hl
  obtain ⟨rfl, hE6⟩ := hl.num
  have hO6 := hO5.ex hE6 hog
  have hz6 := hE6.size
  have hBd : Below N0 w w6 := Below.ex hBc (by omega) hE6 (by omega)
  have h06 : 0 < w6.heap.size := by omega
  have hrf := refnum_any' ba bcap 0 bl (numL n ++ x) HBL.out most w6 (hO6.bytes h06) (by omega) (by omega)
  rw [List.drop_zero] at hrf
  clear hl hR hO5 hBc hE6 hog hg
  generalize bnd most (lnum most (numL n ++ x)) = xx at *
  generalize vmv xx = mv at *
  generalize vec xx = fv at *
  generalize atN (numL n ++ x) 0 xx = av at *
  go_wp2_with fail
  refine hrf.mono ?_
  rintro e w7 ⟨rfl, hB7⟩
  have hO7 : Own w7 (.slice ba bl bcap) (numL n ++ x) := hO6.fr (S := fun _ => False) (Fr.of_below hB7) (fun _ _ h => h)
  have hBe : Below N0 w w7 := hBd.trans (hB7.mono (by omega))
  have hz7 := hB7.size
  clear hrf hO6 hBd hB7
  go_wp2_with fail
  refine named (p := Code.wp _ _ _ _) ?_
  intro W0 hW0
  have hB0 : Below N0 w W0 := by rw [hW0]; exact hBe.alloc (by omega) _
  have hO0 : Own W0 (.slice ba bl bcap) (numL n ++ x) := by rw [hW0]; exact own_alloc hO7 _
  have hz0 : W0.heap.size = w7.heap.size + 1 := by rw [hW0]; simp
  clear hW0 hBe hO7
  have hap : BytesAp (fun _ => False) W0 (.slice ba bl bcap) (numL n ++ x) := Own.bytesAp hO0 (fun _ _ h => h) (fun _ => ⟨0, by omega, fun h => h⟩)
  have hcap : (numL n ++ x).length ≤ bcap := by obtain ⟨a', c', _, _, he, hc, _⟩ := hap; simp only [Value.slice.injEq] at he; omega
  have hP0 := hap.take (numL n).length (by simp)
  rw [List.take_left] at hP0
  have hP := hP0.bytes
  have hsl := slice_head27 ba bl bcap (numL n).length (by simp at hcap; omega)
  generalize (if bcap = 0 then ba else ba.map (·.add (0 * 1))) = pa at *
  generalize bcap - 0 = pc at *
  generalize (numL n).length - 0 = pl at *
  have hrn := refnumber_any n hn
  have hlen : bl = (numL n).length + x.length := by rw [HBL.out]; simp
  have hsub : IntKind.i64.wrap ((bl : Int) - (x.length : Int)) = ((numL n).length : Int) := by rw [IntKind.wrap_i64]; omega
  clear hlb hcap HBL
  have hwr : IntKind.i64.wrap ((numL n).length : Int) = ((numL n).length : Int) := by rw [IntKind.wrap_i64]; omega
  generalize hdl : (numL n).length = nl at *
  generalize numL n = d at *
  generalize hs : (⟨d.toArray⟩ : ByteArray) = s at *
  generalize x.length = xl at *
  obtain ⟨N, hNe⟩ : ∃ N, N = W0.heap.size := ⟨_, rfl⟩
  have hN : N ≤ W0.heap.size := by omega
  have hNpos : 0 < N := by omega
  clear hap hP0 hO0
  generalize hnn : (n : Int) = nI at *
  refine wp_region_owes (A := [0, 1, 3, 7, 15, 15, 47, 15, 143, 495, 1023, 2047, 15, 4111, 12303, 32767, 65535, 131071, 262143, 262143, 1048575, 2097151, 4194303, 8388607, 16777215, 8388607, 67108863, 134217727, 268435455, 536870911, 1073741823, 2147483647]) (need := [[(8, none)], [(58, some 0)], [(59, some 1)], [(60, some 2)], [(9, none), (61, some 3)], [(9, none), (61, some 3)], [(63, some 5), (61, some 3)], [(2, none), (61, some 3)], [(65, some 7), (61, some 3)], [(64, some 6), (66, some 8), (61, some 3)], [(62, some 4), (67, some 9), (61, some 3)], [(68, some 10), (61, some 3)], [(0, none), (61, some 3)], [(70, some 12), (61, some 3)], [(71, some 13), (61, some 3)], [(69, some 11), (72, some 14), (61, some 3)], [(61, some 3), (73, some 15)], [(74, some 16)], [(11, none), (75, some 17)], [(14, none), (75, some 17)], [(76, some 18), (77, some 19), (75, some 17)], [(75, some 17), (78, some 20)], [(79, some 21)], [(12, none), (80, some 22)], [(81, some 23), (80, some 22)], [(15, none), (80, some 22)], [(82, some 24), (83, some 25), (80, some 22)], [(80, some 22), (84, some 26)], [(85, some 27)], [(86, some 28)], [(86, some 28), (87, some 29)], [(88, some 30)]]) (numbersΦ d s ba xa pa bl bcap xl xc pl pc nl fv nI mv) N 89 (by kernel_rfl) (by kernel_rfl) (by kernel_rfl) (by kernel_rfl) (by kernel_rfl) (by kernel_rfl) rfl ?stable ?hop ?hend
  case stable =>
    intro i v p q hpq h
    unfold numbersΦ at h ⊢
    split at h <;> first | exact h | exact h.le hpq
  case hop =>
    refine ⟨?_, ?_, ?_, ?_, ?_, ?_, ?_, ?_, ?_, ?_, ?_, ?_, ?_, ?_, ?_, ?_, ?_, ?_, ?_, ?_, ?_, ?_, ?_, ?_, ?_, ?_, ?_, ?_, ?_, ?_, ?_, ?_, trivial⟩
    · intro a w hle hE
      have h8 : a.tmps.getD 8 undef = .int .i64 0 := hE (8, none) (by simp)
      rw [if_pos (wanted_plain rfl)]
      refine owe_value (v := .int .i64 0) ?_ (Le.refl _ _) rfl
      go_simp
    · intro a w hle hE
      have h58 : a.tmps.getD 58 undef = .int .i64 0 := hE (58, some 0) (by simp)
      rw [if_pos (wanted_plain rfl)]
      refine owe_call (f := 14) (args := #[.int .i64 0]) (by go_simp) ?_
      refine (num_any _ w).mono ?_
      rintro e w1 ⟨rfl, rfl⟩
      exact ⟨_, rfl, Le.refl _ _, rfl⟩
    · intro a w hle hE
      have h59 : a.tmps.getD 59 undef = .int .i64 0 := hE (59, some 1) (by simp)
      rw [if_pos (wanted_plain rfl)]
      refine owe_value (v := .bool true) ?_ (Le.refl _ _) rfl
      go_simp
    · intro a w hle hE
      have h60 : a.tmps.getD 60 undef = .bool true := hE (60, some 2) (by simp)
      rw [if_pos (wanted_plain rfl)]
      refine owe_value (v := .bool true) ?_ (Le.refl _ _) rfl
      go_simp
    · intro a w hle hE
      have h9 : a.tmps.getD 9 undef = .slice ba bl bcap := hE (9, none) (by simp)
      have h61 : a.tmps.getD 61 undef = .bool true := hE (61, some 3) (by simp)
      rw [if_pos (wanted_of (j := 3) (b := true) (d := 61) rfl rfl h61)]
      refine owe_value (v := .slice ba bl bcap) ?_ (Le.refl _ _) rfl
      go_simp
    · intro a w hle hE
      have h9 : a.tmps.getD 9 undef = .slice ba bl bcap := hE (9, none) (by simp)
      have h61 : a.tmps.getD 61 undef = .bool true := hE (61, some 3) (by simp)
      rw [if_pos (wanted_of (j := 3) (b := true) (d := 61) rfl rfl h61)]
      refine owe_value (v := .slice ba bl bcap) ?_ (Le.refl _ _) rfl
      go_simp
    · intro a w hle hE
      have h63 : a.tmps.getD 63 undef = .slice ba bl bcap := hE (63, some 5) (by simp)
      have h61 : a.tmps.getD 61 undef = .bool true := hE (61, some 3) (by simp)
      rw [if_pos (wanted_of (j := 3) (b := true) (d := 61) rfl rfl h61)]
      refine owe_value (v := .int .i64 bl) ?_ (Le.refl _ _) rfl
      go_simp
    · intro a w hle hE
      have h2 : a.tmps.getD 2 undef = .slice xa xl xc := hE (2, none) (by simp)
      have h61 : a.tmps.getD 61 undef = .bool true := hE (61, some 3) (by simp)
      rw [if_pos (wanted_of (j := 3) (b := true) (d := 61) rfl rfl h61)]
      refine owe_value (v := .slice xa xl xc) ?_ (Le.refl _ _) rfl
      go_simp
    · intro a w hle hE
      have h65 : a.tmps.getD 65 undef = .slice xa xl xc := hE (65, some 7) (by simp)
      have h61 : a.tmps.getD 61 undef = .bool true := hE (61, some 3) (by simp)
      rw [if_pos (wanted_of (j := 3) (b := true) (d := 61) rfl rfl h61)]
      refine owe_value (v := .int .i64 xl) ?_ (Le.refl _ _) rfl
      go_simp
    · intro a w hle hE
      have h64 : a.tmps.getD 64 undef = .int .i64 bl := hE (64, some 6) (by simp)
      have h66 : a.tmps.getD 66 undef = .int .i64 xl := hE (66, some 8) (by simp)
      have h61 : a.tmps.getD 61 undef = .bool true := hE (61, some 3) (by simp)
      rw [if_pos (wanted_of (j := 3) (b := true) (d := 61) rfl rfl h61)]
      refine owe_value (v := .int .i64 nl) ?_ (Le.refl _ _) rfl
      go_simp
      all_goals exact hwr
    · intro a w hle hE
      have h62 : a.tmps.getD 62 undef = .slice ba bl bcap := hE (62, some 4) (by simp)
      have h67 : a.tmps.getD 67 undef = .int .i64 nl := hE (67, some 9) (by simp)
      have h61 : a.tmps.getD 61 undef = .bool true := hE (61, some 3) (by simp)
      rw [if_pos (wanted_of (j := 3) (b := true) (d := 61) rfl rfl h61)]
      refine owe_value (v := .slice pa pl pc) ?_ (Le.refl _ _) rfl
      have e1 : a.eval (.tmp 62) = _ := h62
      have e2 : a.eval (.tmp 67) = _ := h67
      unfold execOp
      simp only [e1, e2, Option.map_none, Option.map_some, run_sliceAt27, hsl, Sem.run_bind, Sem.run_pure, Result.andThen_ok]
    · intro a w hle hE
      have h68 : a.tmps.getD 68 undef = .slice pa pl pc := hE (68, some 10) (by simp)
      have h61 : a.tmps.getD 61 undef = .bool true := hE (61, some 3) (by simp)
      rw [if_pos (wanted_of (j := 3) (b := true) (d := 61) rfl rfl h61)]
      have hcv := bytes_string Try.underlying27 Try.underlying5 Try.underlying9 w _ d (hP.le hle)
      rw [hs] at hcv
      refine owe_value (v := .string s) ?_ (Le.refl _ _) rfl
      have e1 : a.eval (.tmp 68) = _ := h68
      unfold execOp
      simp only [e1, hcv, Sem.run_bind, Sem.run_pure, Result.andThen_ok]
    · intro a w hle hE
      have h0 : a.tmps.getD 0 undef = .int .i64 nI := hE (0, none) (by simp)
      have h61 : a.tmps.getD 61 undef = .bool true := hE (61, some 3) (by simp)
      rw [if_pos (wanted_of (j := 3) (b := true) (d := 61) rfl rfl h61)]
      refine owe_value (v := .int .i64 nI) ?_ (Le.refl _ _) rfl
      go_simp
    · intro a w hle hE
      have h70 : a.tmps.getD 70 undef = .int .i64 nI := hE (70, some 12) (by simp)
      have h61 : a.tmps.getD 61 undef = .bool true := hE (61, some 3) (by simp)
      rw [if_pos (wanted_of (j := 3) (b := true) (d := 61) rfl rfl h61)]
      refine owe_call (f := 25) (args := #[.int .i64 nI]) (by go_simp) ?_
      refine (hrn w).mono ?_
      rintro e w1 ⟨v, rfl, hN1⟩
      exact ⟨_, rfl, Le.of hN1.below (Nat.le_trans hN hle.size), hN1.own.bytes (Nat.lt_of_lt_of_le hNpos (Nat.le_trans hN (Nat.le_trans hle.size hN1.below.size)))⟩
    · intro a w hle hE
      have h71 : Bytes w (a.tmps.getD 71 undef) d := hE (71, some 13) (by simp)
      have h61 : a.tmps.getD 61 undef = .bool true := hE (61, some 3) (by simp)
      rw [if_pos (wanted_of (j := 3) (b := true) (d := 61) rfl rfl h61)]
      have hcv := bytes_string Try.underlying27 Try.underlying5 Try.underlying9 w _ d h71
      rw [hs] at hcv
      refine owe_value (v := .string s) ?_ (Le.refl _ _) rfl
      have e1 : a.eval (.tmp 71) = a.tmps.getD 71 undef := rfl
      unfold execOp
      simp only [e1, hcv, Sem.run_bind, Sem.run_pure, Result.andThen_ok]
    · intro a w hle hE
      have h69 : a.tmps.getD 69 undef = .string s := hE (69, some 11) (by simp)
      have h72 : a.tmps.getD 72 undef = .string s := hE (72, some 14) (by simp)
      have h61 : a.tmps.getD 61 undef = .bool true := hE (61, some 3) (by simp)
      rw [if_pos (wanted_of (j := 3) (b := true) (d := 61) rfl rfl h61)]
      refine owe_value (v := .bool true) ?_ (Le.refl _ _) rfl
      go_simp
    · intro a w hle hE
      have h61 : a.tmps.getD 61 undef = .bool true := hE (61, some 3) (by simp)
      have h73 : a.tmps.getD 73 undef = .bool true := hE (73, some 15) (by simp)
      rw [if_pos (wanted_plain rfl)]
      refine owe_value (v := .bool true) ?_ (Le.refl _ _) rfl
      go_simp
    · intro a w hle hE
      have h74 : a.tmps.getD 74 undef = .bool true := hE (74, some 16) (by simp)
      rw [if_pos (wanted_plain rfl)]
      refine owe_value (v := .bool true) ?_ (Le.refl _ _) rfl
      go_simp
    · intro a w hle hE
      have h11 : a.tmps.getD 11 undef = .int .i64 mv := hE (11, none) (by simp)
      have h75 : a.tmps.getD 75 undef = .bool true := hE (75, some 17) (by simp)
      rw [if_pos (wanted_of (j := 17) (b := true) (d := 75) rfl rfl h75)]
      refine owe_value (v := .int .i64 mv) ?_ (Le.refl _ _) rfl
      go_simp
    · intro a w hle hE
      have h14 : a.tmps.getD 14 undef = .int .i64 mv := hE (14, none) (by simp)
      have h75 : a.tmps.getD 75 undef = .bool true := hE (75, some 17) (by simp)
      rw [if_pos (wanted_of (j := 17) (b := true) (d := 75) rfl rfl h75)]
      refine owe_value (v := .int .i64 mv) ?_ (Le.refl _ _) rfl
      go_simp
    · intro a w hle hE
      have h76 : a.tmps.getD 76 undef = .int .i64 mv := hE (76, some 18) (by simp)
      have h77 : a.tmps.getD 77 undef = .int .i64 mv := hE (77, some 19) (by simp)
      have h75 : a.tmps.getD 75 undef = .bool true := hE (75, some 17) (by simp)
      rw [if_pos (wanted_of (j := 17) (b := true) (d := 75) rfl rfl h75)]
      refine owe_value (v := .bool true) ?_ (Le.refl _ _) rfl
      go_simp
    · intro a w hle hE
      have h75 : a.tmps.getD 75 undef = .bool true := hE (75, some 17) (by simp)
      have h78 : a.tmps.getD 78 undef = .bool true := hE (78, some 20) (by simp)
      rw [if_pos (wanted_plain rfl)]
      refine owe_value (v := .bool true) ?_ (Le.refl _ _) rfl
      go_simp
    · intro a w hle hE
      have h79 : a.tmps.getD 79 undef = .bool true := hE (79, some 21) (by simp)
      rw [if_pos (wanted_plain rfl)]
      refine owe_value (v := .bool true) ?_ (Le.refl _ _) rfl
      go_simp
    · intro a w hle hE
      have h12 : a.tmps.getD 12 undef = .int .i64 fv := hE (12, none) (by simp)
      have h80 : a.tmps.getD 80 undef = .bool true := hE (80, some 22) (by simp)
      rw [if_pos (wanted_of (j := 22) (b := true) (d := 80) rfl rfl h80)]
      refine owe_value (v := .int .i64 fv) ?_ (Le.refl _ _) rfl
      go_simp
    · intro a w hle hE
      have h81 : a.tmps.getD 81 undef = .int .i64 fv := hE (81, some 23) (by simp)
      have h80 : a.tmps.getD 80 undef = .bool true := hE (80, some 22) (by simp)
      rw [if_pos (wanted_of (j := 22) (b := true) (d := 80) rfl rfl h80)]
      refine owe_call (f := 14) (args := #[.int .i64 fv]) (by go_simp) ?_
      refine (num_any _ w).mono ?_
      rintro e w1 ⟨rfl, rfl⟩
      exact ⟨_, rfl, Le.refl _ _, rfl⟩
    · intro a w hle hE
      have h15 : a.tmps.getD 15 undef = .int .i64 fv := hE (15, none) (by simp)
      have h80 : a.tmps.getD 80 undef = .bool true := hE (80, some 22) (by simp)
      rw [if_pos (wanted_of (j := 22) (b := true) (d := 80) rfl rfl h80)]
      refine owe_value (v := .int .i64 fv) ?_ (Le.refl _ _) rfl
      go_simp
    · intro a w hle hE
      have h82 : a.tmps.getD 82 undef = .int .i64 fv := hE (82, some 24) (by simp)
      have h83 : a.tmps.getD 83 undef = .int .i64 fv := hE (83, some 25) (by simp)
      have h80 : a.tmps.getD 80 undef = .bool true := hE (80, some 22) (by simp)
      rw [if_pos (wanted_of (j := 22) (b := true) (d := 80) rfl rfl h80)]
      refine owe_value (v := .bool true) ?_ (Le.refl _ _) rfl
      go_simp
    · intro a w hle hE
      have h80 : a.tmps.getD 80 undef = .bool true := hE (80, some 22) (by simp)
      have h84 : a.tmps.getD 84 undef = .bool true := hE (84, some 26) (by simp)
      rw [if_pos (wanted_plain rfl)]
      refine owe_value (v := .bool true) ?_ (Le.refl _ _) rfl
      go_simp
    · intro a w hle hE
      have h85 : a.tmps.getD 85 undef = .bool true := hE (85, some 27) (by simp)
      rw [if_pos (wanted_plain rfl)]
      refine owe_value (v := .bool true) ?_ (Le.refl _ _) rfl
      go_simp
    · intro a w hle hE
      have h86 : a.tmps.getD 86 undef = .bool true := hE (86, some 28) (by simp)
      rw [if_pos (wanted_of (j := 28) (b := true) (d := 86) rfl rfl h86)]
      refine owe_call (f := 11) (args := #[]) (by go_simp) ?_
      refine (works_any w).mono ?_
      rintro e w1 ⟨rfl, hb⟩
      exact ⟨_, rfl, Le.of hb (Nat.le_trans hN hle.size), rfl⟩
    · intro a w hle hE
      have h86 : a.tmps.getD 86 undef = .bool true := hE (86, some 28) (by simp)
      have h87 : a.tmps.getD 87 undef = .bool true := hE (87, some 29) (by simp)
      rw [if_pos (wanted_plain rfl)]
      refine owe_value (v := .bool true) ?_ (Le.refl _ _) rfl
      go_simp
    · intro a w hle hE
      have h88 : a.tmps.getD 88 undef = .bool true := hE (88, some 30) (by simp)
      rw [if_pos (wanted_plain rfl)]
      refine owe_value (v := .bool true) ?_ (Le.refl _ _) rfl
      go_simp
  case hend =>
    intro a w' hle hdef hsz hall hold
    have h0 : a.tmps.getD 6 undef = .bool true := hall 31 _ 6 rfl rfl
    go_wp2_with fail
    refine bodyPost_ret (results_tmp rfl _ _ _) hdef ?_
    refine ⟨by rw [h0], ?_⟩
    rw [HN.out]
    exact hB0.trans (hle.below.mono (by omega))
set_option maxRecDepth 100000 in
set_option maxHeartbeats 1000000 in
theorem numbers_neg (n : Int) (hn : n < 0) (most : Int) (a : Option Addr) (k c : Nat) (w : World) (hlx : k ≤ 100) :
    Calls Try.prog 4 #[.int .i64 n, .int .i64 most, .slice a k c] w fun e w' => e = .returned (.bool true) ∧ Below w.heap.size w w' := by
  have i1 : ¬ (100 : Int) < k := by omega
  go_enter Try.func4, Try.ntmps4
  go_wp2_with fail
  refine (wnew_any w).mono ?_
  rintro e w1 ⟨rfl, hB, hW⟩
  have c1 := hW.has.cell 1
  simp at c1
  have hz := hB.size
  go_wp2_with (first
    | (go_at_call 16; refine (wnumber_bad _ n hn _ c1).mono ?_; rintro e w' ⟨rfl, hw⟩; obtain rfl := hw.symm; clear hw)
    | (go_at_call 14; refine (num_any _ _).mono ?_; rintro e w' ⟨rfl, hw⟩; obtain rfl := hw.symm; clear hw)
    | fail)
  refine (all_any _ _ _ w1 hW).mono ?_
  rintro e w2 ⟨u, rfl, hN2⟩
  obtain ⟨ua, uc, hu⟩ := hN2.own.slice
  rw [List.length_nil] at hu
  subst hu
  have HB2 : Hid (Below w.heap.size w w2) := hB.trans (hN2.below.mono hz)
  have hz2 := hN2.below.size
  clear hN2
  go_wp2_with (first
    | (go_at_call 11; refine (works_any _).mono ?_; rintro e w3 ⟨rfl, hw3⟩)
    | fail)
  go_ret
  exact ⟨rfl, HB2.out.trans (hw3.mono (by omega))⟩
theorem numbers_long (n most : Int) (a : Option Addr) (k c : Nat) (w : World) (hlx : ¬ k ≤ 100) :
    Calls Try.prog 4 #[.int .i64 n, .int .i64 most, .slice a k c] w fun e w' => e = .returned (.bool true) ∧ Below w.heap.size w w' := by
  have i1 : (100 : Int) < k := by omega
  go_enter Try.func4, Try.ntmps4
  go_wp2_with (first
    | (go_at_call 11; refine (works_any _).mono ?_; rintro e w3 ⟨rfl, hw3⟩)
    | fail)
  go_ret
  exact ⟨rfl, hw3⟩
theorem numbers_walk (n most : Int) (hn : (Lit.int .i64 n).wf = true) (xv : Value) (x : List UInt8) (w : World) (hx : In w xv x) :
    Calls Try.prog 4 #[.int .i64 n, .int .i64 most, xv] w fun e w' => e = .returned (.bool true) ∧ Below w.heap.size w w' := by
  obtain ⟨xa, xc, hxv⟩ := hx.slice
  by_cases hl : x.length ≤ 100
  · by_cases h0 : n < 0
    · rw [hxv]; exact numbers_neg n h0 most xa _ xc w hl
    · obtain ⟨m, rfl⟩ := Int.eq_ofNat_of_zero_le (by omega : 0 ≤ n)
      have hb := bounds_i64 hn
      exact numbers_nonneg m (by omega) most xv x w hx hl
  · rw [hxv]; exact numbers_long n most xa _ xc w hl
end Go.Proofs.Ytgoflpfafkmmgaa
