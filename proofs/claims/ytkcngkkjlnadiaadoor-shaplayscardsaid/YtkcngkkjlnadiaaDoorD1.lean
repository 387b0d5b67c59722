/- The document's digit, Text and Parse. -/
import Derived.Test.YtkcngkkjlnadiaaDoorC1
namespace Go.Proofs.YtkcngkkjlnadiaaDoor
open Go.RowKit

/-- What a digit is worth, or -1. -/
def digv (c : UInt8) : Int := if (hexv c).2 then ((hexv c).1.toNat : Int) else -1

set_option maxHeartbeats 400000 in
theorem refdigit_any (c : UInt8) (w : World) :
    Calls Tryd.prog 35 #[.int .u8 (bv c)] w fun e w' => e = .returned (.int .i64 (digv c)) ∧ w' = w := by
  have hc := c.toNat_lt
  have b0 := bv_nonneg c
  have b1 := bv_lt c
  have eb : bv c = (c.toNat : Int) := rfl
  by_cases h1 : 48 ≤ c.toNat
  · by_cases h2 : c.toNat ≤ 57
    · have i1 : (48 : Int) ≤ bv c := by omega
      have i2 : bv c ≤ 57 := by omega
      have hs : Hid (digv c = bv c - 48) := by
        show _ = _
        have hv : hexv c = (c - 48, true) := by unfold hexv; rw [if_pos ⟨h1, h2⟩]
        unfold digv bv; rw [hv]
        simp only [if_true]
        rw [UInt8.toNat_sub_of_le _ _ (by rw [UInt8.le_iff_toNat_le]; exact h1)]; simp; omega
      clear eb
      go_enter Tryd.func35, Tryd.ntmps35
      go_wp2
      go_ret
      rw [hs.out]
      exact ⟨rfl, rfl⟩
    · have i2 : ¬ bv c ≤ 57 := by omega
      have i1 : (48 : Int) ≤ bv c := by omega
      by_cases h3 : 97 ≤ c.toNat
      · have i3 : (97 : Int) ≤ bv c := by omega
        by_cases h4 : c.toNat ≤ 102
        · have i4 : bv c ≤ 102 := by omega
          have hs : Hid (digv c = bv c - 97 + 10) := by
            show _ = _
            have e1 : (c - 97).toNat = c.toNat - 97 := UInt8.toNat_sub_of_le _ _ (by rw [UInt8.le_iff_toNat_le]; exact h3)
            have hv : hexv c = (c - 97 + 10, true) := by unfold hexv; rw [if_neg (by omega), if_pos ⟨h3, h4⟩]
            unfold digv bv; rw [hv]
            simp only [if_true]
            rw [UInt8.toNat_add, e1]; simp; omega
          clear eb
          go_enter Tryd.func35, Tryd.ntmps35
          go_wp2
          go_ret
          rw [hs.out]
          exact ⟨rfl, rfl⟩
        · have i4 : ¬ bv c ≤ 102 := by omega
          have hv0 : hexv c = (0, false) := by unfold hexv; rw [if_neg (by omega), if_neg (by omega)]
          have hv : digv c = -1 := by unfold digv; rw [hv0]; rfl
          rw [hv]
          clear eb hv hv0
          go_enter Tryd.func35, Tryd.ntmps35
          go_wp2
          go_ret
          exact ⟨rfl, rfl⟩
      · have i3 : ¬ (97 : Int) ≤ bv c := by omega
        have hv0 : hexv c = (0, false) := by unfold hexv; rw [if_neg (by omega), if_neg (by omega)]
        have hv : digv c = -1 := by unfold digv; rw [hv0]; rfl
        rw [hv]
        clear eb hv hv0
        go_enter Tryd.func35, Tryd.ntmps35
        go_wp2
        go_ret
        exact ⟨rfl, rfl⟩
  · have i1 : ¬ (48 : Int) ≤ bv c := by omega
    have i3 : ¬ (97 : Int) ≤ bv c := by omega
    have hv0 : hexv c = (0, false) := by unfold hexv; rw [if_neg (by omega), if_neg (by omega)]
    have hv : digv c = -1 := by unfold digv; rw [hv0]; rfl
    rw [hv]
    clear eb hv hv0
    go_enter Tryd.func35, Tryd.ntmps35
    go_wp2
    go_ret
    exact ⟨rfl, rfl⟩

theorem textL_take (d : List UInt8) (k : Nat) (h : k < d.length) : textL (d.take (k + 1)) = textL (d.take k) ++ [hexd ((d[k]?.getD 0).toNat / 16), hexd ((d[k]?.getD 0).toNat % 16)] := by
  rw [List.take_add_one, List.getElem?_eq_getElem h]
  unfold textL
  rw [List.flatMap_append]
  rfl
theorem digit_cut (w : World) (n : Nat) (hn : n < 16) : (Instr.slice 9 (.string digitsS) (some (.int .u8 (n : Int))) (some (.int .u8 ((n : Int) + 1))) none).run Tryd.prog w = .ok (.string ⟨#[hexd n]⟩) w := by
  obtain rfl | rfl | rfl | rfl | rfl | rfl | rfl | rfl | rfl | rfl | rfl | rfl | rfl | rfl | rfl | rfl : n = 0 ∨ n = 1 ∨ n = 2 ∨ n = 3 ∨ n = 4 ∨ n = 5 ∨ n = 6 ∨ n = 7 ∨ n = 8 ∨ n = 9 ∨ n = 10 ∨ n = 11 ∨ n = 12 ∨ n = 13 ∨ n = 14 ∨ n = 15 := by omega
  all_goals kernel_rfl
theorem cut_hi (x : UInt8) : ∃ p q : Int, IntKind.u8.wrap ((bv x).tdiv 16) = p ∧ IntKind.u8.wrap (p + 1) = q ∧ ∀ w, (Instr.slice 9 (.string digitsS) (some (.int .u8 p)) (some (.int .u8 q)) none).run Tryd.prog w = .ok (.string ⟨#[hexd (x.toNat / 16)]⟩) w := by
  have hx := x.toNat_lt
  have e : IntKind.u8.wrap ((bv x).tdiv 16) = ((x.toNat / 16 : Nat) : Int) := by
    have key : ∀ n : Fin 256, IntKind.u8.wrap ((n.val : Int).tdiv 16) = ((n.val / 16 : Nat) : Int) := by decide +kernel
    exact key ⟨x.toNat, hx⟩
  have e2 : IntKind.u8.wrap (((x.toNat / 16 : Nat) : Int) + 1) = ((x.toNat / 16 : Nat) : Int) + 1 := by
    have key : ∀ n : Fin 16, IntKind.u8.wrap ((n.val : Int) + 1) = (n.val : Int) + 1 := by decide +kernel
    exact key ⟨x.toNat / 16, by omega⟩
  exact ⟨_, _, e, e2, fun w => digit_cut w (x.toNat / 16) (by omega)⟩
theorem cut_lo (x : UInt8) : ∃ p q : Int, (bv x).tmod 16 = p ∧ IntKind.u8.wrap p = p ∧ IntKind.u8.wrap (p + 1) = q ∧ ∀ w, (Instr.slice 9 (.string digitsS) (some (.int .u8 p)) (some (.int .u8 q)) none).run Tryd.prog w = .ok (.string ⟨#[hexd (x.toNat % 16)]⟩) w := by
  have hx := x.toNat_lt
  have e : (bv x).tmod 16 = ((x.toNat % 16 : Nat) : Int) := by
    have key : ∀ n : Fin 256, (n.val : Int).tmod 16 = ((n.val % 16 : Nat) : Int) := by decide +kernel
    exact key ⟨x.toNat, hx⟩
  have e1 : IntKind.u8.wrap ((x.toNat % 16 : Nat) : Int) = ((x.toNat % 16 : Nat) : Int) := by
    have key : ∀ n : Fin 16, IntKind.u8.wrap (n.val : Int) = (n.val : Int) := by decide +kernel
    exact key ⟨x.toNat % 16, by omega⟩
  have e2 : IntKind.u8.wrap (((x.toNat % 16 : Nat) : Int) + 1) = ((x.toNat % 16 : Nat) : Int) + 1 := by
    have key : ∀ n : Fin 16, IntKind.u8.wrap ((n.val : Int) + 1) = (n.val : Int) + 1 := by decide +kernel
    exact key ⟨x.toNat % 16, by omega⟩
  exact ⟨_, _, e, e1, e2, fun w => digit_cut w (x.toNat % 16) (by omega)⟩

set_option maxRecDepth 100000 in
set_option maxHeartbeats 1000000 in
theorem reftext_any (d : List UInt8) (hd : d.length = 32) (w : World) :
    Calls Tryd.prog 22 #[.agg (byteCells d)] w fun e w' => e = .returned (.string ⟨(textL d).toArray⟩) ∧ Below w.heap.size w w' := by
  go_enter Tryd.func22, Tryd.ntmps22
  go_wp2_with fail
  refine named (p := Code.wp _ _ _ _) ?_
  intro W0 hW0
  have hB : Below w.heap.size w W0 := by
    rw [hW0]; repeat (first | exact Below.refl _ _ | refine Below.alloc ?_ (by simp) _)
  have hX : Has W0 w.heap.size (byteCells d) 25 := by rw [hW0]; exact has_new _ _ _ _ rfl
  clear hW0
  go_loopw [4, 5] (fun t i wr => ∃ k : Nat, k ≤ 32 ∧ i = .int .i64 k ∧ t = .string ⟨(textL (d.take k)).toArray⟩ ∧ Hid (∃ n, wr = W0.drewN n)) (fun _ i _ => 32 - (intOf i).toNat)
  case atStart => exact ⟨0, by omega, rfl, rfl, ⟨0, rfl⟩⟩
  case round =>
    obtain ⟨k, hk, rfl, rfl, hn⟩ := hrel
    have hBr : Below w.heap.size w wr := by obtain ⟨n, e⟩ := hn.out; rw [e]; exact ⟨hB.os, hB.tape, hB.output, hB.size, hB.block⟩
    have hXr : Has wr w.heap.size (byteCells d) 25 := by obtain ⟨n, e⟩ := hn.out; rw [e]; exact hX
    by_cases hk32 : k < 32
    · have cx := (hXr.cell k).trans (byteCells_at d k (by omega))
      have i1 : (k : Int) < 32 := by omega
      have ht : Hid (textL (d.take (k + 1)) = textL (d.take k) ++ [hexd ((d[k]?.getD 0).toNat / 16), hexd ((d[k]?.getD 0).toNat % 16)]) := textL_take d k (by omega)
      generalize d[k]?.getD 0 = x at *
      have hT : (textL (d.take k)).length ≤ 64 := by rw [textL_length, List.length_take]; omega
      obtain ⟨p, p', hp, hp', hhi⟩ := cut_hi x
      obtain ⟨q, q', hq, hq1, hq', hlo⟩ := cut_lo x
      have hS : ByteArray.size ⟨(textL (d.take k)).toArray⟩ ≤ 64 := hT
      have hH : ByteArray.size ⟨#[hexd (x.toNat / 16)]⟩ = 1 := rfl
      have hL : ByteArray.size ⟨#[hexd (x.toNat % 16)]⟩ = 1 := rfl
      have hJ : Hid ((⟨(textL (d.take (k + 1))).toArray⟩ : ByteArray) = ⟨(textL (d.take k)).toArray⟩ ++ ⟨#[hexd (x.toNat / 16)]⟩ ++ ⟨#[hexd (x.toNat % 16)]⟩) := by
        show _ = _
        rw [ht.out]
        apply ByteArray.ext
        simp
      clear ht hT
      generalize (⟨(textL (d.take k)).toArray⟩ : ByteArray) = S at *
      generalize (⟨#[hexd (x.toNat / 16)]⟩ : ByteArray) = U at *
      generalize (⟨#[hexd (x.toNat % 16)]⟩ : ByteArray) = V at *
      unfold digitsS digitList at hhi hlo
      go_wp2_with fail
      go_quiet (fail)
      go_wp2_with fail
      go_roundw
      case rel => exact ⟨k + 1, by omega, by go_num, by rw [hJ.out], by obtain ⟨n, e⟩ := hn.out; rw [e]; show ∃ m, _ = _; exact ⟨_, by rw [World.drewN_drewN]⟩⟩
      case measure => simp [intOf]; omega
    · have e32 : k = 32 := by omega
      subst e32
      go_wp2_with fail
      go_ret
      exact ⟨by rw [List.take_of_length_le (by omega)]; rfl, hBr⟩

theorem results_refparse (tmps : Array Value) (W : World) (g : Nat) (cs : Array Value) (n : Int) (hp : tmps.getD 2 undef = .pointer (some ⟨g, 0, none⟩)) (h3 : tmps.getD 3 undef = .int .i64 n) (hg : Has W g cs 25) (hs : cs.size = 32) :
    (results Tryd.f21 tmps).run Tryd.prog W = .ok (.tuple #[.agg cs, .int .i64 n]) W := by
  have hp' : tmps[2]?.getD undef = .pointer (some ⟨g, 0, none⟩) := by simpa using hp
  have h3' : tmps[3]?.getD undef = .int .i64 n := by simpa using h3
  simp [results, Tryd.results21, hp', h3', asAddr, run_loadVar_row W g 25 25 cs (0, 0) _ hg Tryd.underlying25 rfl (by rw [hs]; kernel_rfl), Result.andThen]
theorem digv_ok (x : UInt8) (h : (hexv x).2 = true) : ∃ m : Int, digv x = m ∧ 0 ≤ m ∧ m < 16 ∧ ((hexv x).1.toNat : Int) = m := by
  have := hexv_lt x h
  exact ⟨_, by unfold digv; rw [if_pos h], by omega, by omega, rfl⟩
theorem digv_bad (x : UInt8) (h : (hexv x).2 = false) : digv x = -1 := by unfold digv; rw [h]; rfl

set_option maxRecDepth 100000 in
set_option maxHeartbeats 1000000 in
theorem refparse_any (l : List UInt8) (w : World) :
    Calls Tryd.prog 21 #[.string ⟨l.toArray⟩] w fun e w' => e = .returned (.tuple #[.agg (byteCells (parseD l)), .int .i64 (parseE l)]) ∧ Below w.heap.size w w' := by
  have hn := has_new w (zeroCells 32) 25 w.heap.size rfl
  by_cases hl : l.length = 64
  · go_enter Tryd.func21, Tryd.ntmps21
    go_wp2_with fail
    refine named (p := Code.wp _ _ _ _) ?_
    intro W0 hW0
    have hB : Below w.heap.size w W0 := by
      rw [hW0]; repeat (first | exact Below.refl _ _ | refine Below.alloc ?_ (by simp) _)
    have hR : Has W0 w.heap.size (zeroCells 32) 25 := by rw [hW0]; exact has_old hn
    have hD : Has W0 (w.heap.size + 1) (zeroCells 32) 25 := by rw [hW0]; exact has_new _ _ _ _ (by simp)
    clear hW0 hn
    have fin_bad : Hid (∀ i, i < 32 → okAt l i = false → byteCells (parseD l) = zeroCells 32 ∧ parseE l = 110) := fun i hi h => by
      have hg := good_not_at l i hi h
      exact ⟨by unfold parseD; rw [if_neg (by simp [hg]), byteCells_zero], by simp [parseE, hg]⟩
    go_loopw [5] (fun i wr => ∃ k : Nat, k ≤ 32 ∧ i = .int .i64 k ∧ Ex (w.heap.size + 1) W0 wr ∧ Hid (∀ i, i < k → okAt l i = true) ∧ ∃ c, Has wr (w.heap.size + 1) c 25 ∧ Upd (zeroCells 32) c 0 k (fun j => .int .u8 (bv (parseB l j)))) (fun i _ => 32 - (intOf i).toNat)
    case atStart => exact ⟨0, by omega, rfl, Ex.refl _ _, fun i hi => absurd hi (by omega), _, hD, Upd.zero _ _ _⟩
    case round =>
      obtain ⟨k, hk, rfl, hE, hok, c, hc, hU⟩ := hrel
      have hBr : Below w.heap.size w wr := Below.ex hB hB.size hE (by omega)
      have hRr := hR.ex hE (by omega)
      by_cases hk32 : k < 32
      · have ix := run_indexS l (2 * k) (2 * (k : Int)) (by omega) (by omega)
        have iy := run_indexS l (2 * k + 1) (2 * (k : Int) + 1) (by omega) (by omega)
        have i1 : (k : Int) < 32 := by omega
        have Hok : Hid (okAt l k = ((hexv (l[2 * k]?.getD 0)).2 && (hexv (l[2 * k + 1]?.getD 0)).2)) := rfl
        have Hpb : Hid (parseB l k = (hexv (l[2 * k]?.getD 0)).1 * 16 + (hexv (l[2 * k + 1]?.getD 0)).1) := rfl
        generalize l[2 * k]?.getD 0 = x at *
        generalize l[2 * k + 1]?.getD 0 = y at *
        obtain ⟨v0, hv0⟩ := Upd.ex hU k (by rw [zeroCells_size]; omega)
        have hcell := (hc.cell k).trans hv0
        have hfree := hc.free k
        by_cases hx : (hexv x).2 = true
        · by_cases hy : (hexv y).2 = true
          · have HO : Hid (okAt l k = true) := by show _ = _; rw [Hok.out, hx, hy]; rfl
            obtain ⟨m, em, m0, m1, hm⟩ := digv_ok x hx
            obtain ⟨q, eq, q0, q1, hq⟩ := digv_ok y hy
            have HB : Hid (bv (parseB l k) = 16 * m + q) := by
              show _ = _
              rw [Hpb.out]; unfold bv
              rw [UInt8.toNat_add, UInt8.toNat_mul]
              rw [show UInt8.toNat 16 = 16 from rfl]
              omega
            go_wp2_with fail
            go_quiet ((refine (refdigit_any _ _).mono ?_; rintro e w' ⟨rfl, rfl⟩; exact ⟨rfl, _, rfl⟩))
            clear ix iy hv0
            go_wp2
            go_roundw
            case rel =>
              refine ⟨k + 1, by omega, by go_num, (hE.trans (show Ex (w.heap.size + 1) wr (wr.drewN nq) from ⟨rfl, rfl, rfl, Nat.le_refl _, fun _ _ _ => rfl⟩)).trans (Ex.set (w.heap.size + 1) (wr.drewN nq) _ _), fun i hi => ?_, _, (show Has (wr.drewN nq) (w.heap.size + 1) c 25 from hc).set _ _, ?_⟩
              · by_cases e : i = k
                · subst e; exact HO.out
                · exact hok.out i (by omega)
              · have := hU.next (by rw [zeroCells_size]; omega) (.int .u8 (16 * m + q)) (by rw [← HB.out])
                rwa [Nat.zero_add] at this
            case measure => simp [intOf]; omega
          · have hy' : (hexv y).2 = false := by simpa using hy
            obtain ⟨m, em, m0, m1, hm⟩ := digv_ok x hx
            have en := digv_bad y hy'
            have HF : Hid (byteCells (parseD l) = zeroCells 32 ∧ parseE l = 110) := fin_bad.out k hk32 (by rw [Hok.out, hx, hy']; rfl)
            clear hm
            go_wp2_with fail
            go_quiet ((refine (refdigit_any _ _).mono ?_; rintro e w' ⟨rfl, rfl⟩; exact ⟨rfl, _, rfl⟩))
            have hRq : Has (wr.drewN nq) w.heap.size (zeroCells 32) 25 := hRr
            go_wp2_with (refine wpList_store_row rfl 25 _ _ rfl w.heap.size (zeroCells 32) rfl rfl 25 _ hRq (by kernel_rfl) rfl (by kernel_rfl) ?_)
            refine bodyPost_ret (results_refparse _ _ w.heap.size _ _ rfl rfl (setRow_heap _ _ _ _ _ _ hRq) rfl) rfl ?_
            exact ⟨by rw [HF.out.1, HF.out.2], hBr.trans ⟨rfl, rfl, rfl, by simp, fun j hj => setRow_other _ _ _ _ (by omega)⟩⟩
        · have hx' : (hexv x).2 = false := by simpa using hx
          have en := digv_bad x hx'
          have HF : Hid (byteCells (parseD l) = zeroCells 32 ∧ parseE l = 110) := fin_bad.out k hk32 (by rw [Hok.out, hx']; rfl)
          clear Hok
          go_wp2_with fail
          go_quiet ((refine (refdigit_any _ _).mono ?_; rintro e w' ⟨rfl, rfl⟩; exact ⟨rfl, _, rfl⟩))
          have hRq : Has (wr.drewN nq) w.heap.size (zeroCells 32) 25 := hRr
          go_wp2_with (refine wpList_store_row rfl 25 _ _ rfl w.heap.size (zeroCells 32) rfl rfl 25 _ hRq (by kernel_rfl) rfl (by kernel_rfl) ?_)
          refine bodyPost_ret (results_refparse _ _ w.heap.size _ _ rfl rfl (setRow_heap _ _ _ _ _ _ hRq) rfl) rfl ?_
          exact ⟨by rw [HF.out.1, HF.out.2], hBr.trans ⟨rfl, rfl, rfl, by simp, fun j hj => setRow_other _ _ _ _ (by omega)⟩⟩
      · have ek : k = 32 := by omega
        subst ek
        have hgood := good_all l hl hok.out
        have hcs : c.size = 32 := by rw [hU.size, zeroCells_size]
        have hce : c = byteCells (parseD l) := cells_eq c _ 32 (parseD_length l) hcs (fun j hj => by
          rw [hU.at_ j, if_pos (by omega), parseD, if_pos hgood]; simp [hj])
        have HE : Hid (parseE l = 0) := by simp [parseE, hgood, Hid]
        have hone : c.all (·.oneCell') = true := by rw [hce]; exact byteCells_one _
        have HCE : Hid (c = byteCells (parseD l)) := hce
        clear hce
        go_wp2_with (first
          | refine wpList_load_row rfl 25 _ rfl (w.heap.size + 1) rfl 25 c (0, 0) _ hc Tryd.underlying25 rfl (by rw [hcs]; kernel_rfl) ?_
          | refine wpList_store_row rfl 25 _ _ rfl w.heap.size c rfl rfl 25 _ hRr (by rw [hcs]; kernel_rfl) (by rw [hcs, zeroCells_size]) hone ?_)
        refine bodyPost_ret (results_refparse _ _ w.heap.size _ _ rfl rfl (setRow_heap _ _ _ _ _ _ hRr) hcs) rfl ?_
        exact ⟨by rw [HE.out, ← HCE.out], hBr.trans ⟨rfl, rfl, rfl, by simp, fun j hj => setRow_other _ _ _ _ (by omega)⟩⟩
  · have hl' : ((l.length : Int) != 64) = true := by rw [bne_iff_ne]; omega
    have hg := good_not_len l hl
    have e1 : parseD l = List.replicate 32 0 := by simp [parseD, hg]
    have e2 : parseE l = 110 := by simp [parseE, hg]
    rw [e1, e2, byteCells_zero]
    clear e1 e2 hg
    go_enter Tryd.func21, Tryd.ntmps21
    go_wp2_with (refine wpList_store_row rfl 25 _ _ rfl w.heap.size (zeroCells 32) rfl rfl 25 _ hn (by kernel_rfl) rfl (by kernel_rfl) ?_)
    refine bodyPost_ret (results_refparse _ _ w.heap.size _ _ rfl rfl (setRow_heap _ _ _ _ _ _ hn) rfl) rfl ?_
    exact ⟨rfl, ((Below.refl _ _).alloc (Nat.le_refl _) _).trans ⟨rfl, rfl, rfl, by simp, fun j hj => setRow_other _ _ _ _ (by omega)⟩⟩
end Go.Proofs.YtkcngkkjlnadiaaDoor
