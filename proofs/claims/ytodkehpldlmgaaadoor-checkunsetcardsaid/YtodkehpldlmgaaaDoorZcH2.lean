/- Which registers each instruction needs: the law. -/
import Derived.Test.YtodkehpldlmgaaaDoorZcT3
import Derived.Test.YtodkehpldlmgaaaDoorZcK6
namespace Go.Proofs.YtodkehpldlmgaaaDoor
open Go.RowKit

def oneR : Rg := ⟨true, 1, 1⟩
/-- So many registers are known to be one. -/
def kone (m : Nat) : Kn := ⟨true, fun j => if j < m then oneR else noR⟩
theorem kone_zero : kone 0 = comeK := by
  show (⟨true, _⟩ : Kn) = ⟨true, _⟩
  congr 1
theorem kone_set (n : Nat) : (kone n).set n oneR = kone (n + 1) := by
  show (⟨true, fun m => if m = n then _ else _⟩ : Kn) = ⟨true, _⟩
  congr 1
  funext m
  by_cases e : m = n
  · subst e; rw [if_pos rfl, if_pos (by omega)]
  · rw [if_neg e]
    show (if m < n then _ else _) = _
    by_cases h1 : m < n
    · rw [if_pos h1, if_pos (by omega)]
    · rw [if_neg h1, if_neg (by omega)]
theorem kone_right (n : Nat) : KnR ((kone 10).set n noR) := by
  refine KnR.setR (fun m hm => ?_) n good_no
  show Good (if m < 10 then oneR else noR)
  rw [if_pos hm]
  exact ⟨by decide, by decide, by decide⟩
/-- The world of the law. -/
structure UB (w : World) (i : Ins) (b : Nat) (k : Kn) (X : World) : Prop where
  ins : Has X w.heap.size i.a 38
  kn : Has X b k.a 43
  lt : w.heap.size < b
  below : Below w.heap.size w X
theorem UB.grow {w X X' : World} {i : Ins} {b : Nat} {k : Kn} (h : UB w i b k X) (g : Below X.heap.size X X') : UB w i b k X' :=
  ⟨h.ins.below g h.ins.lt, h.kn.below g h.kn.lt, h.lt, h.below.trans (g.mono h.below.size)⟩
theorem UB.setR {w X : World} {i : Ins} {b : Nat} {k : Kn} (h : UB w i b k X) (n : Nat) (hn : n < 10) (r : Rg) : UB w i b (k.set n r) (X.setCells b (1 + n * 3) r.cells) :=
  have hl := h.lt
  have g := setReg h.kn n hn r
  ⟨h.ins.ex g.2 (by omega), g.1, hl, Below.ex h.below h.below.size g.2 (by omega)⟩
theorem run_neqE {o : Oper} {ρ : Operand → Value} {X : World} (x y : Operand) (ho : o.op = .binOp .neq 3 x y 3) (e : Int) (hx : ρ x = .int .i64 e) (hy : ρ y = .int .i64 e) : (execOp ρ o).run Tryd.prog X = .ok (.value (.bool false)) X := by
  unfold execOp
  simp only [ho]
  go_simp
set_option maxRecDepth 10000 in
set_option maxHeartbeats 4000000 in
theorem unset_no (i : Ins) (w : World) (hG : Glob w) (hmay : i.may = false) :
    Calls Tryd.prog 9 #[.agg i.a] w fun e w' => e = .returned (.bool true) ∧ Below w.heap.size w w' := by
  have HM : Hid (∀ X, Calls Tryd.prog 18 #[.agg i.a] X fun e X' => e = .returned (.bool i.may) ∧ Below X.heap.size X X') := fun X => rmay_any i.op i.dst i.src i.off i.imm X (by omega)
  have HN : Hid (∀ X, Below w.heap.size w X → Calls Tryd.prog 12 #[] X fun e X' => e = .returned (.bool true) ∧ Below X.heap.size X X') := fun X hX => knownl_any X (hG.below hX hG.size)
  obtain ⟨W0, hW0⟩ : ∃ W0, W0 = w.alloc (.cells i.a 38) := ⟨_, rfl⟩
  have hi0 : Has W0 w.heap.size i.a 38 := by rw [hW0]; exact has_new _ _ _ _ rfl
  have hB0 : Below w.heap.size w W0 := by rw [hW0]; exact (Below.refl _ _).alloc (Nat.le_refl _) _
  clear hG
  go_enter Tryd.func9, Tryd.ntmps9
  go_upto_region 1 with fail
  refine named2 (p := fun X => Code.wp _ _ _ _ X) ?_
  intro W9 hW9
  have hW : W0 = W9 := hW0.trans hW9.symm
  subst hW
  clear hW9 hW0
  refine wp_region_lit ?_
  refine ldA (ld38 hi0) ?_
  refine callA (HM.out W0) ?_
  rintro e V1 ⟨rfl, hB1⟩
  refine ⟨_, rfl, ?_⟩
  have hi1 := hi0.below hB1 hi0.lt
  have hBV := hB0.trans (hB1.mono hB0.size)
  clear hB1 hi0 hB0
  rw [hmay]
  go_simp
  go_wp2_with (go_at_call 12; refine (HN.out _ hBV).mono ?_; rintro e W9 ⟨rfl, hB9⟩)
  go_ret
  exact ⟨rfl, hBV.trans (hB9.mono hBV.size)⟩
set_option maxRecDepth 10000 in
set_option maxHeartbeats 4000000 in
theorem unset_yes (i : Ins) (hu : i.imm < 4294967296) (w : World) (hG : Glob w) (hmay : i.may = true) :
    Calls Tryd.prog 9 #[.agg i.a] w fun e w' => e = .returned (.bool true) ∧ Below w.heap.size w w' := by
  have HM : Hid (∀ X, Calls Tryd.prog 18 #[.agg i.a] X fun e X' => e = .returned (.bool i.may) ∧ Below X.heap.size X X') := fun X => rmay_any i.op i.dst i.src i.off i.imm X (by omega)
  have HN : Hid (∀ X, Below w.heap.size w X → Calls Tryd.prog 12 #[] X fun e X' => e = .returned (.bool true) ∧ Below X.heap.size X X') := fun X hX => knownl_any X (hG.below hX hG.size)
  obtain ⟨W0, hW0⟩ : ∃ W0, W0 = w.alloc (.cells i.a 38) := ⟨_, rfl⟩
  have hi0 : Has W0 w.heap.size i.a 38 := by rw [hW0]; exact has_new _ _ _ _ rfl
  have hB0 : Below w.heap.size w W0 := by rw [hW0]; exact (Below.refl _ _).alloc (Nat.le_refl _) _
  have HX : Hid (∀ n X, Below w.heap.size w X → Calls Tryd.prog 17 #[.agg i.a, .int .i64 256, .agg ((kone 10).set n noR).a] X fun e X' => e = .returned (.tuple #[.agg (behV i 256 ((kone 10).set n noR)).1.a, .agg (behV i 256 ((kone 10).set n noR)).2.1.a, .int .i64 (behV i 256 ((kone 10).set n noR)).2.2]) ∧ Below X.heap.size X X') := fun n X hX => behind_any i 256 _ X (hG.below hX hG.size) hu (kone_right n).ok
  have HD : Hid (∀ n X, Calls Tryd.prog 20 #[.agg i.a, .int .i64 256, .agg ((kone 10).set n noR).a] X fun e X' => e = .returned (.agg (wayB i 256 ((kone 10).set n noR))) ∧ Below X.heap.size X X') := fun n X => rbehind_any i 256 _ X (chk_one ⟨mayB_iff.1 hmay, hu⟩ (by decide) (by decide)) (right_knB (kone_right n)) hu (kone_right n).ok
  clear hG hu
  go_enter Tryd.func9, Tryd.ntmps9
  go_upto_region 1 with fail
  refine named2 (p := fun X => Code.wp _ _ _ _ X) ?_
  intro W9 hW9
  have hW : W0 = W9 := hW0.trans hW9.symm
  subst hW
  clear hW9 hW0
  refine wp_region_lit ?_
  refine ldA (ld38 hi0) ?_
  refine callA (HM.out W0) ?_
  rintro e V1 ⟨rfl, hB1⟩
  refine ⟨_, rfl, ?_⟩
  have hi1 := hi0.below hB1 hi0.lt
  have hBV := hB0.trans (hB1.mono hB0.size)
  clear hB1 hi0 hB0
  rw [hmay]
  go_simp
  go_upto_region 3 with fail
  first | refine wp_region_lit ?_ | skip
  refine valA (.agg comeK.a) ?_
  refine alA 43 noK.a ?_
  have ax : Has (V1.alloc (.cells noK.a 43)) V1.heap.size noK.a 43 := has_new _ _ _ _ rfl
  refine stW 43 comeK.a ax (Kn.a_one _) ?_
  have hU : UB w i V1.heap.size (kone 0) ((V1.alloc (.cells noK.a 43)).setRow V1.heap.size comeK.a) := by
    rw [kone_zero]
    have hlt := hi1.lt
    exact ⟨(has_old hi1).ex (setRow_ex _ _ _) (by omega), setRow_has ax _, hlt, setRow_below (hBV.alloc hBV.size _) hBV.size _⟩
  clear ax hi1 hBV
  generalize (V1.alloc (.cells noK.a 43)).setRow V1.heap.size comeK.a = W1 at *
  generalize V1.heap.size = b3 at *
  go_simp
  go_wp2_with fail
  go_loopw [4] (fun v wr => ∃ n : Nat, n ≤ 10 ∧ v = .int .i64 (n : Int) ∧ UB w i b3 (kone n) wr) (fun v _ => 10 - (intOf v).toNat)
  case atStart => exact ⟨0, by omega, rfl, hU⟩
  case round =>
    obtain ⟨n, hn, rfl, hr⟩ := hrel
    clear hU
    by_cases hlt : n < 10
    · have hlt' : (n : Int) < 10 := by omega
      have HL : Hid (n < 10) := hlt
      have hk := hr.kn
      obtain ⟨kn, hkn⟩ : ∃ kn, kn = kone n := ⟨_, rfl⟩
      rw [← hkn] at hk hr
      have HK : Hid (kn.set n oneR = kone (n + 1)) := by show _ = _; rw [hkn]; exact kone_set n
      clear hkn hlt hn
      go_wp2_with (refine wpList_skip (by kernel_rfl) (run_st_reg _ _ rfl b3 n 43 kn oneR (by kernel_rfl) (by kernel_rfl) hk HL.out) ?_)
      go_roundw
      case rel =>
        have hm := hr.setR n HL.out oneR
        rw [HK.out] at hm
        exact ⟨n + 1, HL.out, by simp, hm⟩
      case measure => simp [intOf]; have := HL.out; omega
    · obtain rfl : n = 10 := by omega
      clear hlt hn
      go_wp2_with fail
      obtain ⟨W2, hren⟩ : ∃ Z, Z = wr := ⟨_, rfl⟩
      subst hren
      rw [show (((10 : Nat) : Int)) = 10 from rfl]
      go_loopw [5] (fun v wr => ∃ n : Nat, n ≤ 10 ∧ v = .int .i64 (n : Int) ∧ UB w i b3 (kone 10) wr) (fun v _ => 10 - (intOf v).toNat)
      case atStart => exact ⟨0, by omega, rfl, hr⟩
      case round =>
        obtain ⟨n, hn, rfl, hr2⟩ := hrel
        clear hr
        by_cases hlt : n < 10
        · have hlt' : (n : Int) < 10 := by omega
          have HL : Hid (n < 10) := hlt
          have hx := HX.out n
          have hd := HD.out n
          unfold wayB at hd
          obtain ⟨⟨a, j, E⟩, hbv⟩ : ∃ z, z = behV i 256 ((kone 10).set n noR) := ⟨_, rfl⟩
          rw [← hbv] at hx hd
          clear hbv hlt hn
          simp only at hx hd
          have hx : Hid (∀ X, Below w.heap.size w X → Calls Tryd.prog 17 #[.agg i.a, .int .i64 256, .agg ((kone 10).set n noR).a] X fun e X' => e = .returned (.tuple #[.agg a.a, .agg j.a, .int .i64 E]) ∧ Below X.heap.size X X') := hx
          have hd : Hid (∀ X, Calls Tryd.prog 20 #[.agg i.a, .int .i64 256, .agg ((kone 10).set n noR).a] X fun e X' => e = .returned (.agg (wayA a j E)) ∧ Below X.heap.size X X') := hd
          go_upto_region 11 with fail
          first | refine wp_region_lit ?_ | skip
          refine ldA (ld43 hr2.kn) ?_
          refine alA 43 noK.a ?_
          have ax : Has (wr.alloc (.cells noK.a 43)) wr.heap.size noK.a 43 := has_new _ _ _ _ rfl
          refine stW 43 (kone 10).a ax (Kn.a_one _) ?_
          have hg : Below wr.heap.size wr ((wr.alloc (.cells noK.a 43)).setRow wr.heap.size (kone 10).a) := setRow_below ((Below.refl _ _).alloc (Nat.le_refl _) _) (Nat.le_refl _) _
          have hr3 := hr2.grow hg
          have h6 := setRow_has ax (kone 10).a
          have hb6 : b3 < wr.heap.size := hr2.kn.lt
          have hbs := hr2.below.size
          clear hg ax hr2
          generalize (wr.alloc (.cells noK.a 43)).setRow wr.heap.size (kone 10).a = W3 at *
          generalize wr.heap.size = b6 at *
          go_simp
          go_upto_region 12 with fail
          first | refine wp_region_lit ?_ | skip
          refine valA (.int .i64 (n : Int)) ?_
          refine valA (.agg noR.a) ?_
          refine valA (.pointer (some ⟨b6, 1, none⟩)) ?_
          refine valR (v := .pointer (some ⟨b6, 1 + n * 3, none⟩)) (by clear hr3 h6; go_simp) ?_
          have ht := there_of (o := 1 + n * 3) (n := 3) h6 (by rw [Kn.a_size]; have := HL.out; omega)
          refine stM noR.a ht (by kernel_rfl) ?_ 40
          have hst := setReg h6 n HL.out noR
          have hl3 := hr3.lt
          have hr4 : UB w i b3 (kone 10) (W3.setCells b6 (1 + n * 3) noR.a.toList) := ⟨hr3.ins.ex hst.2 (by omega), hr3.kn.ex hst.2 (by omega), hl3, Below.ex hr3.below hr3.below.size hst.2 hbs⟩
          have h7 : Has (W3.setCells b6 (1 + n * 3) noR.a.toList) b6 ((kone 10).set n noR).a 43 := hst.1
          clear ht hst hr3 h6 hl3
          generalize W3.setCells b6 (1 + n * 3) noR.a.toList = W4 at *
          go_simp
          go_upto_region 13 with fail
          first | refine wp_region_lit ?_ | skip
          refine ldA (ld38 hr4.ins) ?_
          refine ldA (ld43 h7) ?_
          refine callA (hx.out W4 hr4.below) ?_
          rintro e V5 ⟨rfl, hB5⟩
          refine ⟨_, rfl, ?_⟩
          have hr5 := hr4.grow hB5
          have h8 := h7.below hB5 h7.lt
          clear hB5 hr4 h7 hx
          go_simp
          refine valA (.tuple #[.agg a.a, .agg j.a, .int .i64 E]) ?_
          refine valA (.agg a.a) ?_
          refine valA (.agg j.a) ?_
          go_simp
          refine valA (.int .i64 E) ?_
          refine alA 43 noK.a ?_
          refine alA 43 noK.a ?_
          obtain ⟨t1, t2, t3, t4, t5, t6⟩ := two_rows V5 a j
          refine stW 43 a.a t1 (Kn.a_one _) ?_
          refine stW 43 j.a t2 (Kn.a_one _) ?_
          have hr6 := hr5.grow t5
          have h9 := h8.below t5 h8.lt
          clear t1 t2 t3 t4 t5 t6 hr5 h8
          generalize (((V5.alloc (.cells noK.a 43)).alloc (.cells noK.a 43)).setRow V5.heap.size a.a).setRow (V5.alloc (.cells noK.a 43)).heap.size j.a = W6 at *
          generalize (V5.alloc (.cells noK.a 43)).heap.size = b8 at *
          generalize V5.heap.size = b7 at *
          refine valA (.int .i64 E) ?_
          go_simp
          go_upto_region 14 with fail
          first | refine wp_region_lit ?_ | skip
          refine valA (.int .i64 E) ?_
          refine ldA (ld38 hr6.ins) ?_
          refine ldA (ld43 h9) ?_
          refine callA (hd.out W6) ?_
          rintro e V7 ⟨rfl, hB7⟩
          refine ⟨_, rfl, ?_⟩
          have hr7 := hr6.grow hB7
          clear hB7 hr6 h9 hd
          go_simp
          refine valA (.int .i64 E) ?_
          refine valR (v := .bool false) (run_neqE _ _ rfl E (by kernel_rfl) (by kernel_rfl)) ?_
          go_simp
          go_wp2_with fail
          go_roundw
          case rel => exact ⟨n + 1, HL.out, by simp, hr7⟩
          case measure => simp [intOf]; have := HL.out; omega
        · obtain rfl : n = 10 := by omega
          clear hlt hn
          have HR : Hid (UB w i b3 (kone 10) wr) := hr2
          clear hr2
          go_wp2_with (go_at_call 12; refine (HN.out _ HR.out.below).mono ?_; rintro e W9 ⟨rfl, hB9⟩)
          go_ret
          exact ⟨rfl, HR.out.below.trans (hB9.mono HR.out.below.size)⟩
theorem unset_walk (i : Ins) (hu : i.imm < 4294967296) (w : World) (hG : Glob w) :
    Calls Tryd.prog 9 #[.agg i.a] w fun e w' => e = .returned (.bool true) ∧ Below w.heap.size w w' := by
  cases hmay : i.may with
  | false => exact unset_no i w hG hmay
  | true => exact unset_yes i hu w hG hmay
end Go.Proofs.YtodkehpldlmgaaaDoor
