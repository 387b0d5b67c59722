/- What is known of fewer ways is within what is known of more. -/
import Derived.Test.YtodkehpldlmgaaaDoorZcG4
import Derived.Test.YtodkehpldlmgaaaDoorZq2
import Derived.Deep.MidRow
import Derived.Deep.Cut
namespace Go.Proofs.YtodkehpldlmgaaaDoor
open Go.RowKit

theorem wpList_call_if {ops : Array Oper} {rest : List Oper} {o : Oper} {a : Act} {w : World} {Q : Exit → Act → World → Prop} {f : FuncId} {args : Array Value} {R : Ending → World → Prop} (hw : Region.wanted o (yielded ops a.tmps) = true) (hrun : (execOp a.eval o).run Tryd.prog w = .ok (.enter f args) w) (hc : Calls Tryd.prog f args w R)
    (h : ∀ e w', R e w' → ∃ v, e = .returned v ∧ wpList Tryd.prog ops Q rest (a.put o.dst v) w') : wpList Tryd.prog ops Q (o :: rest) a w := by
  unfold wpList
  rw [if_pos hw]
  refine .inl ?_
  unfold Oper.wp
  rw [hrun]
  refine hc.mono fun e w' hr => ?_
  obtain ⟨v, rfl, hv⟩ := h e w' hr
  exact hv
set_option maxRecDepth 10000 in
set_option maxHeartbeats 4000000 in
theorem less_main (i : Ins) (hu : i.imm < 4294967296) (c : Int) (k : Kn) (U D : Nat → Nat) (w : World) (hG : Glob w) (hko : KOk k) (hU : ∀ n, n < 10 → U n < 4294967296) (hD : ∀ n, n < 10 → D n < 4294967296) (hmay : i.may = true) (h1 : ¬ c < 0) (h2 : ¬ 256 < c) (hkb : knB k = true) (hcome : k.come = true) :
    Calls Tryd.prog 8 #[.agg i.a, .int .i64 c, .agg (lessC k U D)] w fun e w' => e = .returned (.bool true) ∧ Below w.heap.size w w' := by
  have HG : Hid (Glob w) := hG
  have hKR := knB_right hkb hko
  have HKR : Hid (KnR k) := hKR
  have HUD : Hid (∀ n, n < 10 → U n < 4294967296 ∧ D n < 4294967296) := fun n hn => ⟨hU n hn, hD n hn⟩
  have HBEH : Hid ((behV i c k).2.2 = 0 → (behV i c (kcut k U D 10)).2.2 = 0 ∧ withK (behV i c (kcut k U D 10)).1 (behV i c k).1 ∧ withK (behV i c (kcut k U D 10)).2.1 (behV i c k).2.1) := fun he => within_beh U D ⟨mayB_iff.1 hmay, hu⟩ (by omega) (by omega) hKR hcome he
  have HU : Hid (i.imm < 4294967296) := hu
  clear hko hU hD hKR
  obtain ⟨ia, hia⟩ : ∃ ia, ia = i.a := ⟨_, rfl⟩
  obtain ⟨lc, hlc⟩ : ∃ lc, lc = lessC k U D := ⟨_, rfl⟩
  obtain ⟨W0, hW0⟩ : ∃ W0, W0 = (w.alloc (.cells ia 38)).alloc (.cells lc 64) := ⟨_, rfl⟩
  have hi0 : Has W0 w.heap.size ia 38 := by rw [hW0]; exact has_old (has_new _ _ _ _ rfl)
  have hl0 : Has W0 (w.heap.size + 1) lc 64 := by rw [hW0]; exact has_new _ _ _ _ (by simp)
  have hB0 : Below w.heap.size w W0 := by rw [hW0]; exact ((Below.refl _ _).alloc (Nat.le_refl _) _).alloc (by simp) _
  have HM : Hid (∀ X, Calls Tryd.prog 18 #[.agg ia] X fun e X' => e = .returned (.bool i.may) ∧ Below X.heap.size X X') := fun X => by rw [hia]; exact rmay_any i.op i.dst i.src i.off i.imm X (by omega)
  have HR : Hid (∀ X, Calls Tryd.prog 19 #[.agg k.a] X fun e X' => e = .returned (.bool (knB k)) ∧ Below X.heap.size X X') := fun X => rright_any k X
  have HN : Hid (∀ X, Below w.heap.size w X → Calls Tryd.prog 12 #[] X fun e X' => e = .returned (.bool true) ∧ Below X.heap.size X X') := fun X hX => knownl_any X (hG.below hX hG.size)
  have HLR : Hid (∀ X, Has X (w.heap.size + 1) lc 64 → X.rangeAt (w.heap.size + 1) 0 k.cells) := fun X hX => by rw [hlc] at hX; exact less_kn hX
  have HIA : Hid (ia = i.a) := hia
  have HLC : Hid (lc = lessC k U D) := hlc
  have HIS : Hid (ia.size = 5) := by rw [hia]; rfl
  have HL0 : Hid (Has W0 (w.heap.size + 1) lc 64) := hl0
  have HI0 : Hid (Has W0 w.heap.size ia 38) := hi0
  rw [← hia, ← hlc]
  clear hia hlc hG hl0
  have f1 : decide (c < 0) = false := decide_eq_false h1
  have f2 : decide (256 < c) = false := decide_eq_false h2
  go_enter Tryd.func8, Tryd.ntmps8
  go_upto_region 1 with fail
  rw [← hW0]
  clear hW0
  go_upto_region 3 with (first | refine wpList_load_row_if rfl 38 _ rfl w.heap.size (by kernel_rfl) 38 ia (0, 0) _ hi0 Tryd.underlying38 rfl (by rw [HIS.out]; kernel_rfl) ?_ | (go_at_call 18; refine (HM.out _).mono ?_; rintro e W1 ⟨rfl, hB1⟩; clear hi0; have HB1 : Hid (Below w.heap.size w W1) := hB0.trans (hB1.mono hB0.size); have hl1 : Hid (Has W1 (w.heap.size + 1) lc 64) := HL0.out.below hB1 HL0.out.lt; have hi1 : Hid (Has W1 w.heap.size ia 38) := HI0.out.below hB1 HI0.out.lt; clear hB0 hB1; try rw [hmay]) | ((try rw [f1, f2]); refine wpList_ld_if rfl 43 _ rfl ⟨w.heap.size + 1, 0, none⟩ (by kernel_rfl) (.agg k.a) (ld_row (l := k.cells) (HLR.out _ hl1.out) (by kernel_rfl)) ?_) | (go_at_call 19; refine (HR.out _).mono ?_; rintro e W2 ⟨rfl, hB2⟩; have HB2 : Hid (Below w.heap.size w W2) := HB1.out.trans (hB2.mono HB1.out.size); have hl2 : Hid (Has W2 (w.heap.size + 1) lc 64) := hl1.out.below hB2 hl1.out.lt; have hi2 : Hid (Has W2 w.heap.size ia 38) := hi1.out.below hB2 hi1.out.lt; clear hB2; have d0 : W2.cell? ⟨w.heap.size + 1, 0, none⟩ = some (.bool k.come) := HLR.out _ hl2.out 0 _ rfl; try rw [hkb]; try rw [hcome] at d0))
  clear d0
  obtain ⟨b7, hb7⟩ : ∃ b7, b7 = W2.heap.size := ⟨_, rfl⟩
  have hz0 : Has (W2.alloc (.cells #[.bool false, .bool false, .int .u32 0, .int .u32 0, .bool false, .int .u32 0, .int .u32 0, .bool false, .int .u32 0, .int .u32 0, .bool false, .int .u32 0, .int .u32 0, .bool false, .int .u32 0, .int .u32 0, .bool false, .int .u32 0, .int .u32 0, .bool false, .int .u32 0, .int .u32 0, .bool false, .int .u32 0, .int .u32 0, .bool false, .int .u32 0, .int .u32 0, .bool false, .int .u32 0, .int .u32 0] 43)) b7 #[.bool false, .bool false, .int .u32 0, .int .u32 0, .bool false, .int .u32 0, .int .u32 0, .bool false, .int .u32 0, .int .u32 0, .bool false, .int .u32 0, .int .u32 0, .bool false, .int .u32 0, .int .u32 0, .bool false, .int .u32 0, .int .u32 0, .bool false, .int .u32 0, .int .u32 0, .bool false, .int .u32 0, .int .u32 0, .bool false, .int .u32 0, .int .u32 0, .bool false, .int .u32 0, .int .u32 0] 43 := has_new _ _ _ _ hb7
  have hlt7 : w.heap.size + 1 < b7 := by rw [hb7]; exact hl2.out.lt
  have hJ : WB w ia lc b7 k ((W2.alloc (.cells #[.bool false, .bool false, .int .u32 0, .int .u32 0, .bool false, .int .u32 0, .int .u32 0, .bool false, .int .u32 0, .int .u32 0, .bool false, .int .u32 0, .int .u32 0, .bool false, .int .u32 0, .int .u32 0, .bool false, .int .u32 0, .int .u32 0, .bool false, .int .u32 0, .int .u32 0, .bool false, .int .u32 0, .int .u32 0, .bool false, .int .u32 0, .int .u32 0, .bool false, .int .u32 0, .int .u32 0] 43)).setRow b7 k.a) := by
    have g1 : Below W2.heap.size W2 (W2.alloc (.cells #[.bool false, .bool false, .int .u32 0, .int .u32 0, .bool false, .int .u32 0, .int .u32 0, .bool false, .int .u32 0, .int .u32 0, .bool false, .int .u32 0, .int .u32 0, .bool false, .int .u32 0, .int .u32 0, .bool false, .int .u32 0, .int .u32 0, .bool false, .int .u32 0, .int .u32 0, .bool false, .int .u32 0, .int .u32 0, .bool false, .int .u32 0, .int .u32 0, .bool false, .int .u32 0, .int .u32 0] 43)) := (Below.refl _ _).alloc (Nat.le_refl _) _
    have g2 := setRow_ex (W2.alloc (.cells #[.bool false, .bool false, .int .u32 0, .int .u32 0, .bool false, .int .u32 0, .int .u32 0, .bool false, .int .u32 0, .int .u32 0, .bool false, .int .u32 0, .int .u32 0, .bool false, .int .u32 0, .int .u32 0, .bool false, .int .u32 0, .int .u32 0, .bool false, .int .u32 0, .int .u32 0, .bool false, .int .u32 0, .int .u32 0, .bool false, .int .u32 0, .int .u32 0, .bool false, .int .u32 0, .int .u32 0] 43)) b7 k.a
    exact ⟨(hi2.out.below g1 hi2.out.lt).ex g2 (by omega), (hl2.out.below g1 hl2.out.lt).ex g2 (by omega), setRow_has hz0 _, Below.ex (HB2.out.trans (g1.mono HB2.out.size)) (Nat.le_trans HB2.out.size g1.size) g2 (by omega), hlt7⟩
  have HJ : Hid (WB w ia lc b7 k ((W2.alloc (.cells #[.bool false, .bool false, .int .u32 0, .int .u32 0, .bool false, .int .u32 0, .int .u32 0, .bool false, .int .u32 0, .int .u32 0, .bool false, .int .u32 0, .int .u32 0, .bool false, .int .u32 0, .int .u32 0, .bool false, .int .u32 0, .int .u32 0, .bool false, .int .u32 0, .int .u32 0, .bool false, .int .u32 0, .int .u32 0, .bool false, .int .u32 0, .int .u32 0, .bool false, .int .u32 0, .int .u32 0] 43)).setRow b7 k.a)) := hJ
  clear hJ hlt7
  go_upto_region 4 with (first | refine wpList_ld_if rfl 43 _ rfl ⟨w.heap.size + 1, 0, none⟩ (by kernel_rfl) (.agg k.a) (ld_row (l := k.cells) (HLR.out _ hl2.out) (by kernel_rfl)) ?_ | refine wpList_store_row rfl 43 _ _ rfl b7 k.a (by rw [hb7]; kernel_rfl) (by kernel_rfl) 43 #[.bool false, .bool false, .int .u32 0, .int .u32 0, .bool false, .int .u32 0, .int .u32 0, .bool false, .int .u32 0, .int .u32 0, .bool false, .int .u32 0, .int .u32 0, .bool false, .int .u32 0, .int .u32 0, .bool false, .int .u32 0, .int .u32 0, .bool false, .int .u32 0, .int .u32 0, .bool false, .int .u32 0, .int .u32 0, .bool false, .int .u32 0, .int .u32 0, .bool false, .int .u32 0, .int .u32 0] hz0 (by kernel_rfl) (by kernel_rfl) (Kn.a_one _) ?_)
  rw [← hb7]
  clear hz0 hb7 hi2 hl2 HB2 HB1 hl1 hi1 HL0 HI0 f1 f2 HM HR
  generalize ((W2.alloc (.cells #[.bool false, .bool false, .int .u32 0, .int .u32 0, .bool false, .int .u32 0, .int .u32 0, .bool false, .int .u32 0, .int .u32 0, .bool false, .int .u32 0, .int .u32 0, .bool false, .int .u32 0, .int .u32 0, .bool false, .int .u32 0, .int .u32 0, .bool false, .int .u32 0, .int .u32 0, .bool false, .int .u32 0, .int .u32 0, .bool false, .int .u32 0, .int .u32 0, .bool false, .int .u32 0, .int .u32 0] 43)).setRow b7 k.a) = W3 at *
  have HC : Hid (0 ≤ c ∧ c ≤ 256) := ⟨h1, h2⟩
  have HMAY : Hid (i.may = true) := hmay
  have HKB : Hid (knB k = true ∧ k.come = true) := ⟨hkb, hcome⟩
  clear h1 h2 hmay hkb hcome
  go_upto_region 5 with fail
  go_loopw [8] (fun v wr => ∃ n : Nat, n ≤ 10 ∧ v = .int .i64 (n : Int) ∧ Hid (WB w ia lc b7 (kcut k U D n) wr)) (fun v _ => 10 - (intOf v).toNat)
  case atStart => exact ⟨0, by omega, rfl, by rw [kcut_zero]; exact HJ⟩
  case round =>
    obtain ⟨n, hn, rfl, HW⟩ := hrel
    clear HJ
    by_cases hlt : n < 10
    · have hlt' : (n : Int) < 10 := by omega
      have hreg := kn_reg HW.out.k n hlt
      rw [kcut_at] at hreg
      have HGD : Hid (Good (k.r n)) := HKR.out n hlt
      have c0 : wr.cell? ⟨b7, 1 + n * 3, none⟩ = some (.bool (k.r n).set) := hreg 0 _ rfl
      have c1 : wr.cell? ⟨b7, 1 + n * 3 + 1, none⟩ = some (.int .u32 ((k.r n).least : Int)) := hreg 1 _ rfl
      have c2 : wr.cell? ⟨b7, 1 + n * 3 + 2, none⟩ = some (.int .u32 ((k.r n).great : Int)) := hreg 2 _ rfl
      clear hreg
      go_upto_region 8 with fail
      clear c0 c1 c2
      refine named2 (p := fun X => Code.wp _ _ _ _ X) ?_
      intro W5 hW5
      have h9 : Has W5 wr.heap.size #[.bool (k.r n).set, .int .u32 ((k.r n).least : Int), .int .u32 ((k.r n).great : Int)] 40 := by rw [hW5]; exact has_new _ _ _ _ rfl
      have hB5 : Below wr.heap.size wr W5 := by rw [hW5]; exact (Below.refl _ _).alloc (Nat.le_refl _) _
      have HW5 : Hid (WB w ia lc b7 (kcut k U D n) W5) := HW.out.grow hB5
      clear hW5 hB5 HW
      generalize wr.heap.size = b9 at *
      cases hset : (k.r n).set with
      | false =>
        rw [hset] at h9
        have d0 : W5.cell? ⟨b9, 0, none⟩ = some (.bool false) := h9.cell 0
        have HS : Hid (kcut k U D (n + 1) = kcut k U D n) := kcut_skip k U D n hset
        clear h9 hset
        go_wp2_with fail
        go_roundw
        case rel => exact ⟨n + 1, by omega, by simp, by rw [HS.out]; exact HW5⟩
        case measure => simp [intOf]; omega
      | true =>
        rw [hset] at h9
        have d0 : W5.cell? ⟨b9, 0, none⟩ = some (.bool true) := h9.cell 0
        have HS : Hid ((kcut k U D n).set n ⟨true, cutL (k.r n) (U n), cutG (k.r n) (U n) (D n)⟩ = kcut k U D (n + 1)) := kcut_set k U D n hset
        have hle := good_le HGD.out
        have hgl := HGD.out.2.great
        have hun := (HUD.out n hlt).1
        have hdn := (HUD.out n hlt).2
        have HUC : Hid (∀ X, Below W5.heap.size W5 X → X.cell? ⟨w.heap.size + 1, 31 + n, none⟩ = some (.int .u32 (U n : Int))) := fun X hX => by
          have h := (HW5.out.grow hX).l
          rw [HLC.out] at h
          exact less_up h n hlt
        have HDC : Hid (∀ X, Below W5.heap.size W5 X → X.cell? ⟨w.heap.size + 1, 41 + n, none⟩ = some (.int .u32 (D n : Int))) := fun X hX => by
          have h := (HW5.out.grow hX).l
          rw [HLC.out] at h
          exact less_down h n hlt
        generalize hlm : cutL (k.r n) (U n) = lm at *
        generalize hgm : cutG (k.r n) (U n) (D n) = gm at *
        unfold cutL at hlm
        unfold cutG cutL at hgm
        clear hset HGD
        generalize (k.r n).least = rl at *
        generalize (k.r n).great = rg at *
        generalize U n = u at *
        generalize D n = d at *
        have HLM : Hid (lm = min rg (rl + u)) := hlm.symm
        have HGM : Hid (gm = max lm (rg - d)) := by show _ = _; rw [← hgm, hlm]
        have hlb : lm ≤ rg := by omega
        have hgb : gm ≤ rg := by omega
        clear hlm hgm
        have H9 : Hid (Has W5 b9 #[.bool true, .int .u32 (rl : Int), .int .u32 (rg : Int)] 40) := h9
        go_upto_region 9 with fail
        clear d0 h9
        have e1 : IntKind.i64.wrap (rl : Int) = (rl : Int) := by rw [IntKind.wrap_i64]; omega
        have e2 : IntKind.i64.wrap (rg : Int) = (rg : Int) := by rw [IntKind.wrap_i64]; omega
        have e3 : IntKind.i64.wrap (u : Int) = (u : Int) := by rw [IntKind.wrap_i64]; omega
        have e4 : IntKind.i64.wrap (d : Int) = (d : Int) := by rw [IntKind.wrap_i64]; omega
        have e5 : IntKind.i64.wrap ((rl : Int) + (u : Int)) = (rl : Int) + (u : Int) := by rw [IntKind.wrap_i64]; omega
        have e6 : IntKind.i64.wrap ((rg : Int) - (d : Int)) = (rg : Int) - (d : Int) := by rw [IntKind.wrap_i64]; omega
        have e7 : IntKind.i64.wrap (lm : Int) = (lm : Int) := by rw [IntKind.wrap_i64]; omega
        have e8 : IntKind.u32.wrap (lm : Int) = (lm : Int) := by rw [IntKind.wrap_u32]; omega
        have e9 : IntKind.u32.wrap (gm : Int) = (gm : Int) := by rw [IntKind.wrap_u32]; omega
        refine wp_region_inv (Φ := fun l vs X => Vals (fun q => match q with | 0 => some (.pointer (some ⟨b9, 2, none⟩)) | 1 => some (.int .u32 (rg : Int)) | 2 => some (.int .i64 (rg : Int)) | 3 => some (.pointer (some ⟨b9, 1, none⟩)) | 4 => some (.int .u32 (rl : Int)) | 5 => some (.int .i64 (rl : Int)) | 6 => some (.int .i64 (n : Int)) | 7 => some (.pointer (some ⟨w.heap.size + 1, 31, none⟩)) | 8 => some (.pointer (some ⟨w.heap.size + 1, 31 + n, none⟩)) | 9 => some (.int .u32 (u : Int)) | 10 => some (.int .i64 (u : Int)) | 11 => some (.int .i64 ((rl : Int) + (u : Int))) | 12 => some (.int .i64 (lm : Int)) | 13 => some (.int .u32 (lm : Int)) | 14 => some (.int .u32 (lm : Int)) | _ => none) l vs ∧ Below W5.heap.size W5 X) (PQ := fun _ _ => False)
          (by kernel_rfl) (by kernel_rfl) (by kernel_rfl) (by kernel_rfl) ⟨Vals.none _ _, ((Below.refl _ _).drew)⟩ ?hop ?hend (fun _ _ _ _ h => h.elim)
        case hop =>
          refine ⟨?_, ?_, ?_, ?_, ?_, ?_, ?_, ?_, ?_, ?_, ?_, ?_, ?_, ?_, ?_, trivial⟩
          · intro l vs X A hA ⟨hV, hS⟩ hl hd hcl
            have hX := hS
            have hB := hX
            have a9 := eval_old hA 9 (by kernel_rfl) rfl
            refine show_value (v := .pointer (some ⟨b9, 2, none⟩)) (X' := X) ?_ ⟨hV.upd (fun _ h => Option.some.inj h), (hX)⟩
            generalize A.eval = ρ at *
            clear hA hl hd hcl hV hS
            go_simp
          · intro l vs X A hA ⟨hV, hS⟩ hl hd hcl
            have hX := hS
            have hB := hX
            have a54 := eval_new hA 54 0 (by kernel_rfl) (by kernel_rfl) (by kernel_rfl) (hd 0 (by kernel_rfl)) (hV 0 _ (hd 0 (by kernel_rfl)) rfl)
            have cc : X.cell? ⟨b9, 2, none⟩ = some (.int .u32 (rg : Int)) := (H9.out.below hB H9.out.lt).cell 2
            refine show_value (v := .int .u32 (rg : Int)) (X' := X) ?_ ⟨hV.upd (fun _ h => Option.some.inj h), (hX)⟩
            generalize A.eval = ρ at *
            clear hA hl hd hcl hV hS hX hB
            go_simp
          · intro l vs X A hA ⟨hV, hS⟩ hl hd hcl
            have hX := hS
            have hB := hX
            have a55 := eval_new hA 55 1 (by kernel_rfl) (by kernel_rfl) (by kernel_rfl) (hd 1 (by kernel_rfl)) (hV 1 _ (hd 1 (by kernel_rfl)) rfl)
            refine show_value (v := .int .i64 (rg : Int)) (X' := X) ?_ ⟨hV.upd (fun _ h => Option.some.inj h), (hX)⟩
            generalize A.eval = ρ at *
            clear hA hl hd hcl hV hS
            go_simp
          · intro l vs X A hA ⟨hV, hS⟩ hl hd hcl
            have hX := hS
            have hB := hX
            have a9 := eval_old hA 9 (by kernel_rfl) rfl
            refine show_value (v := .pointer (some ⟨b9, 1, none⟩)) (X' := X) ?_ ⟨hV.upd (fun _ h => Option.some.inj h), (hX)⟩
            generalize A.eval = ρ at *
            clear hA hl hd hcl hV hS
            go_simp
          · intro l vs X A hA ⟨hV, hS⟩ hl hd hcl
            have hX := hS
            have hB := hX
            have a57 := eval_new hA 57 3 (by kernel_rfl) (by kernel_rfl) (by kernel_rfl) (hd 3 (by kernel_rfl)) (hV 3 _ (hd 3 (by kernel_rfl)) rfl)
            have cc : X.cell? ⟨b9, 1, none⟩ = some (.int .u32 (rl : Int)) := (H9.out.below hB H9.out.lt).cell 1
            refine show_value (v := .int .u32 (rl : Int)) (X' := X) ?_ ⟨hV.upd (fun _ h => Option.some.inj h), (hX)⟩
            generalize A.eval = ρ at *
            clear hA hl hd hcl hV hS hX hB
            go_simp
          · intro l vs X A hA ⟨hV, hS⟩ hl hd hcl
            have hX := hS
            have hB := hX
            have a58 := eval_new hA 58 4 (by kernel_rfl) (by kernel_rfl) (by kernel_rfl) (hd 4 (by kernel_rfl)) (hV 4 _ (hd 4 (by kernel_rfl)) rfl)
            refine show_value (v := .int .i64 (rl : Int)) (X' := X) ?_ ⟨hV.upd (fun _ h => Option.some.inj h), (hX)⟩
            generalize A.eval = ρ at *
            clear hA hl hd hcl hV hS
            go_simp
          · intro l vs X A hA ⟨hV, hS⟩ hl hd hcl
            have hX := hS
            have hB := hX
            have a8 := eval_old hA 8 (by kernel_rfl) rfl
            refine show_value (v := .int .i64 (n : Int)) (X' := X) ?_ ⟨hV.upd (fun _ h => Option.some.inj h), (hX)⟩
            generalize A.eval = ρ at *
            clear hA hl hd hcl hV hS
            go_simp
          · intro l vs X A hA ⟨hV, hS⟩ hl hd hcl
            have hX := hS
            have hB := hX
            have a5 := eval_old hA 5 (by kernel_rfl) rfl
            refine show_value (v := .pointer (some ⟨w.heap.size + 1, 31, none⟩)) (X' := X) ?_ ⟨hV.upd (fun _ h => Option.some.inj h), (hX)⟩
            generalize A.eval = ρ at *
            clear hA hl hd hcl hV hS
            go_simp
          · intro l vs X A hA ⟨hV, hS⟩ hl hd hcl
            have hX := hS
            have hB := hX
            have a60 := eval_new hA 60 6 (by kernel_rfl) (by kernel_rfl) (by kernel_rfl) (hd 6 (by kernel_rfl)) (hV 6 _ (hd 6 (by kernel_rfl)) rfl)
            have a61 := eval_new hA 61 7 (by kernel_rfl) (by kernel_rfl) (by kernel_rfl) (hd 7 (by kernel_rfl)) (hV 7 _ (hd 7 (by kernel_rfl)) rfl)
            refine show_value (v := .pointer (some ⟨w.heap.size + 1, 31 + n, none⟩)) (X' := X) ?_ ⟨hV.upd (fun _ h => Option.some.inj h), (hX)⟩
            generalize A.eval = ρ at *
            clear hA hl hd hcl hV hS
            go_simp
          · intro l vs X A hA ⟨hV, hS⟩ hl hd hcl
            have hX := hS
            have hB := hX
            have a62 := eval_new hA 62 8 (by kernel_rfl) (by kernel_rfl) (by kernel_rfl) (hd 8 (by kernel_rfl)) (hV 8 _ (hd 8 (by kernel_rfl)) rfl)
            have cc := HUC.out X hB
            refine show_value (v := .int .u32 (u : Int)) (X' := X) ?_ ⟨hV.upd (fun _ h => Option.some.inj h), (hX)⟩
            generalize A.eval = ρ at *
            clear hA hl hd hcl hV hS hX hB
            go_simp
          · intro l vs X A hA ⟨hV, hS⟩ hl hd hcl
            have hX := hS
            have hB := hX
            have a63 := eval_new hA 63 9 (by kernel_rfl) (by kernel_rfl) (by kernel_rfl) (hd 9 (by kernel_rfl)) (hV 9 _ (hd 9 (by kernel_rfl)) rfl)
            refine show_value (v := .int .i64 (u : Int)) (X' := X) ?_ ⟨hV.upd (fun _ h => Option.some.inj h), (hX)⟩
            generalize A.eval = ρ at *
            clear hA hl hd hcl hV hS
            go_simp
          · intro l vs X A hA ⟨hV, hS⟩ hl hd hcl
            have hX := hS
            have hB := hX
            have a59 := eval_new hA 59 5 (by kernel_rfl) (by kernel_rfl) (by kernel_rfl) (hd 5 (by kernel_rfl)) (hV 5 _ (hd 5 (by kernel_rfl)) rfl)
            have a64 := eval_new hA 64 10 (by kernel_rfl) (by kernel_rfl) (by kernel_rfl) (hd 10 (by kernel_rfl)) (hV 10 _ (hd 10 (by kernel_rfl)) rfl)
            refine show_value (v := .int .i64 ((rl : Int) + (u : Int))) (X' := X) ?_ ⟨hV.upd (fun _ h => Option.some.inj h), (hX)⟩
            generalize A.eval = ρ at *
            clear hA hl hd hcl hV hS
            go_simp
          · intro l vs X A hA ⟨hV, hS⟩ hl hd hcl
            have hX := hS
            have hB := hX
            have a56 := eval_new hA 56 2 (by kernel_rfl) (by kernel_rfl) (by kernel_rfl) (hd 2 (by kernel_rfl)) (hV 2 _ (hd 2 (by kernel_rfl)) rfl)
            have a65 := eval_new hA 65 11 (by kernel_rfl) (by kernel_rfl) (by kernel_rfl) (hd 11 (by kernel_rfl)) (hV 11 _ (hd 11 (by kernel_rfl)) rfl)
            have hq := HLM.out
            refine show_value (v := .int .i64 (lm : Int)) (X' := X) ?_ ⟨hV.upd (fun _ h => Option.some.inj h), (hX)⟩
            generalize A.eval = ρ at *
            clear hA hl hd hcl hV hS hX hB
            go_simp
            split <;> omega
          · intro l vs X A hA ⟨hV, hS⟩ hl hd hcl
            have hX := hS
            have hB := hX
            have a66 := eval_new hA 66 12 (by kernel_rfl) (by kernel_rfl) (by kernel_rfl) (hd 12 (by kernel_rfl)) (hV 12 _ (hd 12 (by kernel_rfl)) rfl)
            refine show_value (v := .int .u32 (lm : Int)) (X' := X) ?_ ⟨hV.upd (fun _ h => Option.some.inj h), (hX)⟩
            generalize A.eval = ρ at *
            clear hA hl hd hcl hV hS
            go_simp
          · intro l vs X A hA ⟨hV, hS⟩ hl hd hcl
            have hX := hS
            have hB := hX
            have a67 := eval_new hA 67 13 (by kernel_rfl) (by kernel_rfl) (by kernel_rfl) (hd 13 (by kernel_rfl)) (hV 13 _ (hd 13 (by kernel_rfl)) rfl)
            refine show_value (v := .int .u32 (lm : Int)) (X' := X) ?_ ⟨hV.upd (fun _ h => Option.some.inj h), (hX)⟩
            generalize A.eval = ρ at *
            clear hA hl hd hcl hV hS
            go_simp
        case hend =>
          intro l vs X hl ⟨hV, hS⟩
          have hX := hS
          have v0 := hV 0 _ (hl 0 (by decide)) rfl
          have v1 := hV 1 _ (hl 1 (by decide)) rfl
          have v2 := hV 2 _ (hl 2 (by decide)) rfl
          have v3 := hV 3 _ (hl 3 (by decide)) rfl
          have v4 := hV 4 _ (hl 4 (by decide)) rfl
          have v5 := hV 5 _ (hl 5 (by decide)) rfl
          have v6 := hV 6 _ (hl 6 (by decide)) rfl
          have v7 := hV 7 _ (hl 7 (by decide)) rfl
          have v8 := hV 8 _ (hl 8 (by decide)) rfl
          have v9 := hV 9 _ (hl 9 (by decide)) rfl
          have v10 := hV 10 _ (hl 10 (by decide)) rfl
          have v11 := hV 11 _ (hl 11 (by decide)) rfl
          have v12 := hV 12 _ (hl 12 (by decide)) rfl
          have v13 := hV 13 _ (hl 13 (by decide)) rfl
          have v14 := hV 14 _ (hl 14 (by decide)) rfl
          clear hV hS hl
          simp only [canonL, if_true, v0, v1, v2, v3, v4, v5, v6, v7, v8, v9, v10, v11, v12, v13, v14]
          clear v0 v1 v2 v3 v4 v5 v6 v7 v8 v9 v10 v11 v12 v13 v14
          go_simp
          obtain ⟨W6, hren⟩ : ∃ Z, Z = X := ⟨_, rfl⟩
          subst hren
          have HW6 : Hid (WB w ia lc b7 (kcut k U D n) W6) := HW5.out.grow hX
          have H96 : Hid (Has W6 b9 #[.bool true, .int .u32 (rl : Int), .int .u32 (rg : Int)] 40) := H9.out.below hX H9.out.lt
          have HDC6 : Hid (∀ X, Below W6.heap.size W6 X → X.cell? ⟨w.heap.size + 1, 41 + n, none⟩ = some (.int .u32 (d : Int))) := fun X' h => HDC.out X' (hX.trans (h.mono hX.size))
          clear hX HW5 H9 HDC HUC
          go_upto_region 10 with fail
          refine wp_region_inv (Φ := fun l vs X => Vals (fun q => match q with | 0 => some (.int .u32 (lm : Int)) | 1 => some (.int .i64 (lm : Int)) | 2 => some (.pointer (some ⟨b9, 2, none⟩)) | 3 => some (.int .u32 (rg : Int)) | 4 => some (.int .i64 (rg : Int)) | 5 => some (.int .i64 (n : Int)) | 6 => some (.pointer (some ⟨w.heap.size + 1, 41, none⟩)) | 7 => some (.pointer (some ⟨w.heap.size + 1, 41 + n, none⟩)) | 8 => some (.int .u32 (d : Int)) | 9 => some (.int .i64 (d : Int)) | 10 => some (.int .i64 ((rg : Int) - (d : Int))) | 11 => some (.int .i64 (gm : Int)) | 12 => some (.int .u32 (gm : Int)) | 13 => some (.int .u32 (gm : Int)) | _ => none) l vs ∧ Below W6.heap.size W6 X) (PQ := fun _ _ => False)
            (by kernel_rfl) (by kernel_rfl) (by kernel_rfl) (by kernel_rfl) ⟨Vals.none _ _, ((Below.refl _ _).drew)⟩ ?hop ?hend (fun _ _ _ _ h => h.elim)
          case hop =>
            refine ⟨?_, ?_, ?_, ?_, ?_, ?_, ?_, ?_, ?_, ?_, ?_, ?_, ?_, ?_, trivial⟩
            · intro l vs X A hA ⟨hV, hS⟩ hl hd hcl
              have hX := hS
              have hB := hX
              have a10 := eval_old hA 10 (by kernel_rfl) rfl
              refine show_value (v := .int .u32 (lm : Int)) (X' := X) ?_ ⟨hV.upd (fun _ h => Option.some.inj h), (hX)⟩
              generalize A.eval = ρ at *
              clear hA hl hd hcl hV hS
              go_simp
            · intro l vs X A hA ⟨hV, hS⟩ hl hd hcl
              have hX := hS
              have hB := hX
              have a68 := eval_new hA 68 0 (by kernel_rfl) (by kernel_rfl) (by kernel_rfl) (hd 0 (by kernel_rfl)) (hV 0 _ (hd 0 (by kernel_rfl)) rfl)
              refine show_value (v := .int .i64 (lm : Int)) (X' := X) ?_ ⟨hV.upd (fun _ h => Option.some.inj h), (hX)⟩
              generalize A.eval = ρ at *
              clear hA hl hd hcl hV hS
              go_simp
            · intro l vs X A hA ⟨hV, hS⟩ hl hd hcl
              have hX := hS
              have hB := hX
              have a9 := eval_old hA 9 (by kernel_rfl) rfl
              refine show_value (v := .pointer (some ⟨b9, 2, none⟩)) (X' := X) ?_ ⟨hV.upd (fun _ h => Option.some.inj h), (hX)⟩
              generalize A.eval = ρ at *
              clear hA hl hd hcl hV hS
              go_simp
            · intro l vs X A hA ⟨hV, hS⟩ hl hd hcl
              have hX := hS
              have hB := hX
              have a70 := eval_new hA 70 2 (by kernel_rfl) (by kernel_rfl) (by kernel_rfl) (hd 2 (by kernel_rfl)) (hV 2 _ (hd 2 (by kernel_rfl)) rfl)
              have cc : X.cell? ⟨b9, 2, none⟩ = some (.int .u32 (rg : Int)) := (H96.out.below hB H96.out.lt).cell 2
              refine show_value (v := .int .u32 (rg : Int)) (X' := X) ?_ ⟨hV.upd (fun _ h => Option.some.inj h), (hX)⟩
              generalize A.eval = ρ at *
              clear hA hl hd hcl hV hS hX hB
              go_simp
            · intro l vs X A hA ⟨hV, hS⟩ hl hd hcl
              have hX := hS
              have hB := hX
              have a71 := eval_new hA 71 3 (by kernel_rfl) (by kernel_rfl) (by kernel_rfl) (hd 3 (by kernel_rfl)) (hV 3 _ (hd 3 (by kernel_rfl)) rfl)
              refine show_value (v := .int .i64 (rg : Int)) (X' := X) ?_ ⟨hV.upd (fun _ h => Option.some.inj h), (hX)⟩
              generalize A.eval = ρ at *
              clear hA hl hd hcl hV hS
              go_simp
            · intro l vs X A hA ⟨hV, hS⟩ hl hd hcl
              have hX := hS
              have hB := hX
              have a8 := eval_old hA 8 (by kernel_rfl) rfl
              refine show_value (v := .int .i64 (n : Int)) (X' := X) ?_ ⟨hV.upd (fun _ h => Option.some.inj h), (hX)⟩
              generalize A.eval = ρ at *
              clear hA hl hd hcl hV hS
              go_simp
            · intro l vs X A hA ⟨hV, hS⟩ hl hd hcl
              have hX := hS
              have hB := hX
              have a5 := eval_old hA 5 (by kernel_rfl) rfl
              refine show_value (v := .pointer (some ⟨w.heap.size + 1, 41, none⟩)) (X' := X) ?_ ⟨hV.upd (fun _ h => Option.some.inj h), (hX)⟩
              generalize A.eval = ρ at *
              clear hA hl hd hcl hV hS
              go_simp
            · intro l vs X A hA ⟨hV, hS⟩ hl hd hcl
              have hX := hS
              have hB := hX
              have a73 := eval_new hA 73 5 (by kernel_rfl) (by kernel_rfl) (by kernel_rfl) (hd 5 (by kernel_rfl)) (hV 5 _ (hd 5 (by kernel_rfl)) rfl)
              have a74 := eval_new hA 74 6 (by kernel_rfl) (by kernel_rfl) (by kernel_rfl) (hd 6 (by kernel_rfl)) (hV 6 _ (hd 6 (by kernel_rfl)) rfl)
              refine show_value (v := .pointer (some ⟨w.heap.size + 1, 41 + n, none⟩)) (X' := X) ?_ ⟨hV.upd (fun _ h => Option.some.inj h), (hX)⟩
              generalize A.eval = ρ at *
              clear hA hl hd hcl hV hS
              go_simp
            · intro l vs X A hA ⟨hV, hS⟩ hl hd hcl
              have hX := hS
              have hB := hX
              have a75 := eval_new hA 75 7 (by kernel_rfl) (by kernel_rfl) (by kernel_rfl) (hd 7 (by kernel_rfl)) (hV 7 _ (hd 7 (by kernel_rfl)) rfl)
              have cc := HDC6.out X hB
              refine show_value (v := .int .u32 (d : Int)) (X' := X) ?_ ⟨hV.upd (fun _ h => Option.some.inj h), (hX)⟩
              generalize A.eval = ρ at *
              clear hA hl hd hcl hV hS hX hB
              go_simp
            · intro l vs X A hA ⟨hV, hS⟩ hl hd hcl
              have hX := hS
              have hB := hX
              have a76 := eval_new hA 76 8 (by kernel_rfl) (by kernel_rfl) (by kernel_rfl) (hd 8 (by kernel_rfl)) (hV 8 _ (hd 8 (by kernel_rfl)) rfl)
              refine show_value (v := .int .i64 (d : Int)) (X' := X) ?_ ⟨hV.upd (fun _ h => Option.some.inj h), (hX)⟩
              generalize A.eval = ρ at *
              clear hA hl hd hcl hV hS
              go_simp
            · intro l vs X A hA ⟨hV, hS⟩ hl hd hcl
              have hX := hS
              have hB := hX
              have a72 := eval_new hA 72 4 (by kernel_rfl) (by kernel_rfl) (by kernel_rfl) (hd 4 (by kernel_rfl)) (hV 4 _ (hd 4 (by kernel_rfl)) rfl)
              have a77 := eval_new hA 77 9 (by kernel_rfl) (by kernel_rfl) (by kernel_rfl) (hd 9 (by kernel_rfl)) (hV 9 _ (hd 9 (by kernel_rfl)) rfl)
              refine show_value (v := .int .i64 ((rg : Int) - (d : Int))) (X' := X) ?_ ⟨hV.upd (fun _ h => Option.some.inj h), (hX)⟩
              generalize A.eval = ρ at *
              clear hA hl hd hcl hV hS
              go_simp
            · intro l vs X A hA ⟨hV, hS⟩ hl hd hcl
              have hX := hS
              have hB := hX
              have a69 := eval_new hA 69 1 (by kernel_rfl) (by kernel_rfl) (by kernel_rfl) (hd 1 (by kernel_rfl)) (hV 1 _ (hd 1 (by kernel_rfl)) rfl)
              have a78 := eval_new hA 78 10 (by kernel_rfl) (by kernel_rfl) (by kernel_rfl) (hd 10 (by kernel_rfl)) (hV 10 _ (hd 10 (by kernel_rfl)) rfl)
              have hq := HGM.out
              refine show_value (v := .int .i64 (gm : Int)) (X' := X) ?_ ⟨hV.upd (fun _ h => Option.some.inj h), (hX)⟩
              generalize A.eval = ρ at *
              clear hA hl hd hcl hV hS hX hB
              go_simp
              split <;> omega
            · intro l vs X A hA ⟨hV, hS⟩ hl hd hcl
              have hX := hS
              have hB := hX
              have a79 := eval_new hA 79 11 (by kernel_rfl) (by kernel_rfl) (by kernel_rfl) (hd 11 (by kernel_rfl)) (hV 11 _ (hd 11 (by kernel_rfl)) rfl)
              refine show_value (v := .int .u32 (gm : Int)) (X' := X) ?_ ⟨hV.upd (fun _ h => Option.some.inj h), (hX)⟩
              generalize A.eval = ρ at *
              clear hA hl hd hcl hV hS
              go_simp
            · intro l vs X A hA ⟨hV, hS⟩ hl hd hcl
              have hX := hS
              have hB := hX
              have a80 := eval_new hA 80 12 (by kernel_rfl) (by kernel_rfl) (by kernel_rfl) (hd 12 (by kernel_rfl)) (hV 12 _ (hd 12 (by kernel_rfl)) rfl)
              refine show_value (v := .int .u32 (gm : Int)) (X' := X) ?_ ⟨hV.upd (fun _ h => Option.some.inj h), (hX)⟩
              generalize A.eval = ρ at *
              clear hA hl hd hcl hV hS
              go_simp
          case hend =>
            intro l vs X hl ⟨hV, hS⟩
            have hX := hS
            have v0 := hV 0 _ (hl 0 (by decide)) rfl
            have v1 := hV 1 _ (hl 1 (by decide)) rfl
            have v2 := hV 2 _ (hl 2 (by decide)) rfl
            have v3 := hV 3 _ (hl 3 (by decide)) rfl
            have v4 := hV 4 _ (hl 4 (by decide)) rfl
            have v5 := hV 5 _ (hl 5 (by decide)) rfl
            have v6 := hV 6 _ (hl 6 (by decide)) rfl
            have v7 := hV 7 _ (hl 7 (by decide)) rfl
            have v8 := hV 8 _ (hl 8 (by decide)) rfl
            have v9 := hV 9 _ (hl 9 (by decide)) rfl
            have v10 := hV 10 _ (hl 10 (by decide)) rfl
            have v11 := hV 11 _ (hl 11 (by decide)) rfl
            have v12 := hV 12 _ (hl 12 (by decide)) rfl
            have v13 := hV 13 _ (hl 13 (by decide)) rfl
            clear hV hS hl
            simp only [canonL, if_true, v0, v1, v2, v3, v4, v5, v6, v7, v8, v9, v10, v11, v12, v13]
            clear v0 v1 v2 v3 v4 v5 v6 v7 v8 v9 v10 v11 v12 v13
            go_simp
            obtain ⟨W7, hren⟩ : ∃ Z, Z = X := ⟨_, rfl⟩
            subst hren
            have HW7 : Hid (WB w ia lc b7 (kcut k U D n) W7) := HW6.out.grow hX
            have ht := there_of (o := 1 + n * 3) (n := 3) HW7.out.k (by rw [Kn.a_size]; omega)
            clear hX HW6 H96 HDC6 HLM HGM e1 e2 e3 e4 e5 e6 e7 e8 e9
            go_wp2_with (refine wpList_store_mid rfl 40 _ _ rfl b7 (1 + n * 3) (Rg.a ⟨true, lm, gm⟩) (by kernel_rfl) (by kernel_rfl) ht (by kernel_rfl) (Rg.a_one _) ?_)
            go_roundw
            case rel => exact ⟨n + 1, by omega, by simp, by rw [← HS.out]; exact HW7.out.set n hlt ⟨true, lm, gm⟩⟩
            case measure => simp [intOf]; omega
    · obtain rfl : n = 10 := by omega
      have hcall : Calls Tryd.prog 17 #[.agg ia, .int .i64 c, .agg k.a] wr fun e X' => e = .returned (.tuple #[.agg (behV i c k).1.a, .agg (behV i c k).2.1.a, .int .i64 (behV i c k).2.2]) ∧ Below wr.heap.size wr X' := by rw [HIA.out]; exact behind_any i c k wr (HG.out.below HW.out.below HG.out.size) HU.out HKR.out.ok
      have HC2 : Hid (∀ X, Below w.heap.size w X → Calls Tryd.prog 17 #[.agg ia, .int .i64 c, .agg (kcut k U D 10).a] X fun e X' => e = .returned (.tuple #[.agg (behV i c (kcut k U D 10)).1.a, .agg (behV i c (kcut k U D 10)).2.1.a, .int .i64 (behV i c (kcut k U D 10)).2.2]) ∧ Below X.heap.size X X') := fun X hX => by rw [HIA.out]; exact behind_any i c (kcut k U D 10) X (HG.out.below hX HG.out.size) HU.out (kcut_right HKR.out U D 10).ok
      generalize behV i c k = B1 at *
      generalize behV i c (kcut k U D 10) = B2 at *
      obtain ⟨n1, j1, E1⟩ := B1
      obtain ⟨n2, j2, E2⟩ := B2
      obtain ⟨K, hK⟩ : ∃ K, K = kcut k U D 10 := ⟨_, rfl⟩
      rw [← hK] at HC2 HW
      clear hK HUD
      have hi3 := HW.out.i
      have HLW : Hid (Has wr (w.heap.size + 1) lc 64) := HW.out.l
      go_upto_region 13 with (first | refine wpList_load_row_if rfl 38 _ rfl w.heap.size (by kernel_rfl) 38 ia (0, 0) _ hi3 Tryd.underlying38 rfl (by rw [HIS.out]; kernel_rfl) ?_ | refine wpList_ld_if rfl 43 _ rfl ⟨w.heap.size + 1, 0, none⟩ (by kernel_rfl) (.agg k.a) (ld_row (l := k.cells) (HLR.out _ HLW.out) (by kernel_rfl)) ?_ | (go_at_call 17; refine hcall.mono ?_; rintro e W3' ⟨rfl, hB3⟩; clear hcall hi3 HLW; have hz12 : Has ((W3'.alloc (.cells #[.bool false, .bool false, .int .u32 0, .int .u32 0, .bool false, .int .u32 0, .int .u32 0, .bool false, .int .u32 0, .int .u32 0, .bool false, .int .u32 0, .int .u32 0, .bool false, .int .u32 0, .int .u32 0, .bool false, .int .u32 0, .int .u32 0, .bool false, .int .u32 0, .int .u32 0, .bool false, .int .u32 0, .int .u32 0, .bool false, .int .u32 0, .int .u32 0, .bool false, .int .u32 0, .int .u32 0] 43)).alloc (.cells #[.bool false, .bool false, .int .u32 0, .int .u32 0, .bool false, .int .u32 0, .int .u32 0, .bool false, .int .u32 0, .int .u32 0, .bool false, .int .u32 0, .int .u32 0, .bool false, .int .u32 0, .int .u32 0, .bool false, .int .u32 0, .int .u32 0, .bool false, .int .u32 0, .int .u32 0, .bool false, .int .u32 0, .int .u32 0, .bool false, .int .u32 0, .int .u32 0, .bool false, .int .u32 0, .int .u32 0] 43)) W3'.heap.size #[.bool false, .bool false, .int .u32 0, .int .u32 0, .bool false, .int .u32 0, .int .u32 0, .bool false, .int .u32 0, .int .u32 0, .bool false, .int .u32 0, .int .u32 0, .bool false, .int .u32 0, .int .u32 0, .bool false, .int .u32 0, .int .u32 0, .bool false, .int .u32 0, .int .u32 0, .bool false, .int .u32 0, .int .u32 0, .bool false, .int .u32 0, .int .u32 0, .bool false, .int .u32 0, .int .u32 0] 43 := has_old (has_new _ _ _ _ rfl); have hz13 : Has (((W3'.alloc (.cells #[.bool false, .bool false, .int .u32 0, .int .u32 0, .bool false, .int .u32 0, .int .u32 0, .bool false, .int .u32 0, .int .u32 0, .bool false, .int .u32 0, .int .u32 0, .bool false, .int .u32 0, .int .u32 0, .bool false, .int .u32 0, .int .u32 0, .bool false, .int .u32 0, .int .u32 0, .bool false, .int .u32 0, .int .u32 0, .bool false, .int .u32 0, .int .u32 0, .bool false, .int .u32 0, .int .u32 0] 43)).alloc (.cells #[.bool false, .bool false, .int .u32 0, .int .u32 0, .bool false, .int .u32 0, .int .u32 0, .bool false, .int .u32 0, .int .u32 0, .bool false, .int .u32 0, .int .u32 0, .bool false, .int .u32 0, .int .u32 0, .bool false, .int .u32 0, .int .u32 0, .bool false, .int .u32 0, .int .u32 0, .bool false, .int .u32 0, .int .u32 0, .bool false, .int .u32 0, .int .u32 0, .bool false, .int .u32 0, .int .u32 0] 43)).setRow W3'.heap.size n1.a) (W3'.heap.size + 1) #[.bool false, .bool false, .int .u32 0, .int .u32 0, .bool false, .int .u32 0, .int .u32 0, .bool false, .int .u32 0, .int .u32 0, .bool false, .int .u32 0, .int .u32 0, .bool false, .int .u32 0, .int .u32 0, .bool false, .int .u32 0, .int .u32 0, .bool false, .int .u32 0, .int .u32 0, .bool false, .int .u32 0, .int .u32 0, .bool false, .int .u32 0, .int .u32 0, .bool false, .int .u32 0, .int .u32 0] 43 := (has_new _ _ _ _ (by simp)).ex (setRow_ex _ _ _) (by omega)) | refine wpList_store_row rfl 43 _ _ rfl W3'.heap.size n1.a (by kernel_rfl) (by kernel_rfl) 43 #[.bool false, .bool false, .int .u32 0, .int .u32 0, .bool false, .int .u32 0, .int .u32 0, .bool false, .int .u32 0, .int .u32 0, .bool false, .int .u32 0, .int .u32 0, .bool false, .int .u32 0, .int .u32 0, .bool false, .int .u32 0, .int .u32 0, .bool false, .int .u32 0, .int .u32 0, .bool false, .int .u32 0, .int .u32 0, .bool false, .int .u32 0, .int .u32 0, .bool false, .int .u32 0, .int .u32 0] hz12 (by kernel_rfl) (by kernel_rfl) (Kn.a_one _) ?_ | refine wpList_store_row rfl 43 _ _ rfl (W3'.heap.size + 1) j1.a (by kernel_rfl) (by kernel_rfl) 43 #[.bool false, .bool false, .int .u32 0, .int .u32 0, .bool false, .int .u32 0, .int .u32 0, .bool false, .int .u32 0, .int .u32 0, .bool false, .int .u32 0, .int .u32 0, .bool false, .int .u32 0, .int .u32 0, .bool false, .int .u32 0, .int .u32 0, .bool false, .int .u32 0, .int .u32 0, .bool false, .int .u32 0, .int .u32 0, .bool false, .int .u32 0, .int .u32 0, .bool false, .int .u32 0, .int .u32 0] hz13 (by kernel_rfl) (by kernel_rfl) (Kn.a_one _) ?_)
      have h12 := (setRow_has hz12 n1.a).ex (setRow_ex _ (W3'.heap.size + 1) j1.a) (by omega)
      have h13 := setRow_has hz13 j1.a
      have hgA : Below wr.heap.size wr ((W3'.alloc (.cells #[.bool false, .bool false, .int .u32 0, .int .u32 0, .bool false, .int .u32 0, .int .u32 0, .bool false, .int .u32 0, .int .u32 0, .bool false, .int .u32 0, .int .u32 0, .bool false, .int .u32 0, .int .u32 0, .bool false, .int .u32 0, .int .u32 0, .bool false, .int .u32 0, .int .u32 0, .bool false, .int .u32 0, .int .u32 0, .bool false, .int .u32 0, .int .u32 0, .bool false, .int .u32 0, .int .u32 0] 43)).alloc (.cells #[.bool false, .bool false, .int .u32 0, .int .u32 0, .bool false, .int .u32 0, .int .u32 0, .bool false, .int .u32 0, .int .u32 0, .bool false, .int .u32 0, .int .u32 0, .bool false, .int .u32 0, .int .u32 0, .bool false, .int .u32 0, .int .u32 0, .bool false, .int .u32 0, .int .u32 0, .bool false, .int .u32 0, .int .u32 0, .bool false, .int .u32 0, .int .u32 0, .bool false, .int .u32 0, .int .u32 0] 43)) := (hB3.alloc hB3.size _).alloc (by have := hB3.size; simp; omega) _
      have hl3 : wr.heap.size ≤ W3'.heap.size := hB3.size
      have hl9 := HW.out.k.lt
      have HW5 : Hid (WB w ia lc b7 K ((((W3'.alloc (.cells #[.bool false, .bool false, .int .u32 0, .int .u32 0, .bool false, .int .u32 0, .int .u32 0, .bool false, .int .u32 0, .int .u32 0, .bool false, .int .u32 0, .int .u32 0, .bool false, .int .u32 0, .int .u32 0, .bool false, .int .u32 0, .int .u32 0, .bool false, .int .u32 0, .int .u32 0, .bool false, .int .u32 0, .int .u32 0, .bool false, .int .u32 0, .int .u32 0, .bool false, .int .u32 0, .int .u32 0] 43)).alloc (.cells #[.bool false, .bool false, .int .u32 0, .int .u32 0, .bool false, .int .u32 0, .int .u32 0, .bool false, .int .u32 0, .int .u32 0, .bool false, .int .u32 0, .int .u32 0, .bool false, .int .u32 0, .int .u32 0, .bool false, .int .u32 0, .int .u32 0, .bool false, .int .u32 0, .int .u32 0, .bool false, .int .u32 0, .int .u32 0, .bool false, .int .u32 0, .int .u32 0, .bool false, .int .u32 0, .int .u32 0] 43)).setRow W3'.heap.size n1.a).setRow (W3'.heap.size + 1) j1.a)) := ((HW.out.grow hgA).exc (setRow_ex _ W3'.heap.size n1.a) (by omega)).exc (setRow_ex _ (W3'.heap.size + 1) j1.a) (by omega)
      clear hz12 hz13 hgA hl9 hl3 hB3 HW
      generalize W3'.heap.size = b12 at *
      generalize ((((W3'.alloc (.cells #[.bool false, .bool false, .int .u32 0, .int .u32 0, .bool false, .int .u32 0, .int .u32 0, .bool false, .int .u32 0, .int .u32 0, .bool false, .int .u32 0, .int .u32 0, .bool false, .int .u32 0, .int .u32 0, .bool false, .int .u32 0, .int .u32 0, .bool false, .int .u32 0, .int .u32 0, .bool false, .int .u32 0, .int .u32 0, .bool false, .int .u32 0, .int .u32 0, .bool false, .int .u32 0, .int .u32 0] 43)).alloc (.cells #[.bool false, .bool false, .int .u32 0, .int .u32 0, .bool false, .int .u32 0, .int .u32 0, .bool false, .int .u32 0, .int .u32 0, .bool false, .int .u32 0, .int .u32 0, .bool false, .int .u32 0, .int .u32 0, .bool false, .int .u32 0, .int .u32 0, .bool false, .int .u32 0, .int .u32 0, .bool false, .int .u32 0, .int .u32 0, .bool false, .int .u32 0, .int .u32 0, .bool false, .int .u32 0, .int .u32 0] 43)).setRow b12 n1.a).setRow (b12 + 1) j1.a) = W5 at *
      have hi5 := HW5.out.i
      have hk5 := HW5.out.k
      have hcall2 := HC2.out W5 HW5.out.below
      have H12 : Hid (Has W5 b12 n1.a 43 ∧ Has W5 (b12 + 1) j1.a 43) := ⟨h12, h13⟩
      clear HC2 h12 h13
      go_upto_region 14 with (first | refine wpList_load_row_if rfl 38 _ rfl w.heap.size (by kernel_rfl) 38 ia (0, 0) _ hi5 Tryd.underlying38 rfl (by rw [HIS.out]; kernel_rfl) ?_ | refine wpList_load_row_if rfl 43 _ rfl b7 (by kernel_rfl) 43 K.a (0, 0) _ hk5 Tryd.underlying43 rfl (by kernel_rfl) ?_ | (go_at_call 17; refine hcall2.mono ?_; rintro e W6' ⟨rfl, hB6⟩; clear hcall2 hi5 hk5; have hz12 : Has ((W6'.alloc (.cells #[.bool false, .bool false, .int .u32 0, .int .u32 0, .bool false, .int .u32 0, .int .u32 0, .bool false, .int .u32 0, .int .u32 0, .bool false, .int .u32 0, .int .u32 0, .bool false, .int .u32 0, .int .u32 0, .bool false, .int .u32 0, .int .u32 0, .bool false, .int .u32 0, .int .u32 0, .bool false, .int .u32 0, .int .u32 0, .bool false, .int .u32 0, .int .u32 0, .bool false, .int .u32 0, .int .u32 0] 43)).alloc (.cells #[.bool false, .bool false, .int .u32 0, .int .u32 0, .bool false, .int .u32 0, .int .u32 0, .bool false, .int .u32 0, .int .u32 0, .bool false, .int .u32 0, .int .u32 0, .bool false, .int .u32 0, .int .u32 0, .bool false, .int .u32 0, .int .u32 0, .bool false, .int .u32 0, .int .u32 0, .bool false, .int .u32 0, .int .u32 0, .bool false, .int .u32 0, .int .u32 0, .bool false, .int .u32 0, .int .u32 0] 43)) W6'.heap.size #[.bool false, .bool false, .int .u32 0, .int .u32 0, .bool false, .int .u32 0, .int .u32 0, .bool false, .int .u32 0, .int .u32 0, .bool false, .int .u32 0, .int .u32 0, .bool false, .int .u32 0, .int .u32 0, .bool false, .int .u32 0, .int .u32 0, .bool false, .int .u32 0, .int .u32 0, .bool false, .int .u32 0, .int .u32 0, .bool false, .int .u32 0, .int .u32 0, .bool false, .int .u32 0, .int .u32 0] 43 := has_old (has_new _ _ _ _ rfl); have hz13 : Has (((W6'.alloc (.cells #[.bool false, .bool false, .int .u32 0, .int .u32 0, .bool false, .int .u32 0, .int .u32 0, .bool false, .int .u32 0, .int .u32 0, .bool false, .int .u32 0, .int .u32 0, .bool false, .int .u32 0, .int .u32 0, .bool false, .int .u32 0, .int .u32 0, .bool false, .int .u32 0, .int .u32 0, .bool false, .int .u32 0, .int .u32 0, .bool false, .int .u32 0, .int .u32 0, .bool false, .int .u32 0, .int .u32 0] 43)).alloc (.cells #[.bool false, .bool false, .int .u32 0, .int .u32 0, .bool false, .int .u32 0, .int .u32 0, .bool false, .int .u32 0, .int .u32 0, .bool false, .int .u32 0, .int .u32 0, .bool false, .int .u32 0, .int .u32 0, .bool false, .int .u32 0, .int .u32 0, .bool false, .int .u32 0, .int .u32 0, .bool false, .int .u32 0, .int .u32 0, .bool false, .int .u32 0, .int .u32 0, .bool false, .int .u32 0, .int .u32 0] 43)).setRow W6'.heap.size n2.a) (W6'.heap.size + 1) #[.bool false, .bool false, .int .u32 0, .int .u32 0, .bool false, .int .u32 0, .int .u32 0, .bool false, .int .u32 0, .int .u32 0, .bool false, .int .u32 0, .int .u32 0, .bool false, .int .u32 0, .int .u32 0, .bool false, .int .u32 0, .int .u32 0, .bool false, .int .u32 0, .int .u32 0, .bool false, .int .u32 0, .int .u32 0, .bool false, .int .u32 0, .int .u32 0, .bool false, .int .u32 0, .int .u32 0] 43 := (has_new _ _ _ _ (by simp)).ex (setRow_ex _ _ _) (by omega)) | refine wpList_store_row rfl 43 _ _ rfl W6'.heap.size n2.a (by kernel_rfl) (by kernel_rfl) 43 #[.bool false, .bool false, .int .u32 0, .int .u32 0, .bool false, .int .u32 0, .int .u32 0, .bool false, .int .u32 0, .int .u32 0, .bool false, .int .u32 0, .int .u32 0, .bool false, .int .u32 0, .int .u32 0, .bool false, .int .u32 0, .int .u32 0, .bool false, .int .u32 0, .int .u32 0, .bool false, .int .u32 0, .int .u32 0, .bool false, .int .u32 0, .int .u32 0, .bool false, .int .u32 0, .int .u32 0] hz12 (by kernel_rfl) (by kernel_rfl) (Kn.a_one _) ?_ | refine wpList_store_row rfl 43 _ _ rfl (W6'.heap.size + 1) j2.a (by kernel_rfl) (by kernel_rfl) 43 #[.bool false, .bool false, .int .u32 0, .int .u32 0, .bool false, .int .u32 0, .int .u32 0, .bool false, .int .u32 0, .int .u32 0, .bool false, .int .u32 0, .int .u32 0, .bool false, .int .u32 0, .int .u32 0, .bool false, .int .u32 0, .int .u32 0, .bool false, .int .u32 0, .int .u32 0, .bool false, .int .u32 0, .int .u32 0, .bool false, .int .u32 0, .int .u32 0, .bool false, .int .u32 0, .int .u32 0] hz13 (by kernel_rfl) (by kernel_rfl) (Kn.a_one _) ?_)
      have h15 := (setRow_has hz12 n2.a).ex (setRow_ex _ (W6'.heap.size + 1) j2.a) (by omega)
      have h16 := setRow_has hz13 j2.a
      have hgA : Below W5.heap.size W5 ((W6'.alloc (.cells #[.bool false, .bool false, .int .u32 0, .int .u32 0, .bool false, .int .u32 0, .int .u32 0, .bool false, .int .u32 0, .int .u32 0, .bool false, .int .u32 0, .int .u32 0, .bool false, .int .u32 0, .int .u32 0, .bool false, .int .u32 0, .int .u32 0, .bool false, .int .u32 0, .int .u32 0, .bool false, .int .u32 0, .int .u32 0, .bool false, .int .u32 0, .int .u32 0, .bool false, .int .u32 0, .int .u32 0] 43)).alloc (.cells #[.bool false, .bool false, .int .u32 0, .int .u32 0, .bool false, .int .u32 0, .int .u32 0, .bool false, .int .u32 0, .int .u32 0, .bool false, .int .u32 0, .int .u32 0, .bool false, .int .u32 0, .int .u32 0, .bool false, .int .u32 0, .int .u32 0, .bool false, .int .u32 0, .int .u32 0, .bool false, .int .u32 0, .int .u32 0, .bool false, .int .u32 0, .int .u32 0, .bool false, .int .u32 0, .int .u32 0] 43)) := (hB6.alloc hB6.size _).alloc (by have := hB6.size; simp; omega) _
      have hl3 : W5.heap.size ≤ W6'.heap.size := hB6.size
      have l12 := H12.out.1.lt
      have l13 := H12.out.2.lt
      have h12 := ((H12.out.1.below hgA H12.out.1.lt).ex (setRow_ex _ W6'.heap.size n2.a) (by omega)).ex (setRow_ex _ (W6'.heap.size + 1) j2.a) (by omega)
      have h13 := ((H12.out.2.below hgA H12.out.2.lt).ex (setRow_ex _ W6'.heap.size n2.a) (by omega)).ex (setRow_ex _ (W6'.heap.size + 1) j2.a) (by omega)
      have hwl := HW5.out.below.size
      have HBW : Hid (Below w.heap.size w ((((W6'.alloc (.cells #[.bool false, .bool false, .int .u32 0, .int .u32 0, .bool false, .int .u32 0, .int .u32 0, .bool false, .int .u32 0, .int .u32 0, .bool false, .int .u32 0, .int .u32 0, .bool false, .int .u32 0, .int .u32 0, .bool false, .int .u32 0, .int .u32 0, .bool false, .int .u32 0, .int .u32 0, .bool false, .int .u32 0, .int .u32 0, .bool false, .int .u32 0, .int .u32 0, .bool false, .int .u32 0, .int .u32 0] 43)).alloc (.cells #[.bool false, .bool false, .int .u32 0, .int .u32 0, .bool false, .int .u32 0, .int .u32 0, .bool false, .int .u32 0, .int .u32 0, .bool false, .int .u32 0, .int .u32 0, .bool false, .int .u32 0, .int .u32 0, .bool false, .int .u32 0, .int .u32 0, .bool false, .int .u32 0, .int .u32 0, .bool false, .int .u32 0, .int .u32 0, .bool false, .int .u32 0, .int .u32 0, .bool false, .int .u32 0, .int .u32 0] 43)).setRow W6'.heap.size n2.a).setRow (W6'.heap.size + 1) j2.a)) := setRow_below (setRow_below (HW5.out.below.trans (hgA.mono hwl)) (by omega) n2.a) (by omega) j2.a
      clear hz12 hz13 hgA l12 l13 hl3 hB6 HW5 H12 hwl
      generalize W6'.heap.size = b15 at *
      generalize ((((W6'.alloc (.cells #[.bool false, .bool false, .int .u32 0, .int .u32 0, .bool false, .int .u32 0, .int .u32 0, .bool false, .int .u32 0, .int .u32 0, .bool false, .int .u32 0, .int .u32 0, .bool false, .int .u32 0, .int .u32 0, .bool false, .int .u32 0, .int .u32 0, .bool false, .int .u32 0, .int .u32 0, .bool false, .int .u32 0, .int .u32 0, .bool false, .int .u32 0, .int .u32 0, .bool false, .int .u32 0, .int .u32 0] 43)).alloc (.cells #[.bool false, .bool false, .int .u32 0, .int .u32 0, .bool false, .int .u32 0, .int .u32 0, .bool false, .int .u32 0, .int .u32 0, .bool false, .int .u32 0, .int .u32 0, .bool false, .int .u32 0, .int .u32 0, .bool false, .int .u32 0, .int .u32 0, .bool false, .int .u32 0, .int .u32 0, .bool false, .int .u32 0, .int .u32 0, .bool false, .int .u32 0, .int .u32 0, .bool false, .int .u32 0, .int .u32 0] 43)).setRow b15 n2.a).setRow (b15 + 1) j2.a) = W7 at *
      by_cases hE : E1 = 0
      · obtain ⟨q1, q2, q3⟩ := HBEH.out hE
        obtain rfl : E2 = 0 := q1
        have HWI : Hid (withK n2 n1 ∧ withK j2 j1) := ⟨q2, q3⟩
        subst hE
        clear q2 q3 HBEH
        go_upto_region 16 with fail
        refine wp_region_lit ?_
        refine wpList_val (w' := W7) (v := .int .i64 0) rfl (by kernel_rfl) ?_
        refine wpList_val (w' := W7) (v := .bool true) rfl (by kernel_rfl) ?_
        refine wpList_val (w' := W7) (v := .bool true) rfl (by kernel_rfl) ?_
        go_simp
        refine wpList_ld_if (by kernel_rfl) 43 _ rfl ⟨b15, 0, none⟩ (by kernel_rfl) (.agg n2.a) (ld_row (l := n2.cells) (has_whole h15) (by kernel_rfl)) ?_
        go_simp
        refine wpList_ld_if (by kernel_rfl) 43 _ rfl ⟨b12, 0, none⟩ (by kernel_rfl) (.agg n1.a) (ld_row (l := n1.cells) (has_whole h12) (by kernel_rfl)) ?_
        go_simp
        refine wpList_call_if (f := 23) (args := #[.agg n2.a, .agg n1.a]) (by kernel_rfl) (by kernel_rfl) (within_yes n2 n1 HWI.out.1 W7) ?_
        rintro e W8 ⟨rfl, hB8⟩
        refine ⟨_, rfl, ?_⟩
        go_simp
        have g16 := h16.below hB8 h16.lt
        have g13 := h13.below hB8 h13.lt
        have HB8 : Hid (Below w.heap.size w W8) := HBW.out.trans (hB8.mono HBW.out.size)
        clear hB8 h15 h12 h16 h13
        refine wpList_val (w' := W8) (v := .bool true) rfl (by kernel_rfl) ?_
        refine wpList_val (w' := W8) (v := .bool true) rfl (by kernel_rfl) ?_
        go_simp
        refine wpList_ld_if (by kernel_rfl) 43 _ rfl ⟨b15 + 1, 0, none⟩ (by kernel_rfl) (.agg j2.a) (ld_row (l := j2.cells) (has_whole g16) (by kernel_rfl)) ?_
        go_simp
        refine wpList_ld_if (by kernel_rfl) 43 _ rfl ⟨b12 + 1, 0, none⟩ (by kernel_rfl) (.agg j1.a) (ld_row (l := j1.cells) (has_whole g13) (by kernel_rfl)) ?_
        go_simp
        refine wpList_call_if (f := 23) (args := #[.agg j2.a, .agg j1.a]) (by kernel_rfl) (by kernel_rfl) (within_yes j2 j1 HWI.out.2 W8) ?_
        rintro e W9 ⟨rfl, hB9⟩
        refine ⟨_, rfl, ?_⟩
        go_simp
        have HB9 : Hid (Below w.heap.size w W9) := HB8.out.trans (hB9.mono HB8.out.size)
        clear hB9 g16 g13
        refine wpList_val (w' := W9) (v := .bool true) rfl (by kernel_rfl) ?_
        refine wpList_val (w' := W9) (v := .bool true) rfl (by kernel_rfl) ?_
        go_simp
        refine wpList_call_if (f := 12) (args := #[]) (by kernel_rfl) (by kernel_rfl) (HN.out W9 HB9.out) ?_
        rintro e WA ⟨rfl, hBA⟩
        refine ⟨_, rfl, ?_⟩
        go_simp
        refine wpList_val (w' := WA) (v := .bool true) rfl (by kernel_rfl) ?_
        refine wpList_val (w' := WA) (v := .bool true) rfl (by kernel_rfl) ?_
        go_simp
        go_wp2_with fail
        go_ret
        exact ⟨rfl, HB9.out.trans (hBA.mono HB9.out.size)⟩
      · have hE' : (E1 != 0) = true := by simpa using hE
        clear HBEH hE
        go_wp2_with (go_at_call 12; refine (HN.out _ HBW.out).mono ?_; rintro e WA ⟨rfl, hBA⟩)
        go_ret
        exact ⟨rfl, HBW.out.trans (hBA.mono HBW.out.size)⟩
theorem less_walk (i : Ins) (hu : i.imm < 4294967296) (c : Int) (k : Kn) (U D : Nat → Nat) (w : World) (hG : Glob w) (hko : KOk k) (hU : ∀ n, n < 10 → U n < 4294967296) (hD : ∀ n, n < 10 → D n < 4294967296) :
    Calls Tryd.prog 8 #[.agg i.a, .int .i64 c, .agg (lessC k U D)] w fun e w' => e = .returned (.bool true) ∧ Below w.heap.size w w' := by
  cases hm : i.may with
  | false => exact less_e0 i hu c k U D w hG hm
  | true =>
    by_cases h1 : c < 0
    · exact less_e1 i hu c k U D w hG hm h1
    by_cases h2 : 256 < c
    · exact less_e2 i hu c k U D w hG hm h1 h2
    cases hb : knB k with
    | false => exact less_e3 i hu c k U D w hG hm h1 h2 hb
    | true =>
      cases hc : k.come with
      | false => exact less_e4 i hu c k U D w hG hm h1 h2 hb hc
      | true => exact less_main i hu c k U D w hG hko hU hD hm h1 h2 hb hc
end Go.Proofs.YtodkehpldlmgaaaDoor
