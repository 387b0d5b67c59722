/- Texts put together, in build order: D2, P1, IL2, P5, D3, D4, P3, P4, D5, F1, F2. -/
import Derived.Test.YtodkehpldlmgaaaDoorZq5
import Derived.Test.YtodkehpldlmgaaaDoorZq3
import Derived.Test.YtodkehpldlmgaaaDoorZq2
import Derived.Deep.Cut
import Derived.Test.YtodkehpldlmgaaaDoorZq1
import Derived.Test.YtodkehpldlmgaaaDoorRows
import Derived.ProofKit
import Derived.LaidMore
import Derived.OpenShut
import Derived.ShutString
import Derived.ChangeOld
import Derived.ChangeSlices
import Derived.Deep.Slices
import Derived.Stop.Joined
/- All ways through a program. -/
namespace Go.Proofs.YtodkehpldlmgaaaDoor
open Go.RowKit

set_option maxRecDepth 1000000 in
theorem zc97 : Tryd.zeroCells97 = zWays := by kernel_rfl
/-- The world at the loop of all ways. -/
structure AW (w : World) (c : Int) (sv : Value) (mb : Nat) (ws : Nat → Kn) (X : World) : Prop where
  box : Has X w.heap.size #[.int .i64 c, sv] 24
  ways : WaysAt X (w.heap.size + 1) ws
  tab : MS w mb 24 X
  below : Below w.heap.size w X
theorem AW.grow {w : World} {c : Int} {sv : Value} {mb : Nat} {ws : Nat → Kn} {X X' : World} (h : AW w c sv mb ws X) (k : Below X.heap.size X X') : AW w c sv mb ws X' :=
  ⟨h.box.below k h.box.lt, h.ways.below k, h.tab.grow k, h.below.trans (k.mono h.below.size)⟩
theorem AW.lead {w : World} {c : Int} {sv : Value} {mb : Nat} {ws ws' : Nat → Kn} {X X' : World} (h : AW w c sv mb ws X) (h1 : WaysAt X' (w.heap.size + 1) ws') (h2 : Ex (w.heap.size + 1) X X') : AW w c sv mb ws' X' := by
  obtain ⟨cs, hc⟩ := h.ways.cells
  exact ⟨h.box.ex h2 (by omega), h1, h.tab.exW hc (by omega) h2, Below.ex h.below h.below.size h2 (by omega)⟩
set_option maxRecDepth 10000 in
set_option maxHeartbeats 4000000 in
theorem ahead_any (c : Int) (sv : Value) (pl : List Ins) (w : World) (hP : Prg w sv pl) (hl1 : 1 ≤ pl.length) (hl : pl.length ≤ 256) (hm : ∀ i, i ∈ pl → MayI i) :
    Calls Tryd.prog 28 #[.agg #[.int .i64 c, sv]] w fun e w' => aheadP (aheadE pl.length c pl 0 startW) pl.length w e w' := by
  obtain ⟨a, cap, b, o, rfl, ha, hI, hb⟩ := hP
  obtain ⟨W1, hW1⟩ : ∃ W1, W1 = (w.alloc (.cells #[.int .i64 c, .slice a pl.length cap] 24)).alloc (.cells Tryd.zeroCells97 97) := ⟨_, rfl⟩
  have hbox : Has W1 w.heap.size #[.int .i64 c, .slice a pl.length cap] 24 := by rw [hW1]; exact has_old (has_new _ _ _ _ rfl)
  have hz : WaysAt W1 (w.heap.size + 1) (fun _ => noK) := by rw [hW1, zc97]; exact WaysAt.zero (has_new _ _ _ _ (by simp))
  have hB1 : Below w.heap.size w W1 := by rw [hW1]; exact ((Below.refl _ _).alloc (Nat.le_refl _) _).alloc (by simp) _
  go_enter Tryd.func28, Tryd.ntmps28
  go_upto_region 2 with fail
  rw [← hW1]
  clear hW1
  have hl0 := lead_any comeK (w.heap.size + 1) 0 0 (fun _ => noK) W1 (fun _ => ⟨rfl, by decide⟩) hz (fun _ => noK_right) comeK_right
  rw [startW_lead] at hl0
  have ek : comeK.a = #[.bool true, .bool false, .int .u32 0, .int .u32 0, .bool false, .int .u32 0, .int .u32 0, .bool false, .int .u32 0, .int .u32 0, .bool false, .int .u32 0, .int .u32 0, .bool false, .int .u32 0, .int .u32 0, .bool false, .int .u32 0, .int .u32 0, .bool false, .int .u32 0, .int .u32 0, .bool false, .int .u32 0, .int .u32 0, .bool false, .int .u32 0, .int .u32 0, .bool false, .int .u32 0, .int .u32 0] := by kernel_rfl
  rw [ek] at hl0
  clear ek hz
  go_upto_region 3 with (go_at_call 40; refine hl0.mono ?_; rintro e W2 ⟨rfl, hw2, hE2⟩; clear hl0)
  have hbox2 := hbox.ex hE2 (by omega)
  have hB2 : Below w.heap.size w W2 := Below.ex hB1 hB1.size hE2 (by omega)
  clear hbox hB1 hE2
  go_upto_region 4 with (go_at_call 33; refine (ops_any W2).mono ?_; rintro e W3 ⟨mb, rfl, hms⟩)
  have hAW : AW w c (.slice a pl.length cap) mb startW W3 := ⟨hbox2.below hms.below hbox2.lt, hw2.below hms.below, hms.base hB2, hB2.trans (hms.below.mono hB2.size)⟩
  clear hbox2 hw2 hms hB2
  have c1 := hAW.box.cell 1
  go_upto_region 5 with fail
  have HR0 : Hid (∀ j, KnR (startW j)) := startW_right
  clear c1
  go_loopw [15] (fun i wr => ∃ (k : Nat) (ws : Nat → Kn), k ≤ pl.length ∧ i = .int .i64 k ∧ AW w c (.slice a pl.length cap) mb ws wr ∧ Hid (aheadE pl.length c pl 0 startW = aheadE pl.length c (pl.drop k) k ws) ∧ Hid (∀ j, KnR (ws j))) (fun i _ => pl.length - (intOf i).toNat)
  case atStart => exact ⟨0, startW, Nat.zero_le _, rfl, hAW, rfl, HR0⟩
  case round =>
    obtain ⟨k, ws, hk, rfl, hA, HE, HR⟩ := hrel
    clear hAW HR0
    have hwb : WaysAt wr (w.heap.size + 1) ws := hA.ways
    have c1 := hA.box.cell 1
    by_cases hlt : k < pl.length
    · have hne : pl ≠ [] := fun e => by rw [e] at hlt; simp at hlt
      obtain rfl := ha hne
      have hi : Hid (pl[k]? = some pl[k]) := List.getElem?_eq_getElem hlt
      have hIr := hI.below hA.below hb
      have d0 := hIr.op k _ hi.out
      have d1 := hIr.dst k _ hi.out
      have d2 := hIr.src k _ hi.out
      have d3 := hIr.off k _ hi.out
      have d4 := hIr.imm k _ hi.out
      clear hIr
      have hlt' : (k : Int) < pl.length := by omega
      have hk256 : (k : Int) < 256 := by omega
      obtain ⟨i, hi'⟩ : ∃ i, i = pl[k] := ⟨_, rfl⟩
      have hmi : Hid (MayI i) := hm i (by rw [hi']; exact List.getElem_mem hlt)
      rw [← hi'] at d0 d1 d2 d3 d4 hi
      clear hi'
      have d5 : wr.cell? ⟨w.heap.size + 1, k * 31, none⟩ = some (.bool (ws k).come) := hwb.at_ k (by omega) 0 _ rfl
      go_upto_region 7 with fail
      clear d0 d1 d2 d3 d4 d5
      refine named2 (p := fun X => Code.wp _ _ _ _ X) ?_
      intro W4 hW4
      have h6 : Has W4 wr.heap.size i.a 38 := by rw [hW4]; exact has_new _ _ _ _ rfl
      have hA4 : AW w c (.slice (some ⟨b, o, none⟩) pl.length cap) mb ws W4 := by rw [hW4]; exact hA.grow ((Below.refl _ _).alloc (Nat.le_refl _) _)
      clear hW4 hA hwb c1
      have H6 : Hid (Has W4 wr.heap.size i.a 38) := h6
      generalize wr.heap.size = bi at *
      have d5 : W4.cell? ⟨w.heap.size + 1, k * 31, none⟩ = some (.bool (ws k).come) := hA4.ways.at_ k (by omega) 0 _ rfl
      cases hco : (ws k).come with
      | false =>
        rw [hco] at d5
        have hte : Hid (turnE pl.length c k i ws = .ok ws) := by show _ = _; unfold turnE; rw [if_pos hco]
        have hst := ahead_step (n := pl.length) (c := c) (ws := ws) hi.out
        rw [hte.out] at hst
        have HE2 : Hid (aheadE pl.length c pl 0 startW = aheadE pl.length c (pl.drop (k + 1)) (k + 1) ws) := HE.out.trans hst
        clear hst hte hco HE
        go_wp2
        go_roundw
        case rel => exact ⟨k + 1, ws, by omega, by simp, hA4, HE2, HR⟩
        case measure => simp [intOf]; omega
      | true =>
        rw [hco] at d5
        go_upto_region 8 with fail
        clear d5
        have hB4 := hA4.below
        obtain ⟨n, hop⟩ : ∃ n : Nat, i.op = (n : Int) := ⟨i.op.toNat, by have := hmi.out.1.1; omega⟩
        have h24 : 1 ≤ n ∧ n ≤ 24 := by have := hmi.out.1.1; omega
        obtain ⟨v, hv, hlk⟩ := hA4.tab.fixed n h24.1 h24.2
        have hmk : ∀ X, Below W4.heap.size W4 X → MakeOk i c (ws k) v X := fun X hX => make_any i c (ws k) v X n hop hmi.out (HR.out k) (hv.grow hX)
        have HOP : Hid (i.op = (n : Int)) := hop
        have HA4 : Hid (AW w c (.slice (some ⟨b, o, none⟩) pl.length cap) mb ws W4) := hA4
        clear h24 hv hop hA4 h6
        cases hout : outI i c (ws k) with
        | error x =>
          have HTE : Hid (aheadE pl.length c pl 0 startW = .error (some x)) := by
            show _ = _
            rw [HE.out, ahead_step hi.out]
            unfold turnE
            rw [if_neg (by rw [hco]; decide), hout]
          have HO : Hid (outI i c (ws k) = .error x) := hout
          clear hout HE hco
          refine wp_region_inv (Φ := fun l vs X => Vals (fun q => match q with | 0 => some (.map (some mb)) | 1 => some (.pointer (some ⟨bi, 0, none⟩)) | 2 => some (.int .i64 (n : Int)) | 3 => some (v) | 4 => some (.agg i.a) | 5 => some (.pointer (some ⟨w.heap.size, 0, none⟩)) | 6 => some (.int .i64 c) | 7 => some (.int .i64 (k : Int)) | 8 => some (.pointer (some ⟨w.heap.size + 1, k * 31, none⟩)) | 9 => some (.agg (ws k).a) | 10 => some (.agg (stA i c (ws k))) | _ => none) l vs ∧ Ph2 17 18 (Two W4.heap.size 43 noK.a W4 15 16) (fun vs X => Both W4.heap.size 43 noK.a noK.a W4 (vs 15) (vs 16) X) (fun vs X => Both W4.heap.size 43 noK.a noK.a W4 (vs 15) (vs 16) X) l vs X ∧ l 11 = false) (PQ := fun q X => q = x.entry ∧ Below W4.heap.size W4 X)
            (by kernel_rfl) (by kernel_rfl) (by kernel_rfl) (by kernel_rfl) ⟨Vals.none _ _, Ph2.start (Two.start ((Below.refl _ _).drew) (Nat.le_refl _)), rfl⟩ ?hop ?hend (fun c2 a2 X hq hp => ⟨hq, by rw [hp.1, HTE.out]; exact ⟨rfl, hB4.trans (hp.2.mono hB4.size)⟩⟩)
          case hop =>
            refine ⟨?_, ?_, ?_, ?_, ?_, ?_, ?_, ?_, ?_, ?_, ?_, ?_, ?_, ?_, ?_, ?_, ?_, ?_, ?_, trivial⟩
            · intro l vs X A hA ⟨hV, hS, hN11⟩ hl hd hcl
              have hj := nY 17 hcl hl
              have hk := nY 18 hcl hl
              have hX := hS.1 hj
              have hB := hX.below
              have a4 := eO hA 4 rfl
              refine show_value (v := .map (some mb)) (X' := X) ?_ ⟨hV.upd (fun _ h => Option.some.inj h), Ph2.keep hj hk (by decide) (by decide) (hX.grow (Below.refl _ _) (by decide) (by decide) _), (upd_other _ _ (by decide)).trans hN11⟩
              generalize A.eval = ρ at *
              clear hA hl hd hcl hV hS
              go_simp
            · intro l vs X A hA ⟨hV, hS, hN11⟩ hl hd hcl
              have hj := nY 17 hcl hl
              have hk := nY 18 hcl hl
              have hX := hS.1 hj
              have hB := hX.below
              have a6 := eO hA 6 rfl
              refine show_value (v := .pointer (some ⟨bi, 0, none⟩)) (X' := X) ?_ ⟨hV.upd (fun _ h => Option.some.inj h), Ph2.keep hj hk (by decide) (by decide) (hX.grow (Below.refl _ _) (by decide) (by decide) _), (upd_other _ _ (by decide)).trans hN11⟩
              generalize A.eval = ρ at *
              clear hA hl hd hcl hV hS
              go_simp
            · intro l vs X A hA ⟨hV, hS, hN11⟩ hl hd hcl
              have hj := nY 17 hcl hl
              have hk := nY 18 hcl hl
              have hX := hS.1 hj
              have hB := hX.below
              have a27 := eN hA 27 1 hd hV rfl
              have cc := show X.cell? ⟨bi, 0, none⟩ = some (.int .i64 (n : Int)) by rw [← HOP.out]; exact (H6.out.below hB H6.out.lt).cell 0
              refine show_value (v := .int .i64 (n : Int)) (X' := X) ?_ ⟨hV.upd (fun _ h => Option.some.inj h), Ph2.keep hj hk (by decide) (by decide) (hX.grow (Below.refl _ _) (by decide) (by decide) _), (upd_other _ _ (by decide)).trans hN11⟩
              generalize A.eval = ρ at *
              clear hA hl hd hcl hV hS hX hB
              go_simp
            · intro l vs X A hA ⟨hV, hS, hN11⟩ hl hd hcl
              have hj := nY 17 hcl hl
              have hk := nY 18 hcl hl
              have hX := hS.1 hj
              have hB := hX.below
              have a26 := eN hA 26 0 hd hV rfl
              have a28 := eN hA 28 2 hd hV rfl
              have hlx := hlk X hB
              refine show_value (v := v) (X' := X) ?_ ⟨hV.upd (fun _ h => Option.some.inj h), Ph2.keep hj hk (by decide) (by decide) (hX.grow (Below.refl _ _) (by decide) (by decide) _), (upd_other _ _ (by decide)).trans hN11⟩
              generalize A.eval = ρ at *
              clear hA hl hd hcl hV hS hX hB
              go_simp
            · intro l vs X A hA ⟨hV, hS, hN11⟩ hl hd hcl
              have hj := nY 17 hcl hl
              have hk := nY 18 hcl hl
              have hX := hS.1 hj
              have hB := hX.below
              have a6 := eO hA 6 rfl
              refine show_value (v := .agg i.a) (X' := X) (run_ld 38 _ rfl _ a6 (ld_row (l := i.cells) (has_whole (H6.out.below hB H6.out.lt)) (by kernel_rfl))) ⟨hV.upd (fun _ h => Option.some.inj h), Ph2.keep hj hk (by decide) (by decide) (hX.grow (Below.refl _ _) (by decide) (by decide) _), (upd_other _ _ (by decide)).trans hN11⟩
            · intro l vs X A hA ⟨hV, hS, hN11⟩ hl hd hcl
              have hj := nY 17 hcl hl
              have hk := nY 18 hcl hl
              have hX := hS.1 hj
              have hB := hX.below
              have a1 := eO hA 1 rfl
              refine show_value (v := .pointer (some ⟨w.heap.size, 0, none⟩)) (X' := X) ?_ ⟨hV.upd (fun _ h => Option.some.inj h), Ph2.keep hj hk (by decide) (by decide) (hX.grow (Below.refl _ _) (by decide) (by decide) _), (upd_other _ _ (by decide)).trans hN11⟩
              generalize A.eval = ρ at *
              clear hA hl hd hcl hV hS
              go_simp
            · intro l vs X A hA ⟨hV, hS, hN11⟩ hl hd hcl
              have hj := nY 17 hcl hl
              have hk := nY 18 hcl hl
              have hX := hS.1 hj
              have hB := hX.below
              have a31 := eN hA 31 5 hd hV rfl
              have cc := (HA4.out.box.below hB HA4.out.box.lt).cell 0
              refine show_value (v := .int .i64 c) (X' := X) ?_ ⟨hV.upd (fun _ h => Option.some.inj h), Ph2.keep hj hk (by decide) (by decide) (hX.grow (Below.refl _ _) (by decide) (by decide) _), (upd_other _ _ (by decide)).trans hN11⟩
              generalize A.eval = ρ at *
              clear hA hl hd hcl hV hS hX hB
              go_simp
            · intro l vs X A hA ⟨hV, hS, hN11⟩ hl hd hcl
              have hj := nY 17 hcl hl
              have hk := nY 18 hcl hl
              have hX := hS.1 hj
              have hB := hX.below
              have a5 := eO hA 5 rfl
              refine show_value (v := .int .i64 (k : Int)) (X' := X) ?_ ⟨hV.upd (fun _ h => Option.some.inj h), Ph2.keep hj hk (by decide) (by decide) (hX.grow (Below.refl _ _) (by decide) (by decide) _), (upd_other _ _ (by decide)).trans hN11⟩
              generalize A.eval = ρ at *
              clear hA hl hd hcl hV hS
              go_simp
            · intro l vs X A hA ⟨hV, hS, hN11⟩ hl hd hcl
              have hj := nY 17 hcl hl
              have hk := nY 18 hcl hl
              have hX := hS.1 hj
              have hB := hX.below
              have a3 := eO hA 3 rfl
              have a33 := eN hA 33 7 hd hV rfl
              refine show_value (v := .pointer (some ⟨w.heap.size + 1, k * 31, none⟩)) (X' := X) ?_ ⟨hV.upd (fun _ h => Option.some.inj h), Ph2.keep hj hk (by decide) (by decide) (hX.grow (Below.refl _ _) (by decide) (by decide) _), (upd_other _ _ (by decide)).trans hN11⟩
              generalize A.eval = ρ at *
              clear hA hl hd hcl hV hS
              go_simp
            · intro l vs X A hA ⟨hV, hS, hN11⟩ hl hd hcl
              have hj := nY 17 hcl hl
              have hk := nY 18 hcl hl
              have hX := hS.1 hj
              have hB := hX.below
              have a34 := eN hA 34 8 hd hV rfl
              refine show_value (v := .agg (ws k).a) (X' := X) (run_ld 43 _ rfl _ a34 (ld_row (l := (ws k).cells) ((HA4.out.ways.below hB).at_ k (by omega)) (by kernel_rfl))) ⟨hV.upd (fun _ h => Option.some.inj h), Ph2.keep hj hk (by decide) (by decide) (hX.grow (Below.refl _ _) (by decide) (by decide) _), (upd_other _ _ (by decide)).trans hN11⟩
            · intro l vs X A hA ⟨hV, hS, hN11⟩ hl hd hcl
              have hj := nY 17 hcl hl
              have hk := nY 18 hcl hl
              have hX := hS.1 hj
              have hB := hX.below
              have a30 := eN hA 30 4 hd hV rfl
              have a32 := eN hA 32 6 hd hV rfl
              have a35 := eN hA 35 9 hd hV rfl
              have hbs := build_step i c (ws k) X
              refine show_value (v := .agg (stA i c (ws k))) (X' := X) ?_ ⟨hV.upd (fun _ h => Option.some.inj h), Ph2.keep hj hk (by decide) (by decide) (hX.grow (Below.refl _ _) (by decide) (by decide) _), (upd_other _ _ (by decide)).trans hN11⟩
              generalize A.eval = ρ at *
              clear hA hl hd hcl hV hS hX hB
              generalize stA i c (ws k) = sa at *
              generalize i.a = ia at *
              generalize (ws k).a = ka at *
              unfold execOp
              simp only [List.map_toArray, List.map_cons, List.map_nil, a30, a32, a35, Sem.run_bind, hbs, Result.andThen_ok, Sem.run_pure]
            · intro l vs X A hA ⟨hV, hS, hN11⟩ hl hd hcl
              have hj := nY 17 hcl hl
              have hk := nY 18 hcl hl
              have hX := hS.1 hj
              have hB := hX.below
              have a29 := eN hA 29 3 hd hV rfl
              have a36 := eN hA 36 10 hd hV rfl
              obtain ⟨F, cp, hfv, hent, hcall⟩ := hmk X hB
              rw [hfv] at a29
              rw [HO.out] at hcall
              refine show_call ?_ hcall ?_
              · have hr := fun o ho => run_callv (o := o) (ρ := A.eval) (X := X) (.tmp 29) (.tmp 36) 82 ho F cp (.agg (stA i c (ws k))) a29 a36 hent
                exact hr _ rfl
              rintro e X' ⟨he, hB1⟩
              exact .inr ⟨x.entry, he, rfl, hB.trans (hB1.mono hX.size)⟩
            · intro l vs X A hA ⟨hV, hS, hN11⟩ hl hd hcl
              exact absurd (hd 11 (by kernel_rfl)) (by rw [hN11]; decide)
            · intro l vs X A hA ⟨hV, hS, hN11⟩ hl hd hcl
              exact absurd (hcl 12 11 (by kernel_rfl) (hd 12 (by kernel_rfl))) (by rw [hN11]; decide)
            · intro l vs X A hA ⟨hV, hS, hN11⟩ hl hd hcl
              exact absurd (hcl 12 11 (by kernel_rfl) (hd 12 (by kernel_rfl))) (by rw [hN11]; decide)
            · intro l vs X A hA ⟨hV, hS, hN11⟩ hl hd hcl
              have hj := nY 17 hcl hl
              have hk := nY 18 hcl hl
              have hX := hS.1 hj
              have hB := hX.below
              refine show_value (v := .pointer (some ⟨X.heap.size, 0, none⟩)) (X' := X.alloc (.cells noK.a 43)) ?_ ⟨hV.upd (fun _ h => by cases h), Ph2.keep hj hk (by decide) (by decide) (hX.mkFst (by decide)), (upd_other _ _ (by decide)).trans hN11⟩
              generalize A.eval = ρ at *
              clear hA hl hd hcl hV hS
              rfl
            · intro l vs X A hA ⟨hV, hS, hN11⟩ hl hd hcl
              have hj := nY 17 hcl hl
              have hk := nY 18 hcl hl
              have hX := hS.1 hj
              have hB := hX.below
              refine show_value (v := .pointer (some ⟨X.heap.size, 0, none⟩)) (X' := X.alloc (.cells noK.a 43)) ?_ ⟨hV.upd (fun _ h => by cases h), Ph2.keep hj hk (by decide) (by decide) (hX.mkSnd (by decide)), (upd_other _ _ (by decide)).trans hN11⟩
              generalize A.eval = ρ at *
              clear hA hl hd hcl hV hS
              rfl
            · intro l vs X A hA ⟨hV, hS, hN11⟩ hl hd hcl
              exact absurd (hd 11 (by kernel_rfl)) (by rw [hN11]; decide)
            · intro l vs X A hA ⟨hV, hS, hN11⟩ hl hd hcl
              exact absurd (hd 11 (by kernel_rfl)) (by rw [hN11]; decide)
          case hend =>
            intro l vs X hl ⟨hV, hS, hN11⟩
            exact absurd (hl 11 (by decide)) (by rw [hN11]; decide)
        | ok p =>
          obtain ⟨n2, j2⟩ := p
          have HO : Hid (outI i c (ws k) = .ok (n2, j2)) := hout
          have HCO : Hid ((ws k).come = true) := hco
          clear hout hco
          refine wp_region_inv (Φ := fun l vs X => Vals (fun q => match q with | 0 => some (.map (some mb)) | 1 => some (.pointer (some ⟨bi, 0, none⟩)) | 2 => some (.int .i64 (n : Int)) | 3 => some (v) | 4 => some (.agg i.a) | 5 => some (.pointer (some ⟨w.heap.size, 0, none⟩)) | 6 => some (.int .i64 c) | 7 => some (.int .i64 (k : Int)) | 8 => some (.pointer (some ⟨w.heap.size + 1, k * 31, none⟩)) | 9 => some (.agg (ws k).a) | 10 => some (.agg (stA i c (ws k))) | 11 => some (.tuple #[.agg n2.a, .agg j2.a]) | 12 => some (.tuple #[.agg n2.a, .agg j2.a]) | 13 => some (.agg n2.a) | 14 => some (.agg j2.a) | _ => none) l vs ∧ Ph2 17 18 (Two W4.heap.size 43 noK.a W4 15 16) (fun vs X => Both W4.heap.size 43 n2.a noK.a W4 (vs 15) (vs 16) X) (fun vs X => Both W4.heap.size 43 n2.a j2.a W4 (vs 15) (vs 16) X) l vs X) (PQ := fun _ _ => False)
            (by kernel_rfl) (by kernel_rfl) (by kernel_rfl) (by kernel_rfl) ⟨Vals.none _ _, Ph2.start (Two.start ((Below.refl _ _).drew) (Nat.le_refl _))⟩ ?hop ?hend (fun _ _ _ _ h => h.elim)
          case hop =>
            refine ⟨?_, ?_, ?_, ?_, ?_, ?_, ?_, ?_, ?_, ?_, ?_, ?_, ?_, ?_, ?_, ?_, ?_, ?_, ?_, trivial⟩
            · intro l vs X A hA ⟨hV, hS⟩ hl hd hcl
              have hj := nY 17 hcl hl
              have hk := nY 18 hcl hl
              have hX := hS.1 hj
              have hB := hX.below
              have a4 := eO hA 4 rfl
              refine show_value (v := .map (some mb)) (X' := X) ?_ ⟨hV.upd (fun _ h => Option.some.inj h), Ph2.keep hj hk (by decide) (by decide) (hX.grow (Below.refl _ _) (by decide) (by decide) _)⟩
              generalize A.eval = ρ at *
              clear hA hl hd hcl hV hS
              go_simp
            · intro l vs X A hA ⟨hV, hS⟩ hl hd hcl
              have hj := nY 17 hcl hl
              have hk := nY 18 hcl hl
              have hX := hS.1 hj
              have hB := hX.below
              have a6 := eO hA 6 rfl
              refine show_value (v := .pointer (some ⟨bi, 0, none⟩)) (X' := X) ?_ ⟨hV.upd (fun _ h => Option.some.inj h), Ph2.keep hj hk (by decide) (by decide) (hX.grow (Below.refl _ _) (by decide) (by decide) _)⟩
              generalize A.eval = ρ at *
              clear hA hl hd hcl hV hS
              go_simp
            · intro l vs X A hA ⟨hV, hS⟩ hl hd hcl
              have hj := nY 17 hcl hl
              have hk := nY 18 hcl hl
              have hX := hS.1 hj
              have hB := hX.below
              have a27 := eN hA 27 1 hd hV rfl
              have cc := show X.cell? ⟨bi, 0, none⟩ = some (.int .i64 (n : Int)) by rw [← HOP.out]; exact (H6.out.below hB H6.out.lt).cell 0
              refine show_value (v := .int .i64 (n : Int)) (X' := X) ?_ ⟨hV.upd (fun _ h => Option.some.inj h), Ph2.keep hj hk (by decide) (by decide) (hX.grow (Below.refl _ _) (by decide) (by decide) _)⟩
              generalize A.eval = ρ at *
              clear hA hl hd hcl hV hS hX hB
              go_simp
            · intro l vs X A hA ⟨hV, hS⟩ hl hd hcl
              have hj := nY 17 hcl hl
              have hk := nY 18 hcl hl
              have hX := hS.1 hj
              have hB := hX.below
              have a26 := eN hA 26 0 hd hV rfl
              have a28 := eN hA 28 2 hd hV rfl
              have hlx := hlk X hB
              refine show_value (v := v) (X' := X) ?_ ⟨hV.upd (fun _ h => Option.some.inj h), Ph2.keep hj hk (by decide) (by decide) (hX.grow (Below.refl _ _) (by decide) (by decide) _)⟩
              generalize A.eval = ρ at *
              clear hA hl hd hcl hV hS hX hB
              go_simp
            · intro l vs X A hA ⟨hV, hS⟩ hl hd hcl
              have hj := nY 17 hcl hl
              have hk := nY 18 hcl hl
              have hX := hS.1 hj
              have hB := hX.below
              have a6 := eO hA 6 rfl
              refine show_value (v := .agg i.a) (X' := X) (run_ld 38 _ rfl _ a6 (ld_row (l := i.cells) (has_whole (H6.out.below hB H6.out.lt)) (by kernel_rfl))) ⟨hV.upd (fun _ h => Option.some.inj h), Ph2.keep hj hk (by decide) (by decide) (hX.grow (Below.refl _ _) (by decide) (by decide) _)⟩
            · intro l vs X A hA ⟨hV, hS⟩ hl hd hcl
              have hj := nY 17 hcl hl
              have hk := nY 18 hcl hl
              have hX := hS.1 hj
              have hB := hX.below
              have a1 := eO hA 1 rfl
              refine show_value (v := .pointer (some ⟨w.heap.size, 0, none⟩)) (X' := X) ?_ ⟨hV.upd (fun _ h => Option.some.inj h), Ph2.keep hj hk (by decide) (by decide) (hX.grow (Below.refl _ _) (by decide) (by decide) _)⟩
              generalize A.eval = ρ at *
              clear hA hl hd hcl hV hS
              go_simp
            · intro l vs X A hA ⟨hV, hS⟩ hl hd hcl
              have hj := nY 17 hcl hl
              have hk := nY 18 hcl hl
              have hX := hS.1 hj
              have hB := hX.below
              have a31 := eN hA 31 5 hd hV rfl
              have cc := (HA4.out.box.below hB HA4.out.box.lt).cell 0
              refine show_value (v := .int .i64 c) (X' := X) ?_ ⟨hV.upd (fun _ h => Option.some.inj h), Ph2.keep hj hk (by decide) (by decide) (hX.grow (Below.refl _ _) (by decide) (by decide) _)⟩
              generalize A.eval = ρ at *
              clear hA hl hd hcl hV hS hX hB
              go_simp
            · intro l vs X A hA ⟨hV, hS⟩ hl hd hcl
              have hj := nY 17 hcl hl
              have hk := nY 18 hcl hl
              have hX := hS.1 hj
              have hB := hX.below
              have a5 := eO hA 5 rfl
              refine show_value (v := .int .i64 (k : Int)) (X' := X) ?_ ⟨hV.upd (fun _ h => Option.some.inj h), Ph2.keep hj hk (by decide) (by decide) (hX.grow (Below.refl _ _) (by decide) (by decide) _)⟩
              generalize A.eval = ρ at *
              clear hA hl hd hcl hV hS
              go_simp
            · intro l vs X A hA ⟨hV, hS⟩ hl hd hcl
              have hj := nY 17 hcl hl
              have hk := nY 18 hcl hl
              have hX := hS.1 hj
              have hB := hX.below
              have a3 := eO hA 3 rfl
              have a33 := eN hA 33 7 hd hV rfl
              refine show_value (v := .pointer (some ⟨w.heap.size + 1, k * 31, none⟩)) (X' := X) ?_ ⟨hV.upd (fun _ h => Option.some.inj h), Ph2.keep hj hk (by decide) (by decide) (hX.grow (Below.refl _ _) (by decide) (by decide) _)⟩
              generalize A.eval = ρ at *
              clear hA hl hd hcl hV hS
              go_simp
            · intro l vs X A hA ⟨hV, hS⟩ hl hd hcl
              have hj := nY 17 hcl hl
              have hk := nY 18 hcl hl
              have hX := hS.1 hj
              have hB := hX.below
              have a34 := eN hA 34 8 hd hV rfl
              refine show_value (v := .agg (ws k).a) (X' := X) (run_ld 43 _ rfl _ a34 (ld_row (l := (ws k).cells) ((HA4.out.ways.below hB).at_ k (by omega)) (by kernel_rfl))) ⟨hV.upd (fun _ h => Option.some.inj h), Ph2.keep hj hk (by decide) (by decide) (hX.grow (Below.refl _ _) (by decide) (by decide) _)⟩
            · intro l vs X A hA ⟨hV, hS⟩ hl hd hcl
              have hj := nY 17 hcl hl
              have hk := nY 18 hcl hl
              have hX := hS.1 hj
              have hB := hX.below
              have a30 := eN hA 30 4 hd hV rfl
              have a32 := eN hA 32 6 hd hV rfl
              have a35 := eN hA 35 9 hd hV rfl
              have hbs := build_step i c (ws k) X
              refine show_value (v := .agg (stA i c (ws k))) (X' := X) ?_ ⟨hV.upd (fun _ h => Option.some.inj h), Ph2.keep hj hk (by decide) (by decide) (hX.grow (Below.refl _ _) (by decide) (by decide) _)⟩
              generalize A.eval = ρ at *
              clear hA hl hd hcl hV hS hX hB
              generalize stA i c (ws k) = sa at *
              generalize i.a = ia at *
              generalize (ws k).a = ka at *
              unfold execOp
              simp only [List.map_toArray, List.map_cons, List.map_nil, a30, a32, a35, Sem.run_bind, hbs, Result.andThen_ok, Sem.run_pure]
            · intro l vs X A hA ⟨hV, hS⟩ hl hd hcl
              have hj := nY 17 hcl hl
              have hk := nY 18 hcl hl
              have hX := hS.1 hj
              have hB := hX.below
              have a29 := eN hA 29 3 hd hV rfl
              have a36 := eN hA 36 10 hd hV rfl
              obtain ⟨F, cp, hfv, hent, hcall⟩ := hmk X hB
              rw [hfv] at a29
              rw [HO.out] at hcall
              refine show_call ?_ hcall ?_
              · have hr := fun o ho => run_callv (o := o) (ρ := A.eval) (X := X) (.tmp 29) (.tmp 36) 82 ho F cp (.agg (stA i c (ws k))) a29 a36 hent
                exact hr _ rfl
              rintro e X' ⟨he, hB1⟩
              exact .inl ⟨.tuple #[.agg n2.a, .agg j2.a], he, hV.upd (fun _ h => Option.some.inj h), Ph2.keep hj hk (by decide) (by decide) (hX.grow hB1 (by decide) (by decide) _)⟩
            · intro l vs X A hA ⟨hV, hS⟩ hl hd hcl
              have hj := nY 17 hcl hl
              have hk := nY 18 hcl hl
              have hX := hS.1 hj
              have hB := hX.below
              have a37 := eN hA 37 11 hd hV rfl
              refine show_value (v := .tuple #[.agg n2.a, .agg j2.a]) (X' := X) ?_ ⟨hV.upd (fun _ h => Option.some.inj h), Ph2.keep hj hk (by decide) (by decide) (hX.grow (Below.refl _ _) (by decide) (by decide) _)⟩
              generalize A.eval = ρ at *
              clear hA hl hd hcl hV hS
              go_simp
            · intro l vs X A hA ⟨hV, hS⟩ hl hd hcl
              have hj := nY 17 hcl hl
              have hk := nY 18 hcl hl
              have hX := hS.1 hj
              have hB := hX.below
              have a25 := eN hA 25 12 hd hV rfl
              refine show_value (v := .agg n2.a) (X' := X) ?_ ⟨hV.upd (fun _ h => Option.some.inj h), Ph2.keep hj hk (by decide) (by decide) (hX.grow (Below.refl _ _) (by decide) (by decide) _)⟩
              generalize A.eval = ρ at *
              clear hA hl hd hcl hV hS
              go_simp
            · intro l vs X A hA ⟨hV, hS⟩ hl hd hcl
              have hk := nY 18 hcl hl
              have a25 := eN hA 25 12 hd hV rfl
              cases hj : l 17 with
              | true =>
                have hX := hS.2.1 hj hk
                exact show_value (v := .agg j2.a) (X' := X) (by generalize A.eval = ρ at *; clear hA hl hd hcl hV hS; go_simp) ⟨hV.upd (fun _ h => Option.some.inj h), Ph2.keepMid hj hk (by decide) (by decide) hX⟩
              | false =>
                have hX := hS.1 hj
                have hB := hX.below
                exact show_value (v := .agg j2.a) (X' := X) (by generalize A.eval = ρ at *; clear hA hl hd hcl hV hS; go_simp) ⟨hV.upd (fun _ h => Option.some.inj h), Ph2.keep hj hk (by decide) (by decide) (hX.grow (Below.refl _ _) (by decide) (by decide) _)⟩
            · intro l vs X A hA ⟨hV, hS⟩ hl hd hcl
              have hj := nY 17 hcl hl
              have hk := nY 18 hcl hl
              have hX := hS.1 hj
              have hB := hX.below
              refine show_value (v := .pointer (some ⟨X.heap.size, 0, none⟩)) (X' := X.alloc (.cells noK.a 43)) ?_ ⟨hV.upd (fun _ h => by cases h), Ph2.keep hj hk (by decide) (by decide) (hX.mkFst (by decide))⟩
              generalize A.eval = ρ at *
              clear hA hl hd hcl hV hS
              rfl
            · intro l vs X A hA ⟨hV, hS⟩ hl hd hcl
              have hj := nY 17 hcl hl
              have hk := nY 18 hcl hl
              have hX := hS.1 hj
              have hB := hX.below
              refine show_value (v := .pointer (some ⟨X.heap.size, 0, none⟩)) (X' := X.alloc (.cells noK.a 43)) ?_ ⟨hV.upd (fun _ h => by cases h), Ph2.keep hj hk (by decide) (by decide) (hX.mkSnd (by decide))⟩
              generalize A.eval = ρ at *
              clear hA hl hd hcl hV hS
              rfl
            · intro l vs X A hA ⟨hV, hS⟩ hl hd hcl
              have hk := nY 18 hcl hl
              have hX := hS.1 hl
              have a7 := eval_new hA 7 15 (by kernel_rfl) (by kernel_rfl) (by kernel_rfl) (hd 15 (by kernel_rfl)) (rfl : vs 15 = vs 15)
              have a38 := eN hA 38 13 hd hV rfl
              obtain ⟨b, hb, hH, hT⟩ := (hX.both (hd 15 (by kernel_rfl)) (hd 16 (by kernel_rfl))).setFst (x' := n2.a)
              rw [hb] at a7
              refine show_skip (run_st_row 43 _ _ rfl b _ _ _ a7 a38 hH (by kernel_rfl) (by kernel_rfl) (Kn.a_one _)) ⟨hV.upd (fun _ h => by cases h), Ph2.mid hk (by decide) ?_⟩
              exact hT
            · intro l vs X A hA ⟨hV, hS⟩ hl hd hcl
              have hX := hS.2.1 (hd 17 (by kernel_rfl)) hl
              have a8 := eval_new hA 8 16 (by kernel_rfl) (by kernel_rfl) (by kernel_rfl) (hd 16 (by kernel_rfl)) (rfl : vs 16 = vs 16)
              have a39 := eN hA 39 14 hd hV rfl
              obtain ⟨b, hb, hH, hT⟩ := hX.setSnd (y' := j2.a)
              rw [hb] at a8
              refine show_skip (run_st_row 43 _ _ rfl b _ _ _ a8 a39 hH (by kernel_rfl) (by kernel_rfl) (Kn.a_one _)) ⟨hV.upd (fun _ h => by cases h), Ph2.last (hd 17 (by kernel_rfl)) ?_⟩
              exact hT
          case hend =>
            intro l vs X hl ⟨hV, hS⟩
            have hX := hS.2.2 (hl 18 (by decide))
            have v0 := hV 0 _ (hl 0 (by decide)) rfl
            have v1 := hV 1 _ (hl 1 (by decide)) rfl
            have v2 := hV 2 _ (hl 2 (by decide)) rfl
            have v3 := hV 3 _ (hl 3 (by decide)) rfl
            have v4 := hV 4 _ (hl 4 (by decide)) rfl
            have v5 := hV 5 _ (hl 5 (by decide)) rfl
            have v6 := hV 6 _ (hl 6 (by decide)) rfl
            have v7 := hV 7 _ (hl 7 (by decide)) rfl
            have v8 := hV 8 _ (hl 8 (by decide)) rfl
            have v9 := hV 9 _ (hl 9 (by decide)) rfl
            have v10 := hV 10 _ (hl 10 (by decide)) rfl
            have v11 := hV 11 _ (hl 11 (by decide)) rfl
            have v12 := hV 12 _ (hl 12 (by decide)) rfl
            have v13 := hV 13 _ (hl 13 (by decide)) rfl
            have v14 := hV 14 _ (hl 14 (by decide)) rfl
            clear hV hS hl
            obtain ⟨b6, b7, u6, u7, g6, g7, hne, hb6, hb7, hB9⟩ := hX
            simp only [canonL, if_true, v0, v1, v2, v3, v4, v5, v6, v7, v8, v9, v10, v11, v12, v13, v14, u6, u7]
            clear v0 v1 v2 v3 v4 v5 v6 v7 v8 v9 v10 v11 v12 v13 v14 u6 u7
            go_simp
            obtain ⟨W5, hren⟩ : ∃ Z, Z = X := ⟨_, rfl⟩
            subst hren
            have hA5 := HA4.out.grow hB9
            have h65 := H6.out.below hB9 H6.out.lt
            clear hlk hmk HA4 H6 HOP hB4 hB9
            have hoff : -32768 ≤ i.off ∧ i.off ≤ 32767 := by have := hmi.out.1.1; have := hmi.out.1.2.2.2.1; omega
            have hri : 0 ≤ reachI i ∧ reachI i ≤ 256 := by
              have := hmi.out.1.1; have := hmi.out.1.2.2.2.1
              unfold reachI
              split
              · omega
              · split <;> omega
            have hrc : ∀ X, Calls Tryd.prog 41 #[.agg i.a] X fun e w' => e = .returned (.int .i64 (reachI i)) ∧ Below X.heap.size X w' := fun X => reach_any i X hoff.1 hoff.2
            obtain ⟨ri, hre⟩ : ∃ ri, ri = reachI i := ⟨_, rfl⟩
            have HRE : Hid (ri = reachI i) := hre
            rw [← hre] at hri hrc
            clear hre
            have ew : IntKind.i64.wrap ((k : Int) + ri) = (k : Int) + ri := by rw [IntKind.wrap_i64]; omega
            obtain ⟨tb, htb⟩ : ∃ tb, tb = decide ((pl.length : Int) ≤ (k : Int) + ri) := ⟨_, rfl⟩
            have HTB : Hid (tb = decide ((pl.length : Int) ≤ (k : Int) + ri)) := htb
            clear htb
            go_upto_region 9 with fail
            refine wp_region_inv (Φ := fun l vs X => Vals (fun q => match q with | 0 => some (.int .i64 (k : Int)) | 1 => some (.agg i.a) | 2 => some (.int .i64 ri) | 3 => some (.int .i64 ((k : Int) + ri)) | 4 => some (.pointer (some ⟨w.heap.size, 1, none⟩)) | 5 => some (.slice (some ⟨b, o, none⟩) pl.length cap) | 6 => some (.int .i64 (pl.length : Int)) | 7 => some (.bool tb) | _ => none) l vs ∧ Below W5.heap.size W5 X) (PQ := fun _ _ => False)
              (by kernel_rfl) (by kernel_rfl) (by kernel_rfl) (by kernel_rfl) ⟨Vals.none _ _, ((Below.refl _ _).drew)⟩ ?hop ?hend (fun _ _ _ _ h => h.elim)
            case hop =>
              refine ⟨?_, ?_, ?_, ?_, ?_, ?_, ?_, ?_, trivial⟩
              · intro l vs X A hA ⟨hV, hS⟩ hl hd hcl
                have hX := hS
                have hB := hX
                have a5 := eO hA 5 rfl
                refine show_value (v := .int .i64 (k : Int)) (X' := X) ?_ ⟨hV.upd (fun _ h => Option.some.inj h), (hX)⟩
                generalize A.eval = ρ at *
                clear hA hl hd hcl hV hS
                go_simp
              · intro l vs X A hA ⟨hV, hS⟩ hl hd hcl
                have hX := hS
                have hB := hX
                have a6 := eO hA 6 rfl
                refine show_value (v := .agg i.a) (X' := X) (run_ld 38 _ rfl _ a6 (ld_row (l := i.cells) (has_whole (h65.below hB h65.lt)) (by kernel_rfl))) ⟨hV.upd (fun _ h => Option.some.inj h), (hX)⟩
              · intro l vs X A hA ⟨hV, hS⟩ hl hd hcl
                have hX := hS
                have hB := hX
                have a41 := eN hA 41 1 hd hV rfl
                have aF0 : A.eval (.func 41) = .func (.func 41) #[] #[] := rfl
                refine show_call (f := 41) (args := #[.agg i.a]) ?_ (hrc X) ?_
                · generalize A.eval = ρ at *
                  clear hA hl hd hcl hV hS
                  go_simp
                · rintro e X' ⟨rfl, hB1⟩
                  exact .inl ⟨_, rfl, hV.upd (fun _ h => Option.some.inj h), (hX.trans (hB1.mono hX.size))⟩
              · intro l vs X A hA ⟨hV, hS⟩ hl hd hcl
                have hX := hS
                have hB := hX
                have a40 := eN hA 40 0 hd hV rfl
                have a42 := eN hA 42 2 hd hV rfl
                refine show_value (v := .int .i64 ((k : Int) + ri)) (X' := X) ?_ ⟨hV.upd (fun _ h => Option.some.inj h), (hX)⟩
                generalize A.eval = ρ at *
                clear hA hl hd hcl hV hS
                go_simp
              · intro l vs X A hA ⟨hV, hS⟩ hl hd hcl
                have hX := hS
                have hB := hX
                have a1 := eO hA 1 rfl
                refine show_value (v := .pointer (some ⟨w.heap.size, 1, none⟩)) (X' := X) ?_ ⟨hV.upd (fun _ h => Option.some.inj h), (hX)⟩
                generalize A.eval = ρ at *
                clear hA hl hd hcl hV hS
                go_simp
              · intro l vs X A hA ⟨hV, hS⟩ hl hd hcl
                have hX := hS
                have hB := hX
                have a44 := eN hA 44 4 hd hV rfl
                have cc := (hA5.box.below hB hA5.box.lt).cell 1
                refine show_value (v := .slice (some ⟨b, o, none⟩) pl.length cap) (X' := X) ?_ ⟨hV.upd (fun _ h => Option.some.inj h), (hX)⟩
                generalize A.eval = ρ at *
                clear hA hl hd hcl hV hS hX hB
                go_simp
              · intro l vs X A hA ⟨hV, hS⟩ hl hd hcl
                have hX := hS
                have hB := hX
                have a45 := eN hA 45 5 hd hV rfl
                refine show_value (v := .int .i64 (pl.length : Int)) (X' := X) ?_ ⟨hV.upd (fun _ h => Option.some.inj h), (hX)⟩
                generalize A.eval = ρ at *
                clear hA hl hd hcl hV hS
                go_simp
              · intro l vs X A hA ⟨hV, hS⟩ hl hd hcl
                have hX := hS
                have hB := hX
                have a43 := eN hA 43 3 hd hV rfl
                have a46 := eN hA 46 6 hd hV rfl
                refine show_value (v := .bool tb) (X' := X) ?_ ⟨hV.upd (fun _ h => Option.some.inj h), (hX)⟩
                have htb := HTB.out
                generalize A.eval = ρ at *
                clear hA hl hd hcl hV hS hX hB
                go_simp
            case hend =>
              intro l vs X hl ⟨hV, hS⟩
              have hX := hS
              have v0 := hV 0 _ (hl 0 (by decide)) rfl
              have v1 := hV 1 _ (hl 1 (by decide)) rfl
              have v2 := hV 2 _ (hl 2 (by decide)) rfl
              have v3 := hV 3 _ (hl 3 (by decide)) rfl
              have v4 := hV 4 _ (hl 4 (by decide)) rfl
              have v5 := hV 5 _ (hl 5 (by decide)) rfl
              have v6 := hV 6 _ (hl 6 (by decide)) rfl
              have v7 := hV 7 _ (hl 7 (by decide)) rfl
              clear hV hS hl
              simp only [canonL, if_true, v0, v1, v2, v3, v4, v5, v6, v7]
              clear v0 v1 v2 v3 v4 v5 v6 v7
              go_simp
              have hA6 := hA5.grow hX
              have h66 := h65.below hX h65.lt
              have e66 := hb6.below hX hb6.lt
              have e77 := hb7.below hX hb7.lt
              clear hA5 h65 hb6 hb7 g6 g7 hne hX hrc ew
              obtain ⟨W6, hren⟩ : ∃ Z, Z = X := ⟨_, rfl⟩
              subst hren
              cases tb with
              | true =>
                have hge : (pl.length : Int) ≤ (k : Int) + reachI i := by rw [← HRE.out]; exact of_decide_eq_true HTB.out.symm
                have HTE : Hid (aheadE pl.length c pl 0 startW = .error none) := by
                  show _ = _
                  rw [HE.out, ahead_step hi.out]
                  unfold turnE
                  rw [if_neg (by rw [HCO.out]; decide), HO.out]
                  simp only
                  rw [if_pos hge]
                clear HE hge
                go_wp2_with fail
                exact ⟨rfl, by rw [HTE.out]; exact ⟨rfl, hA6.below⟩⟩
              | false =>
                have hnge : ¬ (pl.length : Int) ≤ (k : Int) + reachI i := by rw [← HRE.out]; exact of_decide_eq_false HTB.out.symm
                have HTE : Hid (aheadE pl.length c pl 0 startW = aheadE pl.length c (pl.drop (k + 1)) (k + 1) (leadW (leadW ws (k + 1) n2) (k + 1 + i.off.toNat) j2)) := by
                  show _ = _
                  rw [HE.out, ahead_step hi.out]
                  unfold turnE
                  rw [if_neg (by rw [HCO.out]; decide), HO.out]
                  simp only
                  rw [if_neg hnge]
                obtain ⟨hn2, hj2⟩ := outI_right hmi.out (HR.out k) HO.out
                have hgo1 : n2.come = true → (k : Int) + 1 = ((k + 1 : Nat) : Int) ∧ k + 1 < 256 := fun hc => by
                  have := reach_next hmi.out HO.out hc
                  omega
                have hgo2 : j2.come = true → (k : Int) + 1 + i.off = ((k + 1 + i.off.toNat : Nat) : Int) ∧ k + 1 + i.off.toNat < 256 := fun hc => by
                  have := reach_jump hmi.out HO.out hc
                  omega
                have hR1 := leadW_right HR.out (k + 1) hn2
                have HR2 : Hid (∀ j, KnR (leadW (leadW ws (k + 1) n2) (k + 1 + i.off.toNat) j2 j)) := leadW_right hR1 _ hj2
                have ew1 : wrap64 ((k : Int) + 1) = (k : Int) + 1 := by simp only [wrap64]; omega
                have ew2 : wrap64 ((k : Int) + 1 + i.off) = (k : Int) + 1 + i.off := by simp only [wrap64]; omega
                have HKL : Hid (k + 1 ≤ pl.length) := hlt
                have hl1 := lead_any n2 (w.heap.size + 1) (k + 1) ((k : Int) + 1) ws W6 hgo1 hA6.ways HR.out hn2
                have HL2 : Hid (∀ W ws2, WaysAt W (w.heap.size + 1) ws2 → (∀ j, KnR (ws2 j)) → Calls Tryd.prog 40 #[.pointer (some ⟨w.heap.size + 1, 0, none⟩), .int .i64 ((k : Int) + 1 + i.off), .agg j2.a] W fun e w' => e = .returned (.tuple #[]) ∧ WaysAt w' (w.heap.size + 1) (leadW ws2 (k + 1 + i.off.toNat) j2) ∧ Ex (w.heap.size + 1) W w') := fun W ws2 h1 h2 => lead_any j2 (w.heap.size + 1) (k + 1 + i.off.toNat) _ ws2 W hgo2 h1 h2 hj2
                have HR1 : Hid (∀ j, KnR (leadW ws (k + 1) n2 j)) := hR1
                clear HE hnge HTB HRE hgo1 hgo2 hR1 hn2 hj2 HO hri
                obtain ⟨wcs, hwc⟩ := hA6.ways.cells
                have ne7 := has_apart e77 hwc (by decide)
                have nei := has_apart h66 hwc (by decide)
                clear hwc
                go_upto_region 12 with (first | refine wpList_load_row_if rfl 43 _ rfl b6 rfl 43 n2.a (0, 0) _ e66 Tryd.underlying43 rfl (by kernel_rfl) ?_ | (go_at_call 40; refine hl1.mono ?_; rintro e W7 ⟨rfl, hw7, hE7⟩; clear hl1))
                have hA7 := hA6.lead hw7 hE7
                have h67 := h66.ex hE7 nei
                have e78 := e77.ex hE7 ne7
                clear hA6 h66 e77 hw7 hE7 e66
                have hl2 := HL2.out W7 _ hA7.ways HR1.out
                have c3 : W7.cell? ⟨bi, 3, none⟩ = some (.int .i64 i.off) := h67.cell 3
                clear HL2
                go_wp2_with (first | refine wpList_load_row_if rfl 43 _ rfl b7 rfl 43 j2.a (0, 0) _ e78 Tryd.underlying43 rfl (by kernel_rfl) ?_ | (go_at_call 40; refine hl2.mono ?_; rintro e W8 ⟨rfl, hw8, hE8⟩; clear hl2))
                go_roundw
                case rel => exact ⟨k + 1, _, HKL.out, by simp, hA7.lead hw8 hE8, HTE, HR2⟩
                case measure => simp [intOf]; omega
    · obtain rfl : k = pl.length := by omega
      have HF : Hid (aheadE pl.length c pl 0 startW = .ok ws) := by
        show _ = _
        rw [HE.out, List.drop_length]
        rfl
      obtain rfl := ha (fun e => by rw [e] at hl1; simp at hl1)
      have hnlt : ¬ (pl.length : Int) < pl.length := by omega
      have h256 : (pl.length : Int) ≤ 256 := by omega
      have hcl := fun cap => clone_any (w.heap.size + 1) pl.length cap ws wr hwb hl1 hl
      have HB : Hid (Below w.heap.size w wr) := hA.below
      clear hA hwb HE HR
      go_wp2_with (go_at_call 42; refine (hcl _).mono ?_; rintro e W9 ⟨v, rfl, hkv, hB9⟩)
      go_ret
      rw [HF.out]
      exact ⟨⟨v, rfl, hkv⟩, HB.out.trans (hB9.mono HB.out.size)⟩
end Go.Proofs.YtodkehpldlmgaaaDoor
/- Behind. -/
namespace Go.Proofs.YtodkehpldlmgaaaDoor
open Go.RowKit

/-- The world in which Behind begins. -/
structure BW (w : World) (i : Ins) (k : Kn) (n j : Kn) (e : Int) (X : World) : Prop where
  ins : Has X w.heap.size i.a 38
  kn : Has X (w.heap.size + 1) k.a 43
  n : Has X (w.heap.size + 2) n.a 43
  j : Has X (w.heap.size + 3) j.a 43
  e : Has X (w.heap.size + 4) #[.int .i64 e] 27
  below : Below w.heap.size w X
theorem BW.grow {w : World} {i : Ins} {k n j : Kn} {e : Int} {X X' : World} (h : BW w i k n j e X) (g : Below X.heap.size X X') : BW w i k n j e X' :=
  ⟨h.ins.below g h.ins.lt, h.kn.below g h.kn.lt, h.n.below g h.n.lt, h.j.below g h.j.lt, h.e.below g h.e.lt, h.below.trans (g.mono h.below.size)⟩
theorem BW.setN {w : World} {i : Ins} {k n j : Kn} {e : Int} {X : World} (h : BW w i k n j e X) (n' : Kn) : BW w i k n' j e (X.setRow (w.heap.size + 2) n'.a) :=
  ⟨h.ins.ex (setRow_ex _ _ _) (by omega), h.kn.ex (setRow_ex _ _ _) (by omega), setRow_has h.n _, h.j.ex (setRow_ex _ _ _) (by omega), h.e.ex (setRow_ex _ _ _) (by omega), setRow_below h.below (by omega) _⟩
theorem BW.setJ {w : World} {i : Ins} {k n j : Kn} {e : Int} {X : World} (h : BW w i k n j e X) (j' : Kn) : BW w i k n j' e (X.setRow (w.heap.size + 3) j'.a) :=
  ⟨h.ins.ex (setRow_ex _ _ _) (by omega), h.kn.ex (setRow_ex _ _ _) (by omega), h.n.ex (setRow_ex _ _ _) (by omega), setRow_has h.j _, h.e.ex (setRow_ex _ _ _) (by omega), setRow_below h.below (by omega) _⟩
theorem BW.setE {w : World} {i : Ins} {k n j : Kn} {e : Int} {X : World} (h : BW w i k n j e X) (e' : Int) : BW w i k n j e' (X.setCell ⟨w.heap.size + 4, 0, none⟩ (.int .i64 e')) :=
  ⟨h.ins.ex (Ex.set _ _ _ _) (by omega), h.kn.ex (Ex.set _ _ _ _) (by omega), h.n.ex (Ex.set _ _ _ _) (by omega), h.j.ex (Ex.set _ _ _ _) (by omega), h.e.set 0 _, Below.ex h.below h.below.size (Ex.set _ _ _ _) (by omega)⟩
theorem results_three {fn : Func} {p q r : Tmp} (h : fn.results = #[.cell p 43, .cell q 43, .cell r 27]) (tmps : Array Value) (w : World) (g g' g2 : Nat) (a b : Kn) {e : Int}
    (hp : tmps.getD p undef = .pointer (some ⟨g, 0, none⟩)) (hq : tmps.getD q undef = .pointer (some ⟨g', 0, none⟩)) (hr : tmps.getD r undef = .pointer (some ⟨g2, 0, none⟩)) (hg : Has w g a.a 43) (hg' : Has w g' b.a 43) (hg2 : Has w g2 #[.int .i64 e] 27) :
    (results fn tmps).run Tryd.prog w = .ok (.tuple #[.agg a.a, .agg b.a, .int .i64 e]) w := by
  have hp' : tmps[p]?.getD undef = .pointer (some ⟨g, 0, none⟩) := by simpa using hp
  have hq' : tmps[q]?.getD undef = .pointer (some ⟨g', 0, none⟩) := by simpa using hq
  have hr' : tmps[r]?.getD undef = .pointer (some ⟨g2, 0, none⟩) := by simpa using hr
  have c : w.cell? ⟨g2, 0, none⟩ = some (.int .i64 e) := hg2.cell 0
  have hl : (loadVar 27 ⟨g2, 0, none⟩).run Tryd.prog w = .ok (.int .i64 e) w := by simp [go_sem, c]
  simp [results, h, hp', hq', hr', asAddr, run_loadVar_row w g 43 43 a.a (0, 0) _ hg Tryd.underlying43 rfl (by kernel_rfl), run_loadVar_row w g' 43 43 b.a (0, 0) _ hg' Tryd.underlying43 rfl (by kernel_rfl), hl]
theorem prg_one {W : World} {b : Nat} {i : Ins} (h : Has W b i.a 38) : Prg W (.slice (some ⟨b, 0, none⟩) 1 1) [i] := by
  refine ⟨_, 1, b, 0, rfl, fun _ => rfl, ?_, h.lt⟩
  have key : ∀ (q : Nat) (j : Ins), [i][q]? = some j → q = 0 ∧ j = i := fun q j hq => by
    cases q with
    | zero => exact ⟨rfl, by simpa using hq.symm⟩
    | succ q => simp at hq
  refine ⟨fun q j hq => ?_, fun q j hq => ?_, fun q j hq => ?_, fun q j hq => ?_, fun q j hq => ?_⟩ <;> obtain ⟨rfl, rfl⟩ := key q j hq
  · exact h.cell 0
  · exact h.cell 1
  · exact h.cell 2
  · exact h.cell 3
  · exact h.cell 4
set_option maxRecDepth 10000 in
set_option maxHeartbeats 2000000 in
theorem behind_bad (i : Ins) (c : Int) (k : Kn) (w : World) (hG : Glob w) (hE : chkE c [i] ≠ 0) :
    Calls Tryd.prog 17 #[.agg i.a, .int .i64 c, .agg k.a] w fun e w' => e = .returned (.tuple #[.agg noK.a, .agg noK.a, .int .i64 2]) ∧ Below w.heap.size w w' := by
  obtain ⟨W0, hW0⟩ : ∃ W0, W0 = ((((w.alloc (.cells i.a 38)).alloc (.cells k.a 43)).alloc (.cells noK.a 43)).alloc (.cells noK.a 43)).alloc (.cells #[.int .i64 0] 27) := ⟨_, rfl⟩
  have hBW : BW w i k noK noK 0 W0 := by
    rw [hW0]
    exact ⟨has_old (has_old (has_old (has_old (has_new _ _ _ _ rfl)))), has_old (has_old (has_old (has_new _ _ _ _ (by simp)))), has_old (has_old (has_new _ _ _ _ (by simp))), has_old (has_new _ _ _ _ (by simp)), has_new _ _ _ _ (by simp),
      (((((Below.refl _ _).alloc (Nat.le_refl _) _).alloc (by simp) _).alloc (by simp <;> omega) _).alloc (by simp <;> omega) _).alloc (by simp <;> omega) _⟩
  go_enter_defers Tryd.func17, Tryd.ntmps17
  go_upto_region 1 with fail
  refine named2 (p := fun X => Code.wp _ _ _ _ X) ?_
  intro W9 hW9
  have hW : W0 = W9 := hW0.trans hW9.symm
  subst hW
  clear hW9 hW0
  have hz := hBW.e.lt
  have hii := hBW.ins
  go_upto_region 2 with (refine wpList_load_row rfl 38 _ rfl w.heap.size rfl 38 #[.int .i64 i.op, .int .i64 i.dst, .int .i64 i.src, .int .i64 i.off, .int .u32 (i.imm : Int)] (0, 0) _ hii Tryd.underlying38 rfl (by kernel_rfl) ?_)
  refine named2 (p := fun X => Code.wp _ _ _ _ X) ?_
  intro W1 hW1
  have hii1 : Has W1 W0.heap.size i.a 38 := by rw [hW1]; exact has_old (has_new _ _ _ _ rfl)
  have h9 : Has W1 (W0.heap.size + 1) #[.int .i64 c, .slice (some ⟨W0.heap.size, 0, none⟩) 1 1] 24 := by rw [hW1]; exact has_new _ _ _ _ (by simp)
  have hB1 : Below W0.heap.size W0 W1 := by rw [hW1]; exact ((Below.refl _ _).alloc (Nat.le_refl _) _).alloc (by simp) _
  have hBW1 := hBW.grow hB1
  have hP : Prg W1 (.slice (some ⟨W0.heap.size, 0, none⟩) 1 1) [i] := prg_one hii1
  have hG1 : Glob W1 := hG.below (hBW.below.trans (hB1.mono hBW.below.size)) hG.size
  have hck := check_any c _ [i] W1 hP hG1 (by simp)
  clear hW1 hii1 hP hG1 hii hz hBW hB1
  generalize chkE c [i] = E at *
  have hE' : (E != 0) = true := by simpa using hE
  have c0 := h9.cell 0
  have c1 := h9.cell 1
  go_upto_region 3 with (go_at_call 25; refine hck.mono ?_; rintro e W2 ⟨rfl, hB2⟩; clear hck c0 c1)
  have hBW2 := hBW1.grow hB2
  clear hBW1 hB2 h9
  have hn := hBW2.n
  have hj := (hBW2.setN noK).j
  have he := ((hBW2.setN noK).setJ noK).e.cell 0
  have hf := ((hBW2.setN noK).setJ noK).e.free 0
  have HF : Hid (BW w i k noK noK 2 (((W2.setRow (w.heap.size + 2) noK.a).setRow (w.heap.size + 3) noK.a).setCell ⟨w.heap.size + 4, 0, none⟩ (.int .i64 2))) := ((hBW2.setN noK).setJ noK).setE 2
  go_wp2_with (first | refine wpList_store_row rfl 43 _ _ rfl (w.heap.size + 2) noK.a rfl rfl 43 noK.a hn (by kernel_rfl) (by kernel_rfl) (Kn.a_one _) ?_ | refine wpList_store_row rfl 43 _ _ rfl (w.heap.size + 3) noK.a rfl rfl 43 noK.a hj (by kernel_rfl) (by kernel_rfl) (Kn.a_one _) ?_)
  generalize ((W2.setRow (w.heap.size + 2) noK.a).setRow (w.heap.size + 3) noK.a).setCell ⟨w.heap.size + 4, 0, none⟩ (.int .i64 2) = W3 at *
  exact ⟨_, results_three rfl _ _ _ _ _ _ _ rfl rfl rfl HF.out.n HF.out.j HF.out.e, rfl, HF.out.below⟩
end Go.Proofs.YtodkehpldlmgaaaDoor
/- The law of regions by an invariant, where what is given up by is caught: the slots are told. -/
namespace Go.Proofs.YtodkehpldlmgaaaDoor
open Go.RowKit
variable {P : Program}

theorem wp_region_inv2 {id : Nat} {ops : Array Oper} {a0 : Act} {W0 : World} {Q : Exit → Act → World → Prop} (Φ : (Nat → Bool) → (Nat → Value) → World → Prop) (PQ : List PanicEntry → World → Prop) (hm : P.follows .mixedOrders = true)
    (ht : topoL ops = true) (hp : plainL ops = true) (hd : dstsApart ops.toList = true)
    (h0 : Φ (fun _ => false) (fun _ => undef) W0.drew)
    (hop : ShownAll P ops.toList a0 Φ PQ 0 ops.toList)
    (hend : ∀ l vs X, (∀ i, i < ops.size → l i = true) → Φ l vs X → Q .normal (canonL ops.toList 0 (fun _ => true) vs a0) X)
    (hpan : ∀ c l vs X, PQ c X → Q (.panic c) (canonL ops.toList 0 l vs a0) X) :
    (Code.region id ops true).wp P Q a0 W0 := by
  refine wp_region_any hm ?_
  have hsz0 : ops.toList.length = ops.size := by simp
  have main : ∀ (fuel : Nat) (listed : Array Bool) (vs : Nat → Value) (w : World), listed.size = ops.size → Closed ops listed → Φ (lis listed) vs w → ((List.range ops.size).filter fun i => !lis listed i).length ≤ fuel → wpAny P .any ops Q fuel listed (canonL ops.toList 0 (lis listed) vs a0) w := by
    have last : ∀ (listed : Array Bool) (vs : Nat → Value) (w : World), listed.size = ops.size → Φ (lis listed) vs w → Region.ready .any ops listed = [] → Q .normal (canonL ops.toList 0 (lis listed) vs a0) w := fun listed vs w hsz h hrd => by
      have hall : ∀ i, i < ops.size → lis listed i = true := by
        intro i
        induction i using Nat.strongRecOn with
        | ind i ih =>
          intro hi
          cases hv : lis listed i with
          | true => rfl
          | false =>
            have hin : i ∈ Region.ready .any ops listed := by
              rw [mem_ready]
              refine ⟨?_, ops[i], by simp [hi], fun e he hb => ?_⟩
              · unfold lis at hv
                rw [Array.getD_eq_getD_getElem?, Array.getElem?_eq_getElem (by omega)] at hv ⊢; exact hv
              · unfold topoL at ht
                rw [List.all_eq_true] at ht
                have := ht i (by simpa using hi)
                rw [Array.getElem?_eq_getElem hi] at this
                simp only [Option.map_some, Option.getD_some, List.all_eq_true, decide_eq_true_eq] at this
                have := this e.on (by unfold depsOf; rw [List.mem_map]; exact ⟨e, by rw [List.mem_filter]; exact ⟨by simpa using he, hb⟩, rfl⟩)
                exact ih e.on this (by omega)
            rw [hrd] at hin; cases hin
      have e : canonL ops.toList 0 (lis listed) vs a0 = canonL ops.toList 0 (fun _ => true) vs a0 := by
        have key : ∀ (os : List Oper) (k : Nat) (a : Act), (∀ j, k ≤ j → j < k + os.length → lis listed j = true) → canonL os k (lis listed) vs a = canonL os k (fun _ => true) vs a := by
          intro os
          induction os with
          | nil => intro k a _; rfl
          | cons o os ih =>
            intro k a h
            simp only [canonL]
            rw [h k (Nat.le_refl _) (by simp), ih (k + 1) _ (fun j hj hlt => h j (by omega) (by simp; omega))]
            simp
        exact key _ _ _ (fun j _ hj => hall j (by simpa using hj))
      rw [e]
      exact hend _ vs w hall h
    intro fuel
    induction fuel with
    | zero =>
      intro listed vs w hsz hcl h hc
      have hrd : Region.ready .any ops listed = [] := by
        rw [List.eq_nil_iff_forall_not_mem]
        intro i hi
        obtain ⟨h2, o, ho, _⟩ := mem_ready.1 hi
        have h1 := (Array.getElem?_eq_some_iff.1 ho).1
        have hin : i ∈ (List.range ops.size).filter fun i => !lis listed i := by
          rw [List.mem_filter]
          refine ⟨by simpa using h1, ?_⟩
          unfold lis
          rw [Array.getD_eq_getD_getElem?, Array.getElem?_eq_getElem (by omega)] at h2 ⊢
          simp at h2 ⊢; exact h2
        have : 0 < ((List.range ops.size).filter fun i => !lis listed i).length := List.length_pos_of_mem hin
        omega
      exact ⟨hrd, last listed vs w hsz h hrd⟩
    | succ fuel ih =>
      intro listed vs w hsz hcl h hc
      refine ⟨last listed vs w hsz h, fun i hi => ?_⟩
      obtain ⟨h2, o, ho, hdir⟩ := mem_ready.1 hi
      have h1 := (Array.getElem?_eq_some_iff.1 ho).1
      have hil : i < listed.size := by omega
      have hun : lis listed i = false := by
        unfold lis
        rw [Array.getD_eq_getD_getElem?, Array.getElem?_eq_getElem hil] at h2 ⊢; exact h2
      have hcount : ((List.range ops.size).filter fun q => !lis (listed.setIfInBounds i true) q).length ≤ fuel := by
        have e : ((List.range ops.size).filter fun q => !lis (listed.setIfInBounds i true) q) = ((List.range ops.size).filter fun q => !lis listed q).filter (fun q => q != i) := by
          rw [List.filter_filter, lis_set hil]
          apply List.filter_congr
          intro q _
          by_cases e : q = i
          · subst e; simp [upd]
          · simp [upd, e]
        rw [e]
        have hmem : i ∈ (List.range ops.size).filter fun q => !lis listed q := by
          rw [List.mem_filter]; exact ⟨by simpa using h1, by simp [hun]⟩
        have : (((List.range ops.size).filter fun q => !lis listed q).filter (fun q => q != i)).length < ((List.range ops.size).filter fun q => !lis listed q).length :=
          List.length_filter_lt_length_iff_exists.2 ⟨i, hmem, by simp⟩
        omega
      have hol : ops.toList[i]? = some o := by simpa using ho
      have hguard : o.guard = none := by
        unfold plainL at hp
        rw [List.all_eq_true] at hp
        have := hp o (List.mem_of_getElem? hol)
        simpa using this
      unfold wpOp
      rw [ho]
      simp only []
      rw [if_pos (by simp [Region.wanted, hguard])]
      left
      have hs := ShownAll.at _ _ hop i o hol
      rw [Nat.zero_add] at hs
      refine wp_both (hs (lis listed) vs w _ rfl h hun (fun j hj => ?_) (fun k j hr hk => by rw [Array.toArray_toList] at hr; exact reach_of hcl hr hk)) ?_ (fun c X => hpan c _ _ X)
      · unfold depsOf at hj
        rw [List.contains_iff_mem, List.mem_map] at hj
        obtain ⟨e, he, rfl⟩ := hj
        rw [List.mem_filter] at he
        exact hdir e (by simpa using he.1) he.2
      · rintro a' w' ⟨v, rfl, hΦ⟩
        have := canonL_step ops.toList 0 i o (lis listed) vs v a0 hd hol (by rw [Nat.zero_add]; exact hun)
        rw [Nat.zero_add] at this
        rw [← this, ← lis_set hil]
        exact ih _ _ _ (by simpa using hsz) (closed_step hcl ho hdir) (by rw [lis_set hil]; exact hΦ) hcount
  have e0 : lis (Array.replicate ops.size false) = fun _ => false := by
    funext j
    unfold lis
    rw [Array.getD_eq_getD_getElem?, Array.getElem?_replicate]
    split <;> rfl
  have e1 : a0 = canonL ops.toList 0 (lis (Array.replicate ops.size false)) (fun _ => undef) a0 := by
    rw [e0]
    have key : ∀ (os : List Oper) (k : Nat) (a : Act), a = canonL os k (fun _ => false) (fun _ => undef) a := by
      intro os
      induction os with
      | nil => intro k a; rfl
      | cons o os ih => intro k a; exact ih (k + 1) a
    exact key _ _ _
  have hc0 : Closed ops (Array.replicate ops.size false) := by
    intro m om _ hl
    have h9 : lis (Array.replicate ops.size false) m = false := by rw [e0]
    have h8 : lis (Array.replicate ops.size false) m = true := hl
    rw [h9] at h8
    cases h8
  have := main ops.size (Array.replicate ops.size false) (fun _ => undef) W0.drew (by simp) hc0 (by rw [e0]; exact h0) (Nat.le_trans (List.length_filter_le _ _) (by simp))
  rw [← e1] at this
  exact this
end Go.Proofs.YtodkehpldlmgaaaDoor
/- Behind an instruction that is given up. -/
namespace Go.Proofs.YtodkehpldlmgaaaDoor
open Go.RowKit

theorem named3 {p : Act → Prop} {A : Act} (h : ∀ B, B = A → p B) : p A := h A rfl
set_option maxRecDepth 10000 in
set_option maxHeartbeats 4000000 in
theorem behind_no (i : Ins) (c : Int) (k : Kn) (x : Wrong) (w : World) (hG : Glob w) (hE : chkE c [i] = 0) (hkb : knB k = true) (hc : k.come = true) (hm : MayI i) (hK : KnR k) (n : Nat) (hop : i.op = (n : Int)) (ho : outI i c k = .error x) :
    Calls Tryd.prog 17 #[.agg i.a, .int .i64 c, .agg k.a] w fun e w' => e = .returned (.tuple #[.agg (noK).a, .agg (noK).a, .int .i64 x.errno]) ∧ Below w.heap.size w w' := by
  have hmk : ∀ (v : Value) (X : World), IsMake X n v → MakeOk i c k v X := fun v X hv => make_any i c k v X n hop hm hK hv
  have HN : Hid (1 ≤ n ∧ n ≤ 24) := by
    show _ ∧ _
    have := hm.1.1
    omega
  have HOP : Hid (i.op = (n : Int)) := hop
  have HO : Hid (outI i c k = .error x) := ho
  clear hm hK hop ho
  obtain ⟨W0, hW0⟩ : ∃ W0, W0 = ((((w.alloc (.cells i.a 38)).alloc (.cells k.a 43)).alloc (.cells noK.a 43)).alloc (.cells noK.a 43)).alloc (.cells #[.int .i64 0] 27) := ⟨_, rfl⟩
  have hBW : BW w i k noK noK 0 W0 := by
    rw [hW0]
    exact ⟨has_old (has_old (has_old (has_old (has_new _ _ _ _ rfl)))), has_old (has_old (has_old (has_new _ _ _ _ (by simp)))), has_old (has_old (has_new _ _ _ _ (by simp))), has_old (has_new _ _ _ _ (by simp)), has_new _ _ _ _ (by simp),
      (((((Below.refl _ _).alloc (Nat.le_refl _) _).alloc (by simp) _).alloc (by simp <;> omega) _).alloc (by simp <;> omega) _).alloc (by simp <;> omega) _⟩
  go_enter_defers Tryd.func17, Tryd.ntmps17
  go_upto_region 1 with fail
  refine named2 (p := fun X => Code.wp _ _ _ _ X) ?_
  intro W9 hW9
  have hW : W0 = W9 := hW0.trans hW9.symm
  subst hW
  clear hW9 hW0
  have hz := hBW.e.lt
  have hii := hBW.ins
  go_upto_region 2 with (refine wpList_load_row rfl 38 _ rfl w.heap.size rfl 38 #[.int .i64 i.op, .int .i64 i.dst, .int .i64 i.src, .int .i64 i.off, .int .u32 (i.imm : Int)] (0, 0) _ hii Tryd.underlying38 rfl (by kernel_rfl) ?_)
  refine named2 (p := fun X => Code.wp _ _ _ _ X) ?_
  intro W1 hW1
  have hii1 : Has W1 W0.heap.size i.a 38 := by rw [hW1]; exact has_old (has_new _ _ _ _ rfl)
  have h9 : Has W1 (W0.heap.size + 1) #[.int .i64 c, .slice (some ⟨W0.heap.size, 0, none⟩) 1 1] 24 := by rw [hW1]; exact has_new _ _ _ _ (by simp)
  have hB1 : Below W0.heap.size W0 W1 := by rw [hW1]; exact ((Below.refl _ _).alloc (Nat.le_refl _) _).alloc (by simp) _
  have hBW1 := hBW.grow hB1
  have hP : Prg W1 (.slice (some ⟨W0.heap.size, 0, none⟩) 1 1) [i] := prg_one hii1
  have hG1 : Glob W1 := hG.below (hBW.below.trans (hB1.mono hBW.below.size)) hG.size
  have hck := check_any c _ [i] W1 hP hG1 (by simp)
  rw [hE] at hck
  have hkn1 := hBW1.kn
  clear hW1 hii1 hP hG1 hii hz hBW hB1 hE hG
  have c0 := h9.cell 0
  have c1 := h9.cell 1
  have hmb := mayBe_any k
  rw [hkb] at hmb
  clear hkb
  go_upto_region 4 with (first | (go_at_call 25; refine hck.mono ?_; rintro e W2 ⟨rfl, hB2⟩; clear hck c0 c1; have hkn2 := hkn1.below hB2 hkn1.lt) | refine wpList_load_row_if rfl 43 _ rfl (w.heap.size + 1) rfl 43 k.a (0, 0) _ hkn2 Tryd.underlying43 rfl (by kernel_rfl) ?_ | (go_at_call 31; refine (hmb _).mono ?_; rintro e W3 ⟨rfl, hB3⟩; clear hmb))
  have hBW3 := (hBW1.grow hB2).grow hB3
  clear hBW1 hB2 hB3 h9 hkn1 hkn2
  have ck : W3.cell? ⟨w.heap.size + 1, 0, none⟩ = some (.bool k.come) := hBW3.kn.cell 0
  rw [hc] at ck
  have hmf : ∀ (fn : Fn) (first cap : Array Value) (w : World), (Instr.makeFunc fn first cap).run Tryd.prog w = .ok (.func fn first cap) w := fun _ _ _ _ => rfl
  go_upto_region 7 with fail
  clear ck hmf hc
  refine wp_region_inv2 (Φ := fun l vs X => Vals (fun q => match q with | 1 => some (.pointer (some ⟨w.heap.size, 0, none⟩)) | 2 => some (.int .i64 (n : Int)) | 4 => some (.agg i.a) | 5 => some (.int .i64 c) | 6 => some (.agg k.a) | 7 => some (.agg (stA i c k)) | _ => none) l vs ∧ Ph2 12 13 (OpS W3 n) (fun _ X => BW w i k noK noK 0 X) (fun _ X => BW w i k noK noK 0 X) l vs X ∧ l 8 = false) (PQ := fun q X => q = x.entry ∧ BW w i k noK noK 0 X)
    (by kernel_rfl) (by kernel_rfl) (by kernel_rfl) (by kernel_rfl) ⟨Vals.none _ _, Ph2.start (OpS.start (Below.refl _ _).drew), rfl⟩ ?hop ?hend ?hpan
  case hop =>
    refine ⟨?_, ?_, ?_, ?_, ?_, ?_, ?_, ?_, ?_, ?_, ?_, ?_, ?_, ?_, trivial⟩
    · intro l vs X A hA ⟨hV, hS, hN8⟩ hl hd hcl
      have hj := nY 12 hcl hl
      have hk := nY 13 hcl hl
      have hX := hS.1 hj
      have hB := hX.below
      have aF0 : A.eval (.func 33) = .func (.func 33) #[] #[] := rfl
      refine show_call (f := 33) (args := #[]) ?_ (ops_any X) ?_
      · generalize A.eval = ρ at *
        clear hA hl hd hcl hV hS
        go_simp
      · rintro e X' ⟨mb, rfl, hms⟩
        exact .inl ⟨_, rfl, hV.upd (fun _ h => by cases h), Ph2.keep hj hk (by decide) (by decide) (hX.mk0 hms), (upd_other _ _ (by decide)).trans hN8⟩
    · intro l vs X A hA ⟨hV, hS, hN8⟩ hl hd hcl
      have hj := nY 12 hcl hl
      have hk := nY 13 hcl hl
      have hX := hS.1 hj
      have hB := hX.below
      have a3 := eO hA 3 rfl
      refine show_value (v := .pointer (some ⟨w.heap.size, 0, none⟩)) (X' := X) ?_ ⟨hV.upd (fun _ h => Option.some.inj h), Ph2.keep hj hk (by decide) (by decide) (hX.grow (Below.refl _ _) (by decide) (by decide) _), (upd_other _ _ (by decide)).trans hN8⟩
      generalize A.eval = ρ at *
      clear hA hl hd hcl hV hS
      go_simp
    · intro l vs X A hA ⟨hV, hS, hN8⟩ hl hd hcl
      have hj := nY 12 hcl hl
      have hk := nY 13 hcl hl
      have hX := hS.1 hj
      have hB := hX.below
      have a32 := eN hA 32 1 hd hV rfl
      have cc : X.cell? ⟨w.heap.size, 0, none⟩ = some (.int .i64 (n : Int)) := by rw [← HOP.out]; exact (hBW3.ins.below hB hBW3.ins.lt).cell 0
      refine show_value (v := .int .i64 (n : Int)) (X' := X) ?_ ⟨hV.upd (fun _ h => Option.some.inj h), Ph2.keep hj hk (by decide) (by decide) (hX.grow (Below.refl _ _) (by decide) (by decide) _), (upd_other _ _ (by decide)).trans hN8⟩
      generalize A.eval = ρ at *
      clear hA hl hd hcl hV hS hX hB
      go_simp
    · intro l vs X A hA ⟨hV, hS, hN8⟩ hl hd hcl
      have hj := nY 12 hcl hl
      have hk := nY 13 hcl hl
      have hX := hS.1 hj
      have hB := hX.below
      have a31 := eval_new hA 31 0 (by kernel_rfl) (by kernel_rfl) (by kernel_rfl) (hd 0 (by kernel_rfl)) (rfl : vs 0 = vs 0)
      have a33 := eN hA 33 2 hd hV rfl
      obtain ⟨mb, e31, hms⟩ := hX.tab (hd 0 (by kernel_rfl))
      rw [e31] at a31
      obtain ⟨v, hv, hlk⟩ := hms.table.at_ n HN.out.1 HN.out.2
      refine show_value (v := v) (X' := X) ?_ ⟨hV.upd (fun _ h => by cases h), Ph2.keep hj hk (by decide) (by decide) (hX.mk3 hv), (upd_other _ _ (by decide)).trans hN8⟩
      generalize A.eval = ρ at *
      clear hA hl hd hcl hV hS hX hB hms hv e31
      go_simp
    · intro l vs X A hA ⟨hV, hS, hN8⟩ hl hd hcl
      have hj := nY 12 hcl hl
      have hk := nY 13 hcl hl
      have hX := hS.1 hj
      have hB := hX.below
      have a3 := eO hA 3 rfl
      refine show_value (v := .agg i.a) (X' := X) (run_ld 38 _ rfl _ a3 (ld_row (l := i.cells) (has_whole (hBW3.grow hB).ins) (by kernel_rfl))) ⟨hV.upd (fun _ h => Option.some.inj h), Ph2.keep hj hk (by decide) (by decide) (hX.grow (Below.refl _ _) (by decide) (by decide) _), (upd_other _ _ (by decide)).trans hN8⟩
    · intro l vs X A hA ⟨hV, hS, hN8⟩ hl hd hcl
      have hj := nY 12 hcl hl
      have hk := nY 13 hcl hl
      have hX := hS.1 hj
      have hB := hX.below
      have a1 := eO hA 1 rfl
      refine show_value (v := .int .i64 c) (X' := X) ?_ ⟨hV.upd (fun _ h => Option.some.inj h), Ph2.keep hj hk (by decide) (by decide) (hX.grow (Below.refl _ _) (by decide) (by decide) _), (upd_other _ _ (by decide)).trans hN8⟩
      generalize A.eval = ρ at *
      clear hA hl hd hcl hV hS
      go_simp
    · intro l vs X A hA ⟨hV, hS, hN8⟩ hl hd hcl
      have hj := nY 12 hcl hl
      have hk := nY 13 hcl hl
      have hX := hS.1 hj
      have hB := hX.below
      have a5 := eO hA 5 rfl
      refine show_value (v := .agg k.a) (X' := X) (run_ld 43 _ rfl _ a5 (ld_row (l := k.cells) (has_whole (hBW3.grow hB).kn) (by kernel_rfl))) ⟨hV.upd (fun _ h => Option.some.inj h), Ph2.keep hj hk (by decide) (by decide) (hX.grow (Below.refl _ _) (by decide) (by decide) _), (upd_other _ _ (by decide)).trans hN8⟩
    · intro l vs X A hA ⟨hV, hS, hN8⟩ hl hd hcl
      have hj := nY 12 hcl hl
      have hk := nY 13 hcl hl
      have hX := hS.1 hj
      have hB := hX.below
      have a35 := eN hA 35 4 hd hV rfl
      have a36 := eN hA 36 5 hd hV rfl
      have a37 := eN hA 37 6 hd hV rfl
      have hbs := build_step i c k X
      refine show_value (v := .agg (stA i c k)) (X' := X) ?_ ⟨hV.upd (fun _ h => Option.some.inj h), Ph2.keep hj hk (by decide) (by decide) (hX.grow (Below.refl _ _) (by decide) (by decide) _), (upd_other _ _ (by decide)).trans hN8⟩
      generalize A.eval = ρ at *
      clear hA hl hd hcl hV hS hX hB
      generalize stA i c k = sa at *
      generalize i.a = ia at *
      generalize k.a = ka at *
      unfold execOp
      simp only [List.map_toArray, List.map_cons, List.map_nil, a35, a36, a37, Sem.run_bind, hbs, Result.andThen_ok, Sem.run_pure]
    · intro l vs X A hA ⟨hV, hS, hN8⟩ hl hd hcl
      have hj := nY 12 hcl hl
      have hk := nY 13 hcl hl
      have hX := hS.1 hj
      have hB := hX.below
      have a34 := eval_new hA 34 3 (by kernel_rfl) (by kernel_rfl) (by kernel_rfl) (hd 3 (by kernel_rfl)) (rfl : vs 3 = vs 3)
      have a38 := eN hA 38 7 hd hV rfl
      obtain ⟨F, cap, hv, hent, hcall⟩ := hmk _ X (hX.fn (hd 3 (by kernel_rfl)))
      rw [hv] at a34
      rw [HO.out] at hcall
      refine show_call ?_ hcall ?_
      · have hr := fun o ho => run_callv (o := o) (ρ := A.eval) (X := X) (.tmp 34) (.tmp 38) 82 ho F cap (.agg (stA i c k)) a34 a38 hent
        exact hr _ rfl
      rintro e X' ⟨he, hB1⟩
      exact .inr ⟨x.entry, he, rfl, hBW3.grow (hB.trans (hB1.mono hX.size))⟩
    · intro l vs X A hA ⟨hV, hS, hN8⟩ hl hd hcl
      exact absurd (hd 8 (by kernel_rfl)) (by rw [hN8]; decide)
    · intro l vs X A hA ⟨hV, hS, hN8⟩ hl hd hcl
      exact absurd (hcl 9 8 (by kernel_rfl) (hd 9 (by kernel_rfl))) (by rw [hN8]; decide)
    · intro l vs X A hA ⟨hV, hS, hN8⟩ hl hd hcl
      exact absurd (hcl 9 8 (by kernel_rfl) (hd 9 (by kernel_rfl))) (by rw [hN8]; decide)
    · intro l vs X A hA ⟨hV, hS, hN8⟩ hl hd hcl
      exact absurd (hd 8 (by kernel_rfl)) (by rw [hN8]; decide)
    · intro l vs X A hA ⟨hV, hS, hN8⟩ hl hd hcl
      exact absurd (hd 8 (by kernel_rfl)) (by rw [hN8]; decide)
  case hend =>
    intro l vs X hl ⟨hV, hS, hN8⟩
    exact absurd (hl 8 (by decide)) (by rw [hN8]; decide)
  case hpan =>
    rintro q l vs X ⟨rfl, hb⟩
    rw [Wrong.entry_eq]
    refine named3 (p := fun A => Exit.then _ _ _ A X) ?_
    intro A hA
    have d6 : A.eval (.tmp 6) = .pointer (some ⟨w.heap.size + 2, 0, none⟩) := eO hA 6 rfl
    have d7 : A.eval (.tmp 7) = .pointer (some ⟨w.heap.size + 3, 0, none⟩) := eO hA 7 rfl
    have d8 : A.eval (.tmp 8) = .pointer (some ⟨w.heap.size + 4, 0, none⟩) := eO hA 8 rfl
    have dd := (congrArg Act.defers hA).trans (canonL_defers _ _ _ _ _)
    clear hA
    obtain ⟨tm, df⟩ := A
    simp only at dd
    subst dd
    have ht : ∀ w, Calls Tryd.prog 27 #[.iface x.ty (.agg #[])] w fun e w' => e = .returned (.int .i64 x.errno) ∧ w = w' := told_wrong x
    refine leaves_cons (f := 32) (args := #[.pointer (some ⟨w.heap.size + 4, 0, none⟩)]) (by simp) (by simp [go_sem]) ?_
    refine (catch_panic ⟨w.heap.size + 4, 0, none⟩ 0 x.errno x.ty (.agg #[]) _ (hb.e.cell 0) (hb.e.free 0) ht).mono ?_
    rintro e u' w'' ⟨rfl, rfl, rfl⟩
    have hF := hb.setE x.errno
    exact ⟨_, results_three rfl tm _ _ _ _ _ _ d6 d7 d8 hF.n hF.j hF.e, rfl, hF.below⟩
end Go.Proofs.YtodkehpldlmgaaaDoor
/- Known: what is known ahead of each instruction, or why the extension may not run. -/
namespace Go.Proofs.YtodkehpldlmgaaaDoor
open Go.RowKit

/-- The error of an extension. -/
def knownE (c : Int) (l : List Ins) : Int :=
  if chkE c l ≠ 0 then chkE c l else if l = [] then 160 else match aheadE l.length c l 0 startW with
    | .ok _ => 0
    | .error (some x) => x.errno
    | .error none => 164
theorem results_known {fn : Func} {p q : Tmp} (h : fn.results = #[.tmp p, .cell q 27]) (tmps : Array Value) (w : World) (g : Nat) {e : Int} {v : Value}
    (hp : tmps.getD p undef = v) (hq : tmps.getD q undef = .pointer (some ⟨g, 0, none⟩)) (hg : Has w g #[.int .i64 e] 27) :
    (results fn tmps).run Tryd.prog w = .ok (.tuple #[v, .int .i64 e]) w := by
  have hp' : tmps[p]?.getD undef = v := by simpa using hp
  have hq' : tmps[q]?.getD undef = .pointer (some ⟨g, 0, none⟩) := by simpa using hq
  have c : w.cell? ⟨g, 0, none⟩ = some (.int .i64 e) := hg.cell 0
  have hl : (loadVar 27 ⟨g, 0, none⟩).run Tryd.prog w = .ok (.int .i64 e) w := by simp [go_sem, c]
  simp [results, h, hp', hq', asAddr, hl]
/-- The world of Known behind its first lines. -/
structure NW (w : World) (c : Int) (sv : Value) (e : Int) (X : World) : Prop where
  box : Has X w.heap.size #[.int .i64 c, sv] 24
  e : Has X (w.heap.size + 1) #[.int .i64 e] 27
  below : Below w.heap.size w X
theorem NW.grow {w : World} {c : Int} {sv : Value} {e : Int} {X X' : World} (h : NW w c sv e X) (k : Below X.heap.size X X') : NW w c sv e X' :=
  ⟨h.box.below k h.box.lt, h.e.below k h.e.lt, h.below.trans (k.mono h.below.size)⟩
theorem NW.set {w : World} {c : Int} {sv : Value} {e : Int} {X : World} (h : NW w c sv e X) (e' : Int) : NW w c sv e' (X.setCell ⟨w.heap.size + 1, 0, none⟩ (.int .i64 e')) :=
  ⟨h.box.ex (Ex.set _ _ _ _) (by omega), h.e.set 0 _, Below.ex h.below h.below.size (Ex.set _ _ _ _) (by omega)⟩
theorem KnS.exW {X X' : World} {v : Value} {n b : Nat} {ks : Nat → Kn} {z : Int} (h : KnS X v n ks) (hn : 1 ≤ n) (hc : X.cell? ⟨b, 0, none⟩ = some (.int .i64 z)) (k : Ex b X X') : KnS X' v n ks := by
  obtain ⟨g, cap, h1, h2, h3, h4⟩ := h
  have hne : g ≠ b := fun e => by
    subst e
    have := h4 0 hn 0 (.bool (ks 0).come) rfl
    rw [show (0 * 31 + 0 : Nat) = 0 from rfl, hc] at this
    cases this
  exact ⟨g, cap, h1, h2, Nat.lt_of_lt_of_le h3 k.size, fun j hj => range_eq (h4 j hj) (k.block g h3 hne)⟩
def wrongE : Option Wrong → Int
  | some x => x.errno
  | none => 164
theorem chk_len {c : Int} {l : List Ins} (h : chkE c l = 0) : l.length ≤ 256 := by
  unfold chkE at h
  split at h
  · cases h
  · split at h
    · split at h
      · cases h
      · omega
    · cases h
theorem chk_ctx {c : Int} {l : List Ins} (h : chkE c l = 0) : 0 ≤ c ∧ c ≤ 256 := by
  unfold chkE at h
  split at h
  · cases h
  · omega
theorem chk_may {c : Int} {l : List Ins} (h : chkE c l = 0) {i : Ins} (hi : i ∈ l) (hu : i.imm < 4294967296) : MayI i := by
  have hall : l.all Ins.may = true := by
    unfold chkE at h
    split at h
    · cases h
    · split at h
      · assumption
      · cases h
  exact ⟨mayB_iff.1 (List.all_eq_true.1 hall i hi), hu⟩
set_option maxRecDepth 10000 in
set_option maxHeartbeats 4000000 in
theorem known_bad (c : Int) (sv : Value) (l : List Ins) (w : World) (hG : Glob w) (hP : Prg w sv l) (hl : l.length ≤ 1000000000) (E : Int) (hEE : chkE c l = E) (hE : E ≠ 0) :
    Calls Tryd.prog 13 #[.agg #[.int .i64 c, sv]] w fun e w' => e = .returned (.tuple #[.slice none 0 0, .int .i64 E]) ∧ Below w.heap.size w w' := by
  obtain ⟨W0, hW0⟩ : ∃ W0, W0 = (w.alloc (.cells #[.int .i64 c, sv] 24)).alloc (.cells #[.int .i64 0] 27) := ⟨_, rfl⟩
  have hN : NW w c sv 0 W0 := by
    rw [hW0]
    exact ⟨has_old (has_new _ _ _ _ rfl), has_new _ _ _ _ (by simp), ((Below.refl _ _).alloc (Nat.le_refl _) _).alloc (by simp) _⟩
  go_enter_defers Tryd.func13, Tryd.ntmps13
  go_upto_region 1 with fail
  refine named2 (p := fun X => Code.wp _ _ _ _ X) ?_
  intro W9 hW9
  have hW : W0 = W9 := hW0.trans hW9.symm
  subst hW
  clear hW9 hW0
  have hck := check_any c sv l W0 (hP.below (hN.below)) (hG.below hN.below hG.size) hl
  have hb0 := hN.box
  have c0 := hb0.cell 0
  have c1 := hb0.cell 1
  rw [hEE] at hck
  have HE : Hid (E ≠ 0) := hE
  clear hP hG hl hE hEE
  go_upto_region 2 with (go_at_call 25; refine hck.mono ?_; rintro e W1 ⟨rfl, hB1⟩; clear hck c0 c1; have hN1 := hN.grow hB1; have g0 := hN1.e.cell 0; have f0 := hN1.e.free 0)
  have hN2 := hN1.set E
  clear hN hN1 hb0 hB1 g0 f0
  generalize W1.setCell ⟨w.heap.size + 1, 0, none⟩ (.int .i64 E) = W2 at *
  have hE' : (E != 0) = true := by simpa using HE.out
  have g0 : W2.cell? ⟨w.heap.size + 1, 0, none⟩ = some (.int .i64 E) := hN2.e.cell 0
  go_wp2_with fail
  clear g0 hE' HE
  refine wp_region_inv (Φ := fun l vs X => Vals (fun q => match q with | 0 => some (.int .i64 E) | 1 => some (.slice none 0 0) | _ => none) l vs ∧ Pre1 2 (Below W2.heap.size W2) (NW w c sv E) l X) (PQ := fun _ _ => False)
    (by kernel_rfl) (by kernel_rfl) (by kernel_rfl) (by kernel_rfl) ⟨Vals.none _ _, Pre1.start ((Below.refl _ _).drew)⟩ ?hop ?hend (fun _ _ _ _ h => h.elim)
  case hop =>
    refine ⟨?_, ?_, ?_, trivial⟩
    · intro l vs X A hA ⟨hV, hS⟩ hl hd hcl
      have hk := nY 2 hcl hl
      have hX := hS.1 hk
      have hB := hX
      have a3 := eO hA 3 rfl
      have cc : X.cell? ⟨w.heap.size + 1, 0, none⟩ = some (.int .i64 E) := (hN2.grow hB).e.cell 0
      refine show_value (v := .int .i64 E) (X' := X) ?_ ⟨hV.upd (fun _ h => Option.some.inj h), Pre1.keep hk (by decide) (hX)⟩
      generalize A.eval = ρ at *
      clear hA hl hd hcl hV hS hX hB
      go_simp
    · intro l vs X A hA ⟨hV, hS⟩ hl hd hcl
      have hk := nY 2 hcl hl
      have hX := hS.1 hk
      have hB := hX
      have aC0 : A.eval (.const (.slice none 0 0)) = (.slice none 0 0) := rfl
      refine show_value (v := .slice none 0 0) (X' := X) ?_ ⟨hV.upd (fun _ h => Option.some.inj h), Pre1.keep hk (by decide) (hX)⟩
      generalize A.eval = ρ at *
      clear hA hl hd hcl hV hS
      go_simp
    · intro l vs X A hA ⟨hV, hS⟩ hl hd hcl
      have hX := hS.1 hl
      have hB := hX
      have a3 := eO hA 3 rfl
      have a8 := eN hA 8 0 hd hV rfl
      have hg := hN2.grow hB
      have cc : X.cell? ⟨w.heap.size + 1, 0, none⟩ = some (.int .i64 E) := hg.e.cell 0
      have ff : X.frozen? ⟨w.heap.size + 1, 0, none⟩ = false := hg.e.free 0
      refine show_skip (X' := X.setCell ⟨w.heap.size + 1, 0, none⟩ (.int .i64 E)) ?_ ⟨hV.upd (fun _ h => by cases h), Pre1.last (hg.set E)⟩
      generalize A.eval = ρ at *
      clear hA hl hd hcl hV hS hX hB
      go_simp
  case hend =>
    intro l vs X hl ⟨hV, hS⟩
    have hX := hS.2 (hl 2 (by decide))
    have v0 := hV 0 _ (hl 0 (by decide)) rfl
    have v1 := hV 1 _ (hl 1 (by decide)) rfl
    clear hV hS hl
    simp only [canonL, if_true, v0, v1]
    clear v0 v1
    go_simp
    go_wp2_with fail
    refine ⟨.tuple #[.slice none 0 0, .int .i64 E], ?_, rfl, hX.below⟩
    exact results_known rfl _ _ (w.heap.size + 1) rfl rfl hX.e
set_option maxRecDepth 10000 in
set_option maxHeartbeats 4000000 in
theorem known_empty (c : Int) (sv : Value) (l : List Ins) (w : World) (hG : Glob w) (hP : Prg w sv l) (hl : l.length ≤ 1000000000) (hE : chkE c l = 0) (hl0 : l = []) :
    Calls Tryd.prog 13 #[.agg #[.int .i64 c, sv]] w fun e w' => e = .returned (.tuple #[.slice none 0 0, .int .i64 160]) ∧ Below w.heap.size w w' := by
  obtain ⟨W0, hW0⟩ : ∃ W0, W0 = (w.alloc (.cells #[.int .i64 c, sv] 24)).alloc (.cells #[.int .i64 0] 27) := ⟨_, rfl⟩
  have hN : NW w c sv 0 W0 := by
    rw [hW0]
    exact ⟨has_old (has_new _ _ _ _ rfl), has_new _ _ _ _ (by simp), ((Below.refl _ _).alloc (Nat.le_refl _) _).alloc (by simp) _⟩
  go_enter_defers Tryd.func13, Tryd.ntmps13
  go_upto_region 1 with fail
  refine named2 (p := fun X => Code.wp _ _ _ _ X) ?_
  intro W9 hW9
  have hW : W0 = W9 := hW0.trans hW9.symm
  subst hW
  clear hW9 hW0
  have hck := check_any c sv l W0 (hP.below (hN.below)) (hG.below hN.below hG.size) hl
  have hb0 := hN.box
  have c0 := hb0.cell 0
  have c1 := hb0.cell 1
  obtain ⟨a, cap, b, o, rfl, ha, hI, hb⟩ := hP
  subst hl0
  clear ha hI hb hG hl
  rw [hE] at hck
  clear hE
  go_upto_region 2 with (go_at_call 25; refine hck.mono ?_; rintro e W1 ⟨rfl, hB1⟩; clear hck c0 c1; have hN1 := hN.grow hB1; have g0 := hN1.e.cell 0; have f0 := hN1.e.free 0)
  have hN2 := hN1.set 0
  clear hN hN1 hb0 g0 f0 hB1
  generalize W1.setCell ⟨w.heap.size + 1, 0, none⟩ (.int .i64 0) = W2 at *
  have g0 : W2.cell? ⟨w.heap.size + 1, 0, none⟩ = some (.int .i64 0) := hN2.e.cell 0
  have f0 := hN2.e.free 0
  have c0 : W2.cell? ⟨w.heap.size, 0, none⟩ = some (.int .i64 c) := hN2.box.cell 0
  have c1 : W2.cell? ⟨w.heap.size, 1, none⟩ = some (.slice a 0 cap) := hN2.box.cell 1
  have HF : Hid (NW w c (.slice a 0 cap) 160 (W2.setCell ⟨w.heap.size + 1, 0, none⟩ (.int .i64 160))) := hN2.set 160
  clear hN2
  go_wp2_with fail
  have hF := HF.out
  refine ⟨.tuple #[.slice none 0 0, .int .i64 160], ?_, rfl, hF.below⟩
  exact results_known rfl _ _ (w.heap.size + 1) rfl rfl hF.e
set_option maxRecDepth 10000 in
set_option maxHeartbeats 4000000 in
theorem known_ok (c : Int) (sv : Value) (l : List Ins) (w : World) (hG : Glob w) (hP : Prg w sv l) (hl : l.length ≤ 1000000000) (hu : ∀ i, i ∈ l → i.imm < 4294967296) (hE : chkE c l = 0) (hl0 : l ≠ []) (ws : Nat → Kn) (hAE : aheadE l.length c l 0 startW = .ok ws) :
    Calls Tryd.prog 13 #[.agg #[.int .i64 c, sv]] w fun e w' => ∃ v, e = .returned (.tuple #[v, .int .i64 0]) ∧ KnS w' v l.length ws ∧ Below w.heap.size w w' := by
  obtain ⟨W0, hW0⟩ : ∃ W0, W0 = (w.alloc (.cells #[.int .i64 c, sv] 24)).alloc (.cells #[.int .i64 0] 27) := ⟨_, rfl⟩
  have hN : NW w c sv 0 W0 := by
    rw [hW0]
    exact ⟨has_old (has_new _ _ _ _ rfl), has_new _ _ _ _ (by simp), ((Below.refl _ _).alloc (Nat.le_refl _) _).alloc (by simp) _⟩
  go_enter_defers Tryd.func13, Tryd.ntmps13
  go_upto_region 1 with fail
  refine named2 (p := fun X => Code.wp _ _ _ _ X) ?_
  intro W9 hW9
  have hW : W0 = W9 := hW0.trans hW9.symm
  subst hW
  clear hW9 hW0
  have hck := check_any c sv l W0 (hP.below (hN.below)) (hG.below hN.below hG.size) hl
  have hb0 := hN.box
  have c0 := hb0.cell 0
  have c1 := hb0.cell 1
  have hP2 : ∀ X, Below w.heap.size w X → Prg X sv l := fun X hX => hP.below hX
  obtain ⟨a, cap, b, o, rfl, ha, hI, hb⟩ := hP
  have hmi : ∀ i, i ∈ l → MayI i := fun i hi => chk_may hE hi (hu i hi)
  have h256 := chk_len hE
  have hl1 : 1 ≤ l.length := by
    cases l with
    | nil => exact absurd rfl hl0
    | cons i r => simp
  clear ha hI hb hl
  rw [hE] at hck
  clear hE
  go_upto_region 2 with (go_at_call 25; refine hck.mono ?_; rintro e W1 ⟨rfl, hB1⟩; clear hck c0 c1; have hN1 := hN.grow hB1; have g0 := hN1.e.cell 0; have f0 := hN1.e.free 0)
  have hN2 := hN1.set 0
  clear hN hN1 hb0 g0 f0 hB1
  generalize W1.setCell ⟨w.heap.size + 1, 0, none⟩ (.int .i64 0) = W2 at *
  have g0 : W2.cell? ⟨w.heap.size + 1, 0, none⟩ = some (.int .i64 0) := hN2.e.cell 0
  have f0 := hN2.e.free 0
  have c0 : W2.cell? ⟨w.heap.size, 0, none⟩ = some (.int .i64 c) := hN2.box.cell 0
  have c1 : W2.cell? ⟨w.heap.size, 1, none⟩ = some (.slice a l.length cap) := hN2.box.cell 1
  have hla : ((l.length : Int) == 0) = false := by simp; omega
  have hmf : ∀ (fn : Fn) (first cap : Array Value) (w : World), (Instr.makeFunc fn first cap).run Tryd.prog w = .ok (.func fn first cap) w := fun _ _ _ _ => rfl
  have hah := ahead_any c (.slice a l.length cap) l W2 (hP2 W2 hN2.below) hl1 h256 hmi
  rw [hAE] at hah
  have hl2 : Hid (1 ≤ l.length) := hl1
  clear hP2 hl1 hmi h256 hu hl0 hAE hG
  go_wp2_with (go_at_call 28; refine hah.mono ?_; rintro e W3 ⟨⟨v, rfl, hkv⟩, hB3⟩; clear hah; have hN3 := hN2.grow hB3; have q0 := hN3.e.cell 0; have r0 := hN3.e.free 0)
  have hN4 := hN3.set 0
  have q1 : W3.cell? ⟨w.heap.size + 1, 0, none⟩ = some (.int .i64 0) := hN3.e.cell 0
  clear q0 r0 hN3
  refine leaves_cons (f := 26) (args := #[.pointer (some ⟨w.heap.size + 1, 0, none⟩)]) (by simp) (by simp [go_sem]) ?_
  refine (catch_idleK ⟨w.heap.size + 1, 0, none⟩ 0 _ (hN4.e.cell 0) (hN4.e.free 0)).mono ?_
  rintro e u' w'' ⟨rfl, rfl, rfl⟩
  have hF := hN4.set 0
  have hkw : KnS ((W3.setCell ⟨w.heap.size + 1, 0, none⟩ (.int .i64 0)).setCell ⟨w.heap.size + 1, 0, none⟩ (.int .i64 0)) v l.length ws := (hkv.exW hl2.out q1 (Ex.set _ _ _ _)).exW hl2.out (hN4.e.cell 0) (Ex.set _ _ _ _)
  exact ⟨_, results_known (v := v) rfl _ _ (w.heap.size + 1) rfl rfl hF.e, v, rfl, hkw, hF.below⟩
set_option maxRecDepth 10000 in
set_option maxHeartbeats 4000000 in
theorem known_no (c : Int) (sv : Value) (l : List Ins) (w : World) (hG : Glob w) (hP : Prg w sv l) (hl : l.length ≤ 1000000000) (hu : ∀ i, i ∈ l → i.imm < 4294967296) (hE : chkE c l = 0) (hl0 : l ≠ []) (x : Wrong) (hAE : aheadE l.length c l 0 startW = .error (some x)) :
    Calls Tryd.prog 13 #[.agg #[.int .i64 c, sv]] w fun e w' => e = .returned (.tuple #[.slice none 0 0, .int .i64 (x.errno)]) ∧ Below w.heap.size w w' := by
  obtain ⟨W0, hW0⟩ : ∃ W0, W0 = (w.alloc (.cells #[.int .i64 c, sv] 24)).alloc (.cells #[.int .i64 0] 27) := ⟨_, rfl⟩
  have hN : NW w c sv 0 W0 := by
    rw [hW0]
    exact ⟨has_old (has_new _ _ _ _ rfl), has_new _ _ _ _ (by simp), ((Below.refl _ _).alloc (Nat.le_refl _) _).alloc (by simp) _⟩
  go_enter_defers Tryd.func13, Tryd.ntmps13
  go_upto_region 1 with fail
  refine named2 (p := fun X => Code.wp _ _ _ _ X) ?_
  intro W9 hW9
  have hW : W0 = W9 := hW0.trans hW9.symm
  subst hW
  clear hW9 hW0
  have hck := check_any c sv l W0 (hP.below (hN.below)) (hG.below hN.below hG.size) hl
  have hb0 := hN.box
  have c0 := hb0.cell 0
  have c1 := hb0.cell 1
  have hP2 : ∀ X, Below w.heap.size w X → Prg X sv l := fun X hX => hP.below hX
  obtain ⟨a, cap, b, o, rfl, ha, hI, hb⟩ := hP
  have hmi : ∀ i, i ∈ l → MayI i := fun i hi => chk_may hE hi (hu i hi)
  have h256 := chk_len hE
  have hl1 : 1 ≤ l.length := by
    cases l with
    | nil => exact absurd rfl hl0
    | cons i r => simp
  clear ha hI hb hl
  rw [hE] at hck
  clear hE
  go_upto_region 2 with (go_at_call 25; refine hck.mono ?_; rintro e W1 ⟨rfl, hB1⟩; clear hck c0 c1; have hN1 := hN.grow hB1; have g0 := hN1.e.cell 0; have f0 := hN1.e.free 0)
  have hN2 := hN1.set 0
  clear hN hN1 hb0 g0 f0 hB1
  generalize W1.setCell ⟨w.heap.size + 1, 0, none⟩ (.int .i64 0) = W2 at *
  have g0 : W2.cell? ⟨w.heap.size + 1, 0, none⟩ = some (.int .i64 0) := hN2.e.cell 0
  have f0 := hN2.e.free 0
  have c0 : W2.cell? ⟨w.heap.size, 0, none⟩ = some (.int .i64 c) := hN2.box.cell 0
  have c1 : W2.cell? ⟨w.heap.size, 1, none⟩ = some (.slice a l.length cap) := hN2.box.cell 1
  have hla : ((l.length : Int) == 0) = false := by simp; omega
  have hmf : ∀ (fn : Fn) (first cap : Array Value) (w : World), (Instr.makeFunc fn first cap).run Tryd.prog w = .ok (.func fn first cap) w := fun _ _ _ _ => rfl
  have hah := ahead_any c (.slice a l.length cap) l W2 (hP2 W2 hN2.below) hl1 h256 hmi
  rw [hAE] at hah
  have hl2 : Hid (1 ≤ l.length) := hl1
  clear hP2 hl1 hmi h256 hu hl0 hAE hG
  have ht : ∀ w, Calls Tryd.prog 27 #[.iface x.ty (.agg #[])] w fun e w' => e = .returned (.int .i64 (x.errno)) ∧ w = w' := told_wrong x
  go_wp2_with (go_at_call 28; refine hah.mono ?_; rintro e W3 ⟨rfl, hB3⟩; clear hah)
  have hN3 := hN2.grow hB3
  rw [Wrong.entry_eq]
  refine leaves_cons (f := 26) (args := #[.pointer (some ⟨w.heap.size + 1, 0, none⟩)]) (by simp) (by simp [go_sem]) ?_
  refine (catch_panicK ⟨w.heap.size + 1, 0, none⟩ 0 (x.errno) x.ty (.agg #[]) _ (hN3.e.cell 0) (hN3.e.free 0) ht).mono ?_
  rintro e u' w'' ⟨rfl, rfl, rfl⟩
  have hF := hN3.set (x.errno)
  exact ⟨_, results_known (v := .slice none 0 0) rfl _ _ (w.heap.size + 1) rfl rfl hF.e, rfl, hF.below⟩
set_option maxRecDepth 10000 in
set_option maxHeartbeats 4000000 in
theorem known_astray (c : Int) (sv : Value) (l : List Ins) (w : World) (hG : Glob w) (hP : Prg w sv l) (hl : l.length ≤ 1000000000) (hu : ∀ i, i ∈ l → i.imm < 4294967296) (hE : chkE c l = 0) (hl0 : l ≠ []) (hAE : aheadE l.length c l 0 startW = .error (none)) :
    Calls Tryd.prog 13 #[.agg #[.int .i64 c, sv]] w fun e w' => e = .returned (.tuple #[.slice none 0 0, .int .i64 (164)]) ∧ Below w.heap.size w w' := by
  obtain ⟨W0, hW0⟩ : ∃ W0, W0 = (w.alloc (.cells #[.int .i64 c, sv] 24)).alloc (.cells #[.int .i64 0] 27) := ⟨_, rfl⟩
  have hN : NW w c sv 0 W0 := by
    rw [hW0]
    exact ⟨has_old (has_new _ _ _ _ rfl), has_new _ _ _ _ (by simp), ((Below.refl _ _).alloc (Nat.le_refl _) _).alloc (by simp) _⟩
  go_enter_defers Tryd.func13, Tryd.ntmps13
  go_upto_region 1 with fail
  refine named2 (p := fun X => Code.wp _ _ _ _ X) ?_
  intro W9 hW9
  have hW : W0 = W9 := hW0.trans hW9.symm
  subst hW
  clear hW9 hW0
  have hck := check_any c sv l W0 (hP.below (hN.below)) (hG.below hN.below hG.size) hl
  have hb0 := hN.box
  have c0 := hb0.cell 0
  have c1 := hb0.cell 1
  have hP2 : ∀ X, Below w.heap.size w X → Prg X sv l := fun X hX => hP.below hX
  obtain ⟨a, cap, b, o, rfl, ha, hI, hb⟩ := hP
  have hmi : ∀ i, i ∈ l → MayI i := fun i hi => chk_may hE hi (hu i hi)
  have h256 := chk_len hE
  have hl1 : 1 ≤ l.length := by
    cases l with
    | nil => exact absurd rfl hl0
    | cons i r => simp
  clear ha hI hb hl
  rw [hE] at hck
  clear hE
  go_upto_region 2 with (go_at_call 25; refine hck.mono ?_; rintro e W1 ⟨rfl, hB1⟩; clear hck c0 c1; have hN1 := hN.grow hB1; have g0 := hN1.e.cell 0; have f0 := hN1.e.free 0)
  have hN2 := hN1.set 0
  clear hN hN1 hb0 g0 f0 hB1
  generalize W1.setCell ⟨w.heap.size + 1, 0, none⟩ (.int .i64 0) = W2 at *
  have g0 : W2.cell? ⟨w.heap.size + 1, 0, none⟩ = some (.int .i64 0) := hN2.e.cell 0
  have f0 := hN2.e.free 0
  have c0 : W2.cell? ⟨w.heap.size, 0, none⟩ = some (.int .i64 c) := hN2.box.cell 0
  have c1 : W2.cell? ⟨w.heap.size, 1, none⟩ = some (.slice a l.length cap) := hN2.box.cell 1
  have hla : ((l.length : Int) == 0) = false := by simp; omega
  have hmf : ∀ (fn : Fn) (first cap : Array Value) (w : World), (Instr.makeFunc fn first cap).run Tryd.prog w = .ok (.func fn first cap) w := fun _ _ _ _ => rfl
  have hah := ahead_any c (.slice a l.length cap) l W2 (hP2 W2 hN2.below) hl1 h256 hmi
  rw [hAE] at hah
  have hl2 : Hid (1 ≤ l.length) := hl1
  clear hP2 hl1 hmi h256 hu hl0 hAE hG
  have ht : ∀ w, Calls Tryd.prog 27 #[.iface 95 (.agg #[])] w fun e w' => e = .returned (.int .i64 (164)) ∧ w = w' := told_astray
  go_wp2_with (go_at_call 28; refine hah.mono ?_; rintro e W3 ⟨rfl, hB3⟩; clear hah)
  have hN3 := hN2.grow hB3
  refine leaves_cons (f := 26) (args := #[.pointer (some ⟨w.heap.size + 1, 0, none⟩)]) (by simp) (by simp [go_sem]) ?_
  refine (catch_panicK ⟨w.heap.size + 1, 0, none⟩ 0 (164) 95 (.agg #[]) _ (hN3.e.cell 0) (hN3.e.free 0) ht).mono ?_
  rintro e u' w'' ⟨rfl, rfl, rfl⟩
  have hF := hN3.set (164)
  exact ⟨_, results_known (v := .slice none 0 0) rfl _ _ (w.heap.size + 1) rfl rfl hF.e, rfl, hF.below⟩
theorem knownE_bad {c : Int} {l : List Ins} (h : chkE c l ≠ 0) : knownE c l = chkE c l := by unfold knownE; rw [if_pos h]
theorem knownE_empty {c : Int} {l : List Ins} (h : chkE c l = 0) (h0 : l = []) : knownE c l = 160 := by unfold knownE; rw [if_neg (by rw [h]; decide), if_pos h0]
theorem knownE_ok {c : Int} {l : List Ins} (h : chkE c l = 0) (h0 : l ≠ []) {ws : Nat → Kn} (ha : aheadE l.length c l 0 startW = .ok ws) : knownE c l = 0 := by unfold knownE; rw [if_neg (by rw [h]; decide), if_neg h0, ha]
theorem knownE_no {c : Int} {l : List Ins} (h : chkE c l = 0) (h0 : l ≠ []) {x : Option Wrong} (ha : aheadE l.length c l 0 startW = .error x) : knownE c l = wrongE x := by
  unfold knownE
  rw [if_neg (by rw [h]; decide), if_neg h0, ha]
  cases x <;> rfl
theorem wrongE_ne (x : Option Wrong) : wrongE x ≠ 0 := by
  cases x with
  | none => decide
  | some x => cases x <;> decide
/-- What Known answers. -/
theorem known_any (c : Int) (sv : Value) (l : List Ins) (w : World) (hG : Glob w) (hP : Prg w sv l) (hl : l.length ≤ 1000000000) (hu : ∀ i, i ∈ l → i.imm < 4294967296) :
    Calls Tryd.prog 13 #[.agg #[.int .i64 c, sv]] w fun e w' => ∃ v, e = .returned (.tuple #[v, .int .i64 (knownE c l)]) ∧ (knownE c l = 0 → ∃ ws, aheadE l.length c l 0 startW = .ok ws ∧ KnS w' v l.length ws) ∧ (knownE c l ≠ 0 → v = .slice none 0 0) ∧ Below w.heap.size w w' := by
  by_cases hE : chkE c l = 0
  · by_cases h0 : l = []
    · refine (known_empty c sv l w hG hP hl hE h0).mono ?_
      rintro e w' ⟨rfl, hB⟩
      have hk := knownE_empty hE h0
      exact ⟨_, by rw [hk], (fun h => by rw [hk] at h; cases h), fun _ => rfl, hB⟩
    · cases ha : aheadE l.length c l 0 startW with
      | ok ws =>
        refine (known_ok c sv l w hG hP hl hu hE h0 ws ha).mono ?_
        rintro e w' ⟨v, rfl, hv, hB⟩
        have hk := knownE_ok hE h0 ha
        exact ⟨v, by rw [hk], fun _ => ⟨ws, rfl, hv⟩, (fun h => absurd hk h), hB⟩
      | error x =>
        have hk := knownE_no hE h0 ha
        have hn := wrongE_ne x
        cases x with
        | some x =>
          refine (known_no c sv l w hG hP hl hu hE h0 x ha).mono ?_
          rintro e w' ⟨rfl, hB⟩
          exact ⟨_, by rw [hk]; rfl, (fun h => absurd (hk.symm.trans h) hn), fun _ => rfl, hB⟩
        | none =>
          refine (known_astray c sv l w hG hP hl hu hE h0 ha).mono ?_
          rintro e w' ⟨rfl, hB⟩
          exact ⟨_, by rw [hk]; rfl, (fun h => absurd (hk.symm.trans h) hn), fun _ => rfl, hB⟩
  · refine (known_bad c sv l w hG hP hl _ rfl hE).mono ?_
    rintro e w' ⟨rfl, hB⟩
    have hk := knownE_bad hE
    exact ⟨_, by rw [hk], (fun h => absurd (hk.symm.trans h) hE), fun _ => rfl, hB⟩
set_option maxRecDepth 10000 in
set_option maxHeartbeats 1000000 in
theorem checkp_any (c : Int) (sv : Value) (l : List Ins) (w : World) (hG : Glob w) (hP : Prg w sv l) (hl : l.length ≤ 1000000000) (hu : ∀ i, i ∈ l → i.imm < 4294967296) :
    Calls Tryd.prog 15 #[.agg #[.int .i64 c, sv]] w fun e w' => e = .returned (.int .i64 (knownE c l)) ∧ Below w.heap.size w w' := by
  have h1 : Has (w.alloc (.cells #[.int .i64 c, sv] 24)) w.heap.size #[.int .i64 c, sv] 24 := has_new _ _ _ _ rfl
  have hB0 : Below w.heap.size w (w.alloc (.cells #[.int .i64 c, sv] 24)) := (Below.refl _ _).alloc (Nat.le_refl _) _
  have hk := known_any c sv l _ (hG.below hB0 hG.size) (hP.below hB0) hl hu
  generalize knownE c l = E at *
  have HB : Hid (Below w.heap.size w (w.alloc (.cells #[.int .i64 c, sv] 24))) := hB0
  have c0 := h1.cell 0
  have c1 := h1.cell 1
  clear hP hG hl hu hB0
  go_enter Tryd.func15, Tryd.ntmps15
  go_wp2_with (go_at_call 13; refine hk.mono ?_; rintro e W1 ⟨v, rfl, hv1, hv2, hB1⟩; clear hk hv1 hv2)
  go_ret
  exact ⟨rfl, HB.out.trans (hB1.mono HB.out.size)⟩
end Go.Proofs.YtodkehpldlmgaaaDoor
/- An extension that may run, one that may not. -/
namespace Go.Proofs.YtodkehpldlmgaaaDoor
open Go.RowKit

/-- The cells of instructions. -/
def insCells (l : List Ins) : List Value := (l.map Ins.cells).flatten
theorem insCells_at : ∀ (l : List Ins) (k j : Nat) (i : Ins), l[k]? = some i → j < 5 → (insCells l)[k * 5 + j]? = i.cells[j]? := by
  intro l
  induction l with
  | nil => intro k j i h; simp at h
  | cons x l ih =>
    intro k j i h hj
    have e : insCells (x :: l) = x.cells ++ insCells l := by simp [insCells]
    have hl : x.cells.length = 5 := rfl
    rw [e]
    cases k with
    | zero =>
      obtain rfl : x = i := by simpa using h
      rw [List.getElem?_append_left (by omega)]; congr 1; omega
    | succ k =>
      rw [List.getElem?_append_right (by omega), ← ih k j i (by simpa using h) hj]
      congr 1; omega
theorem insAt_has {w : World} {b : Nat} {l : List Ins} {cs : Array Value} {t : Nat} (hh : Has w b cs t) (hc : cs = (insCells l).toArray) : InsAt w b 0 l := by
  subst hc
  have key : ∀ k j i v, l[k]? = some i → j < 5 → i.cells[j]? = some v → w.cell? ⟨b, 0 + k * 5 + j, none⟩ = some v := fun k j i v h hj hv => by
    rw [hh.cell, Nat.zero_add, List.getElem?_toArray, insCells_at l k j i h hj, hv]
  exact ⟨fun k i h => key k 0 i _ h (by decide) rfl, fun k i h => key k 1 i _ h (by decide) rfl, fun k i h => key k 2 i _ h (by decide) rfl, fun k i h => key k 3 i _ h (by decide) rfl, fun k i h => key k 4 i _ h (by decide) rfl⟩
theorem prg_has {w : World} {b : Nat} {l : List Ins} {cs : Array Value} {t : Nat} (hh : Has w b cs t) (hc : cs = (insCells l).toArray) (n : Nat) (hn : n = l.length) : Prg w (.slice (some ⟨b, 0, none⟩) n n) l := by
  subst hn
  exact ⟨_, _, b, 0, rfl, fun _ => rfl, insAt_has hh hc, hh.lt⟩
def knownP : List Ins := [⟨23, 0, 0, 0, 0⟩, ⟨21, 0, 0, 1, 4⟩, ⟨1, 0, 0, 0, 0⟩, ⟨16, 0, 0, 0, 0⟩, ⟨24, 0, 0, 0, 0⟩]
def knownQ : List Ins := [⟨24, 0, 0, 0, 0⟩]
set_option maxRecDepth 100000 in
theorem knownP_is : knownE 4 knownP = 0 := by kernel_rfl
set_option maxRecDepth 100000 in
theorem knownQ_is : knownE 0 knownQ = 161 := by kernel_rfl
theorem knownP_imm : ∀ i, i ∈ knownP → i.imm < 4294967296 := by decide
theorem knownQ_imm : ∀ i, i ∈ knownQ → i.imm < 4294967296 := by decide
set_option maxRecDepth 10000 in
set_option maxHeartbeats 1000000 in
theorem knownl_any (w : World) (hG : Glob w) : Calls Tryd.prog 12 #[] w fun e w' => e = .returned (.bool true) ∧ Below w.heap.size w w' := by
  obtain ⟨W0, hW0⟩ : ∃ W0, W0 = (((w.alloc (.cells #[.int .i64 23, .int .i64 0, .int .i64 0, .int .i64 0, .int .u32 0, .int .i64 21, .int .i64 0, .int .i64 0, .int .i64 1, .int .u32 4, .int .i64 1, .int .i64 0, .int .i64 0, .int .i64 0, .int .u32 0, .int .i64 16, .int .i64 0, .int .i64 0, .int .i64 0, .int .u32 0, .int .i64 24, .int .i64 0, .int .i64 0, .int .i64 0, .int .u32 0] 38)).alloc (.cells #[.int .i64 4, .slice (some ⟨w.heap.size, 0, none⟩) 5 5] 24)).alloc (.cells #[.int .i64 24, .int .i64 0, .int .i64 0, .int .i64 0, .int .u32 0] 38)).alloc (.cells #[.int .i64 0, .slice (some ⟨w.heap.size + 2, 0, none⟩) 1 1] 24) := ⟨_, rfl⟩
  have h0 : Has W0 w.heap.size #[.int .i64 23, .int .i64 0, .int .i64 0, .int .i64 0, .int .u32 0, .int .i64 21, .int .i64 0, .int .i64 0, .int .i64 1, .int .u32 4, .int .i64 1, .int .i64 0, .int .i64 0, .int .i64 0, .int .u32 0, .int .i64 16, .int .i64 0, .int .i64 0, .int .i64 0, .int .u32 0, .int .i64 24, .int .i64 0, .int .i64 0, .int .i64 0, .int .u32 0] 38 := by rw [hW0]; exact has_old (has_old (has_old (has_new _ _ _ _ rfl)))
  have h1 : Has W0 (w.heap.size + 1) #[.int .i64 4, .slice (some ⟨w.heap.size, 0, none⟩) 5 5] 24 := by rw [hW0]; exact has_old (has_old (has_new _ _ _ _ (by simp)))
  have h2 : Has W0 (w.heap.size + 2) #[.int .i64 24, .int .i64 0, .int .i64 0, .int .i64 0, .int .u32 0] 38 := by rw [hW0]; exact has_old (has_new _ _ _ _ (by simp))
  have h3 : Has W0 (w.heap.size + 3) #[.int .i64 0, .slice (some ⟨w.heap.size + 2, 0, none⟩) 1 1] 24 := by rw [hW0]; exact has_new _ _ _ _ (by simp)
  have hB0 : Below w.heap.size w W0 := by rw [hW0]; exact ((((Below.refl _ _).alloc (Nat.le_refl _) _).alloc (by simp) _).alloc (by simp; omega) _).alloc (by simp; omega) _
  have hG0 := hG.below hB0 hG.size
  have hP : Prg W0 (.slice (some ⟨w.heap.size, 0, none⟩) 5 5) knownP := prg_has h0 (by kernel_rfl) 5 rfl
  have hQ : Prg W0 (.slice (some ⟨w.heap.size + 2, 0, none⟩) 1 1) knownQ := prg_has h2 (by kernel_rfl) 1 rfl
  have k1 := checkp_any 4 _ knownP W0 hG0 hP (by decide) knownP_imm
  have K2 : Hid (∀ X, Below W0.heap.size W0 X → Calls Tryd.prog 15 #[.agg #[.int .i64 0, .slice (some ⟨w.heap.size + 2, 0, none⟩) 1 1]] X fun e w' => e = .returned (.int .i64 161) ∧ Below X.heap.size X w') := fun X hX => by
    have := checkp_any 0 _ knownQ X (hG0.below hX hG0.size) (hQ.below hX) (by decide) knownQ_imm
    rw [knownQ_is] at this
    exact this
  rw [knownP_is] at k1
  clear hP hQ hG0 hG h0 h2
  go_enter Tryd.func12, Tryd.ntmps12
  go_upto_region 3 with fail
  refine named2 (p := fun X => Code.wp _ _ _ _ X) ?_
  intro W9 hW9
  have hW : W0 = W9 := hW0.trans hW9.symm
  subst hW
  clear hW9 hW0
  have c0 := h1.cell 0
  have c1 := h1.cell 1
  go_wp2_with (first | (go_at_call 15; refine k1.mono ?_; rintro e W1 ⟨rfl, hB1⟩; clear k1 c0 c1; have k2 := K2.out W1 hB1; have h4 := h3.below hB1 h3.lt; have c0 := h4.cell 0; have c1 := h4.cell 1) | (go_at_call 15; refine k2.mono ?_; rintro e W2 ⟨rfl, hB2⟩; clear k2))
  go_ret
  exact ⟨rfl, (hB0.trans (hB1.mono hB0.size)).trans (hB2.mono (Nat.le_trans hB0.size hB1.size))⟩
end Go.Proofs.YtodkehpldlmgaaaDoor
/- Behind, of what may be. -/
namespace Go.Proofs.YtodkehpldlmgaaaDoor
open Go.RowKit

set_option maxRecDepth 10000 in
set_option maxHeartbeats 4000000 in
theorem behind_kn (i : Ins) (c : Int) (k : Kn) (w : World) (hG : Glob w) (hE : chkE c [i] = 0) (hkb : knB k = false) :
    Calls Tryd.prog 17 #[.agg i.a, .int .i64 c, .agg k.a] w fun e w' => e = .returned (.tuple #[.agg (noK).a, .agg (noK).a, .int .i64 2]) ∧ Below w.heap.size w w' := by
  obtain ⟨W0, hW0⟩ : ∃ W0, W0 = ((((w.alloc (.cells i.a 38)).alloc (.cells k.a 43)).alloc (.cells noK.a 43)).alloc (.cells noK.a 43)).alloc (.cells #[.int .i64 0] 27) := ⟨_, rfl⟩
  have hBW : BW w i k noK noK 0 W0 := by
    rw [hW0]
    exact ⟨has_old (has_old (has_old (has_old (has_new _ _ _ _ rfl)))), has_old (has_old (has_old (has_new _ _ _ _ (by simp)))), has_old (has_old (has_new _ _ _ _ (by simp))), has_old (has_new _ _ _ _ (by simp)), has_new _ _ _ _ (by simp),
      (((((Below.refl _ _).alloc (Nat.le_refl _) _).alloc (by simp) _).alloc (by simp <;> omega) _).alloc (by simp <;> omega) _).alloc (by simp <;> omega) _⟩
  go_enter_defers Tryd.func17, Tryd.ntmps17
  go_upto_region 1 with fail
  refine named2 (p := fun X => Code.wp _ _ _ _ X) ?_
  intro W9 hW9
  have hW : W0 = W9 := hW0.trans hW9.symm
  subst hW
  clear hW9 hW0
  have hz := hBW.e.lt
  have hii := hBW.ins
  go_upto_region 2 with (refine wpList_load_row rfl 38 _ rfl w.heap.size rfl 38 #[.int .i64 i.op, .int .i64 i.dst, .int .i64 i.src, .int .i64 i.off, .int .u32 (i.imm : Int)] (0, 0) _ hii Tryd.underlying38 rfl (by kernel_rfl) ?_)
  refine named2 (p := fun X => Code.wp _ _ _ _ X) ?_
  intro W1 hW1
  have hii1 : Has W1 W0.heap.size i.a 38 := by rw [hW1]; exact has_old (has_new _ _ _ _ rfl)
  have h9 : Has W1 (W0.heap.size + 1) #[.int .i64 c, .slice (some ⟨W0.heap.size, 0, none⟩) 1 1] 24 := by rw [hW1]; exact has_new _ _ _ _ (by simp)
  have hB1 : Below W0.heap.size W0 W1 := by rw [hW1]; exact ((Below.refl _ _).alloc (Nat.le_refl _) _).alloc (by simp) _
  have hBW1 := hBW.grow hB1
  have hP : Prg W1 (.slice (some ⟨W0.heap.size, 0, none⟩) 1 1) [i] := prg_one hii1
  have hG1 : Glob W1 := hG.below (hBW.below.trans (hB1.mono hBW.below.size)) hG.size
  have hck := check_any c _ [i] W1 hP hG1 (by simp)
  rw [hE] at hck
  have hkn1 := hBW1.kn
  clear hW1 hii1 hP hG1 hii hz hBW hB1 hE hG
  have c0 := h9.cell 0
  have c1 := h9.cell 1
  have hmb := mayBe_any k
  rw [hkb] at hmb
  clear hkb
  go_upto_region 3 with (first | (go_at_call 25; refine hck.mono ?_; rintro e W2 ⟨rfl, hB2⟩; clear hck c0 c1; have hkn2 := hkn1.below hB2 hkn1.lt) | refine wpList_load_row_if rfl 43 _ rfl (w.heap.size + 1) rfl 43 k.a (0, 0) _ hkn2 Tryd.underlying43 rfl (by kernel_rfl) ?_ | (go_at_call 31; refine (hmb _).mono ?_; rintro e W3 ⟨rfl, hB3⟩; clear hmb))
  have hBW3 := (hBW1.grow hB2).grow hB3
  clear hBW1 hB2 hB3 h9 hkn1 hkn2
  have hn := hBW3.n
  have hj := (hBW3.setN noK).j
  have he := ((hBW3.setN noK).setJ noK).e.cell 0
  have hf := ((hBW3.setN noK).setJ noK).e.free 0
  have HF : Hid (BW w i k noK noK 2 (((W3.setRow (w.heap.size + 2) noK.a).setRow (w.heap.size + 3) noK.a).setCell ⟨w.heap.size + 4, 0, none⟩ (.int .i64 2))) := ((hBW3.setN noK).setJ noK).setE 2
  go_wp2_with (first | refine wpList_store_row rfl 43 _ _ rfl (w.heap.size + 2) noK.a rfl rfl 43 noK.a hn (by kernel_rfl) (by kernel_rfl) (Kn.a_one _) ?_ | refine wpList_store_row rfl 43 _ _ rfl (w.heap.size + 3) noK.a rfl rfl 43 noK.a hj (by kernel_rfl) (by kernel_rfl) (Kn.a_one _) ?_)
  generalize ((W3.setRow (w.heap.size + 2) noK.a).setRow (w.heap.size + 3) noK.a).setCell ⟨w.heap.size + 4, 0, none⟩ (.int .i64 2) = W4 at *
  exact ⟨_, results_three rfl _ _ _ _ _ _ _ rfl rfl rfl HF.out.n HF.out.j HF.out.e, rfl, HF.out.below⟩
set_option maxRecDepth 10000 in
set_option maxHeartbeats 4000000 in
theorem behind_nc (i : Ins) (c : Int) (k : Kn) (w : World) (hG : Glob w) (hE : chkE c [i] = 0) (hkb : knB k = true) (hc : k.come = false) :
    Calls Tryd.prog 17 #[.agg i.a, .int .i64 c, .agg k.a] w fun e w' => e = .returned (.tuple #[.agg (noK).a, .agg (noK).a, .int .i64 0]) ∧ Below w.heap.size w w' := by
  obtain ⟨W0, hW0⟩ : ∃ W0, W0 = ((((w.alloc (.cells i.a 38)).alloc (.cells k.a 43)).alloc (.cells noK.a 43)).alloc (.cells noK.a 43)).alloc (.cells #[.int .i64 0] 27) := ⟨_, rfl⟩
  have hBW : BW w i k noK noK 0 W0 := by
    rw [hW0]
    exact ⟨has_old (has_old (has_old (has_old (has_new _ _ _ _ rfl)))), has_old (has_old (has_old (has_new _ _ _ _ (by simp)))), has_old (has_old (has_new _ _ _ _ (by simp))), has_old (has_new _ _ _ _ (by simp)), has_new _ _ _ _ (by simp),
      (((((Below.refl _ _).alloc (Nat.le_refl _) _).alloc (by simp) _).alloc (by simp <;> omega) _).alloc (by simp <;> omega) _).alloc (by simp <;> omega) _⟩
  go_enter_defers Tryd.func17, Tryd.ntmps17
  go_upto_region 1 with fail
  refine named2 (p := fun X => Code.wp _ _ _ _ X) ?_
  intro W9 hW9
  have hW : W0 = W9 := hW0.trans hW9.symm
  subst hW
  clear hW9 hW0
  have hz := hBW.e.lt
  have hii := hBW.ins
  go_upto_region 2 with (refine wpList_load_row rfl 38 _ rfl w.heap.size rfl 38 #[.int .i64 i.op, .int .i64 i.dst, .int .i64 i.src, .int .i64 i.off, .int .u32 (i.imm : Int)] (0, 0) _ hii Tryd.underlying38 rfl (by kernel_rfl) ?_)
  refine named2 (p := fun X => Code.wp _ _ _ _ X) ?_
  intro W1 hW1
  have hii1 : Has W1 W0.heap.size i.a 38 := by rw [hW1]; exact has_old (has_new _ _ _ _ rfl)
  have h9 : Has W1 (W0.heap.size + 1) #[.int .i64 c, .slice (some ⟨W0.heap.size, 0, none⟩) 1 1] 24 := by rw [hW1]; exact has_new _ _ _ _ (by simp)
  have hB1 : Below W0.heap.size W0 W1 := by rw [hW1]; exact ((Below.refl _ _).alloc (Nat.le_refl _) _).alloc (by simp) _
  have hBW1 := hBW.grow hB1
  have hP : Prg W1 (.slice (some ⟨W0.heap.size, 0, none⟩) 1 1) [i] := prg_one hii1
  have hG1 : Glob W1 := hG.below (hBW.below.trans (hB1.mono hBW.below.size)) hG.size
  have hck := check_any c _ [i] W1 hP hG1 (by simp)
  rw [hE] at hck
  have hkn1 := hBW1.kn
  clear hW1 hii1 hP hG1 hii hz hBW hB1 hE hG
  have c0 := h9.cell 0
  have c1 := h9.cell 1
  have hmb := mayBe_any k
  rw [hkb] at hmb
  clear hkb
  go_upto_region 4 with (first | (go_at_call 25; refine hck.mono ?_; rintro e W2 ⟨rfl, hB2⟩; clear hck c0 c1; have hkn2 := hkn1.below hB2 hkn1.lt) | refine wpList_load_row_if rfl 43 _ rfl (w.heap.size + 1) rfl 43 k.a (0, 0) _ hkn2 Tryd.underlying43 rfl (by kernel_rfl) ?_ | (go_at_call 31; refine (hmb _).mono ?_; rintro e W3 ⟨rfl, hB3⟩; clear hmb))
  have hBW3 := (hBW1.grow hB2).grow hB3
  clear hBW1 hB2 hB3 h9 hkn1 hkn2
  have ck : W3.cell? ⟨w.heap.size + 1, 0, none⟩ = some (.bool k.come) := hBW3.kn.cell 0
  rw [hc] at ck
  go_upto_region 5 with fail
  clear ck
  have hn := hBW3.n
  have hj := (hBW3.setN noK).j
  have he := ((hBW3.setN noK).setJ noK).e.cell 0
  have hf := ((hBW3.setN noK).setJ noK).e.free 0
  have HF : Hid (BW w i k noK noK 0 (((W3.setRow (w.heap.size + 2) noK.a).setRow (w.heap.size + 3) noK.a).setCell ⟨w.heap.size + 4, 0, none⟩ (.int .i64 0))) := ((hBW3.setN noK).setJ noK).setE 0
  go_wp2_with (first | refine wpList_store_row rfl 43 _ _ rfl (w.heap.size + 2) noK.a rfl rfl 43 noK.a hn (by kernel_rfl) (by kernel_rfl) (Kn.a_one _) ?_ | refine wpList_store_row rfl 43 _ _ rfl (w.heap.size + 3) noK.a rfl rfl 43 noK.a hj (by kernel_rfl) (by kernel_rfl) (Kn.a_one _) ?_)
  generalize ((W3.setRow (w.heap.size + 2) noK.a).setRow (w.heap.size + 3) noK.a).setCell ⟨w.heap.size + 4, 0, none⟩ (.int .i64 0) = W4 at *
  exact ⟨_, results_three rfl _ _ _ _ _ _ _ rfl rfl rfl HF.out.n HF.out.j HF.out.e, rfl, HF.out.below⟩
end Go.Proofs.YtodkehpldlmgaaaDoor
/- Behind an instruction that is come to. -/
namespace Go.Proofs.YtodkehpldlmgaaaDoor
open Go.RowKit

set_option maxRecDepth 10000 in
set_option maxHeartbeats 4000000 in
theorem behind_ok (i : Ins) (c : Int) (k : Kn) (n2 j2 : Kn) (w : World) (hG : Glob w) (hE : chkE c [i] = 0) (hkb : knB k = true) (hc : k.come = true) (hm : MayI i) (hK : KnR k) (n : Nat) (hop : i.op = (n : Int)) (ho : outI i c k = .ok (n2, j2)) :
    Calls Tryd.prog 17 #[.agg i.a, .int .i64 c, .agg k.a] w fun e w' => e = .returned (.tuple #[.agg (n2).a, .agg (j2).a, .int .i64 0]) ∧ Below w.heap.size w w' := by
  have hmk : ∀ (v : Value) (X : World), IsMake X n v → MakeOk i c k v X := fun v X hv => make_any i c k v X n hop hm hK hv
  have HN : Hid (1 ≤ n ∧ n ≤ 24) := by
    show _ ∧ _
    have := hm.1.1
    omega
  have HOP : Hid (i.op = (n : Int)) := hop
  have HO : Hid (outI i c k = .ok (n2, j2)) := ho
  clear hm hK hop ho
  obtain ⟨W0, hW0⟩ : ∃ W0, W0 = ((((w.alloc (.cells i.a 38)).alloc (.cells k.a 43)).alloc (.cells noK.a 43)).alloc (.cells noK.a 43)).alloc (.cells #[.int .i64 0] 27) := ⟨_, rfl⟩
  have hBW : BW w i k noK noK 0 W0 := by
    rw [hW0]
    exact ⟨has_old (has_old (has_old (has_old (has_new _ _ _ _ rfl)))), has_old (has_old (has_old (has_new _ _ _ _ (by simp)))), has_old (has_old (has_new _ _ _ _ (by simp))), has_old (has_new _ _ _ _ (by simp)), has_new _ _ _ _ (by simp),
      (((((Below.refl _ _).alloc (Nat.le_refl _) _).alloc (by simp) _).alloc (by simp <;> omega) _).alloc (by simp <;> omega) _).alloc (by simp <;> omega) _⟩
  go_enter_defers Tryd.func17, Tryd.ntmps17
  go_upto_region 1 with fail
  refine named2 (p := fun X => Code.wp _ _ _ _ X) ?_
  intro W9 hW9
  have hW : W0 = W9 := hW0.trans hW9.symm
  subst hW
  clear hW9 hW0
  have hz := hBW.e.lt
  have hii := hBW.ins
  go_upto_region 2 with (refine wpList_load_row rfl 38 _ rfl w.heap.size rfl 38 #[.int .i64 i.op, .int .i64 i.dst, .int .i64 i.src, .int .i64 i.off, .int .u32 (i.imm : Int)] (0, 0) _ hii Tryd.underlying38 rfl (by kernel_rfl) ?_)
  refine named2 (p := fun X => Code.wp _ _ _ _ X) ?_
  intro W1 hW1
  have hii1 : Has W1 W0.heap.size i.a 38 := by rw [hW1]; exact has_old (has_new _ _ _ _ rfl)
  have h9 : Has W1 (W0.heap.size + 1) #[.int .i64 c, .slice (some ⟨W0.heap.size, 0, none⟩) 1 1] 24 := by rw [hW1]; exact has_new _ _ _ _ (by simp)
  have hB1 : Below W0.heap.size W0 W1 := by rw [hW1]; exact ((Below.refl _ _).alloc (Nat.le_refl _) _).alloc (by simp) _
  have hBW1 := hBW.grow hB1
  have hP : Prg W1 (.slice (some ⟨W0.heap.size, 0, none⟩) 1 1) [i] := prg_one hii1
  have hG1 : Glob W1 := hG.below (hBW.below.trans (hB1.mono hBW.below.size)) hG.size
  have hck := check_any c _ [i] W1 hP hG1 (by simp)
  rw [hE] at hck
  have hkn1 := hBW1.kn
  clear hW1 hii1 hP hG1 hii hz hBW hB1 hE hG
  have c0 := h9.cell 0
  have c1 := h9.cell 1
  have hmb := mayBe_any k
  rw [hkb] at hmb
  clear hkb
  go_upto_region 4 with (first | (go_at_call 25; refine hck.mono ?_; rintro e W2 ⟨rfl, hB2⟩; clear hck c0 c1; have hkn2 := hkn1.below hB2 hkn1.lt) | refine wpList_load_row_if rfl 43 _ rfl (w.heap.size + 1) rfl 43 k.a (0, 0) _ hkn2 Tryd.underlying43 rfl (by kernel_rfl) ?_ | (go_at_call 31; refine (hmb _).mono ?_; rintro e W3 ⟨rfl, hB3⟩; clear hmb))
  have hBW3 := (hBW1.grow hB2).grow hB3
  clear hBW1 hB2 hB3 h9 hkn1 hkn2
  have ck : W3.cell? ⟨w.heap.size + 1, 0, none⟩ = some (.bool k.come) := hBW3.kn.cell 0
  rw [hc] at ck
  have hmf : ∀ (fn : Fn) (first cap : Array Value) (w : World), (Instr.makeFunc fn first cap).run Tryd.prog w = .ok (.func fn first cap) w := fun _ _ _ _ => rfl
  go_upto_region 7 with fail
  clear ck hmf hc
  refine wp_region_inv (Φ := fun l vs X => Vals (fun q => match q with | 1 => some (.pointer (some ⟨w.heap.size, 0, none⟩)) | 2 => some (.int .i64 (n : Int)) | 4 => some (.agg i.a) | 5 => some (.int .i64 c) | 6 => some (.agg k.a) | 7 => some (.agg (stA i c k)) | 8 => some (.tuple #[.agg n2.a, .agg j2.a]) | 9 => some (.tuple #[.agg n2.a, .agg j2.a]) | 10 => some (.agg n2.a) | 11 => some (.agg j2.a) | _ => none) l vs ∧ Ph2 12 13 (OpS W3 n) (fun _ X => BW w i k n2 noK 0 X) (fun _ X => BW w i k n2 j2 0 X) l vs X) (PQ := fun _ _ => False)
    (by kernel_rfl) (by kernel_rfl) (by kernel_rfl) (by kernel_rfl) ⟨Vals.none _ _, Ph2.start (OpS.start (Below.refl _ _).drew)⟩ ?hop ?hend (fun _ _ _ _ h => h.elim)
  case hop =>
    refine ⟨?_, ?_, ?_, ?_, ?_, ?_, ?_, ?_, ?_, ?_, ?_, ?_, ?_, ?_, trivial⟩
    · intro l vs X A hA ⟨hV, hS⟩ hl hd hcl
      have hj := nY 12 hcl hl
      have hk := nY 13 hcl hl
      have hX := hS.1 hj
      have hB := hX.below
      have aF0 : A.eval (.func 33) = .func (.func 33) #[] #[] := rfl
      refine show_call (f := 33) (args := #[]) ?_ (ops_any X) ?_
      · generalize A.eval = ρ at *
        clear hA hl hd hcl hV hS
        go_simp
      · rintro e X' ⟨mb, rfl, hms⟩
        exact .inl ⟨_, rfl, hV.upd (fun _ h => by cases h), Ph2.keep hj hk (by decide) (by decide) (hX.mk0 hms)⟩
    · intro l vs X A hA ⟨hV, hS⟩ hl hd hcl
      have hj := nY 12 hcl hl
      have hk := nY 13 hcl hl
      have hX := hS.1 hj
      have hB := hX.below
      have a3 := eO hA 3 rfl
      refine show_value (v := .pointer (some ⟨w.heap.size, 0, none⟩)) (X' := X) ?_ ⟨hV.upd (fun _ h => Option.some.inj h), Ph2.keep hj hk (by decide) (by decide) (hX.grow (Below.refl _ _) (by decide) (by decide) _)⟩
      generalize A.eval = ρ at *
      clear hA hl hd hcl hV hS
      go_simp
    · intro l vs X A hA ⟨hV, hS⟩ hl hd hcl
      have hj := nY 12 hcl hl
      have hk := nY 13 hcl hl
      have hX := hS.1 hj
      have hB := hX.below
      have a32 := eN hA 32 1 hd hV rfl
      have cc : X.cell? ⟨w.heap.size, 0, none⟩ = some (.int .i64 (n : Int)) := by rw [← HOP.out]; exact (hBW3.ins.below hB hBW3.ins.lt).cell 0
      refine show_value (v := .int .i64 (n : Int)) (X' := X) ?_ ⟨hV.upd (fun _ h => Option.some.inj h), Ph2.keep hj hk (by decide) (by decide) (hX.grow (Below.refl _ _) (by decide) (by decide) _)⟩
      generalize A.eval = ρ at *
      clear hA hl hd hcl hV hS hX hB
      go_simp
    · intro l vs X A hA ⟨hV, hS⟩ hl hd hcl
      have hj := nY 12 hcl hl
      have hk := nY 13 hcl hl
      have hX := hS.1 hj
      have hB := hX.below
      have a31 := eval_new hA 31 0 (by kernel_rfl) (by kernel_rfl) (by kernel_rfl) (hd 0 (by kernel_rfl)) (rfl : vs 0 = vs 0)
      have a33 := eN hA 33 2 hd hV rfl
      obtain ⟨mb, e31, hms⟩ := hX.tab (hd 0 (by kernel_rfl))
      rw [e31] at a31
      obtain ⟨v, hv, hlk⟩ := hms.table.at_ n HN.out.1 HN.out.2
      refine show_value (v := v) (X' := X) ?_ ⟨hV.upd (fun _ h => by cases h), Ph2.keep hj hk (by decide) (by decide) (hX.mk3 hv)⟩
      generalize A.eval = ρ at *
      clear hA hl hd hcl hV hS hX hB hms hv e31
      go_simp
    · intro l vs X A hA ⟨hV, hS⟩ hl hd hcl
      have hj := nY 12 hcl hl
      have hk := nY 13 hcl hl
      have hX := hS.1 hj
      have hB := hX.below
      have a3 := eO hA 3 rfl
      refine show_value (v := .agg i.a) (X' := X) (run_ld 38 _ rfl _ a3 (ld_row (l := i.cells) (has_whole (hBW3.grow hB).ins) (by kernel_rfl))) ⟨hV.upd (fun _ h => Option.some.inj h), Ph2.keep hj hk (by decide) (by decide) (hX.grow (Below.refl _ _) (by decide) (by decide) _)⟩
    · intro l vs X A hA ⟨hV, hS⟩ hl hd hcl
      have hj := nY 12 hcl hl
      have hk := nY 13 hcl hl
      have hX := hS.1 hj
      have hB := hX.below
      have a1 := eO hA 1 rfl
      refine show_value (v := .int .i64 c) (X' := X) ?_ ⟨hV.upd (fun _ h => Option.some.inj h), Ph2.keep hj hk (by decide) (by decide) (hX.grow (Below.refl _ _) (by decide) (by decide) _)⟩
      generalize A.eval = ρ at *
      clear hA hl hd hcl hV hS
      go_simp
    · intro l vs X A hA ⟨hV, hS⟩ hl hd hcl
      have hj := nY 12 hcl hl
      have hk := nY 13 hcl hl
      have hX := hS.1 hj
      have hB := hX.below
      have a5 := eO hA 5 rfl
      refine show_value (v := .agg k.a) (X' := X) (run_ld 43 _ rfl _ a5 (ld_row (l := k.cells) (has_whole (hBW3.grow hB).kn) (by kernel_rfl))) ⟨hV.upd (fun _ h => Option.some.inj h), Ph2.keep hj hk (by decide) (by decide) (hX.grow (Below.refl _ _) (by decide) (by decide) _)⟩
    · intro l vs X A hA ⟨hV, hS⟩ hl hd hcl
      have hj := nY 12 hcl hl
      have hk := nY 13 hcl hl
      have hX := hS.1 hj
      have hB := hX.below
      have a35 := eN hA 35 4 hd hV rfl
      have a36 := eN hA 36 5 hd hV rfl
      have a37 := eN hA 37 6 hd hV rfl
      have hbs := build_step i c k X
      refine show_value (v := .agg (stA i c k)) (X' := X) ?_ ⟨hV.upd (fun _ h => Option.some.inj h), Ph2.keep hj hk (by decide) (by decide) (hX.grow (Below.refl _ _) (by decide) (by decide) _)⟩
      generalize A.eval = ρ at *
      clear hA hl hd hcl hV hS hX hB
      generalize stA i c k = sa at *
      generalize i.a = ia at *
      generalize k.a = ka at *
      unfold execOp
      simp only [List.map_toArray, List.map_cons, List.map_nil, a35, a36, a37, Sem.run_bind, hbs, Result.andThen_ok, Sem.run_pure]
    · intro l vs X A hA ⟨hV, hS⟩ hl hd hcl
      have hj := nY 12 hcl hl
      have hk := nY 13 hcl hl
      have hX := hS.1 hj
      have hB := hX.below
      have a34 := eval_new hA 34 3 (by kernel_rfl) (by kernel_rfl) (by kernel_rfl) (hd 3 (by kernel_rfl)) (rfl : vs 3 = vs 3)
      have a38 := eN hA 38 7 hd hV rfl
      obtain ⟨F, cap, hv, hent, hcall⟩ := hmk _ X (hX.fn (hd 3 (by kernel_rfl)))
      rw [hv] at a34
      rw [HO.out] at hcall
      refine show_call ?_ hcall ?_
      · have hr := fun o ho => run_callv (o := o) (ρ := A.eval) (X := X) (.tmp 34) (.tmp 38) 82 ho F cap (.agg (stA i c k)) a34 a38 hent
        exact hr _ rfl
      rintro e X' ⟨he, hB1⟩
      exact .inl ⟨.tuple #[.agg n2.a, .agg j2.a], he, hV.upd (fun _ h => Option.some.inj h), Ph2.keep hj hk (by decide) (by decide) (hX.grow hB1 (by decide) (by decide) _)⟩
    · intro l vs X A hA ⟨hV, hS⟩ hl hd hcl
      have hj := nY 12 hcl hl
      have hk := nY 13 hcl hl
      have hX := hS.1 hj
      have hB := hX.below
      have a39 := eN hA 39 8 hd hV rfl
      refine show_value (v := .tuple #[.agg n2.a, .agg j2.a]) (X' := X) ?_ ⟨hV.upd (fun _ h => Option.some.inj h), Ph2.keep hj hk (by decide) (by decide) (hX.grow (Below.refl _ _) (by decide) (by decide) _)⟩
      generalize A.eval = ρ at *
      clear hA hl hd hcl hV hS
      go_simp
    · intro l vs X A hA ⟨hV, hS⟩ hl hd hcl
      have hj := nY 12 hcl hl
      have hk := nY 13 hcl hl
      have hX := hS.1 hj
      have hB := hX.below
      have a30 := eN hA 30 9 hd hV rfl
      refine show_value (v := .agg n2.a) (X' := X) ?_ ⟨hV.upd (fun _ h => Option.some.inj h), Ph2.keep hj hk (by decide) (by decide) (hX.grow (Below.refl _ _) (by decide) (by decide) _)⟩
      generalize A.eval = ρ at *
      clear hA hl hd hcl hV hS
      go_simp
    · intro l vs X A hA ⟨hV, hS⟩ hl hd hcl
      have hk := nY 13 hcl hl
      have a30 := eN hA 30 9 hd hV rfl
      cases hj : l 12 with
      | true =>
        have hX := hS.2.1 hj hk
        exact show_value (v := .agg j2.a) (X' := X) (by generalize A.eval = ρ at *; clear hA hl hd hcl hV hS hX; go_simp) ⟨hV.upd (fun _ h => Option.some.inj h), Ph2.keepMid hj hk (by decide) (by decide) hX⟩
      | false =>
        have hX := hS.1 hj
        exact show_value (v := .agg j2.a) (X' := X) (by generalize A.eval = ρ at *; clear hA hl hd hcl hV hS hX; go_simp) ⟨hV.upd (fun _ h => Option.some.inj h), Ph2.keep hj hk (by decide) (by decide) (hX.grow (Below.refl _ _) (by decide) (by decide) _)⟩
    · intro l vs X A hA ⟨hV, hS⟩ hl hd hcl
      have hk := nY 13 hcl hl
      have hX := hS.1 hl
      have a6 := eO hA 6 rfl
      have a40 := eN hA 40 10 hd hV rfl
      have hB := hX.below
      have hg := hBW3.grow hB
      refine show_skip (X' := X.setRow (w.heap.size + 2) n2.a) (run_st_row 43 _ _ rfl (w.heap.size + 2) _ _ _ a6 a40 hg.n (by kernel_rfl) (by kernel_rfl) (Kn.a_one _)) ⟨hV.upd (fun _ h => by cases h), Ph2.mid hk (by decide) (hg.setN _)⟩
    · intro l vs X A hA ⟨hV, hS⟩ hl hd hcl
      have hX := hS.2.1 (hd 12 (by kernel_rfl)) hl
      have a7 := eO hA 7 rfl
      have a41 := eN hA 41 11 hd hV rfl
      refine show_skip (X' := X.setRow (w.heap.size + 3) j2.a) (run_st_row 43 _ _ rfl (w.heap.size + 3) _ _ _ a7 a41 hX.j (by kernel_rfl) (by kernel_rfl) (Kn.a_one _)) ⟨hV.upd (fun _ h => by cases h), Ph2.last (hd 12 (by kernel_rfl)) (hX.setJ _)⟩
  case hend =>
    intro l vs X hl ⟨hV, hS⟩
    have hX := hS.2.2 (hl 13 (by decide))
    have v1 := hV 1 _ (hl 1 (by decide)) rfl
    have v2 := hV 2 _ (hl 2 (by decide)) rfl
    have v4 := hV 4 _ (hl 4 (by decide)) rfl
    have v5 := hV 5 _ (hl 5 (by decide)) rfl
    have v6 := hV 6 _ (hl 6 (by decide)) rfl
    have v7 := hV 7 _ (hl 7 (by decide)) rfl
    have v8 := hV 8 _ (hl 8 (by decide)) rfl
    have v9 := hV 9 _ (hl 9 (by decide)) rfl
    have v10 := hV 10 _ (hl 10 (by decide)) rfl
    have v11 := hV 11 _ (hl 11 (by decide)) rfl
    clear hV hS hl
    simp only [canonL, if_true, v1, v2, v4, v5, v6, v7, v8, v9, v10, v11]
    clear v1 v2 v4 v5 v6 v7 v8 v9 v10 v11
    go_simp
    generalize vs 0 = u0
    generalize vs 3 = u3
    have hBW4 := hX
    obtain ⟨W4, hren⟩ : ∃ Z, Z = X := ⟨_, rfl⟩
    subst hren
    clear hX hBW3 hmk
    go_upto_region 8 with fail
    refine wp_region_inv (Φ := fun l vs X => Vals (fun q => match q with | 0 => some (.agg n2.a) | 1 => some (.agg j2.a) | _ => none) l vs ∧ BW w i k n2 j2 0 X) (PQ := fun _ _ => False)
      (by kernel_rfl) (by kernel_rfl) (by kernel_rfl) (by kernel_rfl) ⟨Vals.none _ _, hBW4.grow (Below.refl _ _).drew⟩ ?hop ?hend (fun _ _ _ _ h => h.elim)
    case hop =>
      refine ⟨?_, ?_, ?_, ?_, ?_, trivial⟩
      · intro l vs X A hA ⟨hV, hS⟩ hl hd hcl
        have hX := hS
        have hB := hX
        have a6 := eO hA 6 rfl
        refine show_value (v := .agg n2.a) (X' := X) (run_ld 43 _ rfl _ a6 (ld_row (l := n2.cells) (has_whole hX.n) (by kernel_rfl))) ⟨hV.upd (fun _ h => Option.some.inj h), (hX)⟩
      · intro l vs X A hA ⟨hV, hS⟩ hl hd hcl
        have hX := hS
        have hB := hX
        have a7 := eO hA 7 rfl
        refine show_value (v := .agg j2.a) (X' := X) (run_ld 43 _ rfl _ a7 (ld_row (l := j2.cells) (has_whole hX.j) (by kernel_rfl))) ⟨hV.upd (fun _ h => Option.some.inj h), (hX)⟩
      · intro l vs X A hA ⟨hV, hS⟩ hl hd hcl
        have hX := hS
        have hB := hX
        have a6 := eO hA 6 rfl
        have a42 := eN hA 42 0 hd hV rfl
        exact show_skip (X' := X.setRow (w.heap.size + 2) n2.a) (run_st_row 43 _ _ rfl (w.heap.size + 2) _ _ _ a6 a42 hX.n (by kernel_rfl) (by kernel_rfl) (Kn.a_one _)) ⟨hV.upd (fun _ h => by cases h), hX.setN n2⟩
      · intro l vs X A hA ⟨hV, hS⟩ hl hd hcl
        have hX := hS
        have hB := hX
        have a7 := eO hA 7 rfl
        have a43 := eN hA 43 1 hd hV rfl
        exact show_skip (X' := X.setRow (w.heap.size + 3) j2.a) (run_st_row 43 _ _ rfl (w.heap.size + 3) _ _ _ a7 a43 hX.j (by kernel_rfl) (by kernel_rfl) (Kn.a_one _)) ⟨hV.upd (fun _ h => by cases h), hX.setJ j2⟩
      · intro l vs X A hA ⟨hV, hS⟩ hl hd hcl
        have hX := hS
        have hB := hX
        have a8 := eO hA 8 rfl
        have aC0 : A.eval (.const (.int .i64 0)) = (.int .i64 0) := rfl
        have c8 : X.cell? ⟨w.heap.size + 4, 0, none⟩ = some (.int .i64 0) := hX.e.cell 0
        have f8 : X.frozen? ⟨w.heap.size + 4, 0, none⟩ = false := hX.e.free 0
        refine show_skip (X' := X.setCell ⟨w.heap.size + 4, 0, none⟩ (.int .i64 0)) ?_ ⟨hV.upd (fun _ h => by cases h), hX.setE 0⟩
        generalize A.eval = ρ at *
        clear hA hl hd hcl hV hS hX hB
        go_simp
    case hend =>
      intro l vs X hl ⟨hV, hS⟩
      have hX := hS
      have v0 := hV 0 _ (hl 0 (by decide)) rfl
      have v1 := hV 1 _ (hl 1 (by decide)) rfl
      clear hV hS hl
      simp only [canonL, if_true, v0, v1]
      clear v0 v1
      go_simp
      have hBX := hX
      clear hBW4 hX
      go_wp2_with fail
      refine leaves_cons (f := 32) (args := #[.pointer (some ⟨w.heap.size + 4, 0, none⟩)]) (by simp) (by simp [go_sem]) ?_
      refine (catch_idle ⟨w.heap.size + 4, 0, none⟩ 0 _ (hBX.e.cell 0) (hBX.e.free 0)).mono ?_
      rintro e u' w'' ⟨rfl, rfl, rfl⟩
      have hF := hBX.setE 0
      exact ⟨_, results_three rfl _ _ _ _ _ _ _ rfl rfl rfl hF.n hF.j hF.e, rfl, hF.below⟩
end Go.Proofs.YtodkehpldlmgaaaDoor
/- Behind, of anything. -/
namespace Go.Proofs.YtodkehpldlmgaaaDoor
open Go.RowKit

theorem knB_right {k : Kn} (h : knB k = true) (hk : KOk k) : KnR k := fun n hn => by
  unfold knB at h
  rw [List.all_eq_true] at h
  exact ⟨h n (by simpa using hn), hk n hn⟩
theorem right_knB {k : Kn} (h : KnR k) : knB k = true := knB_yes fun n hn => (h n hn).1
/-- What Behind answers: both ways, and the error. -/
def behV (i : Ins) (c : Int) (k : Kn) : Kn × Kn × Int :=
  if chkE c [i] ≠ 0 ∨ knB k = false then (noK, noK, 2) else if k.come = false then (noK, noK, 0) else match outI i c k with
    | .ok p => (p.1, p.2, 0)
    | .error x => (noK, noK, x.errno)
theorem behV_ok {i : Ins} {c : Int} {k n j : Kn} (h1 : chkE c [i] = 0) (h2 : knB k = true) (h3 : k.come = true) (h : outI i c k = .ok (n, j)) : behV i c k = (n, j, 0) := by
  unfold behV
  rw [if_neg (by rw [h1, h2]; decide), if_neg (by rw [h3]; decide), h]
theorem behV_no {i : Ins} {c : Int} {k : Kn} {x : Wrong} (h1 : chkE c [i] = 0) (h2 : knB k = true) (h3 : k.come = true) (h : outI i c k = .error x) : behV i c k = (noK, noK, x.errno) := by
  unfold behV
  rw [if_neg (by rw [h1, h2]; decide), if_neg (by rw [h3]; decide), h]
theorem chk_one {i : Ins} {c : Int} (hm : MayI i) (h0 : 0 ≤ c) (h1 : c ≤ 256) : chkE c [i] = 0 := by
  unfold chkE
  have : i.may = true := mayB_iff.2 hm.1
  rw [if_neg (by omega), if_pos (by simp [this]), if_neg (by simp)]
theorem behind_any (i : Ins) (c : Int) (k : Kn) (w : World) (hG : Glob w) (hu : i.imm < 4294967296) (hk : KOk k) :
    Calls Tryd.prog 17 #[.agg i.a, .int .i64 c, .agg k.a] w fun e w' => e = .returned (.tuple #[.agg (behV i c k).1.a, .agg (behV i c k).2.1.a, .int .i64 (behV i c k).2.2]) ∧ Below w.heap.size w w' := by
  by_cases h1 : chkE c [i] = 0
  · cases h2 : knB k with
    | false =>
      have e : behV i c k = (noK, noK, 2) := by unfold behV; rw [if_pos (.inr h2)]
      rw [e]
      exact behind_kn i c k w hG h1 h2
    | true =>
      cases h3 : k.come with
      | false =>
        have e : behV i c k = (noK, noK, 0) := by unfold behV; rw [if_neg (by rw [h1, h2]; decide), if_pos h3]
        rw [e]
        exact behind_nc i c k w hG h1 h2 h3
      | true =>
        have hm := chk_may h1 (List.mem_singleton.2 rfl) hu
        obtain ⟨n, hop⟩ : ∃ n : Nat, i.op = (n : Int) := ⟨i.op.toNat, by have := hm.1.1; omega⟩
        cases h4 : outI i c k with
        | ok p =>
          obtain ⟨a, b⟩ := p
          rw [behV_ok h1 h2 h3 h4]
          exact behind_ok i c k a b w hG h1 h2 h3 hm (knB_right h2 hk) n hop h4
        | error x =>
          rw [behV_no h1 h2 h3 h4]
          exact behind_no i c k x w hG h1 h2 h3 hm (knB_right h2 hk) n hop h4
  · have e : behV i c k = (noK, noK, 2) := by unfold behV; rw [if_pos (.inl h1)]
    rw [e]
    exact behind_bad i c k w hG h1
theorem Ph2.keepEnd {j k i : Nat} {S : (Nat → Bool) → (Nat → Value) → World → Prop} {T U : (Nat → Value) → World → Prop} {l : Nat → Bool} {vs : Nat → Value} {v : Value} {X' : World} (hj : l j = true) (hk : l k = true) (h1 : j ≠ i) (h2 : k ≠ i) (h : U (upd vs i v) X') : Ph2 j k S T U (upd l i true) (upd vs i v) X' :=
  ⟨(fun h => by rw [upd_other _ _ h1, hj] at h; cases h), (fun _ h => by rw [upd_other _ _ h2, hk] at h; cases h), fun _ => h⟩
end Go.Proofs.YtodkehpldlmgaaaDoor
/- The frame of this seat's rows: what the listed variable gives. -/
namespace Go.Proofs.YtodkehpldlmgaaaDoor
open Go.ChangeShapes Go.WideShapes Go.ChangeAt Go.RowKit Go.Deep

theorem own : ownKnob Tryd.prog.godebug = none := by kernel_rfl
theorem laidOut : laidOutB Tryd.prog = true := by kernel_rfl
theorem gOps : Tryd.prog.globalNamed "cachet/code.ops" = some 0 := by kernel_rfl
theorem tOps : (Tryd.prog.globals[0]?).map (·.type) = some 112 := by kernel_rfl
abbrev laidL : List (String × DataW Unit) := [("cachet/code.ops", Rows.laid_cachet_code_ops)]
theorem ops_lit : (Rows.laid_cachet_code_ops : DataW Unit) = .agg (opsL.map fun x => .agg [.lit (.string x.1), .lit (.int .i64 x.2)]) := rfl

theorem two_of {α : Type} : ∀ (xs : List α), xs.length = 2 → ∃ a b, xs = [a, b]
  | [a, b], _ => ⟨a, b, rfl⟩
theorem five_of {α : Type} : ∀ (xs : List α), xs.length = 5 → ∃ a b c d e, xs = [a, b, c, d, e]
  | [a, b, c, d, e], _ => ⟨a, b, c, d, e, rfl⟩
set_option maxRecDepth 100000 in
theorem pair_of {H : Type} {enc : TypeId × Value → H} {W : World} {base fuel : Nat} {spare : Nat → Bool} {held : Bool} {cs : List Value} {n : List UInt8} {u : Int} {ps : List MemPlace}
    (h : DataW.trod enc Tryd.prog W base spare held fuel 111 cs = some (.agg [.lit (.string n), .lit (.int .i64 u)], ps)) : cs = [.string ⟨n.toArray⟩, .int .i64 u] := by
  obtain ⟨xs, k, hk, hxy, hl, hxl, hf⟩ := DataW.trod_struct Tryd.underlying111 h
  have hl2 : cs.length = 2 := hl.trans (by kernel_rfl)
  obtain ⟨v0, v1, rfl⟩ := two_of cs hl2
  obtain ⟨x0, x1, rfl⟩ := two_of xs hxl
  have h0 := hf 0 _ rfl
  have h1 := hf 1 _ rfl
  have c9 : Tryd.prog.cellsOf 9 = 1 := by kernel_rfl
  have c110 : Tryd.prog.cellsOf 110 = 1 := by kernel_rfl
  have e0 : DataW.trod enc Tryd.prog W base spare held k 9 [v0] = some x0 := by
    have : DataW.trod enc Tryd.prog W base spare held k 9 (([v0, v1].drop 0).take (Tryd.prog.cellsOf 9)) = some x0 := h0
    rw [c9] at this; exact this
  have e1 : DataW.trod enc Tryd.prog W base spare held k 110 [v1] = some x1 := by
    have : DataW.trod enc Tryd.prog W base spare held k 110 (([v0, v1].drop 1).take (Tryd.prog.cellsOf 110)) = some x1 := h1
    rw [c110] at this; exact this
  obtain ⟨s, hs, hxs, _⟩ := DataW.trod_string Tryd.underlying9 e0
  obtain ⟨z, hz, hxz, _⟩ := DataW.trod_int Tryd.underlying110 e1
  obtain rfl : v0 = .string s := by simpa using hs
  obtain rfl : v1 = .int .i64 z := by simpa using hz
  have h2 := (Prod.mk.inj hxy).1
  rw [List.map_cons, List.map_cons, List.map_nil, hxs, hxz] at h2
  simp only [DataW.agg.injEq, List.cons.injEq, DataW.lit.injEq, Lit.string.injEq, Lit.int.injEq, true_and, and_true] at h2
  obtain ⟨rfl, rfl⟩ := h2
  rfl
theorem opsL_len : opsL.length = 25 := rfl

set_option maxRecDepth 100000 in
theorem of_laid {W : World} (h : laidMetH Tryd.prog laidL W) : Glob W := by
  rw [MakeChecks.laidMetH_plain _ _ _ (by kernel_rfl)] at h
  obtain ⟨ps, ⟨g0, t0, cs0, f0, p0, q0, hg0, ht0, hv0, hd0, _, _⟩, _, _⟩ := h
  obtain rfl := Option.some.inj (gOps.symm.trans hg0)
  obtain rfl := Option.some.inj (tOps.symm.trans ht0)
  rw [ops_lit] at hd0
  obtain ⟨xs, m, rfl, hx, hlen, hn, hel⟩ := DataW.trod_array Tryd.underlying112 hd0
  simp only [Prod.mk.injEq, DataW.agg.injEq] at hx
  have c111 : Tryd.prog.cellsOf 111 = 2 := by kernel_rfl
  have key : ∀ j, j < 25 → W.cell? ⟨0, j * 2, none⟩ = some (.string ⟨(nameL j).toArray⟩) ∧ W.cell? ⟨0, j * 2 + 1, none⟩ = some (.int .i64 (usesN j)) := fun j hj => by
    have h1 := hel j hj
    rw [List.getElem?_eq_getElem (by omega), c111] at h1
    have e2 : (opsL.map fun x => (DataW.agg [.lit (.string x.1), .lit (.int .i64 x.2)] : DataW Unit))[j]? = some (.agg [.lit (.string (nameL j)), .lit (.int .i64 (usesN j))]) := by
      rw [List.getElem?_map]; unfold nameL usesN
      rw [List.getElem?_eq_getElem (by rw [opsL_len]; exact hj)]; rfl
    rw [hx.1, List.getElem?_map, List.getElem?_eq_getElem (by omega)] at e2
    simp only [Option.map_some, Option.some.injEq] at e2
    have hc := pair_of (n := nameL j) (u := usesN j) (ps := xs[j].2) (by rw [h1]; exact congrArg some (Prod.ext e2 rfl))
    have k0 := congrArg (fun l : List Value => l[0]?) hc
    have k1 := congrArg (fun l : List Value => l[1]?) hc
    simp only [List.getElem?_take_of_lt (show 0 < 2 by decide), List.getElem?_take_of_lt (show 1 < 2 by decide), List.getElem?_drop, Nat.add_zero] at k0 k1
    refine ⟨?_, ?_⟩
    · rw [World.var?_cell hg0 hv0 (j * 2)]; simpa using k0
    · rw [World.var?_cell hg0 hv0 (j * 2 + 1)]; simpa using k1
  exact ⟨fun j hj => (key j hj).1, fun j hj => (key j hj).2⟩
/-- The door's own heap meets the condition: three closed facts. -/
theorem door_met (os : Os) (args : Array Value) : laidMetH Tryd.prog laidL ((World.doorLaid Tryd.prog 400 os).forCall (fun _ _ => 0) ⟨#[], args, []⟩).memory :=
  laidMetH_of_parts3 (fuel := 8) (laidMet_of_run' 8 (by kernel_rfl) (by kernel_rfl)) (by kernel_rfl) (by kernel_rfl)
end Go.Proofs.YtodkehpldlmgaaaDoor
/- What comes in: words, instructions, extensions, ranges, what is known. -/
namespace Go.Proofs.YtodkehpldlmgaaaDoor
open Go.ChangeShapes Go.WideShapes Go.ChangeAt Go.RowKit Go.Deep

theorem spot_none {W : World} {a : Addr} {v : Value} (h : W.cell? a = some v) : a.spot = none := by
  unfold World.cell? at h
  split at h
  · split at h
    · cases h
    · rename_i hh; simpa using hh
  · cases h

set_option maxRecDepth 100000 in
theorem u32_of {H : Type} {enc : TypeId × Value → H} {W : World} {base : Nat} {r : Reach} {v : Value} {d : DataW H} {ps : List MemPlace} (hv : Value.okWide Tryd.prog W r base 36 v) (h : DataW.Trod enc Tryd.prog W 0 (fun _ => true) true 36 v d ps) :
    ∃ x : Nat, v = .int .u32 x ∧ x < 4294967296 := by
  obtain ⟨n, rfl, _, _, hw⟩ := open_int Tryd.underlying36 hv h
  have hb := bounds_u32 hw
  have e : n = (n.toNat : Int) := by omega
  exact ⟨n.toNat, congrArg (Value.int .u32) e, by omega⟩
set_option maxRecDepth 100000 in
theorem ins_cells {H : Type} {enc : TypeId × Value → H} {W : World} {fuel : Nat} {cs : List Value} {x : DataW H × List MemPlace} (h : DataW.trod enc Tryd.prog W 0 (fun _ => true) true fuel 38 cs = some x) :
    ∃ i : Ins, cs = i.cells ∧ i.imm < 4294967296 := by
  obtain ⟨xs, k, hk, hxy, hl, hxl, hf⟩ := DataW.trod_struct Tryd.underlying38 h
  obtain ⟨v0, v1, v2, v3, v4, rfl⟩ := five_of cs (hl.trans (by kernel_rfl))
  obtain ⟨x0, x1, x2, x3, x4, rfl⟩ := five_of xs hxl
  have c3 : Tryd.prog.cellsOf 3 = 1 := by kernel_rfl
  have c35 : Tryd.prog.cellsOf 35 = 1 := by kernel_rfl
  have c36 : Tryd.prog.cellsOf 36 = 1 := by kernel_rfl
  have h0 : DataW.trod enc Tryd.prog W 0 (fun _ => true) true k 35 (([v0, v1, v2, v3, v4].drop 0).take (Tryd.prog.cellsOf 35)) = some x0 := hf 0 _ rfl
  have h1 : DataW.trod enc Tryd.prog W 0 (fun _ => true) true k 3 (([v0, v1, v2, v3, v4].drop 1).take (Tryd.prog.cellsOf 3)) = some x1 := hf 1 _ rfl
  have h2 : DataW.trod enc Tryd.prog W 0 (fun _ => true) true k 3 (([v0, v1, v2, v3, v4].drop 2).take (Tryd.prog.cellsOf 3)) = some x2 := hf 2 _ rfl
  have h3 : DataW.trod enc Tryd.prog W 0 (fun _ => true) true k 3 (([v0, v1, v2, v3, v4].drop 3).take (Tryd.prog.cellsOf 3)) = some x3 := hf 3 _ rfl
  have h4 : DataW.trod enc Tryd.prog W 0 (fun _ => true) true k 36 (([v0, v1, v2, v3, v4].drop 4).take (Tryd.prog.cellsOf 36)) = some x4 := hf 4 _ rfl
  rw [c35] at h0
  rw [c3] at h1 h2 h3
  rw [c36] at h4
  obtain ⟨z0, hz0, _⟩ := DataW.trod_int Tryd.underlying35 h0
  obtain ⟨z1, hz1, _⟩ := DataW.trod_int Tryd.underlying3 h1
  obtain ⟨z2, hz2, _⟩ := DataW.trod_int Tryd.underlying3 h2
  obtain ⟨z3, hz3, _⟩ := DataW.trod_int Tryd.underlying3 h3
  obtain ⟨z4, hz4, _, hw⟩ := DataW.trod_int Tryd.underlying36 h4
  obtain rfl : v0 = .int .i64 z0 := by simpa using hz0
  obtain rfl : v1 = .int .i64 z1 := by simpa using hz1
  obtain rfl : v2 = .int .i64 z2 := by simpa using hz2
  obtain rfl : v3 = .int .i64 z3 := by simpa using hz3
  obtain rfl : v4 = .int .u32 z4 := by simpa using hz4
  have hb := bounds_u32 hw
  refine ⟨⟨z0, z1, z2, z3, z4.toNat⟩, ?_, by show z4.toNat < _; omega⟩
  unfold Ins.cells
  show _ = [Value.int .i64 z0, .int .i64 z1, .int .i64 z2, .int .i64 z3, .int .u32 (z4.toNat : Int)]
  rw [show ((z4.toNat : Nat) : Int) = z4 by omega]
/-- Instructions that come in: none, or such as lie somewhere. -/
theorem prg_cells {H : Type} {enc : TypeId × Value → H} {W : World} {fuel : Nat} {v : Value} {x : DataW H × List MemPlace} (hs : 0 < W.heap.size) (hf : DataW.trod enc Tryd.prog W 0 (fun _ => true) true fuel 22 [v] = some x) :
    ∃ l : List Ins, Prg W v l ∧ ∀ i ∈ l, i.imm < 4294967296 := by
  have c38 : Tryd.prog.cellsOf 38 = 5 := by kernel_rfl
  rcases open_slice Tryd.underlying22 hf with ⟨hcs, _⟩ | ⟨a, len, cap, m, n, D, Pl, hcs, _, hle, _, hmm, _, hx⟩
  · obtain rfl : v = .slice none 0 0 := by simpa using hcs
    exact ⟨[], ⟨none, 0, 0, 0, rfl, fun h => absurd rfl h, ⟨fun k i h => by simp at h, fun k i h => by simp at h, fun k i h => by simp at h, fun k i h => by simp at h, fun k i h => by simp at h⟩, hs⟩, fun i hi => by simp at hi⟩
  · obtain rfl : v = .slice (some a) len cap := by simpa using hcs
    simp only [if_true] at hmm
    subst hmm
    by_cases h0 : len = 0
    · subst h0
      exact ⟨[], ⟨some a, m, 0, 0, rfl, fun h => absurd rfl h, ⟨fun k i h => by simp at h, fun k i h => by simp at h, fun k i h => by simp at h, fun k i h => by simp at h, fun k i h => by simp at h⟩, hs⟩, fun i hi => by simp at hi⟩
    · have each : ∀ k, k < len → ∃ i : Ins, (∀ j u, i.cells[j]? = some u → W.cell? ((a.add (k * 5)).add j) = some u) ∧ i.imm < 4294967296 := fun k hk => by
        obtain ⟨cs', h1, h2⟩ := hx k (by omega)
        rw [c38] at h1
        obtain ⟨_, hlen, hcell⟩ := World.cells?_some h1
        obtain ⟨i, rfl, hb⟩ := ins_cells h2
        refine ⟨i, fun j u hj => ?_, hb⟩
        have hj5 : j < 5 := (List.getElem?_eq_some_iff.1 hj).1
        rw [hcell j hj5, ← hj]
      obtain ⟨i0, hc0, _⟩ := each 0 (by omega)
      have hc00 := hc0 0 _ rfl
      have hsp := spot_none hc00
      obtain ⟨b, o, sp⟩ := a
      have hsp' : sp = none := by
        cases sp with
        | none => rfl
        | some q => simp [Addr.add] at hsp
      subst hsp'
      simp only [Addr.add_mid] at each hc00
      have hlt : b < W.heap.size := block_of_cell hc00
      let F : Nat → Ins := fun k => if hk : k < len then (each k hk).choose else ⟨0, 0, 0, 0, 0⟩
      have hF : ∀ k i, ((List.range len).map F)[k]? = some i → (∀ j u, i.cells[j]? = some u → W.cell? ⟨b, o + k * 5 + j, none⟩ = some u) ∧ i.imm < 4294967296 := fun k i hi => by
        have hkl : k < len := by have := (List.getElem?_eq_some_iff.1 hi).1; simpa using this
        have e1 : F k = i := by simpa [hkl] using hi
        have e2 : F k = (each k hkl).choose := dif_pos hkl
        have := (each k hkl).choose_spec
        rw [← e2, e1] at this
        exact this
      refine ⟨(List.range len).map F, ⟨some ⟨b, o, none⟩, m, b, o, by simp, fun _ => rfl, ⟨fun k i h => (hF k i h).1 0 _ rfl, fun k i h => (hF k i h).1 1 _ rfl, fun k i h => (hF k i h).1 2 _ rfl, fun k i h => (hF k i h).1 3 _ rfl, fun k i h => (hF k i h).1 4 _ rfl⟩, hlt⟩, fun i hi => ?_⟩
      obtain ⟨k, hk, e⟩ := List.mem_iff_getElem.1 hi
      exact (hF k i (by rw [List.getElem?_eq_getElem hk, e])).2
set_option maxRecDepth 100000 in
/-- An extension that comes in. -/
theorem prog_of {H : Type} {enc : TypeId × Value → H} {W : World} {base : Nat} {r : Reach} {v : Value} {d : DataW H} {ps : List MemPlace} (hs : 0 < W.heap.size) (hv : Value.okWide Tryd.prog W r base 24 v) (h : DataW.Trod enc Tryd.prog W 0 (fun _ => true) true 24 v d ps) :
    ∃ (ctx : Int) (sv : Value) (l : List Ins), v = .agg #[.int .i64 ctx, sv] ∧ Prg W sv l ∧ ∀ i ∈ l, i.imm < 4294967296 := by
  unfold Value.okWide at hv
  rw [Tryd.underlying24] at hv
  obtain ⟨cs, rfl, hsz, _⟩ := hv
  obtain ⟨fuel, hf⟩ := h
  obtain ⟨xs, k, hk, hxy, hl, hxl, hfl⟩ := DataW.trod_struct Tryd.underlying24 hf
  obtain ⟨v0, v1, hcs⟩ := two_of cs.toList (by rw [Array.length_toList, hsz]; kernel_rfl)
  have hcs' : cs = #[v0, v1] := by cases cs; simp at hcs; rw [hcs]
  subst hcs'
  obtain ⟨x0, x1, rfl⟩ := two_of xs hxl
  have c3 : Tryd.prog.cellsOf 3 = 1 := by kernel_rfl
  have c22 : Tryd.prog.cellsOf 22 = 1 := by kernel_rfl
  have h0 : DataW.trod enc Tryd.prog W 0 (fun _ => true) true k 3 (([v0, v1].drop 0).take (Tryd.prog.cellsOf 3)) = some x0 := hfl 0 _ rfl
  have h1 : DataW.trod enc Tryd.prog W 0 (fun _ => true) true k 22 (([v0, v1].drop 1).take (Tryd.prog.cellsOf 22)) = some x1 := hfl 1 _ rfl
  rw [c3] at h0
  rw [c22] at h1
  obtain ⟨z0, hz0, _⟩ := DataW.trod_int Tryd.underlying3 h0
  obtain rfl : v0 = .int .i64 z0 := by simpa using hz0
  obtain ⟨l, hl1, hl2⟩ := prg_cells hs h1
  exact ⟨z0, v1, l, rfl, hl1, hl2⟩
theorem parts_flat {α : Type} (m : Nat) : ∀ (n : Nat) (l : List α) (f : Nat → List α), l.length = n * m → (∀ i, i < n → (l.drop (i * m)).take m = f i) → l = (List.range n).flatMap f
  | 0, l, f, h, _ => by
    rw [Nat.zero_mul] at h
    obtain rfl := List.eq_nil_of_length_eq_zero h
    rfl
  | n + 1, l, f, h, hf => by
    rw [Nat.succ_mul] at h
    have h1 := parts_flat m n (l.take (n * m)) f (by rw [List.length_take]; omega) fun i hi => by
      have e : i * m + m ≤ n * m := by
        have := Nat.mul_le_mul_right m (show i + 1 ≤ n by omega)
        rwa [Nat.succ_mul] at this
      rw [List.drop_take, List.take_take, Nat.min_eq_left (by omega)]
      exact hf i (by omega)
    rw [List.range_succ, List.flatMap_append, ← h1]
    have h2 := hf n (by omega)
    rw [List.take_of_length_le (by rw [List.length_drop]; omega)] at h2
    simp only [List.flatMap_cons, List.flatMap_nil, List.append_nil, ← h2]
    exact (List.take_append_drop _ _).symm
theorem three_of {α : Type} : ∀ (xs : List α), xs.length = 3 → ∃ a b c, xs = [a, b, c]
  | [a, b, c], _ => ⟨a, b, c, rfl⟩
theorem one_of {α : Type} : ∀ (xs : List α), xs.length = 1 → ∃ a, xs = [a]
  | [a], _ => ⟨a, rfl⟩
theorem nat_of_u32 {n : Int} (hw : (Lit.int .u32 n).wf = true) : ∃ x : Nat, n = (x : Int) ∧ x < 4294967296 := by
  have hb := bounds_u32 hw
  exact ⟨n.toNat, by omega, by omega⟩
set_option maxRecDepth 100000 in
theorem rg_cells {H : Type} {enc : TypeId × Value → H} {W : World} {fuel : Nat} {cs : List Value} {x : DataW H × List MemPlace} (h : DataW.trod enc Tryd.prog W 0 (fun _ => true) true fuel 40 cs = some x) :
    ∃ r : Rg, cs = r.cells ∧ r.Ok := by
  obtain ⟨xs, k, hk, hxy, hl, hxl, hf⟩ := DataW.trod_struct Tryd.underlying40 h
  obtain ⟨v0, v1, v2, rfl⟩ := three_of cs (hl.trans (by kernel_rfl))
  obtain ⟨x0, x1, x2, rfl⟩ := three_of xs hxl
  have c4 : Tryd.prog.cellsOf 4 = 1 := by kernel_rfl
  have c36 : Tryd.prog.cellsOf 36 = 1 := by kernel_rfl
  have h0 : DataW.trod enc Tryd.prog W 0 (fun _ => true) true k 4 (([v0, v1, v2].drop 0).take (Tryd.prog.cellsOf 4)) = some x0 := hf 0 _ rfl
  have h1 : DataW.trod enc Tryd.prog W 0 (fun _ => true) true k 36 (([v0, v1, v2].drop 1).take (Tryd.prog.cellsOf 36)) = some x1 := hf 1 _ rfl
  have h2 : DataW.trod enc Tryd.prog W 0 (fun _ => true) true k 36 (([v0, v1, v2].drop 2).take (Tryd.prog.cellsOf 36)) = some x2 := hf 2 _ rfl
  rw [c4] at h0
  rw [c36] at h1 h2
  obtain ⟨b, hb0, _⟩ := DataW.trod_bool Tryd.underlying4 h0
  obtain ⟨z1, hz1, _, hw1⟩ := DataW.trod_int Tryd.underlying36 h1
  obtain ⟨z2, hz2, _, hw2⟩ := DataW.trod_int Tryd.underlying36 h2
  obtain rfl : v0 = .bool b := by simpa using hb0
  obtain rfl : v1 = .int .u32 z1 := by simpa using hz1
  obtain rfl : v2 = .int .u32 z2 := by simpa using hz2
  obtain ⟨n1, rfl, b1⟩ := nat_of_u32 hw1
  obtain ⟨n2, rfl, b2⟩ := nat_of_u32 hw2
  exact ⟨⟨b, n1, n2⟩, rfl, b1, b2⟩
set_option maxRecDepth 100000 in
theorem kn_cells {H : Type} {enc : TypeId × Value → H} {W : World} {fuel : Nat} {cs : List Value} {x : DataW H × List MemPlace} (h : DataW.trod enc Tryd.prog W 0 (fun _ => true) true fuel 43 cs = some x) :
    ∃ k : Kn, cs = k.cells ∧ KOk k := by
  obtain ⟨xs, k, hk, hxy, hl, hxl, hf⟩ := DataW.trod_struct Tryd.underlying43 h
  have hl31 : cs.length = 31 := hl.trans (by kernel_rfl)
  obtain ⟨x0, x1, rfl⟩ := two_of xs hxl
  have c4 : Tryd.prog.cellsOf 4 = 1 := by kernel_rfl
  have c41 : Tryd.prog.cellsOf 41 = 30 := by kernel_rfl
  have c40 : Tryd.prog.cellsOf 40 = 3 := by kernel_rfl
  have h0 : DataW.trod enc Tryd.prog W 0 (fun _ => true) true k 4 ((cs.drop 0).take (Tryd.prog.cellsOf 4)) = some x0 := hf 0 _ rfl
  have h1 : DataW.trod enc Tryd.prog W 0 (fun _ => true) true k 41 ((cs.drop 1).take (Tryd.prog.cellsOf 41)) = some x1 := hf 1 _ rfl
  rw [c4] at h0
  rw [c41] at h1
  obtain ⟨b, hb0, _⟩ := DataW.trod_bool Tryd.underlying4 h0
  obtain ⟨ys, m, hm, hxy1, hl1, hn, hel⟩ := DataW.trod_array Tryd.underlying41 h1
  rw [c40] at hel
  have each : ∀ i, i < 10 → ∃ r : Rg, ((((cs.drop 1).take 30).drop (i * 3)).take 3) = r.cells ∧ r.Ok := fun i hi => by
    have := hel i hi
    rw [List.getElem?_eq_getElem (by omega)] at this
    exact rg_cells this
  let R : Nat → Rg := fun i => if hi : i < 10 then (each i hi).choose else noR
  have hR : ∀ i, i < 10 → ((((cs.drop 1).take 30).drop (i * 3)).take 3) = (R i).cells ∧ (R i).Ok := fun i hi => by
    have e2 : R i = (each i hi).choose := dif_pos hi
    rw [e2]
    exact (each i hi).choose_spec
  have e1 := parts_flat 3 10 ((cs.drop 1).take 30) (fun i => (R i).cells) (by rw [List.length_take, List.length_drop, hl31]; rfl) (fun i hi => (hR i hi).1)
  refine ⟨⟨b, R⟩, ?_, fun n hn => (hR n hn).2⟩
  have e3 : cs = (cs.drop 0).take 1 ++ (cs.drop 1).take 30 := by
    rw [List.drop_zero, List.take_of_length_le (l := cs.drop 1) (by rw [List.length_drop]; omega)]
    exact (List.take_append_drop 1 cs).symm
  rw [e3, hb0, e1]
  rfl
/-- Words in a row. -/
theorem words_cells {H : Type} {enc : TypeId × Value → H} {W : World} {fuel t n : Nat} {cs : List Value} {x : DataW H × List MemPlace} (ht : Tryd.prog.underlying t = some (.array n 36)) (h : DataW.trod enc Tryd.prog W 0 (fun _ => true) true fuel t cs = some x) (hc : Tryd.prog.cellsOf t = n) :
    ∃ U : Nat → Nat, cs = (List.range n).map (fun i => .int .u32 (U i : Int)) ∧ ∀ i, i < n → U i < 4294967296 := by
  have c36 : Tryd.prog.cellsOf 36 = 1 := by kernel_rfl
  obtain ⟨ys, m, hm, hxy1, hl1, hn, hel⟩ := DataW.trod_array ht h
  rw [c36] at hel
  have each : ∀ i, i < n → ∃ u : Nat, ((cs.drop (i * 1)).take 1) = [.int .u32 (u : Int)] ∧ u < 4294967296 := fun i hi => by
    have := hel i hi
    rw [List.getElem?_eq_getElem (by omega)] at this
    obtain ⟨z, hz, _, hw⟩ := DataW.trod_int Tryd.underlying36 this
    obtain ⟨u, rfl, hb⟩ := nat_of_u32 hw
    exact ⟨u, hz, hb⟩
  let U : Nat → Nat := fun i => if hi : i < n then (each i hi).choose else 0
  have hU : ∀ i, i < n → ((cs.drop (i * 1)).take 1) = [.int .u32 (U i : Int)] ∧ U i < 4294967296 := fun i hi => by
    have e2 : U i = (each i hi).choose := dif_pos hi
    rw [e2]
    exact (each i hi).choose_spec
  have e1 := parts_flat 1 n cs (fun i => [.int .u32 (U i : Int)]) (by rw [hl1, hc, Nat.mul_one]) (fun i hi => (hU i hi).1)
  refine ⟨U, ?_, fun i hi => (hU i hi).2⟩
  rw [e1]
  induction List.range n with
  | nil => rfl
  | cons a l ih => rw [List.flatMap_cons, ih]; rfl
theorem arr_of {cs : Array Value} {l : List Value} (h : cs.toList = l) : cs = l.toArray := by rw [← h]
set_option maxRecDepth 100000 in
/-- An instruction that comes in. -/
theorem ins_of {H : Type} {enc : TypeId × Value → H} {W : World} {base : Nat} {r : Reach} {v : Value} {d : DataW H} {ps : List MemPlace} (hv : Value.okWide Tryd.prog W r base 38 v) (h : DataW.Trod enc Tryd.prog W 0 (fun _ => true) true 38 v d ps) :
    ∃ i : Ins, v = .agg i.a ∧ i.imm < 4294967296 := by
  unfold Value.okWide at hv
  rw [Tryd.underlying38] at hv
  obtain ⟨cs, rfl, hsz, _⟩ := hv
  obtain ⟨fuel, hf⟩ := h
  obtain ⟨i, hi, hb⟩ := ins_cells hf
  exact ⟨i, congrArg _ (arr_of hi), hb⟩
set_option maxRecDepth 100000 in
/-- A range that comes in. -/
theorem rg_of {H : Type} {enc : TypeId × Value → H} {W : World} {base : Nat} {r : Reach} {v : Value} {d : DataW H} {ps : List MemPlace} (hv : Value.okWide Tryd.prog W r base 40 v) (h : DataW.Trod enc Tryd.prog W 0 (fun _ => true) true 40 v d ps) :
    ∃ q : Rg, v = q.v ∧ q.Ok := by
  unfold Value.okWide at hv
  rw [Tryd.underlying40] at hv
  obtain ⟨cs, rfl, hsz, _⟩ := hv
  obtain ⟨fuel, hf⟩ := h
  obtain ⟨q, hi, hb⟩ := rg_cells hf
  exact ⟨q, congrArg _ (arr_of hi), hb⟩
set_option maxRecDepth 100000 in
/-- What is known, that comes in. -/
theorem kn_of {H : Type} {enc : TypeId × Value → H} {W : World} {base : Nat} {r : Reach} {v : Value} {d : DataW H} {ps : List MemPlace} (hv : Value.okWide Tryd.prog W r base 43 v) (h : DataW.Trod enc Tryd.prog W 0 (fun _ => true) true 43 v d ps) :
    ∃ k : Kn, v = .agg k.a ∧ KOk k := by
  unfold Value.okWide at hv
  rw [Tryd.underlying43] at hv
  obtain ⟨cs, rfl, hsz, _⟩ := hv
  obtain ⟨fuel, hf⟩ := h
  obtain ⟨k, hi, hb⟩ := kn_cells hf
  exact ⟨k, congrArg _ (arr_of hi), hb⟩
set_option maxRecDepth 100000 in
/-- Two words that come in. -/
theorem pair_of32 {H : Type} {enc : TypeId × Value → H} {W : World} {base : Nat} {r : Reach} {v : Value} {d : DataW H} {ps : List MemPlace} (hv : Value.okWide Tryd.prog W r base 52 v) (h : DataW.Trod enc Tryd.prog W 0 (fun _ => true) true 52 v d ps) :
    ∃ a b : Nat, v = .agg #[.int .u32 (a : Int), .int .u32 (b : Int)] ∧ a < 4294967296 ∧ b < 4294967296 := by
  unfold Value.okWide at hv
  rw [Tryd.underlying52] at hv
  obtain ⟨cs, rfl, hsz, _⟩ := hv
  obtain ⟨fuel, hf⟩ := h
  obtain ⟨U, hi, hb⟩ := words_cells Tryd.underlying52 hf (by kernel_rfl)
  exact ⟨U 0, U 1, congrArg _ (arr_of hi), hb 0 (by decide), hb 1 (by decide)⟩
end Go.Proofs.YtodkehpldlmgaaaDoor
