/- Texts put together, in build order: J2, M4, A3, M5, A4, A6, B7, B10, K1, K2, K5, K3. -/
import Derived.Test.YtodkehpldlmgaaaDoorZq1
import Derived.Deep.Cut
import Derived.Test.YtodkehpldlmgaaaDoorProg
import Derived.ScopeJumps
/- Ranges that are held against one another. -/
namespace Go.Proofs.YtodkehpldlmgaaaDoor
open Go.RowKit

theorem rg_ext {r s : Rg} (h1 : r.set = s.set) (h2 : r.least = s.least) (h3 : r.great = s.great) : r = s := by
  cases r; cases s; simp_all
set_option maxHeartbeats 1000000 in
theorem run_neq {o : Oper} {ρ : Operand → Value} {X : World} (x y : Operand) (ho : o.op = .binOp .neq 40 x y 40) (r s : Rg) (hx : ρ x = .agg r.a) (hy : ρ y = .agg s.a) : (execOp ρ o).run Tryd.prog X = .ok (.value (.bool (!decide (r = s)))) X := by
  have hx' : ρ x = r.v := hx
  have hy' : ρ y = s.v := hy
  clear hx hy
  unfold execOp
  simp only [ho]
  go_simp
  by_cases h1 : r.set = s.set
  · by_cases h2 : r.least = s.least
    · by_cases h3 : r.great = s.great
      · have e := rg_ext h1 h2 h3
        subst e
        simp
      · have e : r ≠ s := fun e => h3 (by rw [e])
        simp [h1, h2, e]; omega
    · have e : r ≠ s := fun e => h2 (by rw [e])
      simp [h1, e]; intro q; omega
  · have e : r ≠ s := fun e => h1 (by rw [e])
    simp [h1, e]
end Go.Proofs.YtodkehpldlmgaaaDoor
/- May what is known be? -/
namespace Go.Proofs.YtodkehpldlmgaaaDoor
open Go.RowKit

/-- May a range be? -/
def rgB (r : Rg) : Bool := decide (r.least ≤ r.great) && (r.set || decide (r = noR))
def knB (k : Kn) : Bool := (List.range 10).all fun n => rgB (k.r n)
theorem knB_no {k : Kn} {n : Nat} (hn : n < 10) (h : rgB (k.r n) = false) : knB k = false := by
  unfold knB
  rw [List.all_eq_false]
  exact ⟨n, by simpa using hn, by rw [h]; decide⟩
theorem knB_yes {k : Kn} (h : ∀ n, n < 10 → rgB (k.r n) = true) : knB k = true := by
  unfold knB
  rw [List.all_eq_true]
  exact fun n hn => h n (by simpa using hn)
set_option maxRecDepth 10000 in
set_option maxHeartbeats 2000000 in
theorem mayBe_any (k : Kn) (w : World) :
    Calls Tryd.prog 31 #[.agg k.a] w fun e w' => e = .returned (.bool (knB k)) ∧ Below w.heap.size w w' := by
  have h0 : Has (w.alloc (.cells k.a 43)) w.heap.size k.a 43 := has_new _ _ _ _ rfl
  have hB0 : Below w.heap.size w (w.alloc (.cells k.a 43)) := (Below.refl _ _).alloc (Nat.le_refl _) _
  have hr := kn_regs h0
  have hx : ∀ (n : Nat) (W : World), n < 10 → (Instr.index 41 (.agg k.regs.toArray) (.int .i64 (n : Int))).run Tryd.prog W = .ok (k.r n).v W := fun n W hn => index_reg k n hn W
  have hw1 := hB0.size
  obtain ⟨ra, hra⟩ : ∃ ra, ra = k.regs := ⟨_, rfl⟩
  rw [← hra] at hr hx
  have hl : (Tryd.prog.info? 41).map (·.size) = some ra.length := by rw [hra]; kernel_rfl
  have HL : Hid ((Tryd.prog.info? 41).map (·.size) = some ra.length) := hl
  obtain ⟨ka, hka⟩ : ∃ ka, ka = k.a := ⟨_, rfl⟩
  rw [← hka] at h0 hB0 hr hw1 ⊢
  clear hl hra hka h0
  go_enter Tryd.func31, Tryd.ntmps31
  go_wp2_with (refine wpList_load_mid rfl 41 _ rfl w.heap.size 1 rfl ra _ hr Tryd.underlying41 rfl HL.out ?_)
  clear hr
  go_loopw [7] (fun v wr => ∃ n : Nat, n ≤ 10 ∧ v = .int .i64 (n : Int) ∧ (∀ j, j < n → rgB (k.r j) = true) ∧ Below w.heap.size w wr) (fun v _ => 10 - (intOf v).toNat)
  case atStart => exact ⟨0, by omega, rfl, fun j hj => absurd hj (by omega), hB0⟩
  case round =>
    obtain ⟨n, hn, rfl, hall, hB⟩ := hrel
    have HA : Hid (∀ j, j < n → rgB (k.r j) = true) := hall
    clear hall hB0 hw1
    by_cases hlt : n < 10
    · have hlt' : (n : Int) < 10 := by omega
      have hx1 := hx n wr hlt
      have HN : Hid (n < 10) := hlt
      have HR : Hid (rgB (k.r n) = false → knB k = false) := knB_no hlt
      clear hx hlt
      generalize hrr : k.r n = r at *
      have HRR : Hid (k.r n = r) := hrr
      clear hrr
      obtain ⟨rs, rl, rg⟩ := r
      go_upto_region 4 with fail
      clear hx1
      refine named (p := fun X => Code.wp _ _ _ _ X) ?_
      intro W1 hW1
      have h4 : Has W1 wr.heap.size #[.bool rs, .int .u32 (rl : Int), .int .u32 (rg : Int)] 40 := by rw [hW1]; exact has_new _ _ _ _ rfl
      have hB1 : Below w.heap.size w W1 := by rw [hW1]; exact hB.alloc hB.size _
      clear hW1 hB
      have hS0 : Below W1.heap.size W1 W1.drew := (Below.refl _ _).drew
      by_cases hgt : rg < rl
      · have hgt' : (rg : Int) < (rl : Int) := by omega
        have HF : Hid (knB k = false) := HR.out (by simp [rgB]; omega)
        clear hgt
        refine wp_region_K (S := fun X => Below W1.heap.size W1 X) (fun _ => true) (by kernel_rfl) ?_
        refine K_take (i := 0) (v := .pointer (some ⟨wr.heap.size, 1, none⟩)) rfl (by kernel_rfl) (by kernel_rfl) (by kernel_rfl) (by kernel_rfl) (by kernel_rfl) (by kernel_rfl) (fun w' hS => by go_simp) hS0 ?_
        refine K_take (i := 1) (v := .int .u32 (rl : Int)) rfl (by kernel_rfl) (by kernel_rfl) (by kernel_rfl) (by kernel_rfl) (by kernel_rfl) (by kernel_rfl) (fun w' hS => by have c := (h4.below hS h4.lt).cell 1; go_simp) hS0 ?_
        refine K_take (i := 2) (v := .pointer (some ⟨wr.heap.size, 2, none⟩)) rfl (by kernel_rfl) (by kernel_rfl) (by kernel_rfl) (by kernel_rfl) (by kernel_rfl) (by kernel_rfl) (fun w' hS => by go_simp) hS0 ?_
        refine K_take (i := 3) (v := .int .u32 (rg : Int)) rfl (by kernel_rfl) (by kernel_rfl) (by kernel_rfl) (by kernel_rfl) (by kernel_rfl) (by kernel_rfl) (fun w' hS => by have c := (h4.below hS h4.lt).cell 2; go_simp) hS0 ?_
        refine K_take (i := 4) (v := .bool true) rfl (by kernel_rfl) (by kernel_rfl) (by kernel_rfl) (by kernel_rfl) (by kernel_rfl) (by kernel_rfl) (fun w' hS => by go_simp) hS0 ?_
        refine K_take (i := 5) (v := .bool true) rfl (by kernel_rfl) (by kernel_rfl) (by kernel_rfl) (by kernel_rfl) (by kernel_rfl) (by kernel_rfl) (fun w' hS => by go_simp) hS0 ?_
        refine K_skip (i := 6) rfl (by kernel_rfl) (by kernel_rfl) (by kernel_rfl) (by kernel_rfl) (by kernel_rfl) (by kernel_rfl) hS0 ?_
        refine K_skip (i := 7) rfl (by kernel_rfl) (by kernel_rfl) (by kernel_rfl) (by kernel_rfl) (by kernel_rfl) (by kernel_rfl) hS0 ?_
        refine K_skip (i := 8) rfl (by kernel_rfl) (by kernel_rfl) (by kernel_rfl) (by kernel_rfl) (by kernel_rfl) (by kernel_rfl) hS0 ?_
        refine K_skip (i := 9) rfl (by kernel_rfl) (by kernel_rfl) (by kernel_rfl) (by kernel_rfl) (by kernel_rfl) (by kernel_rfl) hS0 ?_
        refine K_skip (i := 10) rfl (by kernel_rfl) (by kernel_rfl) (by kernel_rfl) (by kernel_rfl) (by kernel_rfl) (by kernel_rfl) hS0 ?_
        refine K_skip (i := 11) rfl (by kernel_rfl) (by kernel_rfl) (by kernel_rfl) (by kernel_rfl) (by kernel_rfl) (by kernel_rfl) hS0 ?_
        refine K_skip (i := 12) rfl (by kernel_rfl) (by kernel_rfl) (by kernel_rfl) (by kernel_rfl) (by kernel_rfl) (by kernel_rfl) hS0 ?_
        refine K_skip (i := 13) rfl (by kernel_rfl) (by kernel_rfl) (by kernel_rfl) (by kernel_rfl) (by kernel_rfl) (by kernel_rfl) hS0 ?_
        refine K_take (i := 14) (v := .bool true) rfl (by kernel_rfl) (by kernel_rfl) (by kernel_rfl) (by kernel_rfl) (by kernel_rfl) (by kernel_rfl) (fun w' hS => by go_simp) hS0 ?_
        refine K_done (by kernel_rfl) ?_
        go_simp
        go_wp2_with fail
        go_ret
        exact ⟨by rw [HF.out]; rfl, hB1.drew⟩
      · have hgt' : ¬ (rg : Int) < (rl : Int) := by omega
        cases rs
        · by_cases hz : (⟨false, rl, rg⟩ : Rg) = noR
          · have HQ : Hid ((!decide ((⟨false, rl, rg⟩ : Rg) = noR)) = false) := by show _ = _; simp [hz]
            have HT : Hid (rgB ⟨false, rl, rg⟩ = true) := by show _ = _; simp [rgB, hz]; omega
            clear hgt hz
            refine wp_region_K (S := fun X => Below W1.heap.size W1 X) (fun _ => true) (by kernel_rfl) ?_
            refine K_take (i := 0) (v := .pointer (some ⟨wr.heap.size, 1, none⟩)) rfl (by kernel_rfl) (by kernel_rfl) (by kernel_rfl) (by kernel_rfl) (by kernel_rfl) (by kernel_rfl) (fun w' hS => by go_simp) hS0 ?_
            refine K_take (i := 1) (v := .int .u32 (rl : Int)) rfl (by kernel_rfl) (by kernel_rfl) (by kernel_rfl) (by kernel_rfl) (by kernel_rfl) (by kernel_rfl) (fun w' hS => by have c := (h4.below hS h4.lt).cell 1; go_simp) hS0 ?_
            refine K_take (i := 2) (v := .pointer (some ⟨wr.heap.size, 2, none⟩)) rfl (by kernel_rfl) (by kernel_rfl) (by kernel_rfl) (by kernel_rfl) (by kernel_rfl) (by kernel_rfl) (fun w' hS => by go_simp) hS0 ?_
            refine K_take (i := 3) (v := .int .u32 (rg : Int)) rfl (by kernel_rfl) (by kernel_rfl) (by kernel_rfl) (by kernel_rfl) (by kernel_rfl) (by kernel_rfl) (fun w' hS => by have c := (h4.below hS h4.lt).cell 2; go_simp) hS0 ?_
            refine K_take (i := 4) (v := .bool false) rfl (by kernel_rfl) (by kernel_rfl) (by kernel_rfl) (by kernel_rfl) (by kernel_rfl) (by kernel_rfl) (fun w' hS => by go_simp) hS0 ?_
            refine K_take (i := 5) (v := .bool false) rfl (by kernel_rfl) (by kernel_rfl) (by kernel_rfl) (by kernel_rfl) (by kernel_rfl) (by kernel_rfl) (fun w' hS => by go_simp) hS0 ?_
            refine K_take (i := 6) (v := .pointer (some ⟨wr.heap.size, 0, none⟩)) rfl (by kernel_rfl) (by kernel_rfl) (by kernel_rfl) (by kernel_rfl) (by kernel_rfl) (by kernel_rfl) (fun w' hS => by go_simp) hS0 ?_
            refine K_take (i := 7) (v := .bool false) rfl (by kernel_rfl) (by kernel_rfl) (by kernel_rfl) (by kernel_rfl) (by kernel_rfl) (by kernel_rfl) (fun w' hS => by have c := (h4.below hS h4.lt).cell 0; go_simp) hS0 ?_
            refine K_take (i := 8) (v := .bool true) rfl (by kernel_rfl) (by kernel_rfl) (by kernel_rfl) (by kernel_rfl) (by kernel_rfl) (by kernel_rfl) (fun w' hS => by go_simp) hS0 ?_
            refine K_take (i := 9) (v := .bool true) rfl (by kernel_rfl) (by kernel_rfl) (by kernel_rfl) (by kernel_rfl) (by kernel_rfl) (by kernel_rfl) (fun w' hS => by go_simp) hS0 ?_
            refine K_take (i := 10) (v := (⟨false, rl, rg⟩ : Rg).v) rfl (by kernel_rfl) (by kernel_rfl) (by kernel_rfl) (by kernel_rfl) (by kernel_rfl) (by kernel_rfl) (fun w' hS => by have c0 := (h4.below hS h4.lt).cell 0; have c1 := (h4.below hS h4.lt).cell 1; have c2 := (h4.below hS h4.lt).cell 2; go_simp) hS0 ?_
            refine K_next (i := 11) (by kernel_rfl) rfl (by kernel_rfl) (fun K hK => ?_)
            go_simp
            refine (nothing_any _).mono ?_
            rintro e W2 ⟨rfl, hB2⟩
            have hS1 : Below W1.heap.size W1 W2 := hS0.trans (hB2.mono hS0.size)
            refine hK _ _ (fun _ => hS1) ?_
            clear hK hS0
            have hS0 := hS1
            clear hS1 hB2
            refine K_take (i := 12) (v := .bool false) rfl (by kernel_rfl) (by kernel_rfl) (by kernel_rfl) (by kernel_rfl) (by kernel_rfl) (by kernel_rfl) (fun w' hS => by rw [run_neq _ _ rfl (⟨false, rl, rg⟩ : Rg) noR rfl rfl, HQ.out]) hS0 ?_
            refine K_take (i := 13) (v := .bool false) rfl (by kernel_rfl) (by kernel_rfl) (by kernel_rfl) (by kernel_rfl) (by kernel_rfl) (by kernel_rfl) (fun w' hS => by go_simp) hS0 ?_
            refine K_take (i := 14) (v := .bool false) rfl (by kernel_rfl) (by kernel_rfl) (by kernel_rfl) (by kernel_rfl) (by kernel_rfl) (by kernel_rfl) (fun w' hS => by go_simp) hS0 ?_
            refine K_done (by kernel_rfl) ?_
            go_simp
            have hB3 : Below w.heap.size w W2 := hB1.trans (hS0.mono hB1.size)
            clear hS0 hB1
            go_wp2_with fail
            go_roundw
            case rel =>
              refine ⟨n + 1, by have := HN.out; omega, by go_num, fun j hj => ?_, hB3⟩
              by_cases e : j = n
              · subst e; rw [HRR.out]; exact HT.out
              · exact HA.out j (by omega)
            case measure => simp [intOf]; have := HN.out; omega
          · have HQ : Hid ((!decide ((⟨false, rl, rg⟩ : Rg) = noR)) = true) := by show _ = _; simp [hz]
            have HF : Hid (knB k = false) := HR.out (by simp [rgB, hz])
            clear hgt hz
            refine wp_region_K (S := fun X => Below W1.heap.size W1 X) (fun _ => true) (by kernel_rfl) ?_
            refine K_take (i := 0) (v := .pointer (some ⟨wr.heap.size, 1, none⟩)) rfl (by kernel_rfl) (by kernel_rfl) (by kernel_rfl) (by kernel_rfl) (by kernel_rfl) (by kernel_rfl) (fun w' hS => by go_simp) hS0 ?_
            refine K_take (i := 1) (v := .int .u32 (rl : Int)) rfl (by kernel_rfl) (by kernel_rfl) (by kernel_rfl) (by kernel_rfl) (by kernel_rfl) (by kernel_rfl) (fun w' hS => by have c := (h4.below hS h4.lt).cell 1; go_simp) hS0 ?_
            refine K_take (i := 2) (v := .pointer (some ⟨wr.heap.size, 2, none⟩)) rfl (by kernel_rfl) (by kernel_rfl) (by kernel_rfl) (by kernel_rfl) (by kernel_rfl) (by kernel_rfl) (fun w' hS => by go_simp) hS0 ?_
            refine K_take (i := 3) (v := .int .u32 (rg : Int)) rfl (by kernel_rfl) (by kernel_rfl) (by kernel_rfl) (by kernel_rfl) (by kernel_rfl) (by kernel_rfl) (fun w' hS => by have c := (h4.below hS h4.lt).cell 2; go_simp) hS0 ?_
            refine K_take (i := 4) (v := .bool false) rfl (by kernel_rfl) (by kernel_rfl) (by kernel_rfl) (by kernel_rfl) (by kernel_rfl) (by kernel_rfl) (fun w' hS => by go_simp) hS0 ?_
            refine K_take (i := 5) (v := .bool false) rfl (by kernel_rfl) (by kernel_rfl) (by kernel_rfl) (by kernel_rfl) (by kernel_rfl) (by kernel_rfl) (fun w' hS => by go_simp) hS0 ?_
            refine K_take (i := 6) (v := .pointer (some ⟨wr.heap.size, 0, none⟩)) rfl (by kernel_rfl) (by kernel_rfl) (by kernel_rfl) (by kernel_rfl) (by kernel_rfl) (by kernel_rfl) (fun w' hS => by go_simp) hS0 ?_
            refine K_take (i := 7) (v := .bool false) rfl (by kernel_rfl) (by kernel_rfl) (by kernel_rfl) (by kernel_rfl) (by kernel_rfl) (by kernel_rfl) (fun w' hS => by have c := (h4.below hS h4.lt).cell 0; go_simp) hS0 ?_
            refine K_take (i := 8) (v := .bool true) rfl (by kernel_rfl) (by kernel_rfl) (by kernel_rfl) (by kernel_rfl) (by kernel_rfl) (by kernel_rfl) (fun w' hS => by go_simp) hS0 ?_
            refine K_take (i := 9) (v := .bool true) rfl (by kernel_rfl) (by kernel_rfl) (by kernel_rfl) (by kernel_rfl) (by kernel_rfl) (by kernel_rfl) (fun w' hS => by go_simp) hS0 ?_
            refine K_take (i := 10) (v := (⟨false, rl, rg⟩ : Rg).v) rfl (by kernel_rfl) (by kernel_rfl) (by kernel_rfl) (by kernel_rfl) (by kernel_rfl) (by kernel_rfl) (fun w' hS => by have c0 := (h4.below hS h4.lt).cell 0; have c1 := (h4.below hS h4.lt).cell 1; have c2 := (h4.below hS h4.lt).cell 2; go_simp) hS0 ?_
            refine K_next (i := 11) (by kernel_rfl) rfl (by kernel_rfl) (fun K hK => ?_)
            go_simp
            refine (nothing_any _).mono ?_
            rintro e W2 ⟨rfl, hB2⟩
            have hS1 : Below W1.heap.size W1 W2 := hS0.trans (hB2.mono hS0.size)
            refine hK _ _ (fun _ => hS1) ?_
            clear hK hS0
            have hS0 := hS1
            clear hS1 hB2
            refine K_take (i := 12) (v := .bool true) rfl (by kernel_rfl) (by kernel_rfl) (by kernel_rfl) (by kernel_rfl) (by kernel_rfl) (by kernel_rfl) (fun w' hS => by rw [run_neq _ _ rfl (⟨false, rl, rg⟩ : Rg) noR rfl rfl, HQ.out]) hS0 ?_
            refine K_take (i := 13) (v := .bool true) rfl (by kernel_rfl) (by kernel_rfl) (by kernel_rfl) (by kernel_rfl) (by kernel_rfl) (by kernel_rfl) (fun w' hS => by go_simp) hS0 ?_
            refine K_take (i := 14) (v := .bool true) rfl (by kernel_rfl) (by kernel_rfl) (by kernel_rfl) (by kernel_rfl) (by kernel_rfl) (by kernel_rfl) (fun w' hS => by go_simp) hS0 ?_
            refine K_done (by kernel_rfl) ?_
            go_simp
            have hB3 : Below w.heap.size w W2 := hB1.trans (hS0.mono hB1.size)
            clear hS0 hB1
            go_wp2_with fail
            go_ret
            exact ⟨by rw [HF.out]; rfl, hB3⟩
        · have HT : Hid (rgB ⟨true, rl, rg⟩ = true) := by show _ = _; simp [rgB]; omega
          clear hgt
          refine wp_region_K (S := fun X => Below W1.heap.size W1 X) (fun _ => true) (by kernel_rfl) ?_
          refine K_take (i := 0) (v := .pointer (some ⟨wr.heap.size, 1, none⟩)) rfl (by kernel_rfl) (by kernel_rfl) (by kernel_rfl) (by kernel_rfl) (by kernel_rfl) (by kernel_rfl) (fun w' hS => by go_simp) hS0 ?_
          refine K_take (i := 1) (v := .int .u32 (rl : Int)) rfl (by kernel_rfl) (by kernel_rfl) (by kernel_rfl) (by kernel_rfl) (by kernel_rfl) (by kernel_rfl) (fun w' hS => by have c := (h4.below hS h4.lt).cell 1; go_simp) hS0 ?_
          refine K_take (i := 2) (v := .pointer (some ⟨wr.heap.size, 2, none⟩)) rfl (by kernel_rfl) (by kernel_rfl) (by kernel_rfl) (by kernel_rfl) (by kernel_rfl) (by kernel_rfl) (fun w' hS => by go_simp) hS0 ?_
          refine K_take (i := 3) (v := .int .u32 (rg : Int)) rfl (by kernel_rfl) (by kernel_rfl) (by kernel_rfl) (by kernel_rfl) (by kernel_rfl) (by kernel_rfl) (fun w' hS => by have c := (h4.below hS h4.lt).cell 2; go_simp) hS0 ?_
          refine K_take (i := 4) (v := .bool false) rfl (by kernel_rfl) (by kernel_rfl) (by kernel_rfl) (by kernel_rfl) (by kernel_rfl) (by kernel_rfl) (fun w' hS => by go_simp) hS0 ?_
          refine K_take (i := 5) (v := .bool false) rfl (by kernel_rfl) (by kernel_rfl) (by kernel_rfl) (by kernel_rfl) (by kernel_rfl) (by kernel_rfl) (fun w' hS => by go_simp) hS0 ?_
          refine K_take (i := 6) (v := .pointer (some ⟨wr.heap.size, 0, none⟩)) rfl (by kernel_rfl) (by kernel_rfl) (by kernel_rfl) (by kernel_rfl) (by kernel_rfl) (by kernel_rfl) (fun w' hS => by go_simp) hS0 ?_
          refine K_take (i := 7) (v := .bool true) rfl (by kernel_rfl) (by kernel_rfl) (by kernel_rfl) (by kernel_rfl) (by kernel_rfl) (by kernel_rfl) (fun w' hS => by have c := (h4.below hS h4.lt).cell 0; go_simp) hS0 ?_
          refine K_take (i := 8) (v := .bool false) rfl (by kernel_rfl) (by kernel_rfl) (by kernel_rfl) (by kernel_rfl) (by kernel_rfl) (by kernel_rfl) (fun w' hS => by go_simp) hS0 ?_
          refine K_take (i := 9) (v := .bool false) rfl (by kernel_rfl) (by kernel_rfl) (by kernel_rfl) (by kernel_rfl) (by kernel_rfl) (by kernel_rfl) (fun w' hS => by go_simp) hS0 ?_
          refine K_skip (i := 10) rfl (by kernel_rfl) (by kernel_rfl) (by kernel_rfl) (by kernel_rfl) (by kernel_rfl) (by kernel_rfl) hS0 ?_
          refine K_skip (i := 11) rfl (by kernel_rfl) (by kernel_rfl) (by kernel_rfl) (by kernel_rfl) (by kernel_rfl) (by kernel_rfl) hS0 ?_
          refine K_skip (i := 12) rfl (by kernel_rfl) (by kernel_rfl) (by kernel_rfl) (by kernel_rfl) (by kernel_rfl) (by kernel_rfl) hS0 ?_
          refine K_take (i := 13) (v := .bool false) rfl (by kernel_rfl) (by kernel_rfl) (by kernel_rfl) (by kernel_rfl) (by kernel_rfl) (by kernel_rfl) (fun w' hS => by go_simp) hS0 ?_
          refine K_take (i := 14) (v := .bool false) rfl (by kernel_rfl) (by kernel_rfl) (by kernel_rfl) (by kernel_rfl) (by kernel_rfl) (by kernel_rfl) (fun w' hS => by go_simp) hS0 ?_
          refine K_done (by kernel_rfl) ?_
          go_simp
          go_wp2_with fail
          go_roundw
          case rel =>
            refine ⟨n + 1, by have := HN.out; omega, by go_num, fun j hj => ?_, hB1.drew⟩
            by_cases e : j = n
            · subst e; rw [HRR.out]; exact HT.out
            · exact HA.out j (by omega)
          case measure => simp [intOf]; have := HN.out; omega
    · obtain rfl : n = 10 := by omega
      have HT : Hid (knB k = true) := knB_yes HA.out
      clear hlt hn hx
      go_wp2_with fail
      go_ret
      exact ⟨by rw [HT.out]; rfl, hB⟩
end Go.Proofs.YtodkehpldlmgaaaDoor
/- Spans, differences and bounds of ranges. -/
namespace Go.Proofs.YtodkehpldlmgaaaDoor
open Go.RowKit

set_option maxRecDepth 10000 in
set_option maxHeartbeats 1000000 in
theorem com_any (d s : Rg) (hd : d.Ok) (hs : s.Ok) (w : World) :
    Calls Tryd.prog 51 #[d.v, s.v] w fun e w' => e = .returned (comR d s).v ∧ Below w.heap.size w w' := by
  obtain ⟨ds, dl, dg⟩ := d
  obtain ⟨d1, d2⟩ := hd
  simp only at d1 d2
  obtain ⟨ss, sl, sg⟩ := s
  obtain ⟨s1, s2⟩ := hs
  simp only at s1 s2
  by_cases h : sg < dg
  · have h' : ((sg : Int) < (dg : Int)) := by omega
    have HE : Hid (comR ⟨ds, dl, dg⟩ ⟨ss, sl, sg⟩ = fromR 0 sg) := by show _ = _; simp [comR, fromR]; omega
    clear h
    go_enter Tryd.func51, Tryd.ntmps51
    go_wp2_with (go_at_call 83;  refine (from_any _ _ _ (by omega) (by omega)).mono ?_; rintro e W1 ⟨rfl, hB1⟩; obtain ⟨hc, hf⟩ := bcell hB1; have hz := hB1.size; simp at hz)
    refine bodyPost_ret (v := Rg.v (fromR 0 sg)) (by simp [results, Tryd.results51, go_sem, hc]) rfl ⟨by rw [HE.out], (((((((((Below.refl _ _).alloc (by simp <;> omega) _).alloc (by simp <;> omega) _).alloc (by simp <;> omega) _)).trans (hB1.mono (by simp <;> omega)))).setCell (by simp <;> omega) _).setCell (by simp <;> omega) _).setCell (by simp <;> omega) _⟩
  · have h' : ¬ ((sg : Int) < (dg : Int)) := by omega
    have HE : Hid (comR ⟨ds, dl, dg⟩ ⟨ss, sl, sg⟩ = fromR 0 dg) := by show _ = _; simp [comR, fromR]; omega
    clear h
    go_enter Tryd.func51, Tryd.ntmps51
    go_wp2_with (go_at_call 83;  refine (from_any _ _ _ (by omega) (by omega)).mono ?_; rintro e W1 ⟨rfl, hB1⟩; obtain ⟨hc, hf⟩ := bcell hB1; have hz := hB1.size; simp at hz)
    refine bodyPost_ret (v := Rg.v (fromR 0 dg)) (by simp [results, Tryd.results51, go_sem, hc]) rfl ⟨by rw [HE.out], (((((((((Below.refl _ _).alloc (by simp <;> omega) _).alloc (by simp <;> omega) _).alloc (by simp <;> omega) _)).trans (hB1.mono (by simp <;> omega)))).setCell (by simp <;> omega) _).setCell (by simp <;> omega) _).setCell (by simp <;> omega) _⟩
set_option maxRecDepth 10000 in
set_option maxHeartbeats 1000000 in
theorem atMost_any (r : Rg) (n : Nat) (hd : r.Ok) (w : World) :
    Calls Tryd.prog 90 #[r.v, .int .u32 (n : Int)] w fun e w' => e = .returned (atMostR r n).v ∧ Below w.heap.size w w' := by
  obtain ⟨ds, dl, dg⟩ := r
  obtain ⟨d1, d2⟩ := hd
  simp only at d1 d2
  by_cases h : n < dg
  · have h' : ((n : Int) < (dg : Int)) := by omega
    have HE : Hid (atMostR ⟨ds, dl, dg⟩ n = fromR dl n) := by show _ = _; simp [atMostR, fromR]; omega
    clear h
    go_enter Tryd.func90, Tryd.ntmps90
    go_wp2_with (go_at_call 83;  refine (from_any _ _ _ (by omega) (by omega)).mono ?_; rintro e W1 ⟨rfl, hB1⟩; obtain ⟨hc, hf⟩ := bcell hB1; have hz := hB1.size; simp at hz)
    refine bodyPost_ret (v := Rg.v (fromR dl n)) (by simp [results, Tryd.results90, go_sem, hc]) rfl ⟨by rw [HE.out], ((((((((Below.refl _ _).alloc (by simp <;> omega) _).alloc (by simp <;> omega) _)).trans (hB1.mono (by simp <;> omega)))).setCell (by simp <;> omega) _).setCell (by simp <;> omega) _).setCell (by simp <;> omega) _⟩
  · have h' : ¬ ((n : Int) < (dg : Int)) := by omega
    have HE : Hid (atMostR ⟨ds, dl, dg⟩ n = fromR dl dg) := by show _ = _; simp [atMostR, fromR]; omega
    clear h
    go_enter Tryd.func90, Tryd.ntmps90
    go_wp2_with (go_at_call 83;  refine (from_any _ _ _ (by omega) (by omega)).mono ?_; rintro e W1 ⟨rfl, hB1⟩; obtain ⟨hc, hf⟩ := bcell hB1; have hz := hB1.size; simp at hz)
    refine bodyPost_ret (v := Rg.v (fromR dl dg)) (by simp [results, Tryd.results90, go_sem, hc]) rfl ⟨by rw [HE.out], ((((((((Below.refl _ _).alloc (by simp <;> omega) _).alloc (by simp <;> omega) _)).trans (hB1.mono (by simp <;> omega)))).setCell (by simp <;> omega) _).setCell (by simp <;> omega) _).setCell (by simp <;> omega) _⟩
set_option maxRecDepth 10000 in
set_option maxHeartbeats 1000000 in
theorem atLeast_any (r : Rg) (n : Nat) (hd : r.Ok) (w : World) :
    Calls Tryd.prog 91 #[r.v, .int .u32 (n : Int)] w fun e w' => e = .returned (atLeastR r n).v ∧ Below w.heap.size w w' := by
  obtain ⟨ds, dl, dg⟩ := r
  obtain ⟨d1, d2⟩ := hd
  simp only at d1 d2
  by_cases h : dl < n
  · have h' : ((dl : Int) < (n : Int)) := by omega
    have HE : Hid (atLeastR ⟨ds, dl, dg⟩ n = fromR n dg) := by show _ = _; simp [atLeastR, fromR]; omega
    clear h
    go_enter Tryd.func91, Tryd.ntmps91
    go_wp2_with (go_at_call 83;  refine (from_any _ _ _ (by omega) (by omega)).mono ?_; rintro e W1 ⟨rfl, hB1⟩; obtain ⟨hc, hf⟩ := bcell hB1; have hz := hB1.size; simp at hz)
    refine bodyPost_ret (v := Rg.v (fromR n dg)) (by simp [results, Tryd.results91, go_sem, hc]) rfl ⟨by rw [HE.out], ((((((((Below.refl _ _).alloc (by simp <;> omega) _).alloc (by simp <;> omega) _)).trans (hB1.mono (by simp <;> omega)))).setCell (by simp <;> omega) _).setCell (by simp <;> omega) _).setCell (by simp <;> omega) _⟩
  · have h' : ¬ ((dl : Int) < (n : Int)) := by omega
    have HE : Hid (atLeastR ⟨ds, dl, dg⟩ n = fromR dl dg) := by show _ = _; simp [atLeastR, fromR]; omega
    clear h
    go_enter Tryd.func91, Tryd.ntmps91
    go_wp2_with (go_at_call 83;  refine (from_any _ _ _ (by omega) (by omega)).mono ?_; rintro e W1 ⟨rfl, hB1⟩; obtain ⟨hc, hf⟩ := bcell hB1; have hz := hB1.size; simp at hz)
    refine bodyPost_ret (v := Rg.v (fromR dl dg)) (by simp [results, Tryd.results91, go_sem, hc]) rfl ⟨by rw [HE.out], ((((((((Below.refl _ _).alloc (by simp <;> omega) _).alloc (by simp <;> omega) _)).trans (hB1.mono (by simp <;> omega)))).setCell (by simp <;> omega) _).setCell (by simp <;> omega) _).setCell (by simp <;> omega) _⟩
set_option maxRecDepth 10000 in
set_option maxHeartbeats 1000000 in
theorem diff_any (d s : Rg) (hd : d.Ok) (hs : s.Ok) (w : World) (hl : d.least ≤ d.great) (hm : s.least ≤ s.great) :
    Calls Tryd.prog 49 #[d.v, s.v] w fun e w' => e = .returned (diffR d s).v ∧ Below w.heap.size w w' := by
  obtain ⟨ds, dl, dg⟩ := d
  obtain ⟨d1, d2⟩ := hd
  simp only at d1 d2
  obtain ⟨ss, sl, sg⟩ := s
  obtain ⟨s1, s2⟩ := hs
  simp only at s1 s2
  simp only at hl hm
  by_cases h : dl < sg
  · have h' : (dl : Int) < (sg : Int) := by omega
    have HE : Hid (diffR ⟨ds, dl, dg⟩ ⟨ss, sl, sg⟩ = allR) := by show _ = _; simp [diffR, h]
    clear h
    go_enter Tryd.func49, Tryd.ntmps49
    go_wp2_with (go_at_call 82;  refine (all_any _).mono ?_; rintro e W1 ⟨rfl, hB1⟩; obtain ⟨hc, hf⟩ := bcell hB1; have hz := hB1.size; simp at hz)
    refine bodyPost_ret (v := Rg.v (allR)) (by simp [results, Tryd.results49, go_sem, hc]) rfl ⟨by rw [HE.out], (((((((((Below.refl _ _).alloc (by simp <;> omega) _).alloc (by simp <;> omega) _).alloc (by simp <;> omega) _)).trans (hB1.mono (by simp <;> omega)))).setCell (by simp <;> omega) _).setCell (by simp <;> omega) _).setCell (by simp <;> omega) _⟩
  · have h' : ¬ (dl : Int) < (sg : Int) := by omega
    have HE : Hid (diffR ⟨ds, dl, dg⟩ ⟨ss, sl, sg⟩ = fromR (dl - sg) (dg - sl)) := by show _ = _; simp [diffR, h]
    have e1 : IntKind.u32.wrap ((dl : Int) - sg) = ((dl - sg : Nat) : Int) := by rw [IntKind.wrap_u32]; omega
    have e2 : IntKind.u32.wrap ((dg : Int) - sl) = ((dg - sl : Nat) : Int) := by rw [IntKind.wrap_u32]; omega
    clear h
    go_enter Tryd.func49, Tryd.ntmps49
    go_wp2_with (go_at_call 83;  refine (from_any _ _ _ (by omega) (by omega)).mono ?_; rintro e W1 ⟨rfl, hB1⟩; obtain ⟨hc, hf⟩ := bcell hB1; have hz := hB1.size; simp at hz)
    refine bodyPost_ret (v := Rg.v (fromR (dl - sg) (dg - sl))) (by simp [results, Tryd.results49, go_sem, hc]) rfl ⟨by rw [HE.out], (((((((((Below.refl _ _).alloc (by simp <;> omega) _).alloc (by simp <;> omega) _).alloc (by simp <;> omega) _)).trans (hB1.mono (by simp <;> omega)))).setCell (by simp <;> omega) _).setCell (by simp <;> omega) _).setCell (by simp <;> omega) _⟩
theorem span_no (w : World) (dl dg sl sg : Nat) (ds ss : Bool) (hb : ¬ (ds = true ∧ ss = true)) :
    Calls Tryd.prog 94 #[(⟨ds, dl, dg⟩ : Rg).v, (⟨ss, sl, sg⟩ : Rg).v] w fun e w' => e = .returned noR.v ∧ Below w.heap.size w w' := by
  cases ds
  · clear hb
    go_enter Tryd.func94, Tryd.ntmps94
    go_wp2_with (go_at_call 43;  refine (nothing_any _).mono ?_; rintro e W1 ⟨rfl, hB1⟩; obtain ⟨hc, hf⟩ := bcell hB1; have hz := hB1.size; simp at hz)
    refine bodyPost_ret (v := Rg.v (noR)) (by simp [results, Tryd.results94, go_sem, hc]) rfl ⟨rfl, (((((((((Below.refl _ _).alloc (by simp <;> omega) _).alloc (by simp <;> omega) _).alloc (by simp <;> omega) _)).trans (hB1.mono (by simp <;> omega)))).setCell (by simp <;> omega) _).setCell (by simp <;> omega) _).setCell (by simp <;> omega) _⟩
  · cases ss
    · clear hb
      go_enter Tryd.func94, Tryd.ntmps94
      go_wp2_with (go_at_call 43;  refine (nothing_any _).mono ?_; rintro e W1 ⟨rfl, hB1⟩; obtain ⟨hc, hf⟩ := bcell hB1; have hz := hB1.size; simp at hz)
      refine bodyPost_ret (v := Rg.v (noR)) (by simp [results, Tryd.results94, go_sem, hc]) rfl ⟨rfl, (((((((((Below.refl _ _).alloc (by simp <;> omega) _).alloc (by simp <;> omega) _).alloc (by simp <;> omega) _)).trans (hB1.mono (by simp <;> omega)))).setCell (by simp <;> omega) _).setCell (by simp <;> omega) _).setCell (by simp <;> omega) _⟩
    · exact absurd ⟨rfl, rfl⟩ hb
set_option maxHeartbeats 2000000 in
theorem span_yes (w : World) (dl dg sl sg : Nat) (d1 : dl < 4294967296) (d2 : dg < 4294967296) (s1 : sl < 4294967296) (s2 : sg < 4294967296) :
    Calls Tryd.prog 94 #[(⟨true, dl, dg⟩ : Rg).v, (⟨true, sl, sg⟩ : Rg).v] w fun e w' => e = .returned (fromR (min dl sl) (max dg sg)).v ∧ Below w.heap.size w w' := by
  by_cases h : sl < dl
  · have h' : (sl : Int) < (dl : Int) := by omega
    have HA : Hid (min dl sl = sl) := by show _ = _; omega
    clear h
    by_cases k : dg < sg
    · have k' : (dg : Int) < (sg : Int) := by omega
      have HB : Hid (max dg sg = sg) := by show _ = _; omega
      clear k
      go_enter Tryd.func94, Tryd.ntmps94
      go_wp2_with (go_at_call 83;  refine (from_any _ _ _ (by omega) (by omega)).mono ?_; rintro e W1 ⟨rfl, hB1⟩; obtain ⟨hc, hf⟩ := bcell hB1; have hz := hB1.size; simp at hz)
      refine bodyPost_ret (v := Rg.v (fromR sl sg)) (by simp [results, Tryd.results94, go_sem, hc]) rfl ⟨by rw [HA.out, HB.out], (((((((((Below.refl _ _).alloc (by simp <;> omega) _).alloc (by simp <;> omega) _).alloc (by simp <;> omega) _)).trans (hB1.mono (by simp <;> omega)))).setCell (by simp <;> omega) _).setCell (by simp <;> omega) _).setCell (by simp <;> omega) _⟩
    · have k' : ¬ (dg : Int) < (sg : Int) := by omega
      have HB : Hid (max dg sg = dg) := by show _ = _; omega
      clear k
      go_enter Tryd.func94, Tryd.ntmps94
      go_wp2_with (go_at_call 83;  refine (from_any _ _ _ (by omega) (by omega)).mono ?_; rintro e W1 ⟨rfl, hB1⟩; obtain ⟨hc, hf⟩ := bcell hB1; have hz := hB1.size; simp at hz)
      refine bodyPost_ret (v := Rg.v (fromR sl dg)) (by simp [results, Tryd.results94, go_sem, hc]) rfl ⟨by rw [HA.out, HB.out], (((((((((Below.refl _ _).alloc (by simp <;> omega) _).alloc (by simp <;> omega) _).alloc (by simp <;> omega) _)).trans (hB1.mono (by simp <;> omega)))).setCell (by simp <;> omega) _).setCell (by simp <;> omega) _).setCell (by simp <;> omega) _⟩
  · have h' : ¬ (sl : Int) < (dl : Int) := by omega
    have HA : Hid (min dl sl = dl) := by show _ = _; omega
    clear h
    by_cases k : dg < sg
    · have k' : (dg : Int) < (sg : Int) := by omega
      have HB : Hid (max dg sg = sg) := by show _ = _; omega
      clear k
      go_enter Tryd.func94, Tryd.ntmps94
      go_wp2_with (go_at_call 83;  refine (from_any _ _ _ (by omega) (by omega)).mono ?_; rintro e W1 ⟨rfl, hB1⟩; obtain ⟨hc, hf⟩ := bcell hB1; have hz := hB1.size; simp at hz)
      refine bodyPost_ret (v := Rg.v (fromR dl sg)) (by simp [results, Tryd.results94, go_sem, hc]) rfl ⟨by rw [HA.out, HB.out], (((((((((Below.refl _ _).alloc (by simp <;> omega) _).alloc (by simp <;> omega) _).alloc (by simp <;> omega) _)).trans (hB1.mono (by simp <;> omega)))).setCell (by simp <;> omega) _).setCell (by simp <;> omega) _).setCell (by simp <;> omega) _⟩
    · have k' : ¬ (dg : Int) < (sg : Int) := by omega
      have HB : Hid (max dg sg = dg) := by show _ = _; omega
      clear k
      go_enter Tryd.func94, Tryd.ntmps94
      go_wp2_with (go_at_call 83;  refine (from_any _ _ _ (by omega) (by omega)).mono ?_; rintro e W1 ⟨rfl, hB1⟩; obtain ⟨hc, hf⟩ := bcell hB1; have hz := hB1.size; simp at hz)
      refine bodyPost_ret (v := Rg.v (fromR dl dg)) (by simp [results, Tryd.results94, go_sem, hc]) rfl ⟨by rw [HA.out, HB.out], (((((((((Below.refl _ _).alloc (by simp <;> omega) _).alloc (by simp <;> omega) _).alloc (by simp <;> omega) _)).trans (hB1.mono (by simp <;> omega)))).setCell (by simp <;> omega) _).setCell (by simp <;> omega) _).setCell (by simp <;> omega) _⟩
theorem span_any (d s : Rg) (hd : d.Ok) (hs : s.Ok) (w : World) :
    Calls Tryd.prog 94 #[d.v, s.v] w fun e w' => e = .returned (spanR d s).v ∧ Below w.heap.size w w' := by
  obtain ⟨ds, dl, dg⟩ := d
  obtain ⟨ss, sl, sg⟩ := s
  obtain ⟨d1, d2⟩ := hd
  obtain ⟨s1, s2⟩ := hs
  by_cases h : ds = true ∧ ss = true
  · obtain ⟨rfl, rfl⟩ := h
    exact span_yes w dl dg sl sg d1 d2 s1 s2
  · have e : spanR ⟨ds, dl, dg⟩ ⟨ss, sl, sg⟩ = noR := by unfold spanR; rw [if_neg h]
    rw [e]
    exact span_no w dl dg sl sg ds ss h
end Go.Proofs.YtodkehpldlmgaaaDoor
/- What is known by two ways. -/
namespace Go.Proofs.YtodkehpldlmgaaaDoor
open Go.RowKit

def joinTo (a b : Kn) (n : Nat) : Kn := ⟨a.come, fun j => if j < n then spanR (a.r j) (b.r j) else a.r j⟩
def joinK (a b : Kn) : Kn := if a.come = false then b else if b.come = false then a else joinTo a b 10
theorem joinTo_zero (a b : Kn) : joinTo a b 0 = a := by
  unfold joinTo
  simp
theorem joinTo_succ (a b : Kn) (n : Nat) : (joinTo a b n).set n (spanR (a.r n) (b.r n)) = joinTo a b (n + 1) := by
  unfold joinTo Kn.set
  congr 1
  funext j
  by_cases h : j = n
  · subst h; simp
  · by_cases h2 : j < n
    · simp [h, h2, show j < n + 1 by omega]
    · simp [h, h2, show ¬ j < n + 1 by omega]
theorem joinTo_at (a b : Kn) (n : Nat) : (joinTo a b n).r n = a.r n := by simp [joinTo]
set_option maxRecDepth 10000 in
set_option maxHeartbeats 2000000 in
theorem join_any (a b : Kn) (w : World) (ha : ∀ n, n < 10 → (a.r n).Ok) (hb : ∀ n, n < 10 → (b.r n).Ok) :
    Calls Tryd.prog 74 #[.agg a.a, .agg b.a] w fun e w' => e = .returned (.agg (joinK a b).a) ∧ Below w.heap.size w w' := by
  obtain ⟨W0, hW0⟩ : ∃ W0, W0 = ((w.alloc (.cells a.a 43)).alloc (.cells b.a 43)).alloc (.cells noK.a 43) := ⟨_, rfl⟩
  have h2 : Has W0 w.heap.size a.a 43 := by rw [hW0]; exact has_old (has_old (has_new _ _ _ _ rfl))
  have h3 : Has W0 (w.heap.size + 1) b.a 43 := by rw [hW0]; exact has_old (has_new _ _ _ _ (by simp))
  have h4 : Has W0 (w.heap.size + 2) noK.a 43 := by rw [hW0]; exact has_new _ _ _ _ (by simp)
  have hB0 : Below w.heap.size w W0 := by rw [hW0]; exact (((Below.refl _ _).alloc (Nat.le_refl _) _).alloc (by simp) _).alloc (by simp <;> omega) _
  go_enter Tryd.func74, Tryd.ntmps74
  go_upto_region 1 with fail
  refine named2 (p := fun X => Code.wp _ _ _ _ X) ?_
  intro W9 hW9
  have hW : W0 = W9 := hW0.trans hW9.symm
  subst hW
  clear hW9 hW0
  have ca : W0.cell? ⟨w.heap.size, 0, none⟩ = some (.bool a.come) := h2.cell 0
  have cb : W0.cell? ⟨w.heap.size + 1, 0, none⟩ = some (.bool b.come) := h3.cell 0
  cases hac : a.come
  · rw [hac] at ca
    have HE : Hid (joinK a b = b) := by show _ = _; unfold joinK; rw [if_pos hac]
    clear hac cb
    go_wp2_with (first | refine wpList_load_row rfl 43 _ rfl (w.heap.size + 1) rfl 43 b.a (0, 0) _ h3 Tryd.underlying43 rfl (by kernel_rfl) ?_ | refine wpList_store_row rfl 43 _ _ rfl (w.heap.size + 2) b.a rfl rfl 43 noK.a h4 (by kernel_rfl) (by kernel_rfl) (Kn.a_one b) ?_)
    refine bodyPost_ret (results_cell_row rfl _ _ (w.heap.size + 2) 43 _ (0, 0) _ rfl (setRow_heap _ _ _ b.a _ _ h4) Tryd.underlying43 rfl (by kernel_rfl)) rfl ?_
    exact ⟨by rw [HE.out], setRow_below hB0 (by omega) _⟩
  · rw [hac] at ca
    cases hbc : b.come
    · rw [hbc] at cb
      have HE : Hid (joinK a b = a) := by show _ = _; unfold joinK; rw [if_neg (by rw [hac]; decide), if_pos hbc]
      clear hac hbc
      go_wp2_with (first | refine wpList_load_row rfl 43 _ rfl w.heap.size rfl 43 a.a (0, 0) _ h2 Tryd.underlying43 rfl (by kernel_rfl) ?_ | refine wpList_store_row rfl 43 _ _ rfl (w.heap.size + 2) a.a rfl rfl 43 noK.a h4 (by kernel_rfl) (by kernel_rfl) (Kn.a_one a) ?_)
      refine bodyPost_ret (results_cell_row rfl _ _ (w.heap.size + 2) 43 _ (0, 0) _ rfl (setRow_heap _ _ _ a.a _ _ h4) Tryd.underlying43 rfl (by kernel_rfl)) rfl ?_
      exact ⟨by rw [HE.out], setRow_below hB0 (by omega) _⟩
    · rw [hbc] at cb
      have HE : Hid (joinK a b = joinTo a b 10) := by show _ = _; unfold joinK; rw [if_neg (by rw [hac]; decide), if_neg (by rw [hbc]; decide)]
      clear hac hbc
      have h2' : Has W0 w.heap.size (joinTo a b 0).a 43 := by rw [joinTo_zero]; exact h2
      clear h2
      go_wp2_with fail
      clear ca cb
      go_loopw [16] (fun v wr => ∃ n : Nat, n ≤ 10 ∧ v = .int .i64 (n : Int) ∧ Has wr w.heap.size (joinTo a b n).a 43 ∧ Has wr (w.heap.size + 1) b.a 43 ∧ Has wr (w.heap.size + 2) noK.a 43 ∧ Below w.heap.size w wr) (fun v _ => 10 - (intOf v).toNat)
      case atStart => exact ⟨0, by omega, rfl, h2', h3, h4, hB0⟩
      case round =>
        obtain ⟨n, hn, rfl, k2, k3, k4, hB⟩ := hrel
        clear h2' h3 h4 hB0
        by_cases hlt : n < 10
        · have hlt' : (n : Int) < 10 := by omega
          have HN : Hid (n < 10) := hlt
          have HS : Hid (joinTo a b (n + 1) = (joinTo a b n).set n (spanR (a.r n) (b.r n))) := (joinTo_succ a b n).symm
          have hsp : ∀ X, _ := fun X => span_any (a.r n) (b.r n) (ha n hlt) (hb n hlt) X
          have hk2 := kn_reg k2 n hlt
          rw [joinTo_at] at hk2
          obtain ⟨kq, hkq⟩ : ∃ kq, kq = joinTo a b n := ⟨_, rfl⟩
          have hrn : kq.r n = a.r n := by rw [hkq, joinTo_at]
          rw [← hkq] at k2 HS
          have HR : Hid (kq.r n = a.r n) := hrn
          clear hkq hrn hlt hk2
          go_upto_region 8 with fail
          refine named2 (p := fun X => Code.wp _ _ _ _ X) ?_
          intro W1 hW1
          subst hW1
          have hB0 := hB
          clear hB
          refine wp_region_inv (Φ := fun l vs X => Vals (fun q => match q with | 0 => some (.int .i64 (n : Int)) | 1 => some (.int .i64 (n : Int)) | 2 => some (.pointer (some ⟨w.heap.size, 1, none⟩)) | 3 => some (.pointer (some ⟨w.heap.size, 1 + n * 3, none⟩)) | 4 => some ((a.r n).v) | 5 => some (.int .i64 (n : Int)) | 6 => some (.pointer (some ⟨w.heap.size + 1, 1, none⟩)) | 7 => some (.pointer (some ⟨w.heap.size + 1, 1 + n * 3, none⟩)) | 8 => some ((b.r n).v) | 9 => some ((spanR (a.r n) (b.r n)).v) | 10 => some (.pointer (some ⟨w.heap.size, 1, none⟩)) | 11 => some (.pointer (some ⟨w.heap.size, 1 + n * 3, none⟩)) | _ => none) l vs ∧ Pre1 12 (Below W1.heap.size W1) (fun X => Has X w.heap.size (kq.set n (spanR (a.r n) (b.r n))).a 43 ∧ Has X (w.heap.size + 1) b.a 43 ∧ Has X (w.heap.size + 2) noK.a 43 ∧ Below w.heap.size w X) l X) (PQ := fun _ _ => False)
            (by kernel_rfl) (by kernel_rfl) (by kernel_rfl) (by kernel_rfl) ⟨Vals.none _ _, Pre1.start ((Below.refl _ _).drew)⟩ ?hop ?hend (fun _ _ _ _ h => h.elim)
          case hop =>
            refine ⟨?_, ?_, ?_, ?_, ?_, ?_, ?_, ?_, ?_, ?_, ?_, ?_, ?_, trivial⟩
            · intro l vs X A hA ⟨hV, hS⟩ hl hd hcl
              have hk := nY 12 hcl hl
              have hX := hS.1 hk
              have hB := hX
              have a5 := eO hA 5 rfl
              refine show_value (v := .int .i64 (n : Int)) (X' := X) ?_ ⟨hV.upd (fun _ h => Option.some.inj h), Pre1.keep hk (by decide) (hX)⟩
              generalize A.eval = ρ at *
              clear hA hl hd hcl hV hS
              go_simp
            · intro l vs X A hA ⟨hV, hS⟩ hl hd hcl
              have hk := nY 12 hcl hl
              have hX := hS.1 hk
              have hB := hX
              have a5 := eO hA 5 rfl
              refine show_value (v := .int .i64 (n : Int)) (X' := X) ?_ ⟨hV.upd (fun _ h => Option.some.inj h), Pre1.keep hk (by decide) (hX)⟩
              generalize A.eval = ρ at *
              clear hA hl hd hcl hV hS
              go_simp
            · intro l vs X A hA ⟨hV, hS⟩ hl hd hcl
              have hk := nY 12 hcl hl
              have hX := hS.1 hk
              have hB := hX
              have a2 := eO hA 2 rfl
              refine show_value (v := .pointer (some ⟨w.heap.size, 1, none⟩)) (X' := X) ?_ ⟨hV.upd (fun _ h => Option.some.inj h), Pre1.keep hk (by decide) (hX)⟩
              generalize A.eval = ρ at *
              clear hA hl hd hcl hV hS
              go_simp
            · intro l vs X A hA ⟨hV, hS⟩ hl hd hcl
              have hk := nY 12 hcl hl
              have hX := hS.1 hk
              have hB := hX
              have a20 := eN hA 20 1 hd hV rfl
              have a21 := eN hA 21 2 hd hV rfl
              refine show_value (v := .pointer (some ⟨w.heap.size, 1 + n * 3, none⟩)) (X' := X) ?_ ⟨hV.upd (fun _ h => Option.some.inj h), Pre1.keep hk (by decide) (hX)⟩
              have hnn := HN.out
              clear hB hX
              generalize A.eval = ρ at *
              clear hA hl hd hcl hV hS
              go_simp
            · intro l vs X A hA ⟨hV, hS⟩ hl hd hcl
              have hk := nY 12 hcl hl
              have hX := hS.1 hk
              have hB := hX
              have a22 := eN hA 22 3 hd hV rfl
              refine show_value (v := (a.r n).v) (X' := X) (run_ld 40 _ rfl _ a22 (ld_row (l := (a.r n).cells) (by rw [← HR.out]; exact kn_reg (k2.below hB k2.lt) n HN.out) (by kernel_rfl))) ⟨hV.upd (fun _ h => Option.some.inj h), Pre1.keep hk (by decide) (hX)⟩
            · intro l vs X A hA ⟨hV, hS⟩ hl hd hcl
              have hk := nY 12 hcl hl
              have hX := hS.1 hk
              have hB := hX
              have a5 := eO hA 5 rfl
              refine show_value (v := .int .i64 (n : Int)) (X' := X) ?_ ⟨hV.upd (fun _ h => Option.some.inj h), Pre1.keep hk (by decide) (hX)⟩
              generalize A.eval = ρ at *
              clear hA hl hd hcl hV hS
              go_simp
            · intro l vs X A hA ⟨hV, hS⟩ hl hd hcl
              have hk := nY 12 hcl hl
              have hX := hS.1 hk
              have hB := hX
              have a3 := eO hA 3 rfl
              refine show_value (v := .pointer (some ⟨w.heap.size + 1, 1, none⟩)) (X' := X) ?_ ⟨hV.upd (fun _ h => Option.some.inj h), Pre1.keep hk (by decide) (hX)⟩
              generalize A.eval = ρ at *
              clear hA hl hd hcl hV hS
              go_simp
            · intro l vs X A hA ⟨hV, hS⟩ hl hd hcl
              have hk := nY 12 hcl hl
              have hX := hS.1 hk
              have hB := hX
              have a24 := eN hA 24 5 hd hV rfl
              have a25 := eN hA 25 6 hd hV rfl
              refine show_value (v := .pointer (some ⟨w.heap.size + 1, 1 + n * 3, none⟩)) (X' := X) ?_ ⟨hV.upd (fun _ h => Option.some.inj h), Pre1.keep hk (by decide) (hX)⟩
              have hnn := HN.out
              clear hB hX
              generalize A.eval = ρ at *
              clear hA hl hd hcl hV hS
              go_simp
            · intro l vs X A hA ⟨hV, hS⟩ hl hd hcl
              have hk := nY 12 hcl hl
              have hX := hS.1 hk
              have hB := hX
              have a26 := eN hA 26 7 hd hV rfl
              refine show_value (v := (b.r n).v) (X' := X) (run_ld 40 _ rfl _ a26 (ld_row (l := (b.r n).cells) (kn_reg (k3.below hB k3.lt) n HN.out) (by kernel_rfl))) ⟨hV.upd (fun _ h => Option.some.inj h), Pre1.keep hk (by decide) (hX)⟩
            · intro l vs X A hA ⟨hV, hS⟩ hl hd hcl
              have hk := nY 12 hcl hl
              have hX := hS.1 hk
              have hB := hX
              have a23 := eN hA 23 4 hd hV rfl
              have a27 := eN hA 27 8 hd hV rfl
              have aF0 : A.eval (.func 94) = .func (.func 94) #[] #[] := rfl
              refine show_call (f := 94) (args := #[(a.r n).v, (b.r n).v]) ?_ (hsp X) ?_
              · generalize A.eval = ρ at *
                clear hA hl hd hcl hV hS
                go_simp
              · rintro e X' ⟨rfl, hB1⟩
                exact .inl ⟨_, rfl, hV.upd (fun _ h => Option.some.inj h), Pre1.keep hk (by decide) (hX.trans (hB1.mono hX.size))⟩
            · intro l vs X A hA ⟨hV, hS⟩ hl hd hcl
              have hk := nY 12 hcl hl
              have hX := hS.1 hk
              have hB := hX
              have a2 := eO hA 2 rfl
              refine show_value (v := .pointer (some ⟨w.heap.size, 1, none⟩)) (X' := X) ?_ ⟨hV.upd (fun _ h => Option.some.inj h), Pre1.keep hk (by decide) (hX)⟩
              generalize A.eval = ρ at *
              clear hA hl hd hcl hV hS
              go_simp
            · intro l vs X A hA ⟨hV, hS⟩ hl hd hcl
              have hk := nY 12 hcl hl
              have hX := hS.1 hk
              have hB := hX
              have a19 := eN hA 19 0 hd hV rfl
              have a29 := eN hA 29 10 hd hV rfl
              refine show_value (v := .pointer (some ⟨w.heap.size, 1 + n * 3, none⟩)) (X' := X) ?_ ⟨hV.upd (fun _ h => Option.some.inj h), Pre1.keep hk (by decide) (hX)⟩
              have hnn := HN.out
              clear hB hX
              generalize A.eval = ρ at *
              clear hA hl hd hcl hV hS
              go_simp
            · intro l vs X A hA ⟨hV, hS⟩ hl hd hcl
              have hX := hS.1 hl
              have hB := hX
              have a28 := eN hA 28 9 hd hV rfl
              have a30 := eN hA 30 11 hd hV rfl
              have hg := k2.below hX k2.lt
              have hsr := setReg hg n HN.out (spanR (a.r n) (b.r n))
              refine show_skip (X' := X.setCells w.heap.size (1 + n * 3) (spanR (a.r n) (b.r n)).cells) (run_st_reg _ _ rfl w.heap.size n 43 kq (spanR (a.r n) (b.r n)) a30 a28 hg HN.out) ⟨hV.upd (fun _ h => by cases h), Pre1.last ⟨hsr.1, (k3.below hX k3.lt).ex hsr.2 (by omega), (k4.below hX k4.lt).ex hsr.2 (by omega), Below.ex (hB0.trans (hX.mono hB0.size)) (Nat.le_trans hB0.size hX.size) hsr.2 (Nat.le_refl _)⟩⟩
          case hend =>
            intro l vs X hl ⟨hV, hS⟩
            have hX := hS.2 (hl 12 (by decide))
            have v0 := hV 0 _ (hl 0 (by decide)) rfl
            have v1 := hV 1 _ (hl 1 (by decide)) rfl
            have v2 := hV 2 _ (hl 2 (by decide)) rfl
            have v3 := hV 3 _ (hl 3 (by decide)) rfl
            have v4 := hV 4 _ (hl 4 (by decide)) rfl
            have v5 := hV 5 _ (hl 5 (by decide)) rfl
            have v6 := hV 6 _ (hl 6 (by decide)) rfl
            have v7 := hV 7 _ (hl 7 (by decide)) rfl
            have v8 := hV 8 _ (hl 8 (by decide)) rfl
            have v9 := hV 9 _ (hl 9 (by decide)) rfl
            have v10 := hV 10 _ (hl 10 (by decide)) rfl
            have v11 := hV 11 _ (hl 11 (by decide)) rfl
            clear hV hS hl
            simp only [canonL, if_true, v0, v1, v2, v3, v4, v5, v6, v7, v8, v9, v10, v11]
            clear v0 v1 v2 v3 v4 v5 v6 v7 v8 v9 v10 v11
            go_simp
            obtain ⟨m2, m3, m4, mB⟩ := hX
            clear k2 k3 k4 hB0 hsp
            rw [← HS.out] at m2
            go_wp2_with fail
            go_roundw
            case rel => exact ⟨n + 1, by have := HN.out; omega, by go_num, m2, m3, m4, mB⟩
            case measure => simp [intOf]; have := HN.out; omega
        · obtain rfl : n = 10 := by omega
          clear hlt hn
          rw [← HE.out] at k2
          obtain ⟨kj, hkj⟩ : ∃ kj, kj = joinK a b := ⟨_, rfl⟩
          rw [← hkj] at k2
          have HK : Hid (kj = joinK a b) := hkj
          clear hkj
          go_wp2_with (first | refine wpList_load_row rfl 43 _ rfl w.heap.size rfl 43 kj.a (0, 0) _ k2 Tryd.underlying43 rfl (by kernel_rfl) ?_ | refine wpList_store_row rfl 43 _ _ rfl (w.heap.size + 2) kj.a rfl rfl 43 noK.a k4 (by kernel_rfl) (by kernel_rfl) (Kn.a_one kj) ?_)
          refine bodyPost_ret (results_cell_row rfl _ _ (w.heap.size + 2) 43 _ (0, 0) _ rfl (setRow_heap _ _ _ kj.a _ _ k4) Tryd.underlying43 rfl (by kernel_rfl)) rfl ?_
          exact ⟨by rw [HK.out], setRow_below hB (by omega) _⟩
end Go.Proofs.YtodkehpldlmgaaaDoor
/- The ones of a number. -/
namespace Go.Proofs.YtodkehpldlmgaaaDoor
open Go.RowKit

/-- How many bits a number has. -/
def lenN (n : Nat) : Nat := if n = 0 then 0 else n.log2 + 1
theorem log2_div (n k : Nat) (h : 2 ^ k ≤ n) : (n / 2 ^ k).log2 + k = n.log2 := by
  have hk : 0 < 2 ^ k := Nat.pow_pos (by decide)
  have hn : n ≠ 0 := by omega
  have hq : n / 2 ^ k ≠ 0 := by have := Nat.div_pos h hk; omega
  apply Nat.le_antisymm
  · rw [Nat.le_log2 hn, Nat.pow_add]
    have h1 : 2 ^ (n / 2 ^ k).log2 ≤ n / 2 ^ k := (Nat.le_log2 hq).1 (Nat.le_refl _)
    calc 2 ^ (n / 2 ^ k).log2 * 2 ^ k ≤ (n / 2 ^ k) * 2 ^ k := Nat.mul_le_mul_right _ h1
      _ ≤ n := Nat.div_mul_le_self _ _
  · have h2 : k ≤ n.log2 := (Nat.le_log2 hn).2 h
    have h3 : n.log2 - k ≤ (n / 2 ^ k).log2 := by
      rw [Nat.le_log2 hq, Nat.le_div_iff_mul_le hk, ← Nat.pow_add, Nat.sub_add_cancel h2]
      exact (Nat.le_log2 hn).1 (Nat.le_refl _)
    omega
theorem lenN_div (n k : Nat) (h : 2 ^ k ≤ n) : lenN n = k + lenN (n / 2 ^ k) := by
  have hk : 0 < 2 ^ k := Nat.pow_pos (by decide)
  have hq : n / 2 ^ k ≠ 0 := by have := Nat.div_pos h hk; omega
  unfold lenN
  rw [if_neg (by omega), if_neg hq, ← log2_div n k h]
  omega
theorem lenN_16 (n : Nat) (h : 65536 ≤ n) : lenN n = 16 + lenN (n / 65536) := lenN_div n 16 h
theorem lenN_8 (n : Nat) (h : 256 ≤ n) : lenN n = 8 + lenN (n / 256) := lenN_div n 8 h
theorem lenN_le (n k : Nat) (h : n < 2 ^ k) : lenN n ≤ k := by
  unfold lenN
  by_cases hn : n = 0
  · rw [if_pos hn]; exact Nat.zero_le _
  · rw [if_neg hn]
    have := (Nat.log2_lt hn).2 h
    omega
theorem ones_len (n : Nat) : onesN n = 2 ^ lenN n - 1 := by
  unfold onesN lenN
  by_cases hn : n = 0
  · rw [if_pos hn, if_pos hn]
  · rw [if_neg hn, if_neg hn]
def lenTab : ByteArray := ⟨((List.range 256).map fun x => UInt8.ofNat (lenN x)).toArray⟩
theorem tab_get (T : ByteArray) (hT : T = lenTab) (x : Nat) (h : x < T.size) : (T[x]'h).toNat = lenN x := by
  have hx : x < 256 := by
    have e : T.size = 256 := by rw [hT]; decide +kernel
    omega
  have : ∀ y : Fin 256, (UInt8.ofNat (lenN y.val)).toNat = lenN y.val := by decide +kernel
  have h2 := this ⟨x, hx⟩
  have h3 : T.data[x]? = some (UInt8.ofNat (lenN x)) := by
    rw [hT]
    show ((List.range 256).map fun x => UInt8.ofNat (lenN x)).toArray[x]? = _
    rw [List.getElem?_toArray, List.getElem?_map, List.getElem?_range hx]; rfl
  have h4 : T.data[x]? = some (T[x]'h) := Array.getElem?_eq_getElem h
  rw [h4] at h3
  rw [Option.some.inj h3]
  exact h2
theorem ret_int {k : IntKind} {a b : Int} (h : a = b) : Ending.returned (.int k a) = .returned (.int k b) := by rw [h]
set_option maxRecDepth 100000 in
set_option maxHeartbeats 1000000 in
theorem len_c (n q : Nat) (w : World) (h1 : decide ((65536 : Int) ≤ (n : Int)) = false) (h2 : decide ((256 : Int) ≤ (n : Int)) = true) (hq1 : q < 256) (hq2 : (n : Int) / 256 = (q : Int)) (HB : Hid (lenN n = 8 + lenN q)) (HC : Hid (lenN q ≤ 8)) :
    Calls Tryd.prog 95 #[.int .u32 (n : Int)] w fun e w' => e = .returned (.int .i64 (lenN n : Int)) ∧ w = w' := by
  go_enter Tryd.func95, Tryd.ntmps95
  go_wp2
  go_ret
  refine ⟨ret_int ?_, rfl⟩
  rw [tab_get _ (by decide +kernel)]
  have := HB.out; have := HC.out
  simp only [wrap64]
  omega
set_option maxRecDepth 100000 in
set_option maxHeartbeats 1000000 in
theorem len_any (n : Nat) (w : World) (h : n < 4294967296) :
    Calls Tryd.prog 95 #[.int .u32 (n : Int)] w fun e w' => e = .returned (.int .i64 (lenN n : Int)) ∧ w = w' := by
  by_cases h1 : 65536 ≤ n
  · have h1' : (65536 : Int) ≤ n := by omega
    have HA : Hid (lenN n = 16 + lenN (n / 65536)) := lenN_16 n h1
    by_cases h2 : 16777216 ≤ n
    · have h2' : (256 : Int) ≤ n / 65536 := by omega
      have HB : Hid (lenN (n / 65536) = 8 + lenN (n / 65536 / 256)) := lenN_8 _ (by omega)
      have HC : Hid (lenN (n / 65536 / 256) ≤ 8) := lenN_le _ 8 (by omega)
      clear h1 h2
      go_enter Tryd.func95, Tryd.ntmps95
      go_wp2
      go_ret
      refine ⟨ret_int ?_, rfl⟩
      rw [tab_get _ (by decide +kernel)]
      have := HA.out; have := HB.out; have := HC.out
      simp only [wrap64]
      omega
    · have h2' : ¬ (256 : Int) ≤ n / 65536 := by omega
      have HC : Hid (lenN (n / 65536) ≤ 8) := lenN_le _ 8 (by omega)
      clear h1 h2
      go_enter Tryd.func95, Tryd.ntmps95
      go_wp2
      go_ret
      refine ⟨ret_int ?_, rfl⟩
      rw [tab_get _ (by decide +kernel)]
      have := HA.out; have := HC.out
      simp only [wrap64]
      omega
  · have h1' : ¬ (65536 : Int) ≤ n := by omega
    by_cases h2 : 256 ≤ n
    · exact len_c n (n / 256) w (by simp; omega) (by simp; omega) (by omega) (by omega) (lenN_8 _ (by omega)) (lenN_le _ 8 (by omega))
    · have h2' : ¬ (256 : Int) ≤ n := by omega
      have HC : Hid (lenN n ≤ 8) := lenN_le _ 8 (by omega)
      clear h1 h2
      go_enter Tryd.func95, Tryd.ntmps95
      go_wp2
      go_ret
      refine ⟨ret_int ?_, rfl⟩
      rw [tab_get _ (by decide +kernel)]
      have := HC.out
      simp only [wrap64]
      omega
theorem onesN_lt (n : Nat) (h : n < 4294967296) : onesN n < 4294967296 := by
  rw [ones_len]
  have h1 : lenN n ≤ 32 := lenN_le n 32 h
  have h2 : 2 ^ lenN n ≤ 2 ^ 32 := Nat.pow_le_pow_right (by decide) h1
  have h3 : (2 : Nat) ^ 32 = 4294967296 := by decide
  omega
theorem pow_wrap (L : Nat) (h : L ≤ 32) : ((2 : Int) ^ L % 4294967296 - 1) % 4294967296 = ((2 ^ L - 1 : Nat) : Int) := by
  have key : ∀ k : Fin 33, ((2 : Int) ^ k.val % 4294967296 - 1) % 4294967296 = ((2 ^ k.val - 1 : Nat) : Int) := by decide +kernel
  exact key ⟨L, by omega⟩
set_option maxHeartbeats 400000 in
theorem ones_any (n : Int) (w : World) (h0 : 0 ≤ n) (h : n.toNat < 4294967296) :
    Calls Tryd.prog 84 #[.int .u32 n] w fun e w' => e = .returned (.int .u32 (onesN n.toNat : Int)) ∧ w = w' := by
  obtain ⟨n, rfl⟩ := Int.eq_ofNat_of_zero_le h0
  rw [Int.toNat_natCast] at h ⊢
  have hk := len_any n w h
  have HE : Hid (onesN n = 2 ^ lenN n - 1) := ones_len n
  have h1 : lenN n ≤ 32 := lenN_le n 32 h
  have HP : Hid (((2 : Int) ^ lenN n % 4294967296 - 1) % 4294967296 = ((2 ^ lenN n - 1 : Nat) : Int)) := pow_wrap _ h1
  clear h h0
  generalize lenN n = L at *
  go_enter Tryd.func84, Tryd.ntmps84
  go_wp2_with (go_at_call 95; refine hk.mono ?_; rintro e w' ⟨rfl, hw⟩; obtain rfl := hw.symm)
  go_ret
  refine ⟨ret_int ?_, rfl⟩
  rw [HE.out]
  exact HP.out
end Go.Proofs.YtodkehpldlmgaaaDoor
/- Is a number in a range; a range without a number; bytes of memory. -/
namespace Go.Proofs.YtodkehpldlmgaaaDoor
open Go.RowKit

set_option maxRecDepth 10000 in
set_option maxHeartbeats 1000000 in
theorem has_any (r : Rg) (n : Nat) (w : World) (hd : r.Ok) :
    Calls Tryd.prog 88 #[r.v, .int .u32 (n : Int)] w fun e w' => e = .returned (.bool (hasR r n)) ∧ Below w.heap.size w w' := by
  obtain ⟨rs, rl, rg⟩ := r
  by_cases h : rl ≤ n
  · have h' : (rl : Int) ≤ (n : Int) := by omega
    have HE : Hid (hasR ⟨rs, rl, rg⟩ n = decide (n ≤ rg)) := by show _ = _; simp [hasR, h]
    clear h hd
    go_enter Tryd.func88, Tryd.ntmps88
    go_wp2
    go_ret
    exact ⟨by rw [HE.out]; rfl, (Below.refl _ _).alloc (Nat.le_refl _) _⟩
  · have h' : ¬ (rl : Int) ≤ (n : Int) := by omega
    have HE : Hid (hasR ⟨rs, rl, rg⟩ n = false) := by show _ = _; simp [hasR, h]
    clear h hd
    go_enter Tryd.func88, Tryd.ntmps88
    go_wp2
    go_ret
    exact ⟨by rw [HE.out]; rfl, (Below.refl _ _).alloc (Nat.le_refl _) _⟩
set_option maxRecDepth 10000 in
set_option maxHeartbeats 1000000 in
theorem wit_any (r : Rg) (n : Nat) (w : World) (hd : r.Ok) (hn : ¬ (n = r.least ∧ r.least = 4294967295)) (hg : ¬ (n ≠ r.least ∧ n = r.great ∧ r.great = 0)) :
    Calls Tryd.prog 89 #[r.v, .int .u32 (n : Int)] w fun e w' => e = .returned (witR r n).v ∧ Below w.heap.size w w' := by
  obtain ⟨rs, rl, rg⟩ := r
  obtain ⟨d1, d2⟩ := hd
  simp only at d1 d2 hn hg
  by_cases h : n = rl
  · have h' : ((n : Int) == (rl : Int)) = true := by simp; omega
    have HE : Hid (witR ⟨rs, rl, rg⟩ n = ⟨rs, rl + 1, rg⟩) := by show (if n = rl then _ else _) = _; rw [if_pos h]
    have e1 : IntKind.u32.wrap ((rl : Int) + 1) = ((rl + 1 : Nat) : Int) := by rw [IntKind.wrap_u32]; omega
    clear h hn hg d1 d2
    go_enter Tryd.func89, Tryd.ntmps89
    go_wp2
    refine bodyPost_ret (v := Rg.v ⟨rs, rl + 1, rg⟩) (by simp [results, Tryd.results89, go_sem]) rfl ⟨by rw [HE.out], ?_⟩
    exact ((((Below.refl _ _).alloc (Nat.le_refl _) _).alloc (by simp) _))
  · have h' : ((n : Int) == (rl : Int)) = false := by simp; omega
    by_cases k : n = rg
    · have k' : ((n : Int) == (rg : Int)) = true := by simp; omega
      have HE : Hid (witR ⟨rs, rl, rg⟩ n = ⟨rs, rl, rg - 1⟩) := by show (if n = rl then _ else if n = rg then _ else _) = _; rw [if_neg h, if_pos k]
      have e1 : IntKind.u32.wrap ((rg : Int) - 1) = ((rg - 1 : Nat) : Int) := by rw [IntKind.wrap_u32]; omega
      clear h k hn hg d1 d2
      go_enter Tryd.func89, Tryd.ntmps89
      go_wp2
      refine bodyPost_ret (v := Rg.v ⟨rs, rl, rg - 1⟩) (by simp [results, Tryd.results89, go_sem]) rfl ⟨by rw [HE.out], ?_⟩
      exact ((((Below.refl _ _).alloc (Nat.le_refl _) _).alloc (by simp) _))
    · have k' : ((n : Int) == (rg : Int)) = false := by simp; omega
      have HE : Hid (witR ⟨rs, rl, rg⟩ n = ⟨rs, rl, rg⟩) := by show (if n = rl then _ else if n = rg then _ else _) = _; rw [if_neg h, if_neg k]
      clear h k hn hg d1 d2
      go_enter Tryd.func89, Tryd.ntmps89
      go_wp2
      refine bodyPost_ret (v := Rg.v ⟨rs, rl, rg⟩) (by simp [results, Tryd.results89, go_sem]) rfl ⟨by rw [HE.out], ?_⟩
      exact ((((Below.refl _ _).alloc (Nat.le_refl _) _).alloc (by simp) _))
end Go.Proofs.YtodkehpldlmgaaaDoor
/- Is there a byte? -/
namespace Go.Proofs.YtodkehpldlmgaaaDoor
open Go.RowKit

/-- Are all places that a register and Off come to within so many bytes? -/
def fits (r : Rg) (off size : Int) : Bool := decide (0 ≤ (r.least : Int) + off) && decide ((r.great : Int) + off < size)
theorem in_world (i : Ins) (c : Int) (k : Kn) (r : Rg) (w : World) (off : Int) (h : i.off = off) :
    ((w.alloc (.cells (stA i c k) 82)).alloc (.cells #[.bool r.set, .int .u32 (r.least : Int), .int .u32 (r.great : Int)] 40)).cell? ⟨w.heap.size, 3, none⟩ = some (.int .i64 off) := by
  have hst : Has ((w.alloc (.cells (stA i c k) 82)).alloc (.cells #[.bool r.set, .int .u32 (r.least : Int), .int .u32 (r.great : Int)] 40)) w.heap.size (stA i c k) 82 := has_old (has_new _ _ _ _ rfl)
  rw [hst.cell, ← h]
  rfl
set_option maxRecDepth 10000 in
set_option maxHeartbeats 1000000 in
theorem inside_ok (i : Ins) (c : Int) (k : Kn) (r : Rg) (size off : Int) (w : World) (hr : r.Ok) (ho : i.off = off) (h1 : -32768 ≤ off) (h2 : off ≤ 32767) (hf : fits r off size = true) :
    Calls Tryd.prog 86 #[.agg (stA i c k), r.v, .int .i64 size] w fun e w' => e = .returned (.tuple #[]) ∧ Below w.heap.size w w' := by
  have c3 := in_world i c k r w off ho
  obtain ⟨rs, rl, rg⟩ := r
  obtain ⟨d1, d2⟩ := hr
  simp only at d1 d2 c3
  unfold fits at hf
  simp only [Bool.and_eq_true, decide_eq_true_eq] at hf
  have k1 : ¬ (rl : Int) + off < 0 := by omega
  have k2 : ¬ size ≤ (rg : Int) + off := by omega
  have e1 : wrap64 ((rl : Int) + off) = (rl : Int) + off := by simp only [wrap64]; omega
  have e2 : wrap64 ((rg : Int) + off) = (rg : Int) + off := by simp only [wrap64]; omega
  clear hf ho
  generalize stA i c k = cs at *
  go_enter Tryd.func86, Tryd.ntmps86
  go_wp2
  go_end0
  exact ⟨rfl, ((Below.refl _ _).alloc (Nat.le_refl _) _).alloc (by simp) _⟩
set_option maxRecDepth 10000 in
set_option maxHeartbeats 1000000 in
theorem inside_no (i : Ins) (c : Int) (k : Kn) (r : Rg) (size off : Int) (w : World) (hr : r.Ok) (ho : i.off = off) (h1 : -32768 ≤ off) (h2 : off ≤ 32767) (hf : fits r off size = false) :
    Calls Tryd.prog 86 #[.agg (stA i c k), r.v, .int .i64 size] w fun e w' => e = .panicked Wrong.beyond.entry ∧ Below w.heap.size w w' := by
  have c3 := in_world i c k r w off ho
  obtain ⟨rs, rl, rg⟩ := r
  obtain ⟨d1, d2⟩ := hr
  simp only at d1 d2 c3
  unfold fits at hf
  simp only [Bool.and_eq_false_iff, decide_eq_false_iff_not] at hf
  have e1 : wrap64 ((rl : Int) + off) = (rl : Int) + off := by simp only [wrap64]; omega
  have e2 : wrap64 ((rg : Int) + off) = (rg : Int) + off := by simp only [wrap64]; omega
  generalize stA i c k = cs at *
  by_cases k1 : (rl : Int) + off < 0
  · clear hf ho
    go_enter Tryd.func86, Tryd.ntmps86
    go_wp2
    exact ⟨rfl, rfl, ((Below.refl _ _).alloc (Nat.le_refl _) _).alloc (by simp) _⟩
  · have k2 : size ≤ (rg : Int) + off := by omega
    clear hf ho
    go_enter Tryd.func86, Tryd.ntmps86
    go_wp2
    exact ⟨rfl, rfl, ((Below.refl _ _).alloc (Nat.le_refl _) _).alloc (by simp) _⟩
end Go.Proofs.YtodkehpldlmgaaaDoor
/- call: register 0 is all, of 1 to 5 nothing is known. -/
namespace Go.Proofs.YtodkehpldlmgaaaDoor
open Go.RowKit

/-- What is known behind a call, as far as register q. -/
def callK (k : Kn) : Nat → Kn
  | 0 => k.set 0 allR
  | q + 1 => (callK k q).set (q + 1) noR
theorem set_ex {w X : World} {b : Nat} {k : Kn} (h : Has X b k.a 43) (n : Nat) (hn : n < 10) (r : Rg) (hB : Below w.heap.size w X) (hb : w.heap.size ≤ b) : Has (X.setCells b (1 + n * 3) r.cells) b (k.set n r).a 43 ∧ Below w.heap.size w (X.setCells b (1 + n * 3) r.cells) ∧ Ex b X (X.setCells b (1 + n * 3) r.cells) :=
  ⟨(setReg h n hn r).1, Below.ex hB hB.size (setReg h n hn r).2 hb, (setReg h n hn r).2⟩
set_option maxRecDepth 10000 in
set_option maxHeartbeats 2000000 in
theorem call_any (i : Ins) (c : Int) (k : Kn) (w : World) :
    Calls Tryd.prog 64 #[.agg (stA i c k)] w fun e w' => e = .returned (two (callK k 5) noK) ∧ Below w.heap.size w w' := by
  obtain ⟨W0, hW0⟩ : ∃ W0, W0 = ((w.alloc (.cells (stA i c k) 82)).alloc (.cells noK.a 43)).alloc (.cells noK.a 43) := ⟨_, rfl⟩
  obtain ⟨hst, h3, h4, hB0, hz0⟩ := ways_world i c k w W0 hW0
  have HZ : Hid (W0.heap.size = w.heap.size + 3) := hz0
  clear hz0
  go_enter Tryd.func64, Tryd.ntmps64
  go_upto_region 1 with fail
  refine named2 (p := fun X => Code.wp _ _ _ _ X) ?_
  intro W9 hW9
  have hW : W0 = W9 := hW0.trans hW9.symm
  subst hW
  clear hW9 hW0
  have hkr := st_range hst
  go_upto_region 2 with (first | refine wpList_load_mid rfl 43 _ rfl w.heap.size 6 rfl k.cells _ hkr Tryd.underlying43 rfl (by kernel_rfl) ?_ | refine wpList_store_row rfl 43 _ _ rfl (w.heap.size + 1) k.a rfl rfl 43 noK.a h3 (by kernel_rfl) (by kernel_rfl) (Kn.a_one k) ?_)
  refine named2 (p := fun X => Code.wp _ _ _ _ X) ?_
  intro W1 hW1
  have hE : Ex (w.heap.size + 1) W0 W1 := by rw [hW1]; exact setRow_ex _ _ _
  have k0 : Has W1 w.heap.size (stA i c k) 82 := hst.ex hE (by omega)
  have k1 : Has W1 (w.heap.size + 1) k.a 43 := by rw [hW1]; exact setRow_has h3 _
  have k2 : Has W1 (w.heap.size + 2) noK.a 43 := h4.ex hE (by omega)
  have hB1 : Below w.heap.size w W1 := Below.ex hB0 hB0.size hE (by omega)
  clear hW1 hE hst h3 h4 hB0 HZ hkr
  go_upto_region 3 with (first | (go_at_call 82; refine (all_any _).mono ?_; rintro e W2 ⟨rfl, hB2⟩; have j0 := k0.below hB2 k0.lt; have j1 := k1.below hB2 k1.lt; have j2 := k2.below hB2 k2.lt; have hBj := hB1.trans (hB2.mono hB1.size); clear k0 k1 k2 hB1 hB2) | refine wpList_skip rfl (run_st_reg _ _ rfl (w.heap.size + 1) 0 43 k allR rfl rfl j1 (by decide)) ?_)
  refine named2 (p := fun X => Code.wp _ _ _ _ X) ?_
  intro W3 hW3
  obtain ⟨m1, m2, m3⟩ := set_ex j1 0 (by decide) allR hBj (by omega)
  rw [← hW3] at m1 m2 m3
  have m4 := j2.ex m3 (by omega)
  have m0 := j0.ex m3 (by omega)
  clear hW3 m3 j0 j1 j2 hBj
  go_simp
  go_wp2_with fail
  go_loopw [4] (fun v wr => ∃ p : Nat, 1 ≤ p ∧ p ≤ 6 ∧ v = .int .i64 (p : Int) ∧ Has wr w.heap.size (stA i c k) 82 ∧ Has wr (w.heap.size + 1) (callK k (p - 1)).a 43 ∧ Has wr (w.heap.size + 2) noK.a 43 ∧ Below w.heap.size w wr) (fun v _ => 6 - (intOf v).toNat)
  case atStart => exact ⟨1, by omega, by omega, rfl, m0, m1, m4, m2⟩
  case round =>
    obtain ⟨p, hp1, hp6, rfl, n0, n1, n2, hB⟩ := hrel
    clear m0 m1 m2 m4
    by_cases hp : p ≤ 5
    · have hp' : (p : Int) ≤ 5 := by omega
      have hp10 : (p : Int) < 10 := by omega
      obtain ⟨kq, hkq⟩ : ∃ kq, kq = callK k (p - 1) := ⟨_, rfl⟩
      rw [← hkq] at n1
      have HK : Hid (kq.set p noR = callK k p) := by
        show _ = _
        rw [hkq]
        obtain ⟨q, rfl⟩ : ∃ q, p = q + 1 := ⟨p - 1, by omega⟩
        rfl
      have HP : Hid (1 ≤ p ∧ p ≤ 5) := ⟨hp1, hp⟩
      clear hkq hp
      go_wp2_with (first | (go_at_call 43; refine (nothing_any _).mono ?_; rintro e X2 ⟨rfl, hB2⟩; have j0 := n0.below hB2 n0.lt; have j1 := n1.below hB2 n1.lt; have j2 := n2.below hB2 n2.lt; have hBj := hB.trans (hB2.mono hB.size); clear n0 n1 n2 hB hB2) | refine wpList_skip rfl (run_st_reg _ _ rfl (w.heap.size + 1) p 43 kq noR rfl rfl j1 (by omega)) ?_)
      go_roundw
      case rel =>
        obtain ⟨m1, m2, m3⟩ := set_ex j1 p (by omega) noR hBj (by omega)
        rw [HK.out] at m1
        exact ⟨p + 1, by omega, by have := HP.out; omega, by go_num, j0.ex m3 (by omega), m1, j2.ex m3 (by omega), m2⟩
      case measure => simp [intOf]; have := HP.out; omega
    · obtain rfl : p = 6 := by omega
      clear hp hp1 hp6
      go_upto_region 7 with fail
      refine named2 (p := fun X => Code.wp _ _ _ _ X) ?_
      intro W4 hW4
      subst hW4
      have hBW := hB
      clear hB
      refine wp_region_inv (Φ := fun l vs X => Vals (fun q => match q with | 0 => some (.agg (callK k 5).a) | 1 => some (.agg noK.a) | _ => none) l vs ∧ Pre2 2 3 (Below W4.heap.size W4) (fun X => Below w.heap.size w X ∧ Has X w.heap.size (stA i c k) 82 ∧ Has X (w.heap.size + 1) ((callK k 5).a) 43 ∧ Has X (w.heap.size + 2) (noK.a) 43) (fun X => Below w.heap.size w X ∧ Has X w.heap.size (stA i c k) 82 ∧ Has X (w.heap.size + 1) ((callK k 5).a) 43 ∧ Has X (w.heap.size + 2) (noK.a) 43) l X) (PQ := fun _ _ => False)
        (by kernel_rfl) (by kernel_rfl) (by kernel_rfl) (by kernel_rfl) ⟨Vals.none _ _, Pre2.start ((Below.refl _ _).drew)⟩ ?hop ?hend (fun _ _ _ _ h => h.elim)
      case hop =>
        refine ⟨?_, ?_, ?_, ?_, trivial⟩
        · intro l vs X A hA ⟨hV, hS⟩ hl hd hcl
          have hj := nY 2 hcl hl
          have hk := nY 3 hcl hl
          have hX := hS.1 hj
          have hB := hX
          have a2 := eO hA 2 rfl
          refine show_value (v := .agg (callK k 5).a) (X' := X) (run_ld 43 _ rfl _ a2 (ld_row (l := (callK k 5).cells) (has_whole (n1.below hB n1.lt)) (by kernel_rfl))) ⟨hV.upd (fun _ h => Option.some.inj h), Pre2.keep hj hk (by decide) (by decide) (hX)⟩
        · intro l vs X A hA ⟨hV, hS⟩ hl hd hcl
          have hk := nY 3 hcl hl
          have a3 := eO hA 3 rfl
          cases hj : l 2 with
          | true =>
            have hX := hS.2.1 hj hk
            exact show_value (v := .agg noK.a) (X' := X) (run_ld 43 _ rfl _ a3 (ld_row (l := noK.cells) (has_whole hX.2.2.2) (by kernel_rfl))) ⟨hV.upd (fun _ h => Option.some.inj h), Pre2.keepMid hj hk (by decide) (by decide) hX⟩
          | false =>
            have hX := hS.1 hj
            have hB := hX
            exact show_value (v := .agg noK.a) (X' := X) (run_ld 43 _ rfl _ a3 (ld_row (l := noK.cells) (has_whole (n2.below hB n2.lt)) (by kernel_rfl))) ⟨hV.upd (fun _ h => Option.some.inj h), Pre2.keep hj hk (by decide) (by decide) hX⟩
        · intro l vs X A hA ⟨hV, hS⟩ hl hd hcl
          have hk := nY 3 hcl hl
          have hX := hS.1 hl
          have a2 := eO hA 2 rfl
          have a18 := eN hA 18 0 hd hV rfl
          refine show_skip (X' := X.setRow (w.heap.size + 1) ((callK k 5).a)) (run_st_row 43 _ _ rfl (w.heap.size + 1) _ _ _ a2 a18 (n1.below hX n1.lt) (by kernel_rfl) (by kernel_rfl) (Kn.a_one _)) ⟨hV.upd (fun _ h => by cases h), Pre2.mid hk (by decide) ⟨setRow_below (hBW.trans (hX.mono hBW.size)) (by omega) _, (n0.below hX n0.lt).ex (setRow_ex _ _ _) (by omega), setRow_has (n1.below hX n1.lt) _, (n2.below hX n2.lt).ex (setRow_ex _ _ _) (by omega)⟩⟩
        · intro l vs X A hA ⟨hV, hS⟩ hl hd hcl
          have hX := hS.2.1 (hd 2 (by kernel_rfl)) hl
          have a3 := eO hA 3 rfl
          have a19 := eN hA 19 1 hd hV rfl
          refine show_skip (X' := X.setRow (w.heap.size + 2) (noK.a)) (run_st_row 43 _ _ rfl (w.heap.size + 2) _ _ _ a3 a19 (hX.2.2.2) (by kernel_rfl) (by kernel_rfl) (Kn.a_one _)) ⟨hV.upd (fun _ h => by cases h), Pre2.last (hd 2 (by kernel_rfl)) ⟨setRow_below hX.1 (by omega) _, hX.2.1.ex (setRow_ex _ _ _) (by omega), hX.2.2.1.ex (setRow_ex _ _ _) (by omega), setRow_has hX.2.2.2 _⟩⟩
      case hend =>
        intro l vs X hl ⟨hV, hS⟩
        have hX := hS.2.2 (hl 3 (by decide))
        have v0 := hV 0 _ (hl 0 (by decide)) rfl
        have v1 := hV 1 _ (hl 1 (by decide)) rfl
        clear hV hS hl
        simp only [canonL, if_true, v0, v1]
        clear v0 v1
        go_simp
        obtain ⟨hB9, _, h5, h6⟩ := hX
        go_wp2_with fail
        refine bodyPost_ret (results_rows2 rfl _ _ (w.heap.size + 1) (w.heap.size + 2) 43 _ _ _ rfl rfl h5 h6 Tryd.underlying43 rfl (by kernel_rfl) (by kernel_rfl)) rfl ?_
        exact ⟨rfl, hB9⟩
end Go.Proofs.YtodkehpldlmgaaaDoor
/- The small functions of ops.go: has, there, takesRegister, takesOff, takesImm. -/
namespace Go.Proofs.YtodkehpldlmgaaaDoor
open Go.RowKit

/-- Is a flag among those that are used? -/
def hasB (u p : Int) : Bool := bits BinOp.and IntKind.i64 u p != 0
def thereB (op : Int) : Bool := decide (0 < op) && decide (op ≤ 24)
def regB (u p n : Int) : Bool := if hasB u p then decide (0 ≤ n) && decide (n < 10) else decide (n = 0)
def offB (u n : Int) : Bool := if hasB u 32 then decide (-32768 ≤ n) && decide (n ≤ 32767) else if hasB u 64 then decide (0 ≤ n) && decide (n ≤ 255) else decide (n = 0)
def immB (u n : Int) : Bool := if hasB u 4 then true else if hasB u 8 then decide (n ≤ 31) else if hasB u 16 then decide (n < 8) else decide (n = 0)

theorem chas_any (u p : Int) (w : World) :
    Calls Tryd.prog 93 #[.int .i64 u, .int .i64 p] w fun e w' => e = .returned (.bool (hasB u p)) ∧ w = w' := by
  go_enter Tryd.func93, Tryd.ntmps93
  go_wp2
  go_ret
  exact ⟨rfl, rfl⟩
theorem there_any (op : Int) (w : World) :
    Calls Tryd.prog 70 #[.int .i64 op] w fun e w' => e = .returned (.bool (thereB op)) ∧ w = w' := by
  unfold thereB
  by_cases h : 0 < op
  · rw [decide_eq_true h, Bool.true_and]
    go_enter Tryd.func70, Tryd.ntmps70
    go_wp2
    go_ret
    exact ⟨rfl, rfl⟩
  · rw [decide_eq_false h, Bool.false_and]
    go_enter Tryd.func70, Tryd.ntmps70
    go_wp2
    go_ret
    exact ⟨rfl, rfl⟩
theorem regB_no {u p n : Int} (h : hasB u p = false) : regB u p n = decide (n = 0) := by unfold regB; rw [h]; rfl
theorem regB_in {u p n : Int} (h : hasB u p = true) (k : 0 ≤ n) : regB u p n = decide (n < 10) := by unfold regB; rw [h, if_pos rfl, decide_eq_true k]; rfl
theorem regB_out {u p n : Int} (h : hasB u p = true) (k : ¬ 0 ≤ n) : regB u p n = false := by unfold regB; rw [h, if_pos rfl, decide_eq_false k]; rfl
theorem creg_any (u p n : Int) (w : World) :
    Calls Tryd.prog 71 #[.int .i64 u, .int .i64 p, .int .i64 n] w fun e w' => e = .returned (.bool (regB u p n)) ∧ w = w' := by
  cases hc : hasB u p
  · rw [regB_no hc]
    go_enter Tryd.func71, Tryd.ntmps71
    go_wp2_with (go_at_call 93; refine (chas_any _ _ _).mono ?_; rintro e w' ⟨rfl, rfl⟩)
    go_ret
    exact ⟨rfl, rfl⟩
  · by_cases h : 0 ≤ n
    · rw [regB_in hc h]
      go_enter Tryd.func71, Tryd.ntmps71
      go_wp2_with (go_at_call 93; refine (chas_any _ _ _).mono ?_; rintro e w' ⟨rfl, rfl⟩)
      go_ret
      exact ⟨rfl, rfl⟩
    · rw [regB_out hc h]
      go_enter Tryd.func71, Tryd.ntmps71
      go_wp2_with (go_at_call 93; refine (chas_any _ _ _).mono ?_; rintro e w' ⟨rfl, rfl⟩)
      go_ret
      exact ⟨rfl, rfl⟩
theorem offB_a {u n : Int} (h : hasB u 32 = true) (k : -32768 ≤ n) : offB u n = decide (n ≤ 32767) := by unfold offB; rw [h, if_pos rfl, decide_eq_true k]; rfl
theorem offB_b {u n : Int} (h : hasB u 32 = true) (k : ¬ -32768 ≤ n) : offB u n = false := by unfold offB; rw [h, if_pos rfl, decide_eq_false k]; rfl
theorem offB_c {u n : Int} (h : hasB u 32 = false) (i : hasB u 64 = true) (k : 0 ≤ n) : offB u n = decide (n ≤ 255) := by unfold offB; rw [h, i, if_neg (by decide), if_pos rfl, decide_eq_true k]; rfl
theorem offB_d {u n : Int} (h : hasB u 32 = false) (i : hasB u 64 = true) (k : ¬ 0 ≤ n) : offB u n = false := by unfold offB; rw [h, i, if_neg (by decide), if_pos rfl, decide_eq_false k]; rfl
theorem offB_e {u n : Int} (h : hasB u 32 = false) (i : hasB u 64 = false) : offB u n = decide (n = 0) := by unfold offB; rw [h, i, if_neg (by decide), if_neg (by decide)]
theorem coff_any (u n : Int) (w : World) :
    Calls Tryd.prog 72 #[.int .i64 u, .int .i64 n] w fun e w' => e = .returned (.bool (offB u n)) ∧ w = w' := by
  cases hc : hasB u 32
  · cases hd : hasB u 64
    · rw [offB_e hc hd]
      go_enter Tryd.func72, Tryd.ntmps72
      go_wp2_with (go_at_call 93; refine (chas_any _ _ _).mono ?_; rintro e w' ⟨rfl, rfl⟩)
      go_ret
      exact ⟨rfl, rfl⟩
    · by_cases h : 0 ≤ n
      · rw [offB_c hc hd h]
        go_enter Tryd.func72, Tryd.ntmps72
        go_wp2_with (go_at_call 93; refine (chas_any _ _ _).mono ?_; rintro e w' ⟨rfl, rfl⟩)
        go_ret
        exact ⟨rfl, rfl⟩
      · rw [offB_d hc hd h]
        go_enter Tryd.func72, Tryd.ntmps72
        go_wp2_with (go_at_call 93; refine (chas_any _ _ _).mono ?_; rintro e w' ⟨rfl, rfl⟩)
        go_ret
        exact ⟨rfl, rfl⟩
  · by_cases h : -32768 ≤ n
    · rw [offB_a hc h]
      go_enter Tryd.func72, Tryd.ntmps72
      go_wp2_with (go_at_call 93; refine (chas_any _ _ _).mono ?_; rintro e w' ⟨rfl, rfl⟩)
      go_ret
      exact ⟨rfl, rfl⟩
    · rw [offB_b hc h]
      go_enter Tryd.func72, Tryd.ntmps72
      go_wp2_with (go_at_call 93; refine (chas_any _ _ _).mono ?_; rintro e w' ⟨rfl, rfl⟩)
      go_ret
      exact ⟨rfl, rfl⟩
theorem immB_a {u n : Int} (h : hasB u 4 = true) : immB u n = true := by unfold immB; rw [h, if_pos rfl]
theorem immB_b {u n : Int} (h : hasB u 4 = false) (i : hasB u 8 = true) : immB u n = decide (n ≤ 31) := by unfold immB; rw [h, i, if_neg (by decide), if_pos rfl]
theorem immB_c {u n : Int} (h : hasB u 4 = false) (i : hasB u 8 = false) (j : hasB u 16 = true) : immB u n = decide (n < 8) := by unfold immB; rw [h, i, j, if_neg (by decide), if_neg (by decide), if_pos rfl]
theorem immB_d {u n : Int} (h : hasB u 4 = false) (i : hasB u 8 = false) (j : hasB u 16 = false) : immB u n = decide (n = 0) := by unfold immB; rw [h, i, j, if_neg (by decide), if_neg (by decide), if_neg (by decide)]
theorem cimm_any (u n : Int) (w : World) :
    Calls Tryd.prog 73 #[.int .i64 u, .int .u32 n] w fun e w' => e = .returned (.bool (immB u n)) ∧ w = w' := by
  cases hc : hasB u 4
  · cases hd : hasB u 8
    · cases hf : hasB u 16
      · rw [immB_d hc hd hf]
        go_enter Tryd.func73, Tryd.ntmps73
        go_wp2_with (go_at_call 93; refine (chas_any _ _ _).mono ?_; rintro e w' ⟨rfl, rfl⟩)
        go_ret
        exact ⟨rfl, rfl⟩
      · rw [immB_c hc hd hf]
        go_enter Tryd.func73, Tryd.ntmps73
        go_wp2_with (go_at_call 93; refine (chas_any _ _ _).mono ?_; rintro e w' ⟨rfl, rfl⟩)
        go_ret
        exact ⟨rfl, rfl⟩
    · rw [immB_b hc hd]
      go_enter Tryd.func73, Tryd.ntmps73
      go_wp2_with (go_at_call 93; refine (chas_any _ _ _).mono ?_; rintro e w' ⟨rfl, rfl⟩)
      go_ret
      exact ⟨rfl, rfl⟩
  · rw [immB_a hc]
    go_enter Tryd.func73, Tryd.ntmps73
    go_wp2_with (go_at_call 93; refine (chas_any _ _ _).mono ?_; rintro e w' ⟨rfl, rfl⟩)
    go_ret
    exact ⟨rfl, rfl⟩
end Go.Proofs.YtodkehpldlmgaaaDoor
/- may: may an instruction be? -/
namespace Go.Proofs.YtodkehpldlmgaaaDoor
open Go.RowKit

/-- The table of Ops: names and what they use. -/
def opsL : List (List UInt8 × Int) := [([], 0), ([109, 111, 118, 105], 5), ([109, 111, 118], 3), ([97, 100, 100, 105], 5), ([97, 100, 100], 3), ([115, 117, 98], 3), ([109, 117, 108, 105], 5), ([109, 117, 108], 3), ([97, 110, 100, 105], 5), ([97, 110, 100], 3), ([111, 114], 3), ([120, 111, 114], 3), ([115, 104, 108, 105], 9), ([115, 104, 114, 105], 9), ([100, 105, 118], 3), ([109, 111, 100], 3), ([108, 100, 99], 35), ([108, 100, 115], 35), ([115, 116, 115], 35), ([106, 97], 64), ([106, 101, 113, 105], 69), ([106, 108, 116, 105], 69), ([106, 108, 116], 67), ([99, 97, 108, 108], 16), ([101, 120, 105, 116], 0)]
def nameL (n : Nat) : List UInt8 := (opsL[n]?.getD ([], 0)).1
def usesN (n : Nat) : Int := (opsL[n]?.getD ([], 0)).2
/-- What the program's text lays. -/
structure Glob (w : World) : Prop where
  name : ∀ n, n < 25 → w.cell? ⟨0, n * 2, none⟩ = some (.string ⟨(nameL n).toArray⟩)
  uses : ∀ n, n < 25 → w.cell? ⟨0, n * 2 + 1, none⟩ = some (.int .i64 (usesN n))
theorem Glob.size {w : World} (h : Glob w) : 0 < w.heap.size := block_of_cell (h.name 0 (by decide))
theorem Glob.below {B : Nat} {w w' : World} (h : Glob w) (k : Below B w w') (hb : 0 < B) : Glob w' :=
  ⟨fun n hn => (k.cell (p := ⟨0, n * 2, none⟩) (by simpa using hb)).trans (h.name n hn), fun n hn => (k.cell (p := ⟨0, n * 2 + 1, none⟩) (by simpa using hb)).trans (h.uses n hn)⟩
theorem Glob.fr {S : Nat → Prop} {w w' : World} (h : Glob w) (k : Fr S w w') (hb : ¬ S 0) : Glob w' :=
  ⟨fun n hn => (World.cell?_of_block (w := w) (k.block 0 h.size hb)).trans (h.name n hn), fun n hn => (World.cell?_of_block (w := w) (k.block 0 h.size hb)).trans (h.uses n hn)⟩
theorem Glob.drew {w : World} (h : Glob w) : Glob w.drew := ⟨h.name, h.uses⟩

def fitB (u dst src off imm : Int) : Bool := regB u 1 dst && (regB u 2 src && (offB u off && immB u imm))
def mayB (op dst src off imm : Int) : Bool := thereB op && fitB (usesN op.toNat) dst src off imm

theorem may_no (op dst src off imm : Int) (w : World) (h : thereB op = false) :
    Calls Tryd.prog 39 #[.agg #[.int .i64 op, .int .i64 dst, .int .i64 src, .int .i64 off, .int .u32 imm]] w fun e w' => e = .returned (.bool false) ∧ Below w.heap.size w w' := by
  go_enter Tryd.func39, Tryd.ntmps39
  go_wp2_with (go_at_call 70; refine (there_any _ _).mono ?_; rintro e w' ⟨rfl, rfl⟩)
  go_ret
  exact ⟨rfl, (Below.refl _ _).alloc (Nat.le_refl _) _⟩
theorem may_yes (n : Nat) (dst src off imm : Int) (w : World) (h : thereB n = true) (hn : n < 25) (hG : Glob w) :
    Calls Tryd.prog 39 #[.agg #[.int .i64 n, .int .i64 dst, .int .i64 src, .int .i64 off, .int .u32 imm]] w fun e w' => e = .returned (.bool (fitB (usesN n) dst src off imm)) ∧ Below w.heap.size w w' := by
  have hz := hG.size
  have hu := hG.uses n hn
  have i1 : (n : Int) < 25 := by omega
  generalize usesN n = u at *
  unfold fitB
  cases h1 : regB u 1 dst
  · go_enter Tryd.func39, Tryd.ntmps39
    go_wp2_with (first | (go_at_call 70; refine (there_any _ _).mono ?_; rintro e w' ⟨rfl, rfl⟩) | (go_at_call 71; refine (creg_any _ _ _ _).mono ?_; rintro e w' ⟨rfl, rfl⟩) | (go_at_call 72; refine (coff_any _ _ _).mono ?_; rintro e w' ⟨rfl, rfl⟩) | (go_at_call 73; refine (cimm_any _ _ _).mono ?_; rintro e w' ⟨rfl, rfl⟩))
    go_ret
    exact ⟨rfl, (Below.refl _ _).alloc (Nat.le_refl _) _⟩
  · cases h2 : regB u 2 src
    · go_enter Tryd.func39, Tryd.ntmps39
      go_wp2_with (first | (go_at_call 70; refine (there_any _ _).mono ?_; rintro e w' ⟨rfl, rfl⟩) | (go_at_call 71; refine (creg_any _ _ _ _).mono ?_; rintro e w' ⟨rfl, rfl⟩) | (go_at_call 72; refine (coff_any _ _ _).mono ?_; rintro e w' ⟨rfl, rfl⟩) | (go_at_call 73; refine (cimm_any _ _ _).mono ?_; rintro e w' ⟨rfl, rfl⟩))
      go_ret
      exact ⟨rfl, (Below.refl _ _).alloc (Nat.le_refl _) _⟩
    · cases h3 : offB u off
      · go_enter Tryd.func39, Tryd.ntmps39
        go_wp2_with (first | (go_at_call 70; refine (there_any _ _).mono ?_; rintro e w' ⟨rfl, rfl⟩) | (go_at_call 71; refine (creg_any _ _ _ _).mono ?_; rintro e w' ⟨rfl, rfl⟩) | (go_at_call 72; refine (coff_any _ _ _).mono ?_; rintro e w' ⟨rfl, rfl⟩) | (go_at_call 73; refine (cimm_any _ _ _).mono ?_; rintro e w' ⟨rfl, rfl⟩))
        go_ret
        exact ⟨rfl, (Below.refl _ _).alloc (Nat.le_refl _) _⟩
      · go_enter Tryd.func39, Tryd.ntmps39
        go_wp2_with (first | (go_at_call 70; refine (there_any _ _).mono ?_; rintro e w' ⟨rfl, rfl⟩) | (go_at_call 71; refine (creg_any _ _ _ _).mono ?_; rintro e w' ⟨rfl, rfl⟩) | (go_at_call 72; refine (coff_any _ _ _).mono ?_; rintro e w' ⟨rfl, rfl⟩) | (go_at_call 73; refine (cimm_any _ _ _).mono ?_; rintro e w' ⟨rfl, rfl⟩))
        go_ret
        exact ⟨rfl, (Below.refl _ _).alloc (Nat.le_refl _) _⟩
/-- May an instruction be? -/
theorem may_any (op dst src off imm : Int) (w : World) (hG : Glob w) :
    Calls Tryd.prog 39 #[.agg #[.int .i64 op, .int .i64 dst, .int .i64 src, .int .i64 off, .int .u32 imm]] w fun e w' => e = .returned (.bool (mayB op dst src off imm)) ∧ Below w.heap.size w w' := by
  cases h : thereB op
  · have e : mayB op dst src off imm = false := by unfold mayB; rw [h]; rfl
    rw [e]; exact may_no op dst src off imm w h
  · have hh : 0 < op ∧ op ≤ 24 := by unfold thereB at h; simpa using h
    obtain ⟨n, rfl⟩ : ∃ n : Nat, op = n := ⟨op.toNat, by omega⟩
    have e : mayB n dst src off imm = fitB (usesN n) dst src off imm := by unfold mayB; rw [h]; rfl
    rw [e]; exact may_yes n dst src off imm w h (by omega) hG
end Go.Proofs.YtodkehpldlmgaaaDoor
/- Instructions in memory; Check. -/
namespace Go.Proofs.YtodkehpldlmgaaaDoor
open Go.RowKit

/-- Its parts are within their types' bounds. -/
structure Ins.Ok (i : Ins) : Prop where
  imm : i.imm < 4294967296
def Ins.may (i : Ins) : Bool := mayB i.op i.dst i.src i.off i.imm
/-- Instructions that lie in a block from a place on. -/
structure InsAt (w : World) (b o : Nat) (l : List Ins) : Prop where
  op : ∀ k i, l[k]? = some i → w.cell? ⟨b, o + k * 5, none⟩ = some (.int .i64 i.op)
  dst : ∀ k i, l[k]? = some i → w.cell? ⟨b, o + k * 5 + 1, none⟩ = some (.int .i64 i.dst)
  src : ∀ k i, l[k]? = some i → w.cell? ⟨b, o + k * 5 + 2, none⟩ = some (.int .i64 i.src)
  off : ∀ k i, l[k]? = some i → w.cell? ⟨b, o + k * 5 + 3, none⟩ = some (.int .i64 i.off)
  imm : ∀ k i, l[k]? = some i → w.cell? ⟨b, o + k * 5 + 4, none⟩ = some (.int .u32 i.imm)
/-- A slice whose instructions these are. -/
def Prg (w : World) (v : Value) (l : List Ins) : Prop :=
  ∃ a cap b o, v = .slice a l.length cap ∧ (l ≠ [] → a = some ⟨b, o, none⟩) ∧ InsAt w b o l ∧ b < w.heap.size
theorem InsAt.below {w w' : World} {b o : Nat} {l : List Ins} (h : InsAt w b o l) {B : Nat} (k : Below B w w') (hb : b < B) : InsAt w' b o l :=
  ⟨fun j i hj => (k.cell (p := ⟨b, _, none⟩) hb).trans (h.op j i hj), fun j i hj => (k.cell (p := ⟨b, _, none⟩) hb).trans (h.dst j i hj), fun j i hj => (k.cell (p := ⟨b, _, none⟩) hb).trans (h.src j i hj),
   fun j i hj => (k.cell (p := ⟨b, _, none⟩) hb).trans (h.off j i hj), fun j i hj => (k.cell (p := ⟨b, _, none⟩) hb).trans (h.imm j i hj)⟩
theorem Prg.below {w w' : World} {v : Value} {l : List Ins} (h : Prg w v l) (k : Below w.heap.size w w') : Prg w' v l := by
  obtain ⟨a, cap, b, o, h1, h2, h3, h4⟩ := h
  exact ⟨a, cap, b, o, h1, h2, h3.below k h4, Nat.lt_of_lt_of_le h4 k.size⟩

def chkE (ctx : Int) (l : List Ins) : Int := if ctx < 0 ∨ 256 < ctx then 2 else if l.all Ins.may then (if 256 < l.length then 3 else 0) else 2

theorem jump_ret {l : Nat} {J : Act → World → Prop} {Q : Exit → Act → World → Prop} {a : Act} {w : World} (h : Q .ret a w) : Exit.jump l J Q .ret a w := h
theorem jump_goto {l : Nat} {J : Act → World → Prop} {Q : Exit → Act → World → Prop} {a : Act} {w : World} (h : J a w) : Exit.jump l J Q (.goto l) a w := ⟨rfl, h⟩
theorem chkE_bad {ctx : Int} {l : List Ins} (h : ctx < 0 ∨ 256 < ctx) : chkE ctx l = 2 := by unfold chkE; rw [if_pos h]
theorem chkE_no {ctx : Int} {l : List Ins} {k : Nat} {i : Ins} (hi : l[k]? = some i) (hm : i.may = false) : chkE ctx l = 2 := by
  unfold chkE
  have : l.all Ins.may = false := by
    rw [List.all_eq_false]
    exact ⟨i, List.mem_of_getElem? hi, by rw [hm]; decide⟩
  rw [this]; split <;> rfl

set_option maxRecDepth 10000 in
set_option maxHeartbeats 2000000 in
theorem check_any (ctx : Int) (sv : Value) (l : List Ins) (w : World) (hP : Prg w sv l) (hG : Glob w) (hl : l.length ≤ 1000000000) :
    Calls Tryd.prog 25 #[.agg #[.int .i64 ctx, sv]] w fun e w' => e = .returned (.int .i64 (chkE ctx l)) ∧ Below w.heap.size w w' := by
  obtain ⟨a, cap, b, o, rfl, ha, hI, hb⟩ := hP
  go_enter Tryd.func25, Tryd.ntmps25
  go_wp2
  refine wp_scope_jumps 0 (fun a' w' => chkE ctx l = 2 ∧ Below w.heap.size w w' ∧ ∃ u0 u1 u2 u3 u4 u5 u6 u7 u8 u9 u10 u11 u12 u13 u14 u15 u16 u17 u18 u19 u20 u21 u22 u23 u24 u25 u26 u27 : Value, a' = { tmps := #[u0, u1, u2, u3, u4, u5, u6, u7, u8, u9, u10, u11, u12, u13, u14, u15, u16, u17, u18, u19, u20, u21, u22, u23, u24, u25, u26, u27], defers := [] }) (fun _ _ => 0) rfl ?first ?pass
  case pass =>
    rintro a' w' ⟨he, hB, u0, u1, u2, u3, u4, u5, u6, u7, u8, u9, u10, u11, u12, u13, u14, u15, u16, u17, u18, u19, u20, u21, u22, u23, u24, u25, u26, u27, rfl⟩
    go_wp2
    refine jump_ret ?_
    go_ret
    exact ⟨by rw [he]; rfl, hB⟩
  case first =>
    by_cases h0 : ctx < 0
    · go_wp2
      refine wp_goto ?_
      refine And.intro rfl ?_
      exact ⟨chkE_bad (.inl h0), (Below.refl _ _).alloc (Nat.le_refl _) _, _, _, _, _, _, _, _, _, _, _, _, _, _, _, _, _, _, _, _, _, _, _, _, _, _, _, _, _, rfl⟩
    by_cases h1 : 256 < ctx
    · go_wp2
      refine wp_goto ?_
      refine And.intro rfl ?_
      exact ⟨chkE_bad (.inr h1), (Below.refl _ _).alloc (Nat.le_refl _) _, _, _, _, _, _, _, _, _, _, _, _, _, _, _, _, _, _, _, _, _, _, _, _, _, _, _, _, _, rfl⟩
    go_wp2
    have hz : 0 < w.heap.size := hG.size
    have hB0 : Below w.heap.size w (w.alloc (.cells #[.int .i64 ctx, .slice a l.length cap] 24)) := (Below.refl _ _).alloc (Nat.le_refl _) _
    go_loopw [16] (fun i wr => ∃ k : Nat, k ≤ l.length ∧ i = .int .i64 k ∧ (∀ j i, j < k → l[j]? = some i → i.may = true) ∧ Below (w.heap.size + 1) (w.alloc (.cells #[.int .i64 ctx, .slice a l.length cap] 24)) wr) (fun i _ => l.length - (intOf i).toNat)
    case atStart => exact ⟨0, Nat.zero_le _, rfl, fun j i hj => absurd hj (by omega), Below.refl _ _⟩
    case round =>
      obtain ⟨k, hk, rfl, hall, hB⟩ := hrel
      have HA : Hid (∀ j i, j < k → l[j]? = some i → i.may = true) := hall
      clear hall
      have hBw : Below w.heap.size w wr := hB0.trans (hB.mono (by omega))
      by_cases hlt : k < l.length
      · have hne : l ≠ [] := fun e => by rw [e] at hlt; simp at hlt
        obtain rfl := ha hne
        have hi : Hid (l[k]? = some l[k]) := List.getElem?_eq_getElem hlt
        have hIr := hI.below hBw hb
        have c0 := hIr.op k _ hi.out
        have c1 := hIr.dst k _ hi.out
        have c2 := hIr.src k _ hi.out
        have c3 := hIr.off k _ hi.out
        have c4 := hIr.imm k _ hi.out
        clear hIr
        have hlt' : (k : Int) < l.length := by omega
        obtain ⟨i, hi'⟩ : ∃ i, i = l[k] := ⟨_, rfl⟩
        rw [← hi'] at c0 c1 c2 c3 c4 hi
        clear hi'
        have hGr : Glob (wr.alloc (.cells #[.int .i64 i.op, .int .i64 i.dst, .int .i64 i.src, .int .i64 i.off, .int .u32 i.imm] 38)) := (hG.below hBw hz).below ((Below.refl wr.heap.size wr).alloc (Nat.le_refl _) _) (by have := hBw.size; omega)
        have hzr : w.heap.size + 1 ≤ wr.heap.size := by have := hB.size; simpa using this
        cases hm : i.may
        · have hm' : mayB i.op i.dst i.src i.off i.imm = false := hm
          have HM : Hid (i.may = false) := hm
          clear hm
          go_wp2_with (go_at_call 39; refine (may_any _ _ _ _ _ _ hGr).mono ?_; rintro e W1 ⟨rfl, hB1⟩)
          refine wp_goto ?_
          refine And.intro rfl ?_
          exact ⟨chkE_no hi.out HM.out, (hBw.alloc hBw.size _).trans (hB1.mono (by simp; omega)), _, _, _, _, _, _, _, _, _, _, _, _, _, _, _, _, _, _, _, _, _, _, _, _, _, _, _, _, rfl⟩
        · have hm' : mayB i.op i.dst i.src i.off i.imm = true := hm
          have HM : Hid (i.may = true) := hm
          clear hm
          go_wp2_with (go_at_call 39; refine (may_any _ _ _ _ _ _ hGr).mono ?_; rintro e W1 ⟨rfl, hB1⟩)
          go_roundw
          case rel =>
            refine ⟨k + 1, by omega, by go_num, fun j i' hj hj' => ?_, (hB.alloc (by omega) _).trans (hB1.mono (by simp; omega))⟩
            by_cases e : j = k
            · subst e
              have := hi.out.symm.trans hj'
              simp only [Option.some.injEq] at this
              rw [← this]; exact HM.out
            · exact HA.out j i' (by omega) hj'
          case measure => simp [intOf]; omega
      · obtain rfl : k = l.length := by omega
        have hall : l.all Ins.may = true := by
          rw [List.all_eq_true]
          intro i hi
          obtain ⟨j, hj, e⟩ := List.mem_iff_getElem.1 hi
          exact HA.out j i hj (by rw [List.getElem?_eq_getElem hj, e])
        have c1 : wr.cell? ⟨w.heap.size, 1, none⟩ = some (.slice a l.length cap) := (hB.cell (p := ⟨w.heap.size, 1, none⟩) (by simp)).trans ((has_new w _ 24 w.heap.size rfl).cell 1)
        by_cases h3 : 256 < l.length
        · have h3' : (256 : Int) < l.length := by omega
          have he : Hid (chkE ctx l = 3) := by show _ = _; unfold chkE; rw [if_neg (by omega), if_pos hall, if_pos h3]
          clear hall HA
          go_wp2
          refine jump_ret ?_
          go_ret
          exact ⟨by rw [he.out]; rfl, hBw⟩
        · have h3' : ¬ (256 : Int) < l.length := by omega
          have he : Hid (chkE ctx l = 0) := by show _ = _; unfold chkE; rw [if_neg (by omega), if_pos hall, if_neg h3]
          clear hall HA
          go_wp2
          refine jump_ret ?_
          go_ret
          exact ⟨by rw [he.out]; rfl, hBw⟩
end Go.Proofs.YtodkehpldlmgaaaDoor
/- The document's Uses and May. -/
namespace Go.Proofs.YtodkehpldlmgaaaDoor
open Go.RowKit

def useD (op : Int) : Bool := decide (1 ≤ op ∧ op ≤ 18 ∨ 20 ≤ op ∧ op ≤ 22)
def useS (op : Int) : Bool := decide (op = 2 ∨ op = 4 ∨ op = 5 ∨ op = 7 ∨ 9 ≤ op ∧ op ≤ 11 ∨ 14 ≤ op ∧ op ≤ 18 ∨ op = 22)
def useO (op : Int) : Bool := decide (16 ≤ op ∧ op ≤ 22)
def useM (op : Int) : Bool := decide (op = 1 ∨ op = 3 ∨ op = 6 ∨ op = 8 ∨ op = 12 ∨ op = 13 ∨ op = 20 ∨ op = 21 ∨ op = 23)
def useI (op : Int) : Bool := decide (1 ≤ op ∧ op ≤ 24)
theorem yb {op k : Int} (h : (op == k) = true) : op = k := by simpa using h
theorem nb {op k : Int} (h : (op == k) = false) : op ≠ k := by simpa using h
set_option maxHeartbeats 2000000 in
theorem uses_any (op : Int) (w : World) :
    Calls Tryd.prog 34 #[.int .i64 op] w fun e w' => e = .returned (.tuple #[.bool (useD op), .bool (useS op), .bool (useO op), .bool (useM op), .bool (useI op)]) ∧ w = w' := by
  go_enter Tryd.func34, Tryd.ntmps34
  go_wp2
  all_goals
    refine bodyPost_ret (v := .tuple #[.bool (useD op), .bool (useS op), .bool (useO op), .bool (useM op), .bool (useI op)]) ?_ rfl ⟨rfl, rfl⟩
    simp [results, Tryd.results34, go_sem]
    first
      | (rename_i hk; obtain rfl := yb hk; decide)
      | (have hs : op ≠ 1 ∧ op ≠ 2 ∧ op ≠ 3 ∧ op ≠ 4 ∧ op ≠ 5 ∧ op ≠ 6 ∧ op ≠ 7 ∧ op ≠ 8 ∧ op ≠ 9 ∧ op ≠ 10 ∧ op ≠ 11 ∧ op ≠ 12 ∧ op ≠ 13 ∧ op ≠ 14 ∧ op ≠ 15 ∧ op ≠ 16 ∧ op ≠ 17 ∧ op ≠ 18 ∧ op ≠ 19 ∧ op ≠ 20 ∧ op ≠ 21 ∧ op ≠ 22 ∧ op ≠ 23 ∧ op ≠ 24 := ⟨nb (by assumption), nb (by assumption), nb (by assumption), nb (by assumption), nb (by assumption), nb (by assumption), nb (by assumption), nb (by assumption), nb (by assumption), nb (by assumption), nb (by assumption), nb (by assumption), nb (by assumption), nb (by assumption), nb (by assumption), nb (by assumption), nb (by assumption), nb (by assumption), nb (by assumption), nb (by assumption), nb (by assumption), nb (by assumption), nb (by assumption), nb (by assumption)⟩
         unfold useD useS useO useM useI
         refine ⟨?_, ?_, ?_, ?_, ?_⟩ <;> exact decide_eq_false (by omega))
end Go.Proofs.YtodkehpldlmgaaaDoor
