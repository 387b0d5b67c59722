/- The document's Right; what is known within something else. -/
import Derived.Test.YtodkehpldlmgaaaDoorZq7
import Derived.Test.YtodkehpldlmgaaaDoorZq2
import Derived.Deep.Cut
namespace Go.Proofs.YtodkehpldlmgaaaDoor
open Go.RowKit

theorem rgB_bad {r : Rg} (h : r.great < r.least) : rgB r = false := by unfold rgB; rw [decide_eq_false (by omega)]; rfl
theorem rgB_unset {l g : Nat} (h : l ≠ 0 ∨ g ≠ 0) : rgB ⟨false, l, g⟩ = false := by
  unfold rgB
  rw [decide_eq_false (p := (⟨false, l, g⟩ : Rg) = noR) (fun e => by
    have e1 : l = 0 := congrArg Rg.least e
    have e2 : g = 0 := congrArg Rg.great e
    omega)]
  simp
theorem rgB_set {l g : Nat} (h : ¬ g < l) : rgB ⟨true, l, g⟩ = true := by unfold rgB; simp; omega
theorem rgB_no : rgB ⟨false, 0, 0⟩ = true := by decide
set_option maxRecDepth 10000 in
set_option maxHeartbeats 2000000 in
theorem rright_any (k : Kn) (w : World) :
    Calls Tryd.prog 19 #[.agg k.a] w fun e w' => e = .returned (.bool (knB k)) ∧ Below w.heap.size w w' := by
  have h0 : Has (w.alloc (.cells k.a 43)) w.heap.size k.a 43 := has_new _ _ _ _ rfl
  have hB0 : Below w.heap.size w (w.alloc (.cells k.a 43)) := (Below.refl _ _).alloc (Nat.le_refl _) _
  obtain ⟨ka, hka⟩ : ∃ ka, ka = k.a := ⟨_, rfl⟩
  have HKA : Hid (ka = k.a) := hka
  rw [← hka] at h0 hB0 ⊢
  clear hka
  have H0 : Hid (Has (w.alloc (.cells ka 43)) w.heap.size ka 43) := h0
  have HB0 : Hid (Below w.heap.size w (w.alloc (.cells ka 43))) := hB0
  clear h0 hB0
  go_enter Tryd.func19, Tryd.ntmps19
  go_wp2_with fail
  go_loopw [3] (fun v wr => ∃ n : Nat, n ≤ 10 ∧ v = .int .i64 (n : Int) ∧ Hid (∀ j, j < n → rgB (k.r j) = true) ∧ Below (w.heap.size + 1) (w.alloc (.cells ka 43)) wr) (fun v _ => 10 - (intOf v).toNat)
  case atStart => exact ⟨0, by omega, rfl, fun j hj => absurd hj (by omega), Below.refl _ _⟩
  case round =>
    obtain ⟨n, hn, rfl, HA, hB⟩ := hrel
    have HBr : Hid (Below w.heap.size w wr) := HB0.out.trans (hB.mono (by omega))
    have HB2 : Hid (Below (w.heap.size + 1) (w.alloc (.cells ka 43)) wr) := hB
    have hl2 : w.heap.size < wr.heap.size := by have := hB.size; simp at this; omega
    by_cases hlt : n < 10
    · have hlt' : (n : Int) < 10 := by omega
      have hreg : wr.rangeAt w.heap.size (1 + n * 3) (k.r n).cells := by
        have := kn_reg (n := n) (k := k) (X := wr) (b := w.heap.size) (t := 43) (by have h := H0.out.below hB (by omega); rw [HKA.out] at h; exact h) hlt
        exact this
      have HNO : Hid (rgB (k.r n) = false → knB k = false) := knB_no hlt
      have HRR : Hid (∀ r, k.r n = r → rgB r = true → ∀ j, j < n + 1 → rgB (k.r j) = true) := fun r hr hb j hj => by
        by_cases e : j = n
        · subst e; rw [hr]; exact hb
        · exact HA.out j (by omega)
      obtain ⟨r, hr⟩ : ∃ r, k.r n = r := ⟨_, rfl⟩
      have HR : Hid (k.r n = r) := hr
      rw [hr] at hreg HNO
      clear hr hB
      obtain ⟨rs, rl, rg⟩ := r
      have c0 : wr.cell? ⟨w.heap.size, 1 + n * 3, none⟩ = some (.bool rs) := hreg 0 _ rfl
      have c1 : wr.cell? ⟨w.heap.size, 1 + n * 3 + 1, none⟩ = some (.int .u32 (rl : Int)) := hreg 1 _ rfl
      have c2 : wr.cell? ⟨w.heap.size, 1 + n * 3 + 2, none⟩ = some (.int .u32 (rg : Int)) := hreg 2 _ rfl
      clear hreg
      by_cases hgl : rg < rl
      · have hgl' : (rg : Int) < (rl : Int) := by omega
        have HF : Hid (knB k = false) := HNO.out (rgB_bad hgl)
        go_wp2
        go_ret
        exact ⟨by rw [HF.out]; rfl, HBr.out.alloc HBr.out.size _⟩
      have hgl' : ¬ (rg : Int) < (rl : Int) := by omega
      cases rs with
      | true =>
        have HN2 : Hid (∀ j, j < n + 1 → rgB (k.r j) = true) := HRR.out _ HR.out (rgB_set hgl)
        go_wp2
        go_roundw
        case rel => exact ⟨n + 1, by omega, by simp, HN2, HB2.out.alloc (by omega) _⟩
        case measure => simp [intOf]; omega
      | false =>
        by_cases hl0 : rl = 0
        · by_cases hg0 : rg = 0
          · subst hl0 hg0
            have HN2 : Hid (∀ j, j < n + 1 → rgB (k.r j) = true) := HRR.out _ HR.out rgB_no
            go_wp2
            go_roundw
            case rel => exact ⟨n + 1, by omega, by simp, HN2, HB2.out.alloc (by omega) _⟩
            case measure => simp [intOf]; omega
          · have HF : Hid (knB k = false) := HNO.out (rgB_unset (.inr hg0))
            have d1 : ((rl : Int) != 0) = false := by simp; omega
            have d2 : ((rg : Int) != 0) = true := by simp; omega
            go_wp2
            go_ret
            exact ⟨by rw [HF.out]; rfl, HBr.out.alloc HBr.out.size _⟩
        · have HF : Hid (knB k = false) := HNO.out (rgB_unset (.inl hl0))
          have d1 : ((rl : Int) != 0) = true := by simp; omega
          go_wp2
          go_ret
          exact ⟨by rw [HF.out]; rfl, HBr.out.alloc HBr.out.size _⟩
    · obtain rfl : n = 10 := by omega
      have HF : Hid (knB k = true) := knB_yes HA.out
      go_wp2
      go_ret
      exact ⟨by rw [HF.out]; rfl, HBr.out⟩
end Go.Proofs.YtodkehpldlmgaaaDoor
