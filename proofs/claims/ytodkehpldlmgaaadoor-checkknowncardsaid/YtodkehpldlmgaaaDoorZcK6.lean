/- The document's Check. -/
import Derived.Test.YtodkehpldlmgaaaDoorZq2
import Derived.Test.YtodkehpldlmgaaaDoorZq3
namespace Go.Proofs.YtodkehpldlmgaaaDoor
open Go.RowKit

set_option maxRecDepth 10000 in
set_option maxHeartbeats 2000000 in
theorem rcheck_any (ctx : Int) (sv : Value) (l : List Ins) (w : World) (hP : Prg w sv l) (hl : l.length ≤ 1000000000) :
    Calls Tryd.prog 29 #[.agg #[.int .i64 ctx, sv]] w fun e w' => e = .returned (.int .i64 (chkE ctx l)) ∧ Below w.heap.size w w' := by
  obtain ⟨a, cap, b, o, rfl, ha, hI, hb⟩ := hP
  by_cases h0 : ctx < 0
  · have HE : Hid (chkE ctx l = 2) := chkE_bad (.inl h0)
    go_enter Tryd.func29, Tryd.ntmps29
    go_wp2
    go_ret
    exact ⟨by rw [HE.out]; rfl, (Below.refl _ _).alloc (Nat.le_refl _) _⟩
  by_cases h1 : 256 < ctx
  · have HE : Hid (chkE ctx l = 2) := chkE_bad (.inr h1)
    go_enter Tryd.func29, Tryd.ntmps29
    go_wp2
    go_ret
    exact ⟨by rw [HE.out]; rfl, (Below.refl _ _).alloc (Nat.le_refl _) _⟩
  go_enter Tryd.func29, Tryd.ntmps29
  go_wp2
  have hB0 : Below w.heap.size w (w.alloc (.cells #[.int .i64 ctx, .slice a l.length cap] 24)) := (Below.refl _ _).alloc (Nat.le_refl _) _
  go_loopw [3] (fun i wr => ∃ k : Nat, k ≤ l.length ∧ i = .int .i64 k ∧ (∀ j i, j < k → l[j]? = some i → i.may = true) ∧ Below (w.heap.size + 1) (w.alloc (.cells #[.int .i64 ctx, .slice a l.length cap] 24)) wr) (fun i _ => l.length - (intOf i).toNat)
  case atStart => exact ⟨0, Nat.zero_le _, rfl, fun j i hj => absurd hj (by omega), Below.refl _ _⟩
  case round =>
    obtain ⟨k, hk, rfl, hall, hB⟩ := hrel
    have HA : Hid (∀ j i, j < k → l[j]? = some i → i.may = true) := hall
    clear hall
    have hBw : Below w.heap.size w wr := hB0.trans (hB.mono (by omega))
    have y1 : wr.cell? ⟨w.heap.size, 1, none⟩ = some (.slice a l.length cap) := (hB.cell (p := ⟨w.heap.size, 1, none⟩) (by simp)).trans ((has_new w _ 24 w.heap.size rfl).cell 1)
    by_cases hlt : k < l.length
    · have hne : l ≠ [] := fun e => by rw [e] at hlt; simp at hlt
      obtain rfl := ha hne
      have hi : Hid (l[k]? = some l[k]) := List.getElem?_eq_getElem hlt
      have hIr := hI.below hBw hb
      have c0 := hIr.op k _ hi.out
      have c1 := hIr.dst k _ hi.out
      have c2 := hIr.src k _ hi.out
      have c3 := hIr.off k _ hi.out
      have c4 := hIr.imm k _ hi.out
      clear hIr
      have hlt' : (k : Int) < l.length := by omega
      obtain ⟨i, hi'⟩ : ∃ i, i = l[k] := ⟨_, rfl⟩
      rw [← hi'] at c0 c1 c2 c3 c4 hi
      clear hi'
      have hzr : w.heap.size + 1 ≤ wr.heap.size := by have := hB.size; simpa using this
      cases hm : i.may
      · have hm' : mayB i.op i.dst i.src i.off i.imm = false := hm
        have HE : Hid (chkE ctx l = 2) := chkE_no hi.out hm
        clear hm
        go_wp2_with (go_at_call 18; refine (rmay_any _ _ _ _ _ _ (by omega)).mono ?_; rintro e W1 ⟨rfl, hB1⟩)
        go_ret
        exact ⟨by rw [HE.out]; rfl, hBw.trans (hB1.mono (by omega))⟩
      · have hm' : mayB i.op i.dst i.src i.off i.imm = true := hm
        have HM : Hid (i.may = true) := hm
        clear hm
        go_wp2_with (go_at_call 18; refine (rmay_any _ _ _ _ _ _ (by omega)).mono ?_; rintro e W1 ⟨rfl, hB1⟩)
        go_roundw
        case rel =>
          refine ⟨k + 1, by omega, by go_num, fun j i' hj hj' => ?_, hB.trans (hB1.mono (by omega))⟩
          by_cases e : j = k
          · subst e
            have := hi.out.symm.trans hj'
            simp only [Option.some.injEq] at this
            rw [← this]; exact HM.out
          · exact HA.out j i' (by omega) hj'
        case measure => simp [intOf]; omega
    · obtain rfl : k = l.length := by omega
      have hall : l.all Ins.may = true := by
        rw [List.all_eq_true]
        intro i hi
        obtain ⟨j, hj, e⟩ := List.mem_iff_getElem.1 hi
        exact HA.out j i hj (by rw [List.getElem?_eq_getElem hj, e])
      by_cases h3 : 256 < l.length
      · have h3' : (256 : Int) < l.length := by omega
        have he : Hid (chkE ctx l = 3) := by show _ = _; unfold chkE; rw [if_neg (by omega), if_pos hall, if_pos h3]
        clear hall HA
        go_wp2
        go_ret
        exact ⟨by rw [he.out]; rfl, hBw⟩
      · have h3' : ¬ (256 : Int) < l.length := by omega
        have he : Hid (chkE ctx l = 0) := by show _ = _; unfold chkE; rw [if_neg (by omega), if_pos hall, if_neg h3]
        clear hall HA
        go_wp2
        go_ret
        exact ⟨by rw [he.out]; rfl, hBw⟩
end Go.Proofs.YtodkehpldlmgaaaDoor
