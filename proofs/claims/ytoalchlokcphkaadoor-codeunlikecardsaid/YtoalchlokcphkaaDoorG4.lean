/- The document's Same. -/
import Derived.Test.YtoalchlokcphkaaDoorD5
import Derived.Test.YtoalchlokcphkaaDoorR6
namespace Go.Proofs.YtoalchlokcphkaaDoor
open Go.RowKit

def insEq (i j : Ins) : Bool := i.op == j.op && (i.dst == j.dst && (i.src == j.src && (i.off == j.off && i.imm == j.imm)))
theorem insEq_iff (i j : Ins) : insEq i j = true ↔ i = j := by
  obtain ⟨a, b, c, d, e⟩ := i
  obtain ⟨a', b', c', d', e'⟩ := j
  simp [insEq]
theorem neq_chain {α : Type} (i j : Ins) (F : Bool → α) :
    (if i.op = j.op then if i.dst = j.dst then if i.src = j.src then if i.off = j.off then if (i.imm : Int) = (j.imm : Int) then F false else F true else F true else F true else F true else F true) = F (!insEq i j) := by
  unfold insEq
  by_cases h1 : i.op = j.op
  · rw [if_pos h1, h1, beq_self_eq_true, Bool.true_and]
    by_cases h2 : i.dst = j.dst
    · rw [if_pos h2, h2, beq_self_eq_true, Bool.true_and]
      by_cases h3 : i.src = j.src
      · rw [if_pos h3, h3, beq_self_eq_true, Bool.true_and]
        by_cases h4 : i.off = j.off
        · rw [if_pos h4, h4, beq_self_eq_true, Bool.true_and]
          by_cases h5 : i.imm = j.imm
          · rw [if_pos (by omega), h5, beq_self_eq_true]; rfl
          · rw [if_neg (by omega), beq_eq_false_iff_ne.2 h5]; rfl
        · rw [if_neg h4, beq_eq_false_iff_ne.2 h4, Bool.false_and]; rfl
      · rw [if_neg h3, beq_eq_false_iff_ne.2 h3, Bool.false_and]; rfl
    · rw [if_neg h2, beq_eq_false_iff_ne.2 h2, Bool.false_and]; rfl
  · rw [if_neg h1, beq_eq_false_iff_ne.2 h1, Bool.false_and]; rfl
set_option maxRecDepth 10000 in
set_option maxHeartbeats 2000000 in
theorem rsame_any (c1 c2 : Int) (s1 s2 : Value) (l1 l2 : List Ins) (w : World) (hP1 : Prg w s1 l1) (hP2 : Prg w s2 l2) (hl : l1.length ≤ 1000000) :
    Calls Tryd.prog 17 #[.agg #[.int .i64 c1, s1], .agg #[.int .i64 c2, s2]] w fun e w' => ∃ b, e = .returned (.bool b) ∧ (b = true ↔ c1 = c2 ∧ l1 = l2) ∧ Below w.heap.size w w' := by
  obtain ⟨a1, p1, b1, o1, rfl, ha1, hI1, hb1⟩ := hP1
  obtain ⟨a2, p2, b2, o2, rfl, ha2, hI2, hb2⟩ := hP2
  have hB0 : Below w.heap.size w ((w.alloc (.cells #[.int .i64 c1, .slice a1 l1.length p1] 24)).alloc (.cells #[.int .i64 c2, .slice a2 l2.length p2] 24)) := ((Below.refl _ _).alloc (Nat.le_refl _) _).alloc (by simp) _
  by_cases hc : c1 = c2
  · subst hc
    by_cases hn : l1.length = l2.length
    · rw [← hn] at hB0 ⊢
      obtain ⟨n, hn1⟩ : ∃ n, n = l1.length := ⟨_, rfl⟩
      have HN : Hid (l1.length = n ∧ l2.length = n) := ⟨hn1.symm, by rw [← hn, ← hn1]⟩
      rw [← hn1] at hB0 hl ⊢
      clear hn hn1
      obtain ⟨W0, hW0⟩ : ∃ W0, W0 = (w.alloc (.cells #[.int .i64 c1, .slice a1 n p1] 24)).alloc (.cells #[.int .i64 c1, .slice a2 n p2] 24) := ⟨_, rfl⟩
      have hX1 : Has W0 w.heap.size #[.int .i64 c1, .slice a1 n p1] 24 := by rw [hW0]; exact has_old (has_new _ _ _ _ rfl)
      have hX2 : Has W0 (w.heap.size + 1) #[.int .i64 c1, .slice a2 n p2] 24 := by rw [hW0]; exact has_new _ _ _ _ (by simp)
      rw [← hW0] at hB0
      go_enter Tryd.func17, Tryd.ntmps17
      go_wp2
      rw [← hW0]
      clear hW0
      go_loopw [5] (fun iv wr => ∃ k : Nat, k ≤ n ∧ iv = .int .i64 k ∧ (∀ j, j < k → l1[j]? = l2[j]?) ∧ Below W0.heap.size W0 wr) (fun iv _ => n - (intOf iv).toNat)
      case atStart => exact ⟨0, Nat.zero_le _, rfl, fun j hj => absurd hj (by omega), Below.refl _ _⟩
      case round =>
        obtain ⟨k, hk, rfl, hall, hB⟩ := hrel
        have HA : Hid (∀ j, j < k → l1[j]? = l2[j]?) := hall
        clear hall
        have hBw : Below w.heap.size w wr := hB0.trans (hB.mono hB0.size)
        have y1 := (hX1.below hB hX1.lt).cell 1
        have y2 := (hX2.below hB hX2.lt).cell 1
        by_cases hlt : k < n
        · have hlt' : (k : Int) < n := by omega
          obtain ⟨i1, hi1⟩ : ∃ i1, l1[k]? = some i1 := ⟨_, List.getElem?_eq_getElem (by have := HN.out.1; omega)⟩
          obtain ⟨i2, hi2⟩ : ∃ i2, l2[k]? = some i2 := ⟨_, List.getElem?_eq_getElem (by have := HN.out.2; omega)⟩
          obtain rfl := ha1 (fun e => by rw [e] at hi1; simp at hi1)
          obtain rfl := ha2 (fun e => by rw [e] at hi2; simp at hi2)
          have hI1r := hI1.below hBw hb1
          have hI2r := hI2.below hBw hb2
          have c0 := hI1r.op k _ hi1
          have c1 := hI1r.dst k _ hi1
          have c2 := hI1r.src k _ hi1
          have c3 := hI1r.off k _ hi1
          have c4 := hI1r.imm k _ hi1
          have d0 := hI2r.op k _ hi2
          have d1 := hI2r.dst k _ hi2
          have d2 := hI2r.src k _ hi2
          have d3 := hI2r.off k _ hi2
          have d4 := hI2r.imm k _ hi2
          have HI : Hid (l1[k]? = some i1 ∧ l2[k]? = some i2) := ⟨hi1, hi2⟩
          clear hi1 hi2 hI1r hI2r
          go_wp2_with fail
          have hS0 : (fun X => X.cell? ⟨w.heap.size, 1, none⟩ = some (.slice (some ⟨b1, o1, none⟩) n p1) ∧ X.cell? ⟨w.heap.size + 1, 1, none⟩ = some (.slice (some ⟨b2, o2, none⟩) n p2) ∧ (X.cell? ⟨b1, o1 + k * 5, none⟩ = some (.int .i64 i1.op) ∧ X.cell? ⟨b1, o1 + k * 5 + 1, none⟩ = some (.int .i64 i1.dst) ∧ X.cell? ⟨b1, o1 + k * 5 + 2, none⟩ = some (.int .i64 i1.src) ∧ X.cell? ⟨b1, o1 + k * 5 + 3, none⟩ = some (.int .i64 i1.off) ∧ X.cell? ⟨b1, o1 + k * 5 + 4, none⟩ = some (.int .u32 i1.imm)) ∧ (X.cell? ⟨b2, o2 + k * 5, none⟩ = some (.int .i64 i2.op) ∧ X.cell? ⟨b2, o2 + k * 5 + 1, none⟩ = some (.int .i64 i2.dst) ∧ X.cell? ⟨b2, o2 + k * 5 + 2, none⟩ = some (.int .i64 i2.src) ∧ X.cell? ⟨b2, o2 + k * 5 + 3, none⟩ = some (.int .i64 i2.off) ∧ X.cell? ⟨b2, o2 + k * 5 + 4, none⟩ = some (.int .u32 i2.imm))) wr.drew := ⟨y1, y2, ⟨c0, c1, c2, c3, c4⟩, ⟨d0, d1, d2, d3, d4⟩⟩
          clear c0 c1 c2 c3 c4 d0 d1 d2 d3 d4
          refine wp_region_K (S := fun X => X.cell? ⟨w.heap.size, 1, none⟩ = some (.slice (some ⟨b1, o1, none⟩) n p1) ∧ X.cell? ⟨w.heap.size + 1, 1, none⟩ = some (.slice (some ⟨b2, o2, none⟩) n p2) ∧ (X.cell? ⟨b1, o1 + k * 5, none⟩ = some (.int .i64 i1.op) ∧ X.cell? ⟨b1, o1 + k * 5 + 1, none⟩ = some (.int .i64 i1.dst) ∧ X.cell? ⟨b1, o1 + k * 5 + 2, none⟩ = some (.int .i64 i1.src) ∧ X.cell? ⟨b1, o1 + k * 5 + 3, none⟩ = some (.int .i64 i1.off) ∧ X.cell? ⟨b1, o1 + k * 5 + 4, none⟩ = some (.int .u32 i1.imm)) ∧ (X.cell? ⟨b2, o2 + k * 5, none⟩ = some (.int .i64 i2.op) ∧ X.cell? ⟨b2, o2 + k * 5 + 1, none⟩ = some (.int .i64 i2.dst) ∧ X.cell? ⟨b2, o2 + k * 5 + 2, none⟩ = some (.int .i64 i2.src) ∧ X.cell? ⟨b2, o2 + k * 5 + 3, none⟩ = some (.int .i64 i2.off) ∧ X.cell? ⟨b2, o2 + k * 5 + 4, none⟩ = some (.int .u32 i2.imm))) (fun _ => true) (by kernel_rfl) ?_
          refine K_take (i := 0) (v := .pointer (some ⟨w.heap.size, 1, none⟩)) rfl (by kernel_rfl) (by kernel_rfl) (by kernel_rfl) (by kernel_rfl) (by kernel_rfl) (by kernel_rfl) (fun w' hS => by go_simp) hS0 ?_
          refine K_take (i := 1) (v := .slice (some ⟨b1, o1, none⟩) n p1) rfl (by kernel_rfl) (by kernel_rfl) (by kernel_rfl) (by kernel_rfl) (by kernel_rfl) (by kernel_rfl) (fun w' hS => by obtain ⟨s1, s2, ⟨g0, g1, g2, g3, g4⟩, ⟨k0, k1, k2, k3, k4⟩⟩ := hS; go_simp) hS0 ?_
          refine K_take (i := 2) (v := .int .i64 (k : Int)) rfl (by kernel_rfl) (by kernel_rfl) (by kernel_rfl) (by kernel_rfl) (by kernel_rfl) (by kernel_rfl) (fun w' hS => by go_simp) hS0 ?_
          refine K_take (i := 3) (v := .pointer (some ⟨b1, o1 + k * 5, none⟩)) rfl (by kernel_rfl) (by kernel_rfl) (by kernel_rfl) (by kernel_rfl) (by kernel_rfl) (by kernel_rfl) (fun w' hS => by go_simp) hS0 ?_
          refine K_take (i := 4) (v := .agg #[.int .i64 i1.op, .int .i64 i1.dst, .int .i64 i1.src, .int .i64 i1.off, .int .u32 i1.imm]) rfl (by kernel_rfl) (by kernel_rfl) (by kernel_rfl) (by kernel_rfl) (by kernel_rfl) (by kernel_rfl) (fun w' hS => by obtain ⟨s1, s2, ⟨g0, g1, g2, g3, g4⟩, ⟨k0, k1, k2, k3, k4⟩⟩ := hS; go_simp) hS0 ?_
          refine K_take (i := 5) (v := .pointer (some ⟨w.heap.size + 1, 1, none⟩)) rfl (by kernel_rfl) (by kernel_rfl) (by kernel_rfl) (by kernel_rfl) (by kernel_rfl) (by kernel_rfl) (fun w' hS => by go_simp) hS0 ?_
          refine K_take (i := 6) (v := .slice (some ⟨b2, o2, none⟩) n p2) rfl (by kernel_rfl) (by kernel_rfl) (by kernel_rfl) (by kernel_rfl) (by kernel_rfl) (by kernel_rfl) (fun w' hS => by obtain ⟨s1, s2, ⟨g0, g1, g2, g3, g4⟩, ⟨k0, k1, k2, k3, k4⟩⟩ := hS; go_simp) hS0 ?_
          refine K_take (i := 7) (v := .int .i64 (k : Int)) rfl (by kernel_rfl) (by kernel_rfl) (by kernel_rfl) (by kernel_rfl) (by kernel_rfl) (by kernel_rfl) (fun w' hS => by go_simp) hS0 ?_
          refine K_take (i := 8) (v := .pointer (some ⟨b2, o2 + k * 5, none⟩)) rfl (by kernel_rfl) (by kernel_rfl) (by kernel_rfl) (by kernel_rfl) (by kernel_rfl) (by kernel_rfl) (fun w' hS => by go_simp) hS0 ?_
          refine K_take (i := 9) (v := .agg #[.int .i64 i2.op, .int .i64 i2.dst, .int .i64 i2.src, .int .i64 i2.off, .int .u32 i2.imm]) rfl (by kernel_rfl) (by kernel_rfl) (by kernel_rfl) (by kernel_rfl) (by kernel_rfl) (by kernel_rfl) (fun w' hS => by obtain ⟨s1, s2, ⟨g0, g1, g2, g3, g4⟩, ⟨k0, k1, k2, k3, k4⟩⟩ := hS; go_simp) hS0 ?_
          refine K_take (i := 10) (v := .bool (!(insEq i1 i2))) rfl (by kernel_rfl) (by kernel_rfl) (by kernel_rfl) (by kernel_rfl) (by kernel_rfl) (by kernel_rfl) (fun w' hS => by go_simp; exact neq_chain i1 i2 (fun b => Result.ok (Next.value (Value.bool b)) w')) hS0 ?_
          refine K_done (by kernel_rfl) ?_
          clear hS0
          have HE : Hid (insEq i1 i2 = true ↔ i1 = i2) := insEq_iff i1 i2
          cases hq : insEq i1 i2
          · rw [hq] at HE
            have hB5 : Below wr.heap.size wr wr.drew := (Below.refl _ _).drew
            go_simp
            go_wp2_with fail
            go_ret
            refine ⟨false, rfl, ⟨fun h => (by cases h), fun h => ?_⟩, hBw.trans (hB5.mono hBw.size)⟩
            obtain ⟨_, rfl⟩ := h
            have h1 := HI.out.1.symm.trans HI.out.2
            simp only [Option.some.injEq] at h1
            exact absurd (HE.out.2 h1) (by simp)
          · rw [hq] at HE
            have HE2 : Hid (i1 = i2) := HE.out.1 rfl
            clear HE hq
            have hB5 : Below wr.heap.size wr wr.drew := (Below.refl _ _).drew
            go_simp
            go_wp2_with fail
            go_roundw
            case rel =>
              refine ⟨k + 1, by omega, by go_num, fun j hj => ?_, hB.trans (hB5.mono hB.size)⟩
              by_cases e : j = k
              · subst e; rw [HI.out.1, HI.out.2, HE2.out]
              · exact HA.out j (by omega)
            case measure => simp [intOf]; omega
        · obtain rfl : k = n := by omega
          clear hlt hk
          go_wp2_with fail
          go_ret
          refine ⟨true, rfl, ⟨fun _ => ⟨by first | trivial | rfl, List.ext_getElem? fun j => ?_⟩, fun _ => rfl⟩, hBw⟩
          by_cases hj : j < k
          · exact HA.out j hj
          · rw [List.getElem?_eq_none (by have := HN.out.1; omega), List.getElem?_eq_none (by have := HN.out.2; omega)]
    · have hn' : ¬ (l1.length : Int) = (l2.length : Int) := by omega
      have HN : Hid (l1 ≠ l2) := fun e => hn (by rw [e])
      generalize l1.length = n1 at *
      generalize l2.length = n2 at *
      clear hn
      go_enter Tryd.func17, Tryd.ntmps17
      go_wp2
      go_ret
      exact ⟨false, rfl, ⟨fun h => (by cases h), fun h => absurd h.2 HN.out⟩, hB0⟩
  · have HC : Hid (c1 ≠ c2) := hc
    generalize l1.length = n1 at *
    generalize l2.length = n2 at *
    go_enter Tryd.func17, Tryd.ntmps17
    go_wp2
    go_ret
    exact ⟨false, rfl, ⟨fun h => (by cases h), fun h => absurd h.1 HC.out⟩, hB0⟩
end Go.Proofs.YtoalchlokcphkaaDoor
