/- Text, the program's and the document's, in one; CodeTexts' walk. -/
import Derived.Test.YtoalchlokcphkaaDoorX6
namespace Go.Proofs.YtoalchlokcphkaaDoor
open Go.RowKit

/-- An instruction's text. -/
def txtL (i : Ins) : List UInt8 := textT (nameL i.op.toNat) (partsT (useD i.op) (useS i.op) (useM i.op) (useO i.op) i)
theorem pats : ∀ j : Fin 25, 0 < j.val → (hasB (usesN j.val) 1 = useD j.val ∧ hasB (usesN j.val) 2 = useS j.val ∧ hasB (usesN j.val) 28 = useM j.val ∧ hasB (usesN j.val) 96 = useO j.val ∧ useI j.val = true) ∧
    ((useD j.val, useS j.val, useM j.val, useO j.val) = (true, false, true, false) ∨ (useD j.val, useS j.val, useM j.val, useO j.val) = (true, true, false, false) ∨ (useD j.val, useS j.val, useM j.val, useO j.val) = (true, true, false, true) ∨ (useD j.val, useS j.val, useM j.val, useO j.val) = (false, false, false, true) ∨
      (useD j.val, useS j.val, useM j.val, useO j.val) = (true, false, true, true) ∨ (useD j.val, useS j.val, useM j.val, useO j.val) = (false, false, true, false) ∨ (useD j.val, useS j.val, useM j.val, useO j.val) = (false, false, false, false)) := by decide +kernel
theorem text_any (i : Ins) (w : World) (hG : Glob w) (hT : Tab w) (hm : i.may = true) (hu : i.imm < 4294967296) :
    Calls Tryd.prog 19 #[.agg i.cells.toArray] w fun e w' => e = .returned (.tuple #[.string (str (txtL i)), .int .i64 0]) ∧ Below w.heap.size w w' := by
  obtain ⟨⟨o1, o2⟩, _⟩ := may_bounds hm
  obtain ⟨n, hop⟩ : ∃ n : Nat, i.op = n := ⟨i.op.toNat, by omega⟩
  have hn : n < 25 := by omega
  obtain ⟨⟨a1, a2, a3, a4, _⟩, hp⟩ := pats ⟨n, hn⟩ (by show 0 < n; omega)
  simp only at a1 a2 a3 a4 hp
  unfold txtL
  rw [hop, Int.toNat_natCast]
  rcases hp with hp | hp | hp | hp | hp | hp | hp <;> simp only [Prod.mk.injEq] at hp <;> obtain ⟨p1, p2, p3, p4⟩ := hp <;> rw [p1] at a1 <;> rw [p2] at a2 <;> rw [p3] at a3 <;> rw [p4] at a4 <;> rw [p1, p2, p3, p4]
  · exact text_dm i n hop hn w hG hT hm hu a1 a2 a3 a4
  · exact text_ds i n hop hn w hG hT hm hu a1 a2 a3 a4
  · exact text_dso i n hop hn w hG hT hm hu a1 a2 a3 a4
  · exact text_o i n hop hn w hG hT hm hu a1 a2 a3 a4
  · exact text_dmo i n hop hn w hG hT hm hu a1 a2 a3 a4
  · exact text_m i n hop hn w hG hT hm hu a1 a2 a3 a4
  · exact text_e i n hop hn w hG hT hm hu a1 a2 a3 a4
theorem rtext_any (i : Ins) (w : World) (hm : i.may = true) (hu : i.imm < 4294967296) :
    Calls Tryd.prog 23 #[.agg i.cells.toArray] w fun e w' => e = .returned (.string (str (txtL i))) ∧ Below w.heap.size w w' := by
  obtain ⟨⟨o1, o2⟩, _⟩ := may_bounds hm
  obtain ⟨n, hop⟩ : ∃ n : Nat, i.op = n := ⟨i.op.toNat, by omega⟩
  have hn : n < 25 := by omega
  obtain ⟨⟨_, _, _, _, a5⟩, hp⟩ := pats ⟨n, hn⟩ (by show 0 < n; omega)
  simp only at a5 hp
  unfold txtL
  rw [hop, Int.toNat_natCast]
  rcases hp with hp | hp | hp | hp | hp | hp | hp <;> simp only [Prod.mk.injEq] at hp <;> obtain ⟨p1, p2, p3, p4⟩ := hp <;> rw [p1, p2, p3, p4]
  · exact rtext_dm i n hop hn w hm hu p1 p2 p3 p4 a5
  · exact rtext_ds i n hop hn w hm hu p1 p2 p3 p4 a5
  · by_cases hs : i.off < 0
    · exact rtext_dson i n hop hn w hm hu p1 p2 p3 p4 a5 hs
    · exact rtext_dsop i n hop hn w hm hu p1 p2 p3 p4 a5 (by omega)
  · by_cases hs : i.off < 0
    · exact rtext_on i n hop hn w hm hu p1 p2 p3 p4 a5 hs
    · exact rtext_op i n hop hn w hm hu p1 p2 p3 p4 a5 (by omega)
  · by_cases hs : i.off < 0
    · exact rtext_dmon i n hop hn w hm hu p1 p2 p3 p4 a5 hs
    · exact rtext_dmop i n hop hn w hm hu p1 p2 p3 p4 a5 (by omega)
  · exact rtext_m i n hop hn w hm hu p1 p2 p3 p4 a5
  · exact rtext_e i n hop hn w hm hu p1 p2 p3 p4 a5
set_option maxHeartbeats 1000000 in
theorem text_no (i : Ins) (w : World) (hG : Glob w) (hm : i.may = false) :
    Calls Tryd.prog 19 #[.agg i.cells.toArray] w fun e w' => e = .returned (.tuple #[.string (str []), .int .i64 2]) ∧ Below w.heap.size w w' := by
  have hB0 : Below w.heap.size w (w.alloc (.cells #[.int .i64 i.op, .int .i64 i.dst, .int .i64 i.src, .int .i64 i.off, .int .u32 i.imm] 43)) := (Below.refl _ _).alloc (Nat.le_refl _) _
  have hmy := may_any i.op i.dst i.src i.off i.imm _ (hG.below hB0 hG.size)
  rw [show mayB i.op i.dst i.src i.off i.imm = false from hm] at hmy
  show Calls Tryd.prog 19 #[.agg #[.int .i64 i.op, .int .i64 i.dst, .int .i64 i.src, .int .i64 i.off, .int .u32 i.imm]] w _
  go_enter Tryd.func19, Tryd.ntmps19
  go_wp2_with fail
  refine hmy.mono ?_
  rintro e W1 ⟨rfl, hB1⟩
  go_wp2_with fail
  go_ret2
  exact ⟨rfl, hB0.trans (hB1.mono hB0.size)⟩
/-- Both names. -/
theorem names_any (op : Int) (w : World) (hG : Glob w) : ∃ (s : List UInt8) (b : Bool), (b = !s.isEmpty) ∧
    (∀ W, Below w.heap.size w W → Calls Tryd.prog 20 #[.int .i64 op] W fun e w' => e = .returned (.tuple #[.string (str s), .bool b]) ∧ Below W.heap.size W w') ∧
    (∀ W, Calls Tryd.prog 21 #[.int .i64 op] W fun e w' => e = .returned (.string (str s)) ∧ Below W.heap.size W w') := by
  by_cases h : 1 ≤ op ∧ op ≤ 24
  · obtain ⟨n, rfl⟩ : ∃ n : Nat, op = n := ⟨op.toNat, by omega⟩
    have hn : n < 25 := by omega
    refine ⟨nameL n, true, ?_, fun W hB => ?_, fun W => ?_⟩
    · have key : ∀ j : Fin 25, 0 < j.val → true = !(nameL j.val).isEmpty := by decide +kernel
      exact key ⟨n, hn⟩ (by show 0 < n; omega)
    · refine (name_yes n W (by unfold thereB; simp; omega) hn (hG.below hB hG.size)).mono ?_
      rintro e w' ⟨rfl, rfl⟩
      exact ⟨rfl, Below.refl _ _⟩
    · exact rname_yes n W (by unfold useI; simp; omega) hn
  · refine ⟨[], false, rfl, fun W _ => ?_, fun W => ?_⟩
    · refine (name_no op W (by unfold thereB; simp; omega)).mono ?_
      rintro e w' ⟨rfl, rfl⟩
      exact ⟨rfl, Below.refl _ _⟩
    · exact rname_no op W (by unfold useI; simp; omega)
end Go.Proofs.YtoalchlokcphkaaDoor
