/- Instructions in memory; Check. -/
import Derived.Test.YtoalchlokcphkaaDoorC2
import Derived.ScopeJumps
namespace Go.Proofs.YtoalchlokcphkaaDoor
open Go.RowKit

/-- An instruction. -/
structure Ins where
  op : Int
  dst : Int
  src : Int
  off : Int
  imm : Nat
/-- Its parts are within their types' bounds. -/
structure Ins.Ok (i : Ins) : Prop where
  imm : i.imm < 4294967296
def Ins.may (i : Ins) : Bool := mayB i.op i.dst i.src i.off i.imm
def Ins.cells (i : Ins) : List Value := [.int .i64 i.op, .int .i64 i.dst, .int .i64 i.src, .int .i64 i.off, .int .u32 i.imm]
/-- Instructions that lie in a block from a place on. -/
structure InsAt (w : World) (b o : Nat) (l : List Ins) : Prop where
  op : ∀ k i, l[k]? = some i → w.cell? ⟨b, o + k * 5, none⟩ = some (.int .i64 i.op)
  dst : ∀ k i, l[k]? = some i → w.cell? ⟨b, o + k * 5 + 1, none⟩ = some (.int .i64 i.dst)
  src : ∀ k i, l[k]? = some i → w.cell? ⟨b, o + k * 5 + 2, none⟩ = some (.int .i64 i.src)
  off : ∀ k i, l[k]? = some i → w.cell? ⟨b, o + k * 5 + 3, none⟩ = some (.int .i64 i.off)
  imm : ∀ k i, l[k]? = some i → w.cell? ⟨b, o + k * 5 + 4, none⟩ = some (.int .u32 i.imm)
/-- A slice whose instructions these are. -/
def Prg (w : World) (v : Value) (l : List Ins) : Prop :=
  ∃ a cap b o, v = .slice a l.length cap ∧ (l ≠ [] → a = some ⟨b, o, none⟩) ∧ InsAt w b o l ∧ b < w.heap.size
theorem InsAt.below {w w' : World} {b o : Nat} {l : List Ins} (h : InsAt w b o l) {B : Nat} (k : Below B w w') (hb : b < B) : InsAt w' b o l :=
  ⟨fun j i hj => (k.cell (p := ⟨b, _, none⟩) hb).trans (h.op j i hj), fun j i hj => (k.cell (p := ⟨b, _, none⟩) hb).trans (h.dst j i hj), fun j i hj => (k.cell (p := ⟨b, _, none⟩) hb).trans (h.src j i hj),
   fun j i hj => (k.cell (p := ⟨b, _, none⟩) hb).trans (h.off j i hj), fun j i hj => (k.cell (p := ⟨b, _, none⟩) hb).trans (h.imm j i hj)⟩
theorem Prg.below {w w' : World} {v : Value} {l : List Ins} (h : Prg w v l) (k : Below w.heap.size w w') : Prg w' v l := by
  obtain ⟨a, cap, b, o, h1, h2, h3, h4⟩ := h
  exact ⟨a, cap, b, o, h1, h2, h3.below k h4, Nat.lt_of_lt_of_le h4 k.size⟩

def chkE (ctx : Int) (l : List Ins) : Int := if ctx < 0 ∨ 256 < ctx then 2 else if l.all Ins.may then (if 256 < l.length then 3 else 0) else 2

theorem jump_ret {l : Nat} {J : Act → World → Prop} {Q : Exit → Act → World → Prop} {a : Act} {w : World} (h : Q .ret a w) : Exit.jump l J Q .ret a w := h
theorem jump_goto {l : Nat} {J : Act → World → Prop} {Q : Exit → Act → World → Prop} {a : Act} {w : World} (h : J a w) : Exit.jump l J Q (.goto l) a w := ⟨rfl, h⟩
theorem chkE_bad {ctx : Int} {l : List Ins} (h : ctx < 0 ∨ 256 < ctx) : chkE ctx l = 2 := by unfold chkE; rw [if_pos h]
theorem chkE_no {ctx : Int} {l : List Ins} {k : Nat} {i : Ins} (hi : l[k]? = some i) (hm : i.may = false) : chkE ctx l = 2 := by
  unfold chkE
  have : l.all Ins.may = false := by
    rw [List.all_eq_false]
    exact ⟨i, List.mem_of_getElem? hi, by rw [hm]; decide⟩
  rw [this]; split <;> rfl

set_option maxRecDepth 10000 in
set_option maxHeartbeats 2000000 in
theorem check_any (ctx : Int) (sv : Value) (l : List Ins) (w : World) (hP : Prg w sv l) (hG : Glob w) (hl : l.length ≤ 1000000000) :
    Calls Tryd.prog 14 #[.agg #[.int .i64 ctx, sv]] w fun e w' => e = .returned (.int .i64 (chkE ctx l)) ∧ Below w.heap.size w w' := by
  obtain ⟨a, cap, b, o, rfl, ha, hI, hb⟩ := hP
  go_enter Tryd.func14, Tryd.ntmps14
  go_wp2
  refine wp_scope_jumps 0 (fun a' w' => chkE ctx l = 2 ∧ Below w.heap.size w w' ∧ ∃ u0 u1 u2 u3 u4 u5 u6 u7 u8 u9 u10 u11 u12 u13 u14 u15 u16 u17 u18 u19 u20 u21 u22 u23 u24 u25 u26 u27 : Value, a' = { tmps := #[u0, u1, u2, u3, u4, u5, u6, u7, u8, u9, u10, u11, u12, u13, u14, u15, u16, u17, u18, u19, u20, u21, u22, u23, u24, u25, u26, u27], defers := [] }) (fun _ _ => 0) rfl ?first ?pass
  case pass =>
    rintro a' w' ⟨he, hB, u0, u1, u2, u3, u4, u5, u6, u7, u8, u9, u10, u11, u12, u13, u14, u15, u16, u17, u18, u19, u20, u21, u22, u23, u24, u25, u26, u27, rfl⟩
    go_wp2
    refine jump_ret ?_
    go_ret
    exact ⟨by rw [he]; rfl, hB⟩
  case first =>
    by_cases h0 : ctx < 0
    · go_wp2
      refine wp_goto ?_
      refine And.intro rfl ?_
      exact ⟨chkE_bad (.inl h0), (Below.refl _ _).alloc (Nat.le_refl _) _, _, _, _, _, _, _, _, _, _, _, _, _, _, _, _, _, _, _, _, _, _, _, _, _, _, _, _, _, rfl⟩
    by_cases h1 : 256 < ctx
    · go_wp2
      refine wp_goto ?_
      refine And.intro rfl ?_
      exact ⟨chkE_bad (.inr h1), (Below.refl _ _).alloc (Nat.le_refl _) _, _, _, _, _, _, _, _, _, _, _, _, _, _, _, _, _, _, _, _, _, _, _, _, _, _, _, _, _, rfl⟩
    go_wp2
    have hz : 0 < w.heap.size := hG.size
    have hB0 : Below w.heap.size w (w.alloc (.cells #[.int .i64 ctx, .slice a l.length cap] 24)) := (Below.refl _ _).alloc (Nat.le_refl _) _
    go_loopw [16] (fun i wr => ∃ k : Nat, k ≤ l.length ∧ i = .int .i64 k ∧ (∀ j i, j < k → l[j]? = some i → i.may = true) ∧ Below (w.heap.size + 1) (w.alloc (.cells #[.int .i64 ctx, .slice a l.length cap] 24)) wr) (fun i _ => l.length - (intOf i).toNat)
    case atStart => exact ⟨0, Nat.zero_le _, rfl, fun j i hj => absurd hj (by omega), Below.refl _ _⟩
    case round =>
      obtain ⟨k, hk, rfl, hall, hB⟩ := hrel
      have HA : Hid (∀ j i, j < k → l[j]? = some i → i.may = true) := hall
      clear hall
      have hBw : Below w.heap.size w wr := hB0.trans (hB.mono (by omega))
      by_cases hlt : k < l.length
      · have hne : l ≠ [] := fun e => by rw [e] at hlt; simp at hlt
        obtain rfl := ha hne
        have hi : Hid (l[k]? = some l[k]) := List.getElem?_eq_getElem hlt
        have hIr := hI.below hBw hb
        have c0 := hIr.op k _ hi.out
        have c1 := hIr.dst k _ hi.out
        have c2 := hIr.src k _ hi.out
        have c3 := hIr.off k _ hi.out
        have c4 := hIr.imm k _ hi.out
        clear hIr
        have hlt' : (k : Int) < l.length := by omega
        obtain ⟨i, hi'⟩ : ∃ i, i = l[k] := ⟨_, rfl⟩
        rw [← hi'] at c0 c1 c2 c3 c4 hi
        clear hi'
        have hGr : Glob (wr.alloc (.cells #[.int .i64 i.op, .int .i64 i.dst, .int .i64 i.src, .int .i64 i.off, .int .u32 i.imm] 43)) := (hG.below hBw hz).below ((Below.refl wr.heap.size wr).alloc (Nat.le_refl _) _) (by have := hBw.size; omega)
        have hzr : w.heap.size + 1 ≤ wr.heap.size := by have := hB.size; simpa using this
        cases hm : i.may
        · have hm' : mayB i.op i.dst i.src i.off i.imm = false := hm
          have HM : Hid (i.may = false) := hm
          clear hm
          go_wp2_with (go_at_call 25; refine (may_any _ _ _ _ _ _ hGr).mono ?_; rintro e W1 ⟨rfl, hB1⟩)
          refine wp_goto ?_
          refine And.intro rfl ?_
          exact ⟨chkE_no hi.out HM.out, (hBw.alloc hBw.size _).trans (hB1.mono (by simp; omega)), _, _, _, _, _, _, _, _, _, _, _, _, _, _, _, _, _, _, _, _, _, _, _, _, _, _, _, _, rfl⟩
        · have hm' : mayB i.op i.dst i.src i.off i.imm = true := hm
          have HM : Hid (i.may = true) := hm
          clear hm
          go_wp2_with (go_at_call 25; refine (may_any _ _ _ _ _ _ hGr).mono ?_; rintro e W1 ⟨rfl, hB1⟩)
          go_roundw
          case rel =>
            refine ⟨k + 1, by omega, by go_num, fun j i' hj hj' => ?_, (hB.alloc (by omega) _).trans (hB1.mono (by simp; omega))⟩
            by_cases e : j = k
            · subst e
              have := hi.out.symm.trans hj'
              simp only [Option.some.injEq] at this
              rw [← this]; exact HM.out
            · exact HA.out j i' (by omega) hj'
          case measure => simp [intOf]; omega
      · obtain rfl : k = l.length := by omega
        have hall : l.all Ins.may = true := by
          rw [List.all_eq_true]
          intro i hi
          obtain ⟨j, hj, e⟩ := List.mem_iff_getElem.1 hi
          exact HA.out j i hj (by rw [List.getElem?_eq_getElem hj, e])
        have c1 : wr.cell? ⟨w.heap.size, 1, none⟩ = some (.slice a l.length cap) := (hB.cell (p := ⟨w.heap.size, 1, none⟩) (by simp)).trans ((has_new w _ 24 w.heap.size rfl).cell 1)
        by_cases h3 : 256 < l.length
        · have h3' : (256 : Int) < l.length := by omega
          have he : Hid (chkE ctx l = 3) := by show _ = _; unfold chkE; rw [if_neg (by omega), if_pos hall, if_pos h3]
          clear hall HA
          go_wp2
          refine jump_ret ?_
          go_ret
          exact ⟨by rw [he.out]; rfl, hBw⟩
        · have h3' : ¬ (256 : Int) < l.length := by omega
          have he : Hid (chkE ctx l = 0) := by show _ = _; unfold chkE; rw [if_neg (by omega), if_pos hall, if_neg h3]
          clear hall HA
          go_wp2
          refine jump_ret ?_
          go_ret
          exact ⟨by rw [he.out]; rfl, hBw⟩
end Go.Proofs.YtoalchlokcphkaaDoor
