/- may: may an instruction be? -/
import Derived.Test.YtoalchlokcphkaaDoorC1
namespace Go.Proofs.YtoalchlokcphkaaDoor
open Go.RowKit

/-- The table of Ops: names and what they use. -/
def opsL : List (List UInt8 × Int) := [([], 0), ([109, 111, 118, 105], 5), ([109, 111, 118], 3), ([97, 100, 100, 105], 5), ([97, 100, 100], 3), ([115, 117, 98], 3), ([109, 117, 108, 105], 5), ([109, 117, 108], 3), ([97, 110, 100, 105], 5), ([97, 110, 100], 3), ([111, 114], 3), ([120, 111, 114], 3), ([115, 104, 108, 105], 9), ([115, 104, 114, 105], 9), ([100, 105, 118], 3), ([109, 111, 100], 3), ([108, 100, 99], 35), ([108, 100, 115], 35), ([115, 116, 115], 35), ([106, 97], 64), ([106, 101, 113, 105], 69), ([106, 108, 116, 105], 69), ([106, 108, 116], 67), ([99, 97, 108, 108], 16), ([101, 120, 105, 116], 0)]
def nameL (n : Nat) : List UInt8 := (opsL[n]?.getD ([], 0)).1
def usesN (n : Nat) : Int := (opsL[n]?.getD ([], 0)).2
/-- What the program's text lays. -/
structure Glob (w : World) : Prop where
  name : ∀ n, n < 25 → w.cell? ⟨0, n * 2, none⟩ = some (.string ⟨(nameL n).toArray⟩)
  uses : ∀ n, n < 25 → w.cell? ⟨0, n * 2 + 1, none⟩ = some (.int .i64 (usesN n))
theorem Glob.size {w : World} (h : Glob w) : 0 < w.heap.size := block_of_cell (h.name 0 (by decide))
theorem Glob.below {B : Nat} {w w' : World} (h : Glob w) (k : Below B w w') (hb : 0 < B) : Glob w' :=
  ⟨fun n hn => (k.cell (p := ⟨0, n * 2, none⟩) (by simpa using hb)).trans (h.name n hn), fun n hn => (k.cell (p := ⟨0, n * 2 + 1, none⟩) (by simpa using hb)).trans (h.uses n hn)⟩
theorem Glob.fr {S : Nat → Prop} {w w' : World} (h : Glob w) (k : Fr S w w') (hb : ¬ S 0) : Glob w' :=
  ⟨fun n hn => (World.cell?_of_block (w := w) (k.block 0 h.size hb)).trans (h.name n hn), fun n hn => (World.cell?_of_block (w := w) (k.block 0 h.size hb)).trans (h.uses n hn)⟩
theorem Glob.drew {w : World} (h : Glob w) : Glob w.drew := ⟨h.name, h.uses⟩

def fitB (u dst src off imm : Int) : Bool := regB u 1 dst && (regB u 2 src && (offB u off && immB u imm))
def mayB (op dst src off imm : Int) : Bool := thereB op && fitB (usesN op.toNat) dst src off imm

theorem may_no (op dst src off imm : Int) (w : World) (h : thereB op = false) :
    Calls Tryd.prog 25 #[.agg #[.int .i64 op, .int .i64 dst, .int .i64 src, .int .i64 off, .int .u32 imm]] w fun e w' => e = .returned (.bool false) ∧ Below w.heap.size w w' := by
  go_enter Tryd.func25, Tryd.ntmps25
  go_wp2_with (go_at_call 35; refine (there_any _ _).mono ?_; rintro e w' ⟨rfl, rfl⟩)
  go_ret
  exact ⟨rfl, (Below.refl _ _).alloc (Nat.le_refl _) _⟩
theorem may_yes (n : Nat) (dst src off imm : Int) (w : World) (h : thereB n = true) (hn : n < 25) (hG : Glob w) :
    Calls Tryd.prog 25 #[.agg #[.int .i64 n, .int .i64 dst, .int .i64 src, .int .i64 off, .int .u32 imm]] w fun e w' => e = .returned (.bool (fitB (usesN n) dst src off imm)) ∧ Below w.heap.size w w' := by
  have hz := hG.size
  have hu := hG.uses n hn
  have i1 : (n : Int) < 25 := by omega
  generalize usesN n = u at *
  unfold fitB
  cases h1 : regB u 1 dst
  · go_enter Tryd.func25, Tryd.ntmps25
    go_wp2_with (first | (go_at_call 35; refine (there_any _ _).mono ?_; rintro e w' ⟨rfl, rfl⟩) | (go_at_call 40; refine (reg_any _ _ _ _).mono ?_; rintro e w' ⟨rfl, rfl⟩) | (go_at_call 41; refine (off_any _ _ _).mono ?_; rintro e w' ⟨rfl, rfl⟩) | (go_at_call 42; refine (imm_any _ _ _).mono ?_; rintro e w' ⟨rfl, rfl⟩))
    go_ret
    exact ⟨rfl, (Below.refl _ _).alloc (Nat.le_refl _) _⟩
  · cases h2 : regB u 2 src
    · go_enter Tryd.func25, Tryd.ntmps25
      go_wp2_with (first | (go_at_call 35; refine (there_any _ _).mono ?_; rintro e w' ⟨rfl, rfl⟩) | (go_at_call 40; refine (reg_any _ _ _ _).mono ?_; rintro e w' ⟨rfl, rfl⟩) | (go_at_call 41; refine (off_any _ _ _).mono ?_; rintro e w' ⟨rfl, rfl⟩) | (go_at_call 42; refine (imm_any _ _ _).mono ?_; rintro e w' ⟨rfl, rfl⟩))
      go_ret
      exact ⟨rfl, (Below.refl _ _).alloc (Nat.le_refl _) _⟩
    · cases h3 : offB u off
      · go_enter Tryd.func25, Tryd.ntmps25
        go_wp2_with (first | (go_at_call 35; refine (there_any _ _).mono ?_; rintro e w' ⟨rfl, rfl⟩) | (go_at_call 40; refine (reg_any _ _ _ _).mono ?_; rintro e w' ⟨rfl, rfl⟩) | (go_at_call 41; refine (off_any _ _ _).mono ?_; rintro e w' ⟨rfl, rfl⟩) | (go_at_call 42; refine (imm_any _ _ _).mono ?_; rintro e w' ⟨rfl, rfl⟩))
        go_ret
        exact ⟨rfl, (Below.refl _ _).alloc (Nat.le_refl _) _⟩
      · go_enter Tryd.func25, Tryd.ntmps25
        go_wp2_with (first | (go_at_call 35; refine (there_any _ _).mono ?_; rintro e w' ⟨rfl, rfl⟩) | (go_at_call 40; refine (reg_any _ _ _ _).mono ?_; rintro e w' ⟨rfl, rfl⟩) | (go_at_call 41; refine (off_any _ _ _).mono ?_; rintro e w' ⟨rfl, rfl⟩) | (go_at_call 42; refine (imm_any _ _ _).mono ?_; rintro e w' ⟨rfl, rfl⟩))
        go_ret
        exact ⟨rfl, (Below.refl _ _).alloc (Nat.le_refl _) _⟩
/-- May an instruction be? -/
theorem may_any (op dst src off imm : Int) (w : World) (hG : Glob w) :
    Calls Tryd.prog 25 #[.agg #[.int .i64 op, .int .i64 dst, .int .i64 src, .int .i64 off, .int .u32 imm]] w fun e w' => e = .returned (.bool (mayB op dst src off imm)) ∧ Below w.heap.size w w' := by
  cases h : thereB op
  · have e : mayB op dst src off imm = false := by unfold mayB; rw [h]; rfl
    rw [e]; exact may_no op dst src off imm w h
  · have hh : 0 < op ∧ op ≤ 24 := by unfold thereB at h; simpa using h
    obtain ⟨n, rfl⟩ : ∃ n : Nat, op = n := ⟨op.toNat, by omega⟩
    have e : mayB n dst src off imm = fitB (usesN n) dst src off imm := by unfold mayB; rw [h]; rfl
    rw [e]; exact may_yes n dst src off imm w h (by omega) hG
end Go.Proofs.YtoalchlokcphkaaDoor
