/- Names of Ops: the program's and the document's. -/
import Derived.Test.YtoalchlokcphkaaDoorC3
namespace Go.Proofs.YtoalchlokcphkaaDoor
open Go.RowKit

theorem name_no (op : Int) (w : World) (h : thereB op = false) :
    Calls Tryd.prog 20 #[.int .i64 op] w fun e w' => e = .returned (.tuple #[.string ⟨#[]⟩, .bool false]) ∧ w = w' := by
  go_enter Tryd.func20, Tryd.ntmps20
  go_wp2_with (go_at_call 35; refine (there_any _ _).mono ?_; rintro e w' ⟨rfl, rfl⟩)
  go_ret2
  exact ⟨rfl, rfl⟩
theorem name_yes (n : Nat) (w : World) (h : thereB n = true) (hn : n < 25) (hG : Glob w) :
    Calls Tryd.prog 20 #[.int .i64 n] w fun e w' => e = .returned (.tuple #[.string ⟨(nameL n).toArray⟩, .bool true]) ∧ w = w' := by
  have hu := hG.name n hn
  have i1 : (n : Int) < 25 := by omega
  go_enter Tryd.func20, Tryd.ntmps20
  go_wp2_with (go_at_call 35; refine (there_any _ _).mono ?_; rintro e w' ⟨rfl, rfl⟩)
  go_ret2
  exact ⟨rfl, rfl⟩
def namesA : Array Value := #[.string ⟨#[]⟩, .string ⟨#[109, 111, 118, 105]⟩, .string ⟨#[109, 111, 118]⟩, .string ⟨#[97, 100, 100, 105]⟩, .string ⟨#[97, 100, 100]⟩, .string ⟨#[115, 117, 98]⟩, .string ⟨#[109, 117, 108, 105]⟩, .string ⟨#[109, 117, 108]⟩, .string ⟨#[97, 110, 100, 105]⟩, .string ⟨#[97, 110, 100]⟩, .string ⟨#[111, 114]⟩, .string ⟨#[120, 111, 114]⟩, .string ⟨#[115, 104, 108, 105]⟩, .string ⟨#[115, 104, 114, 105]⟩, .string ⟨#[100, 105, 118]⟩, .string ⟨#[109, 111, 100]⟩, .string ⟨#[108, 100, 99]⟩, .string ⟨#[108, 100, 115]⟩, .string ⟨#[115, 116, 115]⟩, .string ⟨#[106, 97]⟩, .string ⟨#[106, 101, 113, 105]⟩, .string ⟨#[106, 108, 116, 105]⟩, .string ⟨#[106, 108, 116]⟩, .string ⟨#[99, 97, 108, 108]⟩, .string ⟨#[101, 120, 105, 116]⟩]
theorem namesA_at : ∀ n : Nat, n < 25 → namesA[n]? = some (.string ⟨(nameL n).toArray⟩) := by
  intro n h
  match n, h with
  | 0, _ | 1, _ | 2, _ | 3, _ | 4, _ | 5, _ | 6, _ | 7, _ | 8, _ | 9, _ | 10, _ | 11, _ | 12, _ | 13, _ | 14, _ | 15, _ | 16, _ | 17, _ | 18, _ | 19, _ | 20, _ | 21, _ | 22, _ | 23, _ | 24, _ => rfl
  | k + 25, h => exact absurd h (by omega)
theorem rname_no (op : Int) (w : World) (h : useI op = false) :
    Calls Tryd.prog 21 #[.int .i64 op] w fun e w' => e = .returned (.string ⟨#[]⟩) ∧ Below w.heap.size w w' := by
  go_enter Tryd.func21, Tryd.ntmps21
  go_wp2_with (go_at_call 36; refine (uses_any _ _).mono ?_; rintro e w' ⟨rfl, rfl⟩)
  go_ret
  exact ⟨rfl, Below.refl _ _⟩
theorem rname_yes (n : Nat) (w : World) (h : useI n = true) (hn : n < 25) :
    Calls Tryd.prog 21 #[.int .i64 n] w fun e w' => e = .returned (.string ⟨(nameL n).toArray⟩) ∧ Below w.heap.size w w' := by
  have i1 : (n : Int) < 25 := by omega
  have hl : (w.alloc (.cells namesA 9)).cell? ⟨w.heap.size, n, none⟩ = some (.string ⟨(nameL n).toArray⟩) := ((has_new w namesA 9 w.heap.size rfl).cell n).trans (namesA_at n hn)
  unfold namesA at hl
  go_enter Tryd.func21, Tryd.ntmps21
  go_wp2_with (go_at_call 36; refine (uses_any _ _).mono ?_; rintro e w' ⟨rfl, rfl⟩)
  go_ret
  exact ⟨rfl, (Below.refl _ _).alloc (Nat.le_refl _) _⟩
end Go.Proofs.YtoalchlokcphkaaDoor
