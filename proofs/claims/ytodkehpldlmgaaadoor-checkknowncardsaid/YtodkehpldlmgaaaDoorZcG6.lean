/- What is known is held against something else. -/
import Derived.Test.YtodkehpldlmgaaaDoorZq6
import Derived.Test.YtodkehpldlmgaaaDoorZq5
import Derived.DeepKeys
namespace Go.Proofs.YtodkehpldlmgaaaDoor
open Go.RowKit

theorem wf32 {n : Nat} (h : n < 4294967296) : (Lit.int .u32 (n : Int)).wf = true := by
  simp [Lit.wf, IntKind.min, IntKind.max, IntKind.bits, IntKind.signed]
  first | omega | done
def rLits (r : Rg) : List Lit := [.bool r.set, .int .u32 (r.least : Int), .int .u32 (r.great : Int)]
set_option maxRecDepth 100000 in
theorem lits40 (r : Rg) (h : r.Ok) : Tryd.prog.keyLits 3 40 r.cells = some (rLits r) := by
  have h1 := wf32 h.least
  have h2 := wf32 h.great
  have c4 : Tryd.prog.cellsOf 4 = 1 := by kernel_rfl
  have c36 : Tryd.prog.cellsOf 36 = 1 := by kernel_rfl
  have c40 : Tryd.prog.cellsOf 40 = 3 := by kernel_rfl
  simp [Program.keyLits, Tryd.underlying40, Tryd.underlying4, Tryd.underlying36, c4, c36, c40, Rg.cells, h1, h2, rLits]
def kLits (k : Kn) : List Lit := .bool k.come :: (List.range 10).flatMap fun n => rLits (k.r n)
theorem drop_reg (k : Kn) (n : Nat) (hn : n < 10) : ((((List.range 10).flatMap fun m => (k.r m).cells).drop (n * 3)).take 3) = (k.r n).cells := by
  obtain rfl | rfl | rfl | rfl | rfl | rfl | rfl | rfl | rfl | rfl : n = 0 ∨ n = 1 ∨ n = 2 ∨ n = 3 ∨ n = 4 ∨ n = 5 ∨ n = 6 ∨ n = 7 ∨ n = 8 ∨ n = 9 := by omega
  all_goals rfl
theorem mapM_some {α β : Type} (f : α → Option β) (g : α → β) : ∀ (l : List α), (∀ a ∈ l, f a = some (g a)) → l.mapM f = some (l.map g)
  | [], _ => rfl
  | a :: l, h => by
    rw [List.mapM_cons, h a (by simp), mapM_some f g l (fun b hb => h b (by simp [hb]))]
    rfl
set_option maxRecDepth 100000 in
theorem lits41 (k : Kn) (h : KOk k) : Tryd.prog.keyLits 4 41 ((List.range 10).flatMap fun m => (k.r m).cells) = some ((List.range 10).flatMap fun n => rLits (k.r n)) := by
  have c40 : Tryd.prog.cellsOf 40 = 3 := by kernel_rfl
  have c41 : Tryd.prog.cellsOf 41 = 30 := by kernel_rfl
  have hm := mapM_some (fun i => Tryd.prog.keyLits 3 40 ((((List.range 10).flatMap fun m => (k.r m).cells).drop (i * 3)).take 3)) (fun i => rLits (k.r i)) (List.range 10) (fun i hi => by
    have hi' : i < 10 := by simpa using hi
    rw [drop_reg k i hi']
    exact lits40 _ (h i hi'))
  have hl : ((List.range 10).flatMap fun m => (k.r m).cells).length = 30 := rfl
  unfold Program.keyLits
  rw [Tryd.underlying41]
  simp only [c40, c41, hl, if_true]
  rw [hm, List.flatMap_def]
  rfl
set_option maxRecDepth 100000 in
theorem lits43 (k : Kn) (h : KOk k) : Tryd.prog.keyLits 5 43 k.a.toList = some (kLits k) := by
  have c4 : Tryd.prog.cellsOf 4 = 1 := by kernel_rfl
  have c41 : Tryd.prog.cellsOf 41 = 30 := by kernel_rfl
  have c43 : Tryd.prog.cellsOf 43 = 31 := by kernel_rfl
  have e1 : ((k.a.toList.drop 0).take 1) = [.bool k.come] := rfl
  have e2 : ((k.a.toList.drop 1).take 30) = (List.range 10).flatMap fun m => (k.r m).cells := rfl
  have hb : Tryd.prog.keyLits 4 4 [.bool k.come] = some [.bool k.come] := by unfold Program.keyLits; rw [Tryd.underlying4]
  have hl : k.a.toList.length = 31 := rfl
  have h41 := lits41 k h
  unfold Program.keyLits
  rw [Tryd.underlying43]
  simp only [c43, hl]
  simp only [List.mapM_cons, List.mapM_nil, c4, c41]
  rw [e1, e2, hb, h41, if_pos ⟨trivial, by decide +kernel⟩]
  show some ([[Lit.bool k.come], (List.range 10).flatMap fun n => rLits (k.r n)].flatten) = some (kLits k)
  rw [List.flatten_cons, List.flatten_cons, List.flatten_nil, List.append_nil]
  rfl
set_option maxRecDepth 100000 in
theorem key43 : Tryd.prog.keyTypeAt 5 43 = true := by kernel_rfl
set_option maxRecDepth 100000 in
theorem formed43 (k : Kn) : (Value.agg k.a).formed Tryd.prog 43 = true := by kernel_rfl
theorem kn_eq (a b : Kn) (ha : KOk a) (hb : KOk b) (W : World) : ∃ r : Bool, (Op.equalIn 10000 43 (.agg a.a) (.agg b.a)).run Tryd.prog W = .ok r W ∧ (r = true ↔ kLits a = kLits b) :=
  run_equalIn_deep (P := Tryd.prog) 9995 5 43 key43 W 5 5 (.agg a.a) (.agg b.a) _ _ (formed43 a) (formed43 b) (lits43 a ha) (lits43 b hb)
theorem neq_same (k : Kn) (hk : KOk k) (W : World) : (binOp .neq 43 (.agg k.a) (.agg k.a)).run Tryd.prog W = .ok (.bool false) W := by
  obtain ⟨r, h1, h2⟩ := kn_eq k k hk hk W
  have hr : r = true := h2.2 rfl
  subst hr
  rw [run_neq_struct, h1]
  rfl
end Go.Proofs.YtodkehpldlmgaaaDoor
