/- What is known of fewer ways: ranges cut from both sides. -/
import Derived.Test.YtodkehpldlmgaaaDoorZcG2
import Derived.Test.YtodkehpldlmgaaaDoorZcF3
namespace Go.Proofs.YtodkehpldlmgaaaDoor
open Go.RowKit

def cutL (r : Rg) (u : Nat) : Nat := min r.great (r.least + u)
def cutG (r : Rg) (u d : Nat) : Nat := max (cutL r u) (r.great - d)
def cutR (r : Rg) (u d : Nat) : Rg := if r.set = true then ⟨true, cutL r u, cutG r u d⟩ else r
def kcut (k : Kn) (U D : Nat → Nat) (j : Nat) : Kn := ⟨k.come, fun m => if m < j then cutR (k.r m) (U m) (D m) else k.r m⟩
theorem kcut_zero (k : Kn) (U D : Nat → Nat) : kcut k U D 0 = k := by
  unfold kcut
  obtain ⟨c, r⟩ := k
  congr 1
theorem kcut_at (k : Kn) (U D : Nat → Nat) (n : Nat) : (kcut k U D n).r n = k.r n := by
  show (if n < n then _ else _) = _
  rw [if_neg (by omega)]
theorem kcut_set (k : Kn) (U D : Nat → Nat) (n : Nat) (h : (k.r n).set = true) : (kcut k U D n).set n ⟨true, cutL (k.r n) (U n), cutG (k.r n) (U n) (D n)⟩ = kcut k U D (n + 1) := by
  show (⟨k.come, fun m => if m = n then _ else _⟩ : Kn) = ⟨k.come, _⟩
  congr 1
  funext m
  by_cases e : m = n
  · subst e
    rw [if_pos rfl, if_pos (by omega)]
    unfold cutR
    rw [if_pos h]
  · rw [if_neg e]
    show (if m < n then _ else _) = _
    by_cases h1 : m < n
    · rw [if_pos h1, if_pos (by omega)]
    · rw [if_neg h1, if_neg (by omega)]
theorem kcut_skip (k : Kn) (U D : Nat → Nat) (n : Nat) (h : (k.r n).set = false) : kcut k U D (n + 1) = kcut k U D n := by
  show (⟨k.come, _⟩ : Kn) = ⟨k.come, _⟩
  congr 1
  funext m
  by_cases e : m = n
  · subst e
    rw [if_pos (by omega), if_neg (by omega)]
    unfold cutR
    rw [if_neg (by rw [h]; decide)]
  · by_cases h1 : m < n
    · rw [if_pos h1, if_pos (by omega)]
    · rw [if_neg h1, if_neg (by omega)]
theorem cutR_cut {r : Rg} (h : Good r) (hs : r.set = true) (u d : Nat) : Cut (cutR r u d) r := by
  have h1 := good_le h
  have h2 := h.2.great
  unfold cutR
  rw [if_pos hs]
  refine ⟨rfl, hs, ?_, ?_, ?_, h2⟩
  · show r.least ≤ cutL r u; unfold cutL; omega
  · show cutG r u d ≤ r.great; unfold cutG cutL; omega
  · show cutL r u ≤ cutG r u d; unfold cutG; omega
theorem cutR_good {r : Rg} (h : Good r) (u d : Nat) : Good (cutR r u d) := by
  cases hs : r.set with
  | true =>
    have hc := cutR_cut h hs u d
    have e : cutR r u d = fromR (cutL r u) (cutG r u d) := by unfold cutR; rw [if_pos hs]; rfl
    rw [e] at hc ⊢
    exact good_from hc.le (Nat.lt_of_le_of_lt hc.g hc.lt)
  | false =>
    unfold cutR
    rw [if_neg (by rw [hs]; decide)]
    exact h
theorem kcut_right {k : Kn} (h : KnR k) (U D : Nat → Nat) (j : Nat) : KnR (kcut k U D j) := fun n hn => by
  show Good (if n < j then cutR (k.r n) (U n) (D n) else k.r n)
  split
  · exact cutR_good (h n hn) _ _
  · exact h n hn
theorem kcut_cut {k : Kn} (h : KnR k) (U D : Nat → Nat) : cutK (kcut k U D 10) k := by
  refine ⟨rfl, fun n hn => ⟨fun hs => ?_, fun hs => ?_⟩⟩
  · show Cut (if n < 10 then cutR (k.r n) (U n) (D n) else k.r n) (k.r n)
    rw [if_pos hn]
    exact cutR_cut (h n hn) hs _ _
  · show (if n < 10 then cutR (k.r n) (U n) (D n) else k.r n) = k.r n
    rw [if_pos hn]
    unfold cutR
    rw [if_neg (by rw [hs]; decide)]
theorem within_beh {i : Ins} {c : Int} {k : Kn} (U D : Nat → Nat) (hm : MayI i) (h0 : 0 ≤ c) (h1 : c ≤ 256) (hk : KnR k) (hc : k.come = true) (he : (behV i c k).2.2 = 0) :
    (behV i c (kcut k U D 10)).2.2 = 0 ∧ withK (behV i c (kcut k U D 10)).1 (behV i c k).1 ∧ withK (behV i c (kcut k U D 10)).2.1 (behV i c k).2.1 := by
  have hch := chk_one hm h0 h1
  have hb := right_knB hk
  cases ho : outI i c k with
  | ok p =>
    obtain ⟨A, B⟩ := p
    rw [behV_ok hch hb hc ho]
    obtain ⟨C, E, g1, g2, g3⟩ := out_within hm hk (kcut_cut hk U D) ho
    rw [behV_ok hch (right_knB (kcut_right hk U D 10)) hc g1]
    exact ⟨rfl, g2, g3⟩
  | error x =>
    rw [behV_no hch hb hc ho] at he
    cases x <;> cases he
theorem wpList_ld_if {ops : Array Oper} {rest : List Oper} {o : Oper} {a : Act} {w : World} {Q : Exit → Act → World → Prop} (hw : Region.wanted o (yielded ops a.tmps) = true) (ty : Nat) (x : Operand) (ho : o.op = .load ty x) (ad : Addr) (hx : a.eval x = .pointer (some ad)) (v : Value)
    (hl : (loadVar ty ad).run Tryd.prog w = .ok v w) (h : wpList Tryd.prog ops Q rest (a.put o.dst v) w) : wpList Tryd.prog ops Q (o :: rest) a w := by
  unfold wpList
  rw [if_pos hw]
  refine .inl ?_
  unfold Oper.wp
  rw [run_ld ty x ho ad hx hl]
  exact h
/-- What comes in, as a row of cells. -/
def lessC (k : Kn) (U D : Nat → Nat) : Array Value := (k.cells ++ (wordC U ++ wordC D)).toArray
theorem less_kn {X : World} {b t : Nat} {k : Kn} {U D : Nat → Nat} (h : Has X b (lessC k U D) t) : X.rangeAt b 0 k.cells := has_range h 0 _ fun j hj => by
  unfold lessC
  rw [List.getElem?_toArray, Nat.zero_add, List.getElem?_append_left hj]
theorem wordC_at (U : Nat → Nat) (n : Nat) (hn : n < 10) : (wordC U)[n]? = some (.int .u32 (U n : Int)) := by
  unfold wordC
  simp [hn]
theorem less_up {X : World} {b t : Nat} {k : Kn} {U D : Nat → Nat} (h : Has X b (lessC k U D) t) (n : Nat) (hn : n < 10) : X.cell? ⟨b, 31 + n, none⟩ = some (.int .u32 (U n : Int)) := by
  rw [h.cell]
  unfold lessC
  rw [List.getElem?_toArray, List.getElem?_append_right (by rw [k.cells_len]; omega), k.cells_len, List.getElem?_append_left (by show 31 + n - 31 < (wordC U).length; unfold wordC; simp; omega), show 31 + n - 31 = n by omega, wordC_at U n hn]
theorem less_down {X : World} {b t : Nat} {k : Kn} {U D : Nat → Nat} (h : Has X b (lessC k U D) t) (n : Nat) (hn : n < 10) : X.cell? ⟨b, 41 + n, none⟩ = some (.int .u32 (D n : Int)) := by
  rw [h.cell]
  unfold lessC
  have hu : (wordC U).length = 10 := by unfold wordC; simp
  rw [List.getElem?_toArray, List.getElem?_append_right (by rw [k.cells_len]; omega), k.cells_len, List.getElem?_append_right (by rw [hu]; omega), hu, show 41 + n - 31 - 10 = n by omega, wordC_at D n hn]
/-- The world of an instruction and what is known and how much less; and what is cut so far. -/
structure WB (w : World) (ia lc : Array Value) (b7 : Nat) (K : Kn) (X : World) : Prop where
  i : Has X w.heap.size ia 38
  l : Has X (w.heap.size + 1) lc 64
  k : Has X b7 K.a 43
  below : Below w.heap.size w X
  lt : w.heap.size + 1 < b7
theorem WB.grow {w : World} {ia lc : Array Value} {b7 : Nat} {K : Kn} {X X' : World} (h : WB w ia lc b7 K X) (g : Below X.heap.size X X') : WB w ia lc b7 K X' :=
  ⟨h.i.below g h.i.lt, h.l.below g h.l.lt, h.k.below g h.k.lt, h.below.trans (g.mono h.below.size), h.lt⟩
theorem WB.exc {w : World} {ia lc : Array Value} {b7 c : Nat} {K : Kn} {X X' : World} (h : WB w ia lc b7 K X) (g : Ex c X X') (hc : b7 < c) : WB w ia lc b7 K X' := by
  have := h.lt
  exact ⟨h.i.ex g (by omega), h.l.ex g (by omega), h.k.ex g (by omega), Below.ex h.below h.below.size g (by omega), h.lt⟩
theorem WB.set {w : World} {ia lc : Array Value} {b7 : Nat} {K : Kn} {X : World} (h : WB w ia lc b7 K X) (n : Nat) (hn : n < 10) (r : Rg) : WB w ia lc b7 (K.set n r) (X.setCells b7 (1 + n * 3) r.cells) := by
  obtain ⟨g1, g2⟩ := setReg h.k n hn r
  have := h.lt
  exact ⟨h.i.ex g2 (by omega), h.l.ex g2 (by omega), g1, Below.ex h.below h.below.size g2 (by omega), h.lt⟩
end Go.Proofs.YtodkehpldlmgaaaDoor
