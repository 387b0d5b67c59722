/- The document's jump is what the program makes of jumps. -/
import Derived.Test.YtodkehpldlmgaaaDoorZcS8A
import Derived.Test.YtodkehpldlmgaaaDoorZcS8B
import Derived.Test.YtodkehpldlmgaaaDoorZcS8C
import Derived.Test.YtodkehpldlmgaaaDoorZcS8D
import Derived.Test.YtodkehpldlmgaaaDoorZcS8E
import Derived.Test.YtodkehpldlmgaaaDoorZcS8F
namespace Go.Proofs.YtodkehpldlmgaaaDoor
open Go.RowKit

theorem ways_is {F : Nat} {args : Array Value} {w : World} {n j n' j' : Kn} (h : Calls Tryd.prog F args w fun e w' => e = .returned (.agg (wayA n j 0)) ∧ Below w.heap.size w w') (hn : n = n') (hj : j = j') :
    Calls Tryd.prog F args w fun e w' => e = .returned (.agg (wayA n' j' 0)) ∧ Below w.heap.size w w' := by
  subst hn; subst hj; exact h
def o20 (k : Kn) (d m : Nat) (r : Rg) : Kn × Kn := (if r = fromR m m then noK else k.set d (witR r m), if hasR r m then k.set d (fromR m m) else noK)
def o21 (k : Kn) (d m : Nat) (r : Rg) : Kn × Kn := (if m ≤ r.great then k.set d (atLeastR r m) else noK, if r.least < m then k.set d (atMostR r (m - 1)) else noK)
def o22 (k : Kn) (d s : Nat) (r q : Rg) : Kn × Kn := if d = s then (k, noK) else
  (if q.least ≤ r.great then (k.set d (atLeastR r q.least)).set s (atMostR q r.great) else noK, if r.least < q.great then (k.set d (atMostR r (q.great - 1))).set s (atLeastR q (r.least + 1)) else noK)
theorem from_ne {dl dg m : Nat} (h : ¬ (dl = m ∧ dg = m)) : fromR dl dg ≠ fromR m m := fun e => h ⟨congrArg Rg.least e, congrArg Rg.great e⟩
theorem wit_mid {dl dg m : Nat} (h1 : m ≠ dl) (h2 : m ≠ dg) : witR (fromR dl dg) m = fromR dl dg :=
  (if_neg (show ¬ m = (fromR dl dg).least from h1)).trans (if_neg (show ¬ m = (fromR dl dg).great from h2))
theorem wit_lo {dl dg m : Nat} (h1 : m = dl) : witR (fromR dl dg) m = fromR (dl + 1) dg :=
  if_pos (show m = (fromR dl dg).least from h1)
theorem wit_hi {dl dg m : Nat} (h1 : m ≠ dl) (h2 : m = dg) : witR (fromR dl dg) m = fromR dl (dg - 1) :=
  (if_neg (show ¬ m = (fromR dl dg).least from h1)).trans (if_pos (show m = (fromR dl dg).great from h2))
theorem has_no {dl dg m : Nat} (h : m < dl ∨ dg < m) : hasR (fromR dl dg) m = false := by
  unfold hasR fromR
  simp only [Bool.and_eq_false_iff, decide_eq_false_iff_not]
  omega
theorem has_yes {dl dg m : Nat} (h1 : dl ≤ m) (h2 : m ≤ dg) : hasR (fromR dl dg) m = true := by
  unfold hasR fromR
  simp only [Bool.and_eq_true, decide_eq_true_eq]
  exact ⟨h1, h2⟩
theorem rjump_o20 (i : Ins) (k : Kn) (d dl dg m : Nat) (w : World) (hop : i.op = 20) (hd : i.dst = (d : Int)) (hdn : d < 10) (b1 : dl ≤ dg) (b2 : dg < 4294967296) (b3 : m < 4294967296) :
    Calls Tryd.prog 38 #[.agg i.a, .agg k.a, spV dl dg, spV m m] w fun e w' => e = .returned (.agg (wayA (o20 k d m (fromR dl dg)).1 (o20 k d m (fromR dl dg)).2 0)) ∧ Below w.heap.size w w' := by
  by_cases p1 : m < dl
  · have e1 : (o20 k d m (fromR dl dg)).1 = k.set d (fromR dl dg) := by show (if _ then _ else _) = _; rw [if_neg (from_ne (by omega)), wit_mid (by omega) (by omega)]
    have e2 : (o20 k d m (fromR dl dg)).2 = noK := by show (if _ then _ else _) = _; rw [has_no (.inl p1), if_neg (by decide)]
    by_cases p0 : dl = dg
    · exact ways_is (rjump_20a1 i k d dl dg m w hop hd hdn b1 b2 b3 p1 p0) e1.symm e2.symm
    · exact ways_is (rjump_20a2 i k d dl dg m w hop hd hdn b1 b2 b3 p1 (by omega)) e1.symm e2.symm
  by_cases p2 : dg < m
  · have e1 : (o20 k d m (fromR dl dg)).1 = k.set d (fromR dl dg) := by show (if _ then _ else _) = _; rw [if_neg (from_ne (by omega)), wit_mid (by omega) (by omega)]
    have e2 : (o20 k d m (fromR dl dg)).2 = noK := by show (if _ then _ else _) = _; rw [has_no (.inr p2), if_neg (by decide)]
    by_cases p0 : dl = dg
    · exact ways_is (rjump_20b1 i k d dl dg m w hop hd hdn b1 b2 b3 p2 p0) e1.symm e2.symm
    · exact ways_is (rjump_20b2 i k d dl dg m w hop hd hdn b1 b2 b3 p2 (by omega)) e1.symm e2.symm
  have e2 : (o20 k d m (fromR dl dg)).2 = k.set d (fromR m m) := by show (if _ then _ else _) = _; rw [has_yes (by omega) (by omega), if_pos rfl]
  by_cases p3 : dl = dg
  · obtain rfl : dl = m := by omega
    obtain rfl : dg = dl := by omega
    have e1 : (o20 k dg dg (fromR dg dg)).1 = noK := by show (if _ then _ else _) = _; rw [if_pos rfl]
    have e1' : (o20 k d dg (fromR dg dg)).1 = noK := by show (if _ then _ else _) = _; rw [if_pos rfl]
    exact ways_is (rjump_20c i k d dg w hop hd hdn b3) e1'.symm e2.symm
  by_cases p4 : m = dl
  · have e1 : (o20 k d m (fromR dl dg)).1 = k.set d (fromR (dl + 1) dg) := by show (if _ then _ else _) = _; rw [if_neg (from_ne (by omega)), wit_lo p4]
    exact ways_is (rjump_20d i k d dl dg m w hop hd hdn b1 b2 b3 p4 (by omega)) e1.symm e2.symm
  by_cases p5 : m = dg
  · have e1 : (o20 k d m (fromR dl dg)).1 = k.set d (fromR dl (dg - 1)) := by show (if _ then _ else _) = _; rw [if_neg (from_ne (by omega)), wit_hi p4 p5]
    exact ways_is (rjump_20e i k d dl dg m w hop hd hdn b1 b2 b3 p5 (by omega)) e1.symm e2.symm
  · have e1 : (o20 k d m (fromR dl dg)).1 = k.set d (fromR dl dg) := by show (if _ then _ else _) = _; rw [if_neg (from_ne (by omega)), wit_mid p4 p5]
    exact ways_is (rjump_20f i k d dl dg m w hop hd hdn b1 b2 b3 (by omega) (by omega)) e1.symm e2.symm
theorem rjump_o21 (i : Ins) (k : Kn) (d dl dg m : Nat) (w : World) (hop : i.op = 21) (hd : i.dst = (d : Int)) (hdn : d < 10) (b1 : dl ≤ dg) (b2 : dg < 4294967296) (b3 : m < 4294967296) :
    Calls Tryd.prog 38 #[.agg i.a, .agg k.a, spV dl dg, spV m m] w fun e w' => e = .returned (.agg (wayA (o21 k d m (fromR dl dg)).1 (o21 k d m (fromR dl dg)).2 0)) ∧ Below w.heap.size w w' := by
  by_cases p1 : dg < m
  · have e1 : (o21 k d m (fromR dl dg)).1 = noK := if_neg (by show ¬ m ≤ dg; omega)
    have e2 : (o21 k d m (fromR dl dg)).2 = k.set d (fromR dl dg) := (if_pos (show dl < m by omega)).trans (by show k.set d (fromR dl (min dg (m - 1))) = _; rw [Nat.min_eq_left (by omega)])
    exact ways_is (rjump_21a i k d dl dg m w hop hd hdn b1 b2 b3 p1) e1.symm e2.symm
  by_cases p2 : dl < m
  · have e1 : (o21 k d m (fromR dl dg)).1 = k.set d (fromR m dg) := (if_pos (show m ≤ dg by omega)).trans (by show k.set d (fromR (max dl m) dg) = _; rw [Nat.max_eq_right (by omega)])
    have e2 : (o21 k d m (fromR dl dg)).2 = k.set d (fromR dl (m - 1)) := (if_pos (show dl < m by omega)).trans (by show k.set d (fromR dl (min dg (m - 1))) = _; rw [Nat.min_eq_right (by omega)])
    exact ways_is (rjump_21b i k d dl dg m w hop hd hdn b1 b2 b3 p2 (by omega)) e1.symm e2.symm
  · have e1 : (o21 k d m (fromR dl dg)).1 = k.set d (fromR dl dg) := (if_pos (show m ≤ dg by omega)).trans (by show k.set d (fromR (max dl m) dg) = _; rw [Nat.max_eq_left (by omega)])
    have e2 : (o21 k d m (fromR dl dg)).2 = noK := if_neg (by show ¬ dl < m; omega)
    exact ways_is (rjump_21c i k d dl dg m w hop hd hdn b1 b2 b3 (by omega)) e1.symm e2.symm
theorem rjump_o22 (i : Ins) (k : Kn) (d s dl dg sl sg : Nat) (w : World) (hop : i.op = 22) (hd : i.dst = (d : Int)) (hdn : d < 10) (hs : i.src = (s : Int)) (hsn : s < 10) (b1 : dl ≤ dg) (b2 : dg < 4294967296) (b3 : sl ≤ sg) (b4 : sg < 4294967296) :
    Calls Tryd.prog 38 #[.agg i.a, .agg k.a, spV dl dg, spV sl sg] w fun e w' => e = .returned (.agg (wayA (o22 k d s (fromR dl dg) (fromR sl sg)).1 (o22 k d s (fromR dl dg) (fromR sl sg)).2 0)) ∧ Below w.heap.size w w' := by
  by_cases pds : d = s
  · have e : o22 k d s (fromR dl dg) (fromR sl sg) = (k, noK) := if_pos pds
    rw [e]
    exact rjump_22g i k d s dl dg sl sg w hop hd hdn hs hsn b1 b2 b3 b4 pds
  have e : o22 k d s (fromR dl dg) (fromR sl sg) = (if sl ≤ dg then (k.set d (fromR (max dl sl) dg)).set s (fromR sl (min sg dg)) else noK, if dl < sg then (k.set d (fromR dl (min dg (sg - 1)))).set s (fromR (max sl (dl + 1)) sg) else noK) := if_neg pds
  rw [e]
  by_cases p1 : dl < sg
  · by_cases p2 : dg < sl
    · exact ways_is (rjump_22a i k d s dl dg sl sg w hop hd hdn hs hsn b1 b2 b3 b4 pds p1 p2) (by show _ = ite _ _ _; rw [if_neg (by omega)]) (by show _ = ite _ _ _; rw [if_pos p1, Nat.min_eq_left (by omega), Nat.max_eq_left (by omega)])
    by_cases p3 : dg < sg
    · by_cases p4 : dl < sl
      · exact ways_is (rjump_22f i k d s dl dg sl sg w hop hd hdn hs hsn b1 b2 b3 b4 pds p1 (by omega) p3 p4) (by show _ = ite _ _ _; rw [if_pos (by omega), Nat.max_eq_right (by omega), Nat.min_eq_right (by omega)]) (by show _ = ite _ _ _; rw [if_pos p1, Nat.min_eq_left (by omega), Nat.max_eq_left (by omega)])
      · exact ways_is (rjump_22e i k d s dl dg sl sg w hop hd hdn hs hsn b1 b2 b3 b4 pds p1 (by omega) p3 p4) (by show _ = ite _ _ _; rw [if_pos (by omega), Nat.max_eq_left (by omega), Nat.min_eq_right (by omega)]) (by show _ = ite _ _ _; rw [if_pos p1, Nat.min_eq_left (by omega), Nat.max_eq_right (by omega)])
    · by_cases p4 : dl < sl
      · exact ways_is (rjump_22d i k d s dl dg sl sg w hop hd hdn hs hsn b1 b2 b3 b4 pds p1 (by omega) p3 p4) (by show _ = ite _ _ _; rw [if_pos (by omega), Nat.max_eq_right (by omega), Nat.min_eq_left (by omega)]) (by show _ = ite _ _ _; rw [if_pos p1, Nat.min_eq_right (by omega), Nat.max_eq_left (by omega)])
      · exact ways_is (rjump_22c i k d s dl dg sl sg w hop hd hdn hs hsn b1 b2 b3 b4 pds p1 (by omega) p3 p4) (by show _ = ite _ _ _; rw [if_pos (by omega), Nat.max_eq_left (by omega), Nat.min_eq_left (by omega)]) (by show _ = ite _ _ _; rw [if_pos p1, Nat.min_eq_right (by omega), Nat.max_eq_right (by omega)])
  · exact ways_is (rjump_22b i k d s dl dg sl sg w hop hd hdn hs hsn b1 b2 b3 b4 pds (by omega)) (by show _ = ite _ _ _; rw [if_pos (by omega), Nat.max_eq_left (by omega), Nat.min_eq_left (by omega)]) (by show _ = ite _ _ _; rw [if_neg p1])
end Go.Proofs.YtodkehpldlmgaaaDoor
