/- Jumps of two ranges: each pair of words goes by a way that is come to. -/
import Derived.Test.YtodkehpldlmgaaaDoorZq7
import Derived.Test.YtodkehpldlmgaaaDoorZq3
import Derived.Test.YtodkehpldlmgaaaDoorZcE1
namespace Go.Proofs.YtodkehpldlmgaaaDoor
open Go.RowKit

def twoK (d s : Rg) : Kn := ((⟨true, fun _ => noR⟩ : Kn).set 3 d).set 4 s
def jmpI (imm j : Nat) : Ins := if j = 0 then ⟨20, 3, 0, 1, imm⟩ else if j = 1 then ⟨21, 3, 0, 1, imm⟩ else if j = 2 then ⟨22, 3, 4, 1, 0⟩ else ⟨22, 3, 3, 1, 0⟩
def jmpT (a b imm j : Nat) : Bool := if j = 0 then decide (a = imm) else if j = 1 then decide (a < imm) else if j = 2 then decide (a < b) else false
theorem twoK_right {d s : Rg} (h1 : Good d) (h2 : Good s) : KnR (twoK d s) := fun n _ => by
  show Good ((twoK d s).r n)
  unfold twoK Kn.set
  simp only
  split
  · exact h2
  · split
    · exact h1
    · exact good_no
theorem twoK_3 (d s : Rg) : (twoK d s).r 3 = d := rfl
theorem twoK_4 (d s : Rg) : (twoK d s).r 4 = s := rfl
theorem set_same (k : Kn) (n : Nat) (r : Rg) : (k.set n r).r n = r := by show (if n = n then r else k.r n) = r; rw [if_pos rfl]
theorem set_other (k : Kn) {n m : Nat} (r : Rg) (h : m ≠ n) : (k.set n r).r m = k.r m := by show (if m = n then r else k.r m) = k.r m; rw [if_neg h]
theorem jmpI_may {imm : Nat} (h : imm < 4294967296) (j : Nat) : MayI (jmpI imm j) := by
  unfold jmpI
  split
  · exact ⟨by show MayP 20 3 0 1 imm; unfold MayP; omega, h⟩
  · split
    · exact ⟨by show MayP 21 3 0 1 imm; unfold MayP; omega, h⟩
    · split
      · exact ⟨by show MayP 22 3 4 1 0; unfold MayP; omega, by show 0 < 4294967296; decide⟩
      · exact ⟨by show MayP 22 3 3 1 0; unfold MayP; omega, by show 0 < 4294967296; decide⟩
theorem outI_20 (i : Ins) (c : Int) (k : Kn) (h : i.op.toNat = 20) : outI i c k = bindE (needE k i.dst.toNat) fun r => .ok (if r = fromR i.imm i.imm then noK else k.set i.dst.toNat (witR r i.imm), if hasR r i.imm then k.set i.dst.toNat (fromR i.imm i.imm) else noK) := by
  unfold outI
  simp only [h]
theorem outI_21 (i : Ins) (c : Int) (k : Kn) (h : i.op.toNat = 21) : outI i c k = bindE (needE k i.dst.toNat) fun r => .ok (if i.imm ≤ r.great then k.set i.dst.toNat (atLeastR r i.imm) else noK, if r.least < i.imm then k.set i.dst.toNat (atMostR r (i.imm - 1)) else noK) := by
  unfold outI
  simp only [h]
theorem outI_22 (i : Ins) (c : Int) (k : Kn) (h : i.op.toNat = 22) : outI i c k = bindE (needE k i.dst.toNat) fun r => bindE (needE k i.src.toNat) fun q => if i.dst.toNat = i.src.toNat then .ok (k, noK) else
      .ok (if q.least ≤ r.great then (k.set i.dst.toNat (atLeastR r q.least)).set i.src.toNat (atMostR q r.great) else noK, if r.least < q.great then (k.set i.dst.toNat (atMostR r (q.great - 1))).set i.src.toNat (atLeastR q (r.least + 1)) else noK) := by
  unfold outI
  simp only [h]
/-- The way that is gone is come to, and holds both words. -/
def goneBy (a b : Nat) (q : Kn) : Prop := q.come = true ∧ (q.r 3).least ≤ a ∧ a ≤ (q.r 3).great ∧ (q.r 4).least ≤ b ∧ b ≤ (q.r 4).great
theorem jmp_beh {dl dg sl sg a b imm : Nat} (h1 : dl ≤ a) (h2 : a ≤ dg) (h3 : dg < 4294967296) (h4 : sl ≤ b) (h5 : b ≤ sg) (h6 : sg < 4294967296) (h7 : imm < 4294967296) (j : Nat) :
    ∃ n m, behV (jmpI imm j) 0 (twoK ⟨true, dl, dg⟩ ⟨true, sl, sg⟩) = (n, m, 0) ∧ goneBy a b (if jmpT a b imm j then m else n) := by
  have hm := jmpI_may h7 j
  have hc := chk_one hm (show (0 : Int) ≤ 0 by decide) (show (0 : Int) ≤ 256 by decide)
  have hk := right_knB (twoK_right (d := ⟨true, dl, dg⟩) (s := ⟨true, sl, sg⟩) (good_from (l := dl) (g := dg) (by omega) h3) (good_from (l := sl) (g := sg) (by omega) h6))
  obtain ⟨k, hkk⟩ : ∃ k, k = twoK ⟨true, dl, dg⟩ ⟨true, sl, sg⟩ := ⟨_, rfl⟩
  have r3 : k.r 3 = ⟨true, dl, dg⟩ := by rw [hkk]; rfl
  have r4 : k.r 4 = ⟨true, sl, sg⟩ := by rw [hkk]; rfl
  have kc : k.come = true := by rw [hkk]; rfl
  have e3 : needE k 3 = .ok ⟨true, dl, dg⟩ := by rw [needE_ok (by rw [r3]; intro e; cases e), r3]
  have e4 : needE k 4 = .ok ⟨true, sl, sg⟩ := by rw [needE_ok (by rw [r4]; intro e; cases e), r4]
  rw [← hkk] at hk ⊢
  clear hkk
  have fin : ∀ n m : Kn, outI (jmpI imm j) 0 k = .ok (n, m) → goneBy a b (if jmpT a b imm j then m else n) → ∃ n m, behV (jmpI imm j) 0 k = (n, m, 0) ∧ goneBy a b (if jmpT a b imm j then m else n) := fun n m h g => ⟨n, m, behV_ok hc hk kc h, g⟩
  have one : ∀ r : Rg, r.least ≤ a → a ≤ r.great → goneBy a b (k.set 3 r) := fun r g1 g2 => by
    refine ⟨kc, ?_, ?_, ?_, ?_⟩
    · rw [set_same]; exact g1
    · rw [set_same]; exact g2
    · rw [set_other _ _ (by decide), r4]; exact h4
    · rw [set_other _ _ (by decide), r4]; exact h5
  have two : ∀ r q : Rg, r.least ≤ a → a ≤ r.great → q.least ≤ b → b ≤ q.great → goneBy a b ((k.set 3 r).set 4 q) := fun r q g1 g2 g3 g4 => by
    refine ⟨kc, ?_, ?_, ?_, ?_⟩
    · rw [set_other _ _ (by decide), set_same]; exact g1
    · rw [set_other _ _ (by decide), set_same]; exact g2
    · rw [set_same]; exact g3
    · rw [set_same]; exact g4
  by_cases j0 : j = 0
  · have ei : jmpI imm j = ⟨20, 3, 0, 1, imm⟩ := by unfold jmpI; rw [if_pos j0]
    have et : jmpT a b imm j = decide (a = imm) := by unfold jmpT; rw [if_pos j0]
    refine fin _ _ (by rw [ei, outI_20 _ _ _ rfl]; show bindE (needE k 3) _ = _; rw [e3, bindE_ok]) ?_
    rw [et]
    by_cases ha : a = imm
    · rw [if_pos (by simpa using ha), if_pos (by unfold hasR; simp; omega)]
      exact one _ (by show imm ≤ a; omega) (by show a ≤ imm; omega)
    · rw [if_neg (by simpa using ha), if_neg (fun e => by
        have x1 : dl = imm := congrArg Rg.least e
        have x2 : dg = imm := congrArg Rg.great e
        omega)]
      refine one _ ?_ ?_
      all_goals
        unfold witR
        simp only
        (repeat' split)
        all_goals simp only
        all_goals omega
  · by_cases j1 : j = 1
    · have ei : jmpI imm j = ⟨21, 3, 0, 1, imm⟩ := by unfold jmpI; rw [if_neg j0, if_pos j1]
      have et : jmpT a b imm j = decide (a < imm) := by unfold jmpT; rw [if_neg j0, if_pos j1]
      refine fin _ _ (by rw [ei, outI_21 _ _ _ rfl]; show bindE (needE k 3) _ = _; rw [e3, bindE_ok]) ?_
      rw [et]
      by_cases ha : a < imm
      · rw [if_pos (by simpa using ha), if_pos (by show dl < imm; omega)]
        exact one _ (by show dl ≤ a; omega) (by show a ≤ min dg (imm - 1); omega)
      · rw [if_neg (by simpa using ha), if_pos (by show imm ≤ dg; omega)]
        exact one _ (by show max dl imm ≤ a; omega) (by show a ≤ dg; omega)
    · by_cases j2 : j = 2
      · have ei : jmpI imm j = ⟨22, 3, 4, 1, 0⟩ := by unfold jmpI; rw [if_neg j0, if_neg j1, if_pos j2]
        have et : jmpT a b imm j = decide (a < b) := by unfold jmpT; rw [if_neg j0, if_neg j1, if_pos j2]
        refine fin _ _ (by rw [ei, outI_22 _ _ _ rfl]; show bindE (needE k 3) _ = _; rw [e3, bindE_ok]; show bindE (needE k 4) _ = _; rw [e4, bindE_ok]; rfl) ?_
        rw [et]
        by_cases ha : a < b
        · rw [if_pos (by simpa using ha), if_pos (by show dl < sg; omega)]
          exact two _ _ (by show dl ≤ a; omega) (by show a ≤ min dg (sg - 1); omega) (by show max sl (dl + 1) ≤ b; omega) (by show b ≤ sg; omega)
        · rw [if_neg (by simpa using ha), if_pos (by show sl ≤ dg; omega)]
          exact two _ _ (by show max dl sl ≤ a; omega) (by show a ≤ dg; omega) (by show sl ≤ b; omega) (by show b ≤ min sg dg; omega)
      · have ei : jmpI imm j = ⟨22, 3, 3, 1, 0⟩ := by unfold jmpI; rw [if_neg j0, if_neg j1, if_neg j2]
        have et : jmpT a b imm j = false := by unfold jmpT; rw [if_neg j0, if_neg j1, if_neg j2]
        refine fin k noK (by rw [ei, outI_22 _ _ _ rfl]; show bindE (needE k 3) _ = _; rw [e3, bindE_ok]; show bindE (needE k 3) _ = _; rw [e3, bindE_ok]; rfl) ?_
        rw [et, if_neg (by decide)]
        refine ⟨kc, ?_, ?_, ?_, ?_⟩
        · rw [r3]; exact h1
        · rw [r3]; exact h2
        · rw [r4]; exact h4
        · rw [r4]; exact h5
end Go.Proofs.YtodkehpldlmgaaaDoor
