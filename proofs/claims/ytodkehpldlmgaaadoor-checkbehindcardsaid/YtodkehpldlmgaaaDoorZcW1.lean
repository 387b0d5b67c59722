/- Words within ranges; ranges that say no less. -/
import Derived.Test.YtodkehpldlmgaaaDoorZq1
namespace Go.Proofs.YtodkehpldlmgaaaDoor
open Go.RowKit

def inR (v : Nat) (r : Rg) : Prop := r.set = true ∧ r.least ≤ v ∧ v ≤ r.great
theorem in_from {v l g : Nat} (h1 : l ≤ v) (h2 : v ≤ g) : inR v (fromR l g) := ⟨rfl, h1, h2⟩
theorem in_all {v : Nat} (h : v < 4294967296) : inR v allR := ⟨rfl, Nat.zero_le _, by show v ≤ 4294967295; omega⟩
theorem in_wide {v l g : Nat} (h0 : v < 4294967296) (h : g < 4294967296 → l ≤ v ∧ v ≤ g) : inR v (wideR l g) := by
  unfold wideR
  split
  · exact in_all h0
  · have := h (by omega); exact in_from this.1 this.2
theorem in_sum {a b : Nat} {d s : Rg} (h : inR a d) (k : inR b s) : inR ((a + b) % 4294967296) (sumR d s) := by
  obtain ⟨_, h1, h2⟩ := h
  obtain ⟨_, k1, k2⟩ := k
  refine in_wide (Nat.mod_lt _ (by decide)) fun hg => ?_
  rw [Nat.mod_eq_of_lt (by omega)]
  omega
theorem in_diff {a b : Nat} {d s : Rg} (h : inR a d) (k : inR b s) (ha : a < 4294967296) : inR ((a + 4294967296 - b) % 4294967296) (diffR d s) := by
  obtain ⟨_, h1, h2⟩ := h
  obtain ⟨_, k1, k2⟩ := k
  unfold diffR
  split
  · exact in_all (Nat.mod_lt _ (by decide))
  · have e : (a + 4294967296 - b) % 4294967296 = a - b := by omega
    rw [e]
    exact in_from (by omega) (by omega)
theorem in_prod {a b : Nat} {d s : Rg} (h : inR a d) (k : inR b s) : inR (a * b % 4294967296) (prodR d s) := by
  obtain ⟨_, h1, h2⟩ := h
  obtain ⟨_, k1, k2⟩ := k
  have e1 := Nat.mul_le_mul h1 k1
  have e2 := Nat.mul_le_mul h2 k2
  refine in_wide (Nat.mod_lt _ (by decide)) fun hg => ?_
  rw [Nat.mod_eq_of_lt (by omega)]
  exact ⟨e1, e2⟩
theorem in_com {a b : Nat} {d s : Rg} (h : inR a d) (k : inR b s) : inR (a &&& b) (comR d s) := by
  obtain ⟨_, h1, h2⟩ := h
  obtain ⟨_, k1, k2⟩ := k
  have e1 : a &&& b ≤ a := Nat.and_le_left
  have e2 : a &&& b ≤ b := Nat.and_le_right
  exact in_from (Nat.zero_le _) (by omega)
theorem le_ones' (n : Nat) : n ≤ onesN n ∧ ∃ k, onesN n = 2 ^ k - 1 := by
  unfold onesN
  split
  · exact ⟨by omega, 0, rfl⟩
  · have := @Nat.lt_log2_self n
    exact ⟨by omega, _, rfl⟩
theorem or_ones {a b n : Nat} (ha : a ≤ n) (hb : b ≤ n) : (a ||| b) ≤ onesN n ∧ (a ^^^ b) ≤ onesN n := by
  obtain ⟨h1, k, h2⟩ := le_ones' n
  have hp : 0 < 2 ^ k := Nat.pow_pos (by decide)
  have h3 : a ||| b < 2 ^ k := Nat.or_lt_two_pow (by omega) (by omega)
  have h4 : a ^^^ b < 2 ^ k := Nat.xor_lt_two_pow (by omega) (by omega)
  omega
theorem in_eit {a b : Nat} {d s : Rg} (h : inR a d) (k : inR b s) : inR (a ||| b) (eitR d s) := by
  obtain ⟨_, h1, h2⟩ := h
  obtain ⟨_, k1, k2⟩ := k
  have e1 : a ≤ a ||| b := Nat.left_le_or
  have e2 : b ≤ a ||| b := Nat.right_le_or
  have := (or_ones (n := max d.great s.great) (show a ≤ _ by omega) (show b ≤ _ by omega)).1
  exact in_from (by omega) this
theorem in_apa {a b : Nat} {d s : Rg} (h : inR a d) (k : inR b s) : inR (a ^^^ b) (apaR d s) := by
  obtain ⟨_, h1, h2⟩ := h
  obtain ⟨_, k1, k2⟩ := k
  exact in_from (Nat.zero_le _) (or_ones (n := max d.great s.great) (show a ≤ _ by omega) (show b ≤ _ by omega)).2
theorem in_quo {a b : Nat} {d s : Rg} (h : inR a d) (k : inR b s) (h0 : s.least ≠ 0) : inR (a / b) (quoR d s) := by
  obtain ⟨_, h1, h2⟩ := h
  obtain ⟨_, k1, k2⟩ := k
  exact in_from (Nat.div_le_div h1 k2 (by omega)) (Nat.div_le_div h2 k1 h0)
theorem in_rest {a b : Nat} {d s : Rg} (h : inR a d) (k : inR b s) (h0 : s.least ≠ 0) : inR (a % b) (restR d s) := by
  obtain ⟨_, h1, h2⟩ := h
  obtain ⟨_, k1, k2⟩ := k
  have e1 := Nat.mod_le a b
  have e2 := Nat.mod_lt a (show b > 0 by omega)
  exact in_from (Nat.zero_le _) (by omega)
/-- A range that says no less. -/
def subR (a b : Rg) : Prop := b.set = true → a.set = true ∧ b.least ≤ a.least ∧ a.great ≤ b.great
theorem sub_from {l g l' g' : Nat} (h1 : l ≤ l') (h2 : g' ≤ g) : subR (fromR l' g') (fromR l g) := fun _ => ⟨rfl, h1, h2⟩
theorem sub_refl (r : Rg) : subR r r := fun h => ⟨h, Nat.le_refl _, Nat.le_refl _⟩
theorem sub_all {r : Rg} (h1 : r.set = true) (h2 : r.great < 4294967296) : subR r allR := fun _ => ⟨h1, Nat.zero_le _, by show r.great ≤ 4294967295; omega⟩
theorem sub_wide {l g l' g' : Nat} (h1 : l ≤ l') (h2 : g' ≤ g) : subR (wideR l' g') (wideR l g) := by
  unfold wideR
  split
  · split
    · exact sub_refl _
    · omega
  · split
    · exact sub_all rfl (by show g' < _; omega)
    · exact sub_from h1 h2
theorem ones_mono {m n : Nat} (h : m ≤ n) : onesN m ≤ onesN n := by
  unfold onesN
  split
  · omega
  · rename_i h0
    rw [if_neg (by omega)]
    have h1 : m.log2 ≤ n.log2 := by
      rw [Nat.le_log2 (by omega)]
      exact Nat.le_trans (Nat.log2_self_le h0) h
    have := Nat.pow_le_pow_right (show 0 < 2 by decide) (Nat.add_le_add_right h1 1)
    omega
/-- What is cut of a range that is set. -/
structure Cut (a b : Rg) : Prop where
  s1 : a.set = true
  s2 : b.set = true
  l : b.least ≤ a.least
  g : a.great ≤ b.great
  le : a.least ≤ a.great
  lt : b.great < 4294967296
theorem sub_sum {d s d' s' : Rg} (h : Cut d' d) (k : Cut s' s) : subR (sumR d' s') (sumR d s) := sub_wide (Nat.add_le_add h.l k.l) (Nat.add_le_add h.g k.g)
theorem sub_prod {d s d' s' : Rg} (h : Cut d' d) (k : Cut s' s) : subR (prodR d' s') (prodR d s) := sub_wide (Nat.mul_le_mul h.l k.l) (Nat.mul_le_mul h.g k.g)
theorem sub_diff {d s d' s' : Rg} (h : Cut d' d) (k : Cut s' s) : subR (diffR d' s') (diffR d s) := by
  obtain ⟨_, _, h1, h2, h3, h4⟩ := h
  obtain ⟨_, _, k1, k2, k3, k4⟩ := k
  unfold diffR
  split
  · split
    · exact sub_refl _
    · omega
  · split
    · exact sub_all rfl (by show d'.great - s'.least < _; omega)
    · exact sub_from (by omega) (by omega)
theorem sub_com {d s d' s' : Rg} (h : Cut d' d) (k : Cut s' s) : subR (comR d' s') (comR d s) := by
  have := h.g; have := k.g
  exact sub_from (Nat.le_refl _) (by omega)
theorem sub_eit {d s d' s' : Rg} (h : Cut d' d) (k : Cut s' s) : subR (eitR d' s') (eitR d s) := by
  have := h.g; have := k.g; have := h.l; have := k.l
  exact sub_from (by omega) (ones_mono (by omega))
theorem sub_apa {d s d' s' : Rg} (h : Cut d' d) (k : Cut s' s) : subR (apaR d' s') (apaR d s) := by
  have := h.g; have := k.g; have := h.l; have := k.l
  exact sub_from (Nat.le_refl _) (ones_mono (by omega))
theorem sub_quo {d s d' s' : Rg} (h : Cut d' d) (k : Cut s' s) (h0 : s.least ≠ 0) : subR (quoR d' s') (quoR d s) := by
  have := k.le; have := k.l
  exact sub_from (Nat.div_le_div h.l k.g (by omega)) (Nat.div_le_div h.g k.l h0)
theorem sub_rest {d s d' s' : Rg} (h : Cut d' d) (k : Cut s' s) : subR (restR d' s') (restR d s) := by
  have := h.g; have := k.g
  exact sub_from (Nat.le_refl _) (by omega)
theorem sub_wit {r r' : Rg} {n : Nat} (h : Cut r' r) (hne : r' ≠ fromR n n) : subR (witR r' n) (witR r n) := by
  obtain ⟨h1, h2, h3, h4, h5, h6⟩ := h
  have h7 : ¬ (r'.least = n ∧ r'.great = n) := fun e => hne (by
    obtain ⟨s, l, g⟩ := r'
    simp only at h1 e
    rw [h1, e.1, e.2]; rfl)
  intro _
  unfold witR
  (repeat' split) <;> refine ⟨by simpa using h1, ?_, ?_⟩ <;> (try simp only) <;> omega
theorem cut_one {r r' : Rg} {n : Nat} (h : Cut r' r) (e : r = fromR n n) : r' = fromR n n := by
  obtain ⟨h1, h2, h3, h4, h5, h6⟩ := h
  subst e
  obtain ⟨s, l, g⟩ := r'
  simp only [fromR] at h1 h3 h4 h5 ⊢
  subst h1
  congr 1 <;> omega
theorem cut_has {r r' : Rg} {n : Nat} (h : Cut r' r) (e : hasR r' n = true) : hasR r n = true := by
  obtain ⟨h1, h2, h3, h4, h5, h6⟩ := h
  unfold hasR at *
  simp only [Bool.and_eq_true, decide_eq_true_eq] at *
  omega
end Go.Proofs.YtodkehpldlmgaaaDoor
