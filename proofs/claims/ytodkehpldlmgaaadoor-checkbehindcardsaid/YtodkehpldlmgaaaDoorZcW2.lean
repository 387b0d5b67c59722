/- What is known of fewer ways is within what is known of more, behind any instruction. -/
import Derived.Test.YtodkehpldlmgaaaDoorZq3
import Derived.Test.YtodkehpldlmgaaaDoorZcW1
namespace Go.Proofs.YtodkehpldlmgaaaDoor
open Go.RowKit

/-- What is known, with some ranges that are set cut. -/
def cutK (a b : Kn) : Prop := a.come = b.come ∧ ∀ n, n < 10 → ((b.r n).set = true → Cut (a.r n) (b.r n)) ∧ ((b.r n).set = false → a.r n = b.r n)
def withK (a b : Kn) : Prop := a.come = true → b.come = true ∧ ∀ n, n < 10 → subR (a.r n) (b.r n)
theorem cut_sub {a b : Rg} (h : Cut a b) : subR a b := fun _ => ⟨h.s1, h.l, h.g⟩
theorem cut_refl {r : Rg} (h : Good r) (h0 : r.set = true) : Cut r r := ⟨h0, h0, Nat.le_refl _, Nat.le_refl _, good_le h, h.2.great⟩
theorem cutK_with {a b : Kn} (h : cutK a b) : withK a b := fun hc => by
  refine ⟨by rw [← h.1, hc], fun n hn => ?_⟩
  cases hb : (b.r n).set with
  | true => exact cut_sub ((h.2 n hn).1 hb)
  | false => intro h1; rw [hb] at h1; cases h1
theorem no_with (b : Kn) : withK noK b := fun h => by cases h
theorem set_with {a b : Kn} (h : withK a b) (d : Nat) {r r' : Rg} (hr : subR r' r) : withK (a.set d r') (b.set d r) := fun hc => by
  obtain ⟨h1, h2⟩ := h hc
  refine ⟨h1, fun n hn => ?_⟩
  show subR (if n = d then r' else a.r n) (if n = d then r else b.r n)
  split
  · exact hr
  · exact h2 n hn
theorem callK_with {a b : Kn} (h : withK a b) : ∀ q, withK (callK a q) (callK b q)
  | 0 => set_with h 0 (sub_refl _)
  | q + 1 => set_with (callK_with h q) (q + 1) (sub_refl _)
theorem needE_inv {k : Kn} {n : Nat} {r : Rg} (e : needE k n = .ok r) : r = k.r n ∧ k.r n ≠ noR := by
  unfold needE at e
  split at e
  · cases e
  · rename_i h0
    cases e
    exact ⟨rfl, h0⟩
theorem need_cut {a b : Kn} (hb : KnR b) (h : cutK a b) {n : Nat} (hn : n < 10) {r : Rg} (e : needE b n = .ok r) : ∃ r', needE a n = .ok r' ∧ Cut r' r := by
  obtain ⟨rfl, h0⟩ := needE_inv e
  have hc := (h.2 n hn).1 (good_set (hb n hn) h0)
  refine ⟨a.r n, needE_ok (fun e => ?_), hc⟩
  have := hc.s1
  rw [e] at this
  cases this
theorem fold_within {k K A B : Kn} {d : Nat} (hK : KnR K) (hk : cutK k K) (hd : d < 10) {o o' : Except Wrong Rg} {F : Rg → Rg → Except Wrong Rg} (ho : ∀ q, o = .ok q → ∃ q', o' = .ok q' ∧ Cut q' q)
    (hF : ∀ r q r' q' m, Cut r' r → Cut q' q → F r q = .ok m → ∃ m', F r' q' = .ok m' ∧ subR m' m) (e : foldE K d o F = .ok (A, B)) :
    ∃ C D, foldE k d o' F = .ok (C, D) ∧ withK C A ∧ withK D B := by
  unfold foldE at e ⊢
  obtain ⟨r, h1, e⟩ := bind_inv e
  obtain ⟨q, h2, e⟩ := bind_inv e
  obtain ⟨m, h3, e⟩ := bind_inv e
  cases e
  obtain ⟨r', g1, c1⟩ := need_cut hK hk hd h1
  obtain ⟨q', g2, c2⟩ := ho q h2
  obtain ⟨m', g3, c3⟩ := hF r q r' q' m c1 c2 h3
  refine ⟨k.set d m', noK, ?_, set_with (cutK_with hk) d c3, no_with _⟩
  rw [g1, bindE_ok, g2, bindE_ok, g3, bindE_ok]
theorem pure_within {f : Rg → Rg → Rg} (hf : ∀ {r q r' q' : Rg}, Cut r' r → Cut q' q → subR (f r' q') (f r q)) : ∀ r q r' q' m, Cut r' r → Cut q' q → (Except.ok (f r q) : Except Wrong Rg) = .ok m → ∃ m', (Except.ok (f r' q') : Except Wrong Rg) = .ok m' ∧ subR m' m := fun r q r' q' m h k e => by
  cases e; exact ⟨_, rfl, hf h k⟩
theorem quo_within {f : Rg → Rg → Rg} (hf : ∀ {r q r' q' : Rg}, Cut r' r → Cut q' q → q.least ≠ 0 → subR (f r' q') (f r q)) : ∀ r q r' q' m, Cut r' r → Cut q' q → quoE f r q = .ok m → ∃ m', quoE f r' q' = .ok m' ∧ subR m' m := fun r q r' q' m h k e => by
  unfold quoE at e ⊢
  split at e
  · cases e
  · rename_i h0
    cases e
    have := k.l
    exact ⟨_, if_neg (by omega), hf h k h0⟩
theorem fits_cut {r r' : Rg} (h : Cut r' r) {off z : Int} (e : fits r off z = true) : fits r' off z = true := by
  have := h.l
  have := h.g
  unfold fits at *
  simp only [Bool.and_eq_true, decide_eq_true_eq] at *
  omega
theorem out_within {i : Ins} {c : Int} {k K A B : Kn} (hi : MayI i) (hK : KnR K) (hk : cutK k K) (e : outI i c K = .ok (A, B)) : ∃ C D, outI i c k = .ok (C, D) ∧ withK C A ∧ withK D B := by
  have hw := cutK_with hk
  have hs : i.src.toNat < 10 → ∀ q, needE K i.src.toNat = .ok q → ∃ q', needE k i.src.toNat = .ok q' ∧ Cut q' q := fun hs q e => need_cut hK hk hs e
  have him : ∀ q, (Except.ok (fromR i.imm i.imm) : Except Wrong Rg) = .ok q → ∃ q', (Except.ok (fromR i.imm i.imm) : Except Wrong Rg) = .ok q' ∧ Cut q' q := fun q e => by
    cases e; exact ⟨_, rfl, cut_refl (good_from (Nat.le_refl _) hi.2) rfl⟩
  have hpw : i.imm ≤ 31 → ∀ q, (Except.ok (fromR (2 ^ i.imm) (2 ^ i.imm)) : Except Wrong Rg) = .ok q → ∃ q', (Except.ok (fromR (2 ^ i.imm) (2 ^ i.imm)) : Except Wrong Rg) = .ok q' ∧ Cut q' q := fun h q e => by
    cases e; exact ⟨_, rfl, cut_refl (good_pow h) rfl⟩
  have h24 : 1 ≤ i.op.toNat ∧ i.op.toNat ≤ 24 := by have := hi.1.1; omega
  obtain ⟨n, hn⟩ : ∃ n, i.op.toNat = n := ⟨_, rfl⟩
  unfold outI at e ⊢
  rw [hn] at e h24 ⊢
  obtain rfl | rfl | rfl | rfl | rfl | rfl | rfl | rfl | rfl | rfl | rfl | rfl | rfl | rfl | rfl | rfl | rfl | rfl | rfl | rfl | rfl | rfl | rfl | rfl : n = 1 ∨ n = 2 ∨ n = 3 ∨ n = 4 ∨ n = 5 ∨ n = 6 ∨ n = 7 ∨ n = 8 ∨ n = 9 ∨ n = 10 ∨ n = 11 ∨ n = 12 ∨ n = 13 ∨ n = 14 ∨ n = 15 ∨ n = 16 ∨ n = 17 ∨ n = 18 ∨ n = 19 ∨ n = 20 ∨ n = 21 ∨ n = 22 ∨ n = 23 ∨ n = 24 := by omega
  all_goals simp only at e ⊢
  · cases e; exact ⟨_, _, rfl, set_with hw _ (sub_refl _), no_with _⟩
  · obtain ⟨r, h1, e⟩ := bind_inv e
    cases e
    obtain ⟨r', g1, c1⟩ := hs (may_s hi _ hn (by omega)) r h1
    exact ⟨_, _, by rw [g1, bindE_ok], set_with hw _ (cut_sub c1), no_with _⟩
  · exact fold_within hK hk (may_d hi _ hn (by omega)) him (pure_within sub_sum) e
  · exact fold_within hK hk (may_d hi _ hn (by omega)) (hs (may_s hi _ hn (by omega))) (pure_within sub_sum) e
  · exact fold_within hK hk (may_d hi _ hn (by omega)) (hs (may_s hi _ hn (by omega))) (pure_within sub_diff) e
  · exact fold_within hK hk (may_d hi _ hn (by omega)) him (pure_within sub_prod) e
  · exact fold_within hK hk (may_d hi _ hn (by omega)) (hs (may_s hi _ hn (by omega))) (pure_within sub_prod) e
  · exact fold_within hK hk (may_d hi _ hn (by omega)) him (pure_within sub_com) e
  · exact fold_within hK hk (may_d hi _ hn (by omega)) (hs (may_s hi _ hn (by omega))) (pure_within sub_com) e
  · exact fold_within hK hk (may_d hi _ hn (by omega)) (hs (may_s hi _ hn (by omega))) (pure_within sub_eit) e
  · exact fold_within hK hk (may_d hi _ hn (by omega)) (hs (may_s hi _ hn (by omega))) (pure_within sub_apa) e
  · exact fold_within hK hk (may_d hi _ hn (by omega)) (hpw (may_p hi _ hn (by omega))) (pure_within sub_prod) e
  · exact fold_within hK hk (may_d hi _ hn (by omega)) (hpw (may_p hi _ hn (by omega))) (quo_within sub_quo) e
  · exact fold_within hK hk (may_d hi _ hn (by omega)) (hs (may_s hi _ hn (by omega))) (quo_within sub_quo) e
  · exact fold_within hK hk (may_d hi _ hn (by omega)) (hs (may_s hi _ hn (by omega))) (quo_within fun h k _ => sub_rest h k) e
  · obtain ⟨r, h1, e⟩ := bind_inv e
    obtain ⟨r', g1, c1⟩ := hs (may_s hi _ hn (by omega)) r h1
    split at e
    · rename_i hf
      cases e
      exact ⟨_, _, by rw [g1, bindE_ok, if_pos (fits_cut c1 hf)], set_with hw _ (sub_refl _), no_with _⟩
    · cases e
  · obtain ⟨r, h1, e⟩ := bind_inv e
    obtain ⟨r', g1, c1⟩ := hs (may_s hi _ hn (by omega)) r h1
    split at e
    · rename_i hf
      cases e
      exact ⟨_, _, by rw [g1, bindE_ok, if_pos (fits_cut c1 hf)], set_with hw _ (sub_refl _), no_with _⟩
    · cases e
  · obtain ⟨r, h1, e⟩ := bind_inv e
    obtain ⟨q, h2, e⟩ := bind_inv e
    obtain ⟨r', g1, c1⟩ := need_cut hK hk (may_d hi _ hn (by omega)) h1
    obtain ⟨q', g2, c2⟩ := hs (may_s hi _ hn (by omega)) q h2
    split at e
    · rename_i hf
      cases e
      exact ⟨_, _, by rw [g1, bindE_ok, g2, bindE_ok, if_pos (fits_cut c1 hf)], hw, no_with _⟩
    · cases e
  · cases e; exact ⟨_, _, rfl, no_with _, hw⟩
  · obtain ⟨r, h1, e⟩ := bind_inv e
    obtain ⟨r', g1, c1⟩ := need_cut hK hk (may_d hi _ hn (by omega)) h1
    cases e
    refine ⟨_, _, by rw [g1, bindE_ok], ?_, ?_⟩
    · by_cases h : r' = fromR i.imm i.imm
      · rw [if_pos h]; exact no_with _
      · rw [if_neg h, if_neg (fun e => h (cut_one c1 e))]
        exact set_with hw _ (sub_wit c1 h)
    · by_cases h : hasR r' i.imm = true
      · rw [if_pos h, if_pos (cut_has c1 h)]
        exact set_with hw _ (sub_refl _)
      · rw [if_neg h]; exact no_with _
  · obtain ⟨r, h1, e⟩ := bind_inv e
    obtain ⟨r', g1, c1⟩ := need_cut hK hk (may_d hi _ hn (by omega)) h1
    have l1 := c1.l
    have l2 := c1.g
    cases e
    refine ⟨_, _, by rw [g1, bindE_ok], ?_, ?_⟩
    · by_cases h : i.imm ≤ r'.great
      · rw [if_pos h, if_pos (by omega)]
        exact set_with hw _ (sub_from (by omega) (by omega))
      · rw [if_neg h]; exact no_with _
    · by_cases h : r'.least < i.imm
      · rw [if_pos h, if_pos (by omega)]
        exact set_with hw _ (sub_from (by omega) (by omega))
      · rw [if_neg h]; exact no_with _
  · obtain ⟨r, h1, e⟩ := bind_inv e
    obtain ⟨q, h2, e⟩ := bind_inv e
    obtain ⟨r', g1, c1⟩ := need_cut hK hk (may_d hi _ hn (by omega)) h1
    obtain ⟨q', g2, c2⟩ := hs (may_s hi _ hn (by omega)) q h2
    have l1 := c1.l
    have l2 := c1.g
    have m1 := c2.l
    have m2 := c2.g
    by_cases hd : i.dst.toNat = i.src.toNat
    · rw [if_pos hd] at e
      cases e
      exact ⟨_, _, by rw [g1, bindE_ok, g2, bindE_ok, if_pos hd], hw, no_with _⟩
    · rw [if_neg hd] at e
      cases e
      refine ⟨_, _, by rw [g1, bindE_ok, g2, bindE_ok, if_neg hd], ?_, ?_⟩
      · by_cases h : q'.least ≤ r'.great
        · rw [if_pos h, if_pos (by omega)]
          exact set_with (set_with hw _ (sub_from (by omega) (by omega))) _ (sub_from (by omega) (by omega))
        · rw [if_neg h]; exact no_with _
      · by_cases h : r'.least < q'.great
        · rw [if_pos h, if_pos (by omega)]
          exact set_with (set_with hw _ (sub_from (by omega) (by omega))) _ (sub_from (by omega) (by omega))
        · rw [if_neg h]; exact no_with _
  · cases e; exact ⟨_, _, rfl, callK_with hw 5, no_with _⟩
  · obtain ⟨r, h1, e⟩ := bind_inv e
    cases e
    obtain ⟨r', g1, c1⟩ := need_cut hK hk (by decide) h1
    exact ⟨_, _, by rw [g1, bindE_ok], no_with _, no_with _⟩
end Go.Proofs.YtodkehpldlmgaaaDoor
