/- Unlike instructions have unlike texts, unlike extensions unlike bytes. -/
import Derived.Test.YtoalchlokcphkaaDoorX7
import Derived.Test.YtoalchlokcphkaaDoorM1
namespace Go.Proofs.YtoalchlokcphkaaDoor
open Go.RowKit

/-- A numeral's value. -/
def valD (l : List UInt8) : Nat := l.foldl (fun a d => a * 10 + (d.toNat - 48)) 0
theorem valD_snoc (l : List UInt8) (d : UInt8) : valD (l ++ [d]) = valD l * 10 + (d.toNat - 48) := by unfold valD; rw [List.foldl_append]; rfl
theorem valD_dec (u : Nat) : valD (Lib.decDigits u) = u := by
  induction u using Nat.strongRecOn with
  | _ u ih =>
    by_cases h : u < 10
    · rw [Lib.decDigits_one h]
      show 0 * 10 + ((UInt8.ofNat (48 + u)).toNat - 48) = u
      rw [UInt8.toNat_ofNat']; omega
    · rw [dec_step u (by omega), valD_snoc, ih (u / 10) (by omega), UInt8.toNat_ofNat']; omega
theorem dec_inj {u v : Nat} (h : Lib.decDigits u = Lib.decDigits v) : u = v := by
  have := congrArg valD h
  rwa [valD_dec, valD_dec] at this
theorem dec_chars (u : Nat) : ∀ b ∈ Lib.decDigits u, 48 ≤ b.toNat ∧ b.toNat ≤ 57 := by
  induction u using Nat.strongRecOn with
  | _ u ih =>
    intro b hb
    by_cases h : u < 10
    · rw [Lib.decDigits_one h] at hb
      rw [List.mem_singleton.1 hb, UInt8.toNat_ofNat']; omega
    · rw [dec_step u (by omega)] at hb
      rcases List.mem_append.1 hb with hb | hb
      · exact ih (u / 10) (by omega) b hb
      · rw [List.mem_singleton.1 hb, UInt8.toNat_ofNat']; omega
/-- No comma. -/
def NoC (l : List UInt8) : Prop := ∀ b ∈ l, b ≠ 44
theorem noC_reg (n : Int) : NoC (regL n) := fun b hb e => by
  subst e
  unfold regL at hb
  rcases List.mem_cons.1 hb with h | h
  · cases h
  · have := dec_chars _ _ h; simp at this
theorem noC_dec (n : Nat) : NoC (Lib.decDigits n) := fun b hb e => by
  subst e
  have := dec_chars _ _ hb; simp at this
theorem noC_sgn (n : Int) : NoC (sgnL n) := fun b hb e => by
  subst e
  by_cases h : n < 0
  · rw [sgnL_neg h] at hb
    rcases List.mem_cons.1 hb with h | h
    · cases h
    · have := dec_chars _ _ h; simp at this
  · rw [sgnL_pos (by omega)] at hb
    rcases List.mem_cons.1 hb with h | h
    · cases h
    · have := dec_chars _ _ h; simp at this
/-- Up to a sign that a beginning has not. -/
theorem cut_at {c : UInt8} : ∀ (x y : List UInt8) (p q : List UInt8), (∀ b ∈ x, b ≠ c) → (∀ b ∈ y, b ≠ c) → (p = [] ∨ ∃ p', p = c :: p') → (q = [] ∨ ∃ q', q = c :: q') → x ++ p = y ++ q → x = y ∧ p = q
  | [], [], p, q, _, _, _, _, h => ⟨rfl, h⟩
  | [], b :: y, p, q, _, hy, hp, _, h => by
    rcases hp with rfl | ⟨p', rfl⟩
    · cases h
    · simp at h; exact absurd h.1.symm (hy b (by simp))
  | a :: x, [], p, q, hx, _, _, hq, h => by
    rcases hq with rfl | ⟨q', rfl⟩
    · cases h
    · simp at h; exact absurd h.1 (hx a (by simp))
  | a :: x, b :: y, p, q, hx, hy, hp, hq, h => by
    simp only [List.cons_append, List.cons.injEq] at h
    obtain ⟨h1, h2⟩ := cut_at x y p q (fun c hc => hx c (by simp [hc])) (fun c hc => hy c (by simp [hc])) hp hq h.2
    exact ⟨by rw [h.1, h1], h2⟩
theorem tail_form (r : List (List UInt8)) : Lib.joinTail [44, 32] r = [] ∨ ∃ p', Lib.joinTail [44, 32] r = 44 :: p' := by
  cases r with
  | nil => exact .inl rfl
  | cons a r => exact .inr ⟨_, rfl⟩
theorem join_inj : ∀ (xs ys : List (List UInt8)), xs.length = ys.length → (∀ x ∈ xs, NoC x) → (∀ y ∈ ys, NoC y) → Lib.join xs [44, 32] = Lib.join ys [44, 32] → xs = ys
  | [], [], _, _, _, _ => rfl
  | [], _ :: _, h, _, _, _ => by simp at h
  | _ :: _, [], h, _, _, _ => by simp at h
  | [x], [y], _, _, _, h => by rw [Lib.join_one, Lib.join_one] at h; rw [h]
  | [_], _ :: _ :: _, h, _, _, _ => by simp at h
  | _ :: _ :: _, [_], h, _, _, _ => by simp at h
  | x :: x2 :: xs, y :: y2 :: ys, hl, hx, hy, h => by
    rw [Lib.join_cons, Lib.join_cons] at h
    obtain ⟨h1, h2⟩ := cut_at x y _ _ (hx x (by simp)) (hy y (by simp)) (tail_form _) (tail_form _) h
    have e : ∀ (z : List UInt8) (zs : List (List UInt8)), Lib.joinTail [44, 32] (z :: zs) = [44, 32] ++ Lib.join (z :: zs) [44, 32] := fun z zs => by rw [Lib.join_cons]; simp [Lib.joinTail]
    rw [e, e] at h2
    have h3 := List.append_cancel_left h2
    rw [h1, join_inj (x2 :: xs) (y2 :: ys) (by simpa using hl) (fun z hz => hx z (by simp [hz])) (fun z hz => hy z (by simp [hz])) h3]
theorem parts_noC (d s m o : Bool) (i : Ins) : ∀ x ∈ partsT d s m o i, NoC x := by
  intro x hx
  unfold partsT at hx
  simp only [List.mem_append] at hx
  rcases hx with hx | hx | hx | hx <;> split at hx <;> simp at hx <;> subst hx
  · exact noC_reg _
  · exact noC_reg _
  · exact noC_dec _
  · exact noC_sgn _
theorem parts_len (d s m o : Bool) (i j : Ins) : (partsT d s m o i).length = (partsT d s m o j).length := by
  unfold partsT; cases d <;> cases s <;> cases m <;> cases o <;> rfl
theorem textT_form (nm : List UInt8) (ps : List (List UInt8)) : ∃ p, textT nm ps = nm ++ p ∧ (p = [] ∨ ∃ p', p = 32 :: p') := by
  cases ps with
  | nil => exact ⟨[], by simp [textT], .inl rfl⟩
  | cons a r => exact ⟨_, rfl, .inr ⟨_, rfl⟩⟩
theorem textT_inj {nm : List UInt8} {ps qs : List (List UInt8)} (hl : ps.length = qs.length) (hp : ∀ x ∈ ps, NoC x) (hq : ∀ x ∈ qs, NoC x) (h : textT nm ps = textT nm qs) : ps = qs := by
  cases ps with
  | nil => cases qs with
    | nil => rfl
    | cons _ _ => simp at hl
  | cons a r => cases qs with
    | nil => simp at hl
    | cons b s =>
      have h' : nm ++ 32 :: Lib.join (a :: r) [44, 32] = nm ++ 32 :: Lib.join (b :: s) [44, 32] := h
      have h2 := List.append_cancel_left h'
      simp only [List.cons.injEq, true_and] at h2
      exact join_inj _ _ hl hp hq h2
theorem regL_inj {a b : Int} (ha : 0 ≤ a) (hb : 0 ≤ b) (h : regL a = regL b) : a = b := by
  unfold regL at h
  simp only [List.cons.injEq, true_and] at h
  have := dec_inj h
  omega
theorem sgnL_inj {a b : Int} (h : sgnL a = sgnL b) : a = b := by
  by_cases ha : a < 0 <;> by_cases hb : b < 0
  · rw [sgnL_neg ha, sgnL_neg hb] at h
    simp only [List.cons.injEq, true_and] at h
    have := dec_inj h; omega
  · rw [sgnL_neg ha, sgnL_pos (by omega)] at h
    simp at h
  · rw [sgnL_pos (by omega), sgnL_neg hb] at h
    simp at h
  · rw [sgnL_pos (by omega), sgnL_pos (by omega)] at h
    simp only [List.cons.injEq, true_and] at h
    have := dec_inj h; omega
theorem parts_inj {d s m o : Bool} {i j : Ins} (h : partsT d s m o i = partsT d s m o j) : (d = true → regL i.dst = regL j.dst) ∧ (s = true → regL i.src = regL j.src) ∧ (m = true → Lib.decDigits i.imm = Lib.decDigits j.imm) ∧ (o = true → sgnL i.off = sgnL j.off) := by
  unfold partsT at h
  cases d <;> cases s <;> cases m <;> cases o <;> simp at h <;> simp [h]
theorem txt_inj {i j : Ins} (hi : i.may = true) (hj : j.may = true) (h : txtL i = txtL j) : i = j := by
  have mi := mayB_iff.1 hi
  have mj := mayB_iff.1 hj
  obtain ⟨⟨o1, o2⟩, ⟨d1, _⟩, ⟨s1, _⟩, _⟩ := may_bounds hi
  obtain ⟨⟨o3, o4⟩, ⟨d3, _⟩, ⟨s3, _⟩, _⟩ := may_bounds hj
  have key : ∀ a b : Fin 25, 0 < a.val → 0 < b.val → nameL a.val = nameL b.val → a.val = b.val := by decide +kernel
  have nosp : ∀ a : Fin 25, ∀ b ∈ nameL a.val, b ≠ 32 := by decide +kernel
  have hop : i.op = j.op := by
    unfold txtL at h
    obtain ⟨p, e1, hp⟩ := textT_form (nameL i.op.toNat) (partsT (useD i.op) (useS i.op) (useM i.op) (useO i.op) i)
    obtain ⟨q, e2, hq⟩ := textT_form (nameL j.op.toNat) (partsT (useD j.op) (useS j.op) (useM j.op) (useO j.op) j)
    rw [e1, e2] at h
    have := (cut_at _ _ p q (nosp ⟨i.op.toNat, by omega⟩) (nosp ⟨j.op.toNat, by omega⟩) hp hq h).1
    have := key ⟨i.op.toNat, by omega⟩ ⟨j.op.toNat, by omega⟩ (by show 0 < i.op.toNat; omega) (by show 0 < j.op.toNat; omega) this
    simp only at this
    omega
  unfold txtL at h
  rw [← hop] at h
  have hps := textT_inj (parts_len _ _ _ _ i j) (parts_noC _ _ _ _ i) (parts_noC _ _ _ _ j) h
  obtain ⟨q1, q2, q3, q4⟩ := parts_inj hps
  unfold useD at q1
  unfold useS at q2
  unfold useM at q3
  unfold useO at q4
  simp only [decide_eq_true_eq] at q1 q2 q3 q4
  unfold MayP at mi mj
  rw [← hop] at mj
  have r1 : i.dst = j.dst := by
    by_cases hc : 1 ≤ i.op ∧ i.op ≤ 18 ∨ 20 ≤ i.op ∧ i.op ≤ 22
    · exact regL_inj d1 d3 (q1 hc)
    · have a := mi.2.1; have b := mj.2.1; omega
  have r2 : i.src = j.src := by
    by_cases hc : i.op = 2 ∨ i.op = 4 ∨ i.op = 5 ∨ i.op = 7 ∨ 9 ≤ i.op ∧ i.op ≤ 11 ∨ 14 ≤ i.op ∧ i.op ≤ 18 ∨ i.op = 22
    · exact regL_inj s1 s3 (q2 hc)
    · have a := mi.2.2.1; have b := mj.2.2.1; omega
  have r3 : i.off = j.off := by
    by_cases hc : 16 ≤ i.op ∧ i.op ≤ 22
    · exact sgnL_inj (q4 hc)
    · have a := mi.2.2.2.1; have b := mj.2.2.2.1; omega
  have r4 : i.imm = j.imm := by
    by_cases hc : i.op = 1 ∨ i.op = 3 ∨ i.op = 6 ∨ i.op = 8 ∨ i.op = 12 ∨ i.op = 13 ∨ i.op = 20 ∨ i.op = 21 ∨ i.op = 23
    · exact dec_inj (q3 hc)
    · have a := mi.2.2.2.2; have b := mj.2.2.2.2; omega
  obtain ⟨a, b, c, d, e⟩ := i
  obtain ⟨a', b', c', d', e'⟩ := j
  simp only at hop r1 r2 r3 r4
  rw [hop, r1, r2, r3, r4]
theorem prog_inj {c c' : Nat} {l l' : List Ins} (h1 : chkE c l = 0) (h2 : chkE c' l' = 0) (hu : ∀ i ∈ l, i.imm < 4294967296) (hu' : ∀ i ∈ l', i.imm < 4294967296) (h : progL c l = progL c' l') : c = c' ∧ l = l' := by
  obtain ⟨⟨_, a2⟩, a3, a4⟩ := chkE_zero h1
  obtain ⟨⟨_, b2⟩, b3, b4⟩ := chkE_zero h2
  obtain ⟨x2, x3, x4, x5, r, e1, e2, e3, e4⟩ := prog_there (ctx := c) (l := l) (by omega) a3 a4 hu
  obtain ⟨y2, y3, y4, y5, s, f1, f2, f3, f4⟩ := prog_there (ctx := c') (l := l') (by omega) b3 b4 hu'
  rw [e1, f1] at h
  simp only [List.cons.injEq, true_and] at h
  obtain ⟨rfl, rfl, _, _, rfl⟩ := h
  exact ⟨e2.symm.trans f2, e4.symm.trans f4⟩
end Go.Proofs.YtoalchlokcphkaaDoor
