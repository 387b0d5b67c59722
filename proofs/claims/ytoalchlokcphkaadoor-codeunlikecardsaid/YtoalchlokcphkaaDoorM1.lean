/- There and back: an extension's bytes, and what is taken of them. -/
import Derived.Test.YtoalchlokcphkaaDoorT5
import Derived.Test.YtoalchlokcphkaaDoorT3
import Derived.Test.YtoalchlokcphkaaDoorD4
namespace Go.Proofs.YtoalchlokcphkaaDoor
open Go.RowKit

theorem u8_is {n : Nat} {x : UInt8} (h : n % 256 = x.toNat) : UInt8.ofNat n = x := UInt8.toNat_inj.1 (by rw [UInt8.toNat_ofNat']; exact h)
theorem numL_low2 (n : Nat) : numL (low2L n) = n % 65536 := by
  simp only [numL, low2L, UInt8.toNat_ofNat']; omega
theorem numL_low4 (n : Nat) (h : n < 4294967296) : numL (low4L n) = n := by
  simp only [numL, low4L, UInt8.toNat_ofNat']; omega
theorem low2_num (x y : UInt8) (n : Nat) (h : n % 65536 = numL [x, y]) : low2L n = [x, y] := by
  have hx := x.toNat_lt
  have hy := y.toNat_lt
  simp only [numL] at h
  have e1 : UInt8.ofNat n = x := u8_is (by omega)
  have e2 : UInt8.ofNat (n / 256) = y := u8_is (by omega)
  unfold low2L
  rw [e1, e2]
theorem low4_num (x y z u : UInt8) : low4L (numL [x, y, z, u]) = [x, y, z, u] := by
  have hx := x.toNat_lt
  have hy := y.toNat_lt
  have hz := z.toNat_lt
  have hu := u.toNat_lt
  have e1 : UInt8.ofNat (numL [x, y, z, u]) = x := u8_is (by simp only [numL]; omega)
  have e2 : UInt8.ofNat (numL [x, y, z, u] / 256) = y := u8_is (by simp only [numL]; omega)
  have e3 : UInt8.ofNat (numL [x, y, z, u] / 65536) = z := u8_is (by simp only [numL]; omega)
  have e4 : UInt8.ofNat (numL [x, y, z, u] / 16777216) = u := u8_is (by simp only [numL]; omega)
  unfold low4L
  rw [e1, e2, e3, e4]
theorem inses_ins (i : Ins) (hm : i.may = true) (hu : i.imm < 4294967296) (r : List UInt8) : insesL (insL i ++ r) = i :: insesL r := by
  obtain ⟨⟨o1, o2⟩, ⟨d1, d2⟩, ⟨s1, s2⟩, ⟨f1, f2⟩⟩ := may_bounds hm
  obtain ⟨op, dst, src, off, imm⟩ := i
  show insOf (UInt8.ofNat op.toNat) (UInt8.ofNat (dst * 16 + src).toNat) (UInt8.ofNat (off % 4294967296).toNat) (UInt8.ofNat ((off % 4294967296).toNat / 256)) (UInt8.ofNat imm) (UInt8.ofNat (imm / 256)) (UInt8.ofNat (imm / 65536)) (UInt8.ofNat (imm / 16777216)) :: insesL r = _
  have e3 := numL_low2 (off % 4294967296).toNat
  have e4 := numL_low4 imm hu
  unfold low2L at e3
  unfold low4L at e4
  unfold insOf
  rw [e3, e4, UInt8.toNat_ofNat', UInt8.toNat_ofNat']
  simp only at o1 o2 d1 d2 s1 s2 f1 f2
  congr 2
  · omega
  · omega
  · omega
  · unfold sext; split <;> omega
theorem ins_inses (x0 x1 x2 x3 x4 x5 x6 x7 : UInt8) : insL (insOf x0 x1 x2 x3 x4 x5 x6 x7) = [x0, x1, x2, x3, x4, x5, x6, x7] := by
  have h0 := x0.toNat_lt
  have h1 := x1.toNat_lt
  have h2 := numL_two x2 x3
  unfold insL insOf
  simp only
  have e0 : UInt8.ofNat ((x0.toNat : Int)).toNat = x0 := u8_is (by omega)
  have e1 : UInt8.ofNat (((x1.toNat / 16 : Nat) : Int) * 16 + ((x1.toNat % 16 : Nat) : Int)).toNat = x1 := u8_is (by omega)
  have e2 : low2L (sext (numL [x2, x3]) % 4294967296).toNat = [x2, x3] := low2_num x2 x3 _ (by
    generalize numL [x2, x3] = n at *
    unfold sext; split <;> omega)
  rw [e0, e1, e2, low4_num]
  rfl
theorem inses_body : ∀ (l : List Ins), (∀ i ∈ l, i.may = true) → (∀ i ∈ l, i.imm < 4294967296) → insesL (bodyL l) = l := by
  intro l
  induction l with
  | nil => intro _ _; rfl
  | cons i l ih =>
    intro hm hu
    have e : bodyL (i :: l) = insL i ++ bodyL l := by simp [bodyL]
    rw [e, inses_ins i (hm i (by simp)) (hu i (by simp)), ih (fun j hj => hm j (by simp [hj])) (fun j hj => hu j (by simp [hj]))]
theorem body_inses : ∀ (k : Nat) (r : List UInt8), r.length = 8 * k → bodyL (insesL r) = r ∧ (insesL r).length = k ∧ ∀ i ∈ insesL r, i.imm < 4294967296 := by
  intro k
  induction k with
  | zero =>
    intro r h
    obtain rfl : r = [] := List.eq_nil_of_length_eq_zero (by omega)
    exact ⟨rfl, rfl, fun i hi => by simp [insesL] at hi⟩
  | succ k ih =>
    intro r h
    obtain ⟨x0, x1, x2, x3, x4, x5, x6, x7, q, rfl⟩ := eight_of (d := r) (by omega)
    obtain ⟨h1, h2, h3⟩ := ih q (by simp at h; omega)
    rw [insesL_cons]
    refine ⟨?_, by rw [List.length_cons, h2], fun i hi => ?_⟩
    · have e : ∀ i (l : List Ins), bodyL (i :: l) = insL i ++ bodyL l := fun i l => by simp [bodyL]
      rw [e, ins_inses, h1]; rfl
    · rcases List.mem_cons.1 hi with rfl | hi
      · exact numL_four _ _ _ _
      · exact h3 i hi
/-- What is read of bytes. -/
theorem prog_there {ctx : Nat} {l : List Ins} (hc : ctx ≤ 256) (hl : l.length ≤ 256) (hm : ∀ i ∈ l, i.may = true) (hu : ∀ i ∈ l, i.imm < 4294967296) :
    ∃ x2 x3 x4 x5 r, progL ctx l = 67 :: 88 :: x2 :: x3 :: x4 :: x5 :: r ∧ numL [x2, x3] = ctx ∧ r.length = 8 * numL [x4, x5] ∧ insesL r = l := by
  refine ⟨_, _, _, _, bodyL l, rfl, ?_, ?_, inses_body l hm hu⟩
  · have := numL_low2 ctx
    unfold low2L at this
    rw [this]; omega
  · have := numL_low2 l.length
    unfold low2L at this
    rw [this, bodyL_len]; omega
theorem prog_back {x2 x3 x4 x5 : UInt8} {r : List UInt8} (h : r.length = 8 * numL [x4, x5]) : progL (numL [x2, x3]) (insesL r) = 67 :: 88 :: x2 :: x3 :: x4 :: x5 :: r := by
  obtain ⟨h1, h2, _⟩ := body_inses _ r h
  have a := numL_two x2 x3
  have b := numL_two x4 x5
  unfold progL headL
  rw [h1, h2, low2_num x2 x3 _ (by omega), low2_num x4 x5 _ (by omega)]
  rfl
end Go.Proofs.YtoalchlokcphkaaDoor
