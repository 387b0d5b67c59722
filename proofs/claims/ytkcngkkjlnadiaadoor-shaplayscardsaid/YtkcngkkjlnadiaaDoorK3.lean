/- A text that is a digest's is that digest's text. -/
import Derived.Test.YtkcngkkjlnadiaaDoorD2
namespace Go.Proofs.YtkcngkkjlnadiaaDoor
open Go.RowKit

theorem hexd_hexv (c : UInt8) (h : (hexv c).2 = true) : hexd (hexv c).1.toNat = c := by
  have key : ∀ n : Fin 256, (hexv (UInt8.ofNat n.val)).2 = true → hexd (hexv (UInt8.ofNat n.val)).1.toNat = UInt8.ofNat n.val := by decide +kernel
  have := key ⟨c.toNat, c.toNat_lt⟩
  simp only [UInt8.ofNat_toNat] at this
  exact this h
theorem text_parse (l : List UInt8) (h : good l = true) : textL (parseD l) = l := by
  unfold good at h
  rw [Bool.and_eq_true, beq_iff_eq, List.all_eq_true] at h
  obtain ⟨hl, hall⟩ := h
  have hgood : good l = true := by unfold good; rw [Bool.and_eq_true, beq_iff_eq, List.all_eq_true]; exact ⟨hl, hall⟩
  have hd : (parseD l).length = 32 := parseD_length l
  apply List.ext_getElem?
  intro j
  by_cases hj : j < 64
  · obtain ⟨k, hk⟩ : ∃ k, k = j / 2 := ⟨_, rfl⟩
    have hk32 : k < 32 := by omega
    have hok := hall k (by simpa using hk32)
    have hat := textL_at (parseD l) k (by omega)
    have hp : (parseD l)[k]?.getD 0 = parseB l k := by
      unfold parseD; rw [if_pos hgood]; simp [hk32]
    rw [hp] at hat
    have e1 : (textL (parseD l))[j]? = some ((textL (parseD l))[j]?.getD 0) := by
      rw [List.getElem?_eq_getElem (by rw [textL_length]; omega)]; rfl
    have e2 : l[j]? = some (l[j]?.getD 0) := by rw [List.getElem?_eq_getElem (by omega)]; rfl
    rw [e1, e2]
    congr 1
    unfold okAt at hok
    rw [Bool.and_eq_true] at hok
    have x1 := hexv_lt _ hok.1
    have x2 := hexv_lt _ hok.2
    have y1 := hexd_hexv _ hok.1
    have y2 := hexd_hexv _ hok.2
    have hB : (parseB l k).toNat = (hexv (l[2 * k]?.getD 0)).1.toNat * 16 + (hexv (l[2 * k + 1]?.getD 0)).1.toNat := by
      unfold parseB
      rw [UInt8.toNat_add, UInt8.toNat_mul]
      show ((_ * 16) % 256 + _) % 256 = _
      omega
    rw [hB] at hat
    by_cases he : j % 2 = 0
    · obtain rfl : j = 2 * k := by omega
      rw [hat.1, show ((hexv (l[2 * k]?.getD 0)).1.toNat * 16 + (hexv (l[2 * k + 1]?.getD 0)).1.toNat) / 16 = (hexv (l[2 * k]?.getD 0)).1.toNat by omega, y1]
    · obtain rfl : j = 2 * k + 1 := by omega
      rw [hat.2, show ((hexv (l[2 * k]?.getD 0)).1.toNat * 16 + (hexv (l[2 * k + 1]?.getD 0)).1.toNat) % 16 = (hexv (l[2 * k + 1]?.getD 0)).1.toNat by omega, y2]
  · rw [List.getElem?_eq_none (by rw [textL_length]; omega), List.getElem?_eq_none (by omega)]
theorem parse_back (l : List UInt8) (h : parseE l = 0) : textL (parseD l) = l := by
  apply text_parse
  unfold parseE at h
  by_cases hg : good l = true
  · exact hg
  · rw [if_neg hg] at h; omega
theorem parseE_or (l : List UInt8) : parseE l = 0 ∨ parseE l = 110 := by unfold parseE; split <;> simp
end Go.Proofs.YtkcngkkjlnadiaaDoor
