/- The document's number; what lies in bytes' midst. -/
import Derived.Test.YtoalchlokcphkaaDoorM1
namespace Go.Proofs.YtoalchlokcphkaaDoor
open Go.RowKit

theorem bytes_mid {W : World} {b o : Nat} {d : List UInt8} (hin : BytesIn W b o d) (hb : b < W.heap.size) (k : Nat) (r : List UInt8) (hr : (d.drop k).take r.length = r) (hk : k + r.length ≤ d.length) (m c' o' : Nat) (a : Option Addr) (hm : m = r.length) (hc : r.length ≤ c') (ha : a = some ⟨b, o', none⟩) (ho : o' = o + k) : Bytes W (.slice a m c') r := by
  subst hm ho ha
  refine ⟨_, c', b, o + k, rfl, hc, fun _ => rfl, fun j hj => ?_, hb⟩
  have := hin (k + j) (by omega)
  rw [← Nat.add_assoc] at this
  rw [this, ← List.getElem?_drop]
  rw [show r[j]? = ((d.drop k).take r.length)[j]? by rw [hr], List.getElem?_take, if_pos hj]
theorem numL_lt : ∀ d : List UInt8, numL d < 256 ^ d.length
  | [] => by simp [numL]
  | x :: d => by
    have := numL_lt d
    have hx := x.toNat_lt
    rw [List.length_cons, Nat.pow_succ]
    simp only [numL]
    omega
theorem numL_drop (d : List UInt8) (j : Nat) (x : UInt8) (h : d[j]? = some x) : numL (d.drop j) = x.toNat + 256 * numL (d.drop (j + 1)) := by
  have hj := (List.getElem?_eq_some_iff.1 h).1
  rw [List.drop_eq_getElem_cons hj, (List.getElem?_eq_some_iff.1 h).2]
  rfl
set_option maxRecDepth 10000 in
set_option maxHeartbeats 2000000 in
theorem rnum_any (v : Value) (d : List UInt8) (w : World) (hv : Bytes w v d) (hl : d.length ≤ 4) :
    Calls Tryd.prog 29 #[v] w fun e w' => e = .returned (.int .i64 (numL d : Nat)) ∧ w' = w := by
  obtain ⟨a, c, b, o, rfl, hc, ha, hin, hb⟩ := hv
  obtain ⟨n, hn⟩ : ∃ n, n = d.length := ⟨_, rfl⟩
  have HN : Hid (n = d.length) := hn
  rw [← hn] at hc hl ⊢
  clear hn
  go_enter Tryd.func29, Tryd.ntmps29
  go_wp2
  go_loopw [3, 4] (fun nv iv wr => wr = w ∧ ∃ j : Nat, j ≤ n ∧ iv = .int .i64 ((j : Int) - 1) ∧ nv = .int .i64 ((numL (d.drop j) : Nat) : Int)) (fun _ iv _ => (intOf iv + 1).toNat)
  case atStart => exact ⟨rfl, n, Nat.le_refl _, rfl, by rw [HN.out, List.drop_length]; rfl⟩
  case round =>
    obtain ⟨rfl, j, hj, rfl, rfl⟩ := hrel
    by_cases h0 : j = 0
    · subst h0
      rw [List.drop_zero]
      go_wp2
      go_ret
      exact ⟨rfl, rfl⟩
    · obtain ⟨m, rfl⟩ : ∃ m, j = m + 1 := ⟨j - 1, by omega⟩
      obtain ⟨x, hx⟩ : ∃ x, d[m]? = some x := ⟨_, List.getElem?_eq_getElem (by have := HN.out; omega)⟩
      obtain rfl := ha (fun e => by rw [e] at hx; simp at hx)
      have c0 : wr.cell? ⟨b, o + m, none⟩ = some (.int .u8 (bv x)) := by
        have := hin m (by have := HN.out; omega)
        rw [this, hx]; rfl
      have hx1 := bv_nonneg x
      have hx2 := bv_lt x
      have HE : Hid (numL (d.drop m) = x.toNat + 256 * numL (d.drop (m + 1))) := numL_drop d m x hx
      have hb2 : numL (d.drop (m + 1)) < 16777216 := by
        have := numL_lt (d.drop (m + 1))
        refine Nat.lt_of_lt_of_le this ?_
        rw [List.length_drop]
        exact Nat.le_trans (Nat.pow_le_pow_right (by decide) (show d.length - (m + 1) ≤ 3 by have := HN.out; omega)) (by decide)
      generalize numL (d.drop (m + 1)) = q at *
      rw [show (((m + 1 : Nat) : Int) - 1) = (m : Int) by omega]
      have hm2 : m < n := by omega
      clear hx h0
      go_wp2
      go_roundw
      case rel =>
        refine ⟨by first | trivial | rfl, m, by omega, rfl, ?_⟩
        rw [HE.out]
        refine congrArg (Value.int .i64) ?_
        unfold bv
        omega
      case measure => simp [intOf]
end Go.Proofs.YtoalchlokcphkaaDoor
