/- The document's Read: of bytes that are none. -/
import Derived.Test.YtoalchlokcphkaaDoorG5
import Derived.Test.YtoalchlokcphkaaDoorT7
namespace Go.Proofs.YtoalchlokcphkaaDoor
open Go.RowKit

theorem bv_ne {x : UInt8} {n : Nat} (hn : n < 256) (h : x ≠ UInt8.ofNat n) : ¬ bv x = (n : Int) := fun e => h (by
  unfold bv at e
  refine (u8_is ?_).symm
  omega)
set_option maxRecDepth 10000 in
set_option maxHeartbeats 2000000 in
theorem rread_no (v : Value) (d : List UInt8) (w : World) (hv : Bytes w v d) (hl : d.length ≤ 1000000) (hw : wholeB d = false) :
    Calls Tryd.prog 18 #[v] w fun e w' => e = .returned (.tuple #[.agg #[.int .i64 0, .slice none 0 0], .int .i64 150]) ∧ Below w.heap.size w w' := by
  obtain ⟨W0, hW0⟩ : ∃ W0, W0 = w.alloc (.cells #[.int .i64 0, .slice none 0 0] 24) := ⟨_, rfl⟩
  have hB0 : Below w.heap.size w W0 := by rw [hW0]; exact (Below.refl _ _).alloc (Nat.le_refl _) _
  have hR0 : Has W0 w.heap.size #[.int .i64 0, .slice none 0 0] 24 := by rw [hW0]; exact has_new _ _ _ _ rfl
  obtain ⟨a, c, b, o, rfl, hc, ha, hin, hb⟩ := hv.below hB0
  have r0 := hR0.cell 0
  have r1 := hR0.cell 1
  have f0 := hR0.free 0
  have f1 := hR0.free 1
  clear hv
  by_cases h6 : d.length < 6
  · have h6' : (d.length : Int) < 6 := by omega
    rw [hW0] at r0 r1 f0 f1
    go_enter Tryd.func18, Tryd.ntmps18
    go_wp2_with fail
    refine bodyPost_ret (results_prog rfl _ _ w.heap.size _ _ rfl rfl (has_new _ _ _ _ rfl) rfl) rfl ?_
    exact ⟨rfl, (Below.refl _ _).alloc (Nat.le_refl _) _⟩
  obtain ⟨x0, x1, x2, x3, x4, x5, r, hd⟩ := six_of (d := d) (by omega)
  obtain rfl := ha (by rw [hd]; simp)
  have c0 : W0.cell? ⟨b, o, none⟩ = some (.int .u8 (bv x0)) := by have := hin 0 (by omega); rw [hd] at this; exact this
  have c1 : W0.cell? ⟨b, o + 1, none⟩ = some (.int .u8 (bv x1)) := by have := hin 1 (by omega); rw [hd] at this; exact this
  have hmid := bytes_mid hin hb 4 [x4, x5] (by rw [hd]; rfl) (by show 4 + 2 ≤ _; omega)
  have hmid' : ∀ (m c' : Nat) (a : Option Addr), m = 2 → 2 ≤ c' → a = some ⟨b, o + 4, none⟩ → Bytes W0 (.slice a m c') [x4, x5] := fun m c' a h1 h2 h3 => hmid m c' (o + 4) a h1 h2 h3 rfl
  obtain ⟨n, hn⟩ : ∃ n, n = d.length := ⟨_, rfl⟩
  have HN : Hid (n = r.length + 6) := by show _ = _; rw [hn, hd]; simp
  have h6' : ¬ (n : Int) < 6 := by omega
  have hw' : ¬ (x0 = 67 ∧ x1 = 88 ∧ r.length = 8 * numL [x4, x5]) := fun h => by
    obtain ⟨rfl, rfl, h⟩ := h
    rw [hd, wholeB_yes h] at hw
    cases hw
  have HM : Hid (∀ (m c' : Nat) (a : Option Addr), m = 2 → 2 ≤ c' → a = some ⟨b, o + 4, none⟩ → Bytes W0 (.slice a m c') [x4, x5]) := hmid'
  rw [← hn] at hc hl ⊢
  clear hmid hmid' hd hw hin h6 ha hn
  by_cases h0 : x0 = 67
  · subst h0
    by_cases h1 : x1 = 88
    · subst h1
      have h2 : ¬ r.length = 8 * numL [x4, x5] := fun h => hw' ⟨rfl, rfl, h⟩
      have hn2 := numL_two x4 x5
      have hnum := rnum_any (.slice (some ⟨b, o + 4, none⟩) 2 (c - 4)) [x4, x5] W0 (HM.out _ _ _ rfl (by omega) rfl) (by show 2 ≤ 4; decide)
      have h2' : ¬ (n : Int) = 6 + 8 * (numL [x4, x5] : Int) := by have := HN.out; omega
      have c0' : W0.cell? ⟨b, o, none⟩ = some (.int .u8 67) := c0
      have c1' : W0.cell? ⟨b, o + 1, none⟩ = some (.int .u8 88) := c1
      generalize numL [x4, x5] = q at *
      rw [hW0] at c0' c1'
      clear h2 hw' c0 c1
      go_enter Tryd.func18, Tryd.ntmps18
      go_wp2_with (go_at_call 29; rw [← hW0]; refine hnum.mono ?_; rintro e w' ⟨rfl, rfl⟩)
      refine bodyPost_ret (results_prog rfl _ _ w.heap.size _ _ rfl rfl (has_new _ _ _ _ rfl) rfl) rfl ?_
      exact ⟨rfl, (Below.refl _ _).alloc (Nat.le_refl _) _⟩
    · have h1' : ¬ bv x1 = 88 := bv_ne (n := 88) (by decide) h1
      have c0' : W0.cell? ⟨b, o, none⟩ = some (.int .u8 67) := c0
      rw [hW0] at c0' c1 r0 r1 f0 f1
      clear h1 hw' c0
      go_enter Tryd.func18, Tryd.ntmps18
      go_wp2_with fail
      refine bodyPost_ret (results_prog rfl _ _ w.heap.size _ _ rfl rfl (has_new _ _ _ _ rfl) rfl) rfl ?_
      exact ⟨rfl, (Below.refl _ _).alloc (Nat.le_refl _) _⟩
  · have h0' : ¬ bv x0 = 67 := bv_ne (n := 67) (by decide) h0
    rw [hW0] at c0 c1 r0 r1 f0 f1
    clear h0 hw'
    go_enter Tryd.func18, Tryd.ntmps18
    go_wp2_with fail
    refine bodyPost_ret (results_prog rfl _ _ w.heap.size _ _ rfl rfl (has_new _ _ _ _ rfl) rfl) rfl ?_
    exact ⟨rfl, (Below.refl _ _).alloc (Nat.le_refl _) _⟩
end Go.Proofs.YtoalchlokcphkaaDoor
