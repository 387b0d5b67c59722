/- The document's words. -/
import Derived.Test.YtcmkjgodgocdfaaDoorE3
namespace Go.Proofs.YtcmkjgodgocdfaaDoor
open Go.RowKit

theorem ownsRow_mono {w : World} {base base' : Nat} {e : TypeId} {size : Nat} {v : Value} {n : Nat} {xs : List Value} (h : w.ownsRow base e size v n xs) (hb : base' ≤ base) : w.ownsRow base' e size v n xs := by
  obtain ⟨h1, h2⟩ := h
  refine ⟨h1, ?_⟩
  rcases h2 with h2 | ⟨g, cap, cur, a, b, c⟩
  · exact .inl h2
  · exact .inr ⟨g, cap, cur, a, Nat.le_trans hb b, c⟩
theorem info65 : (Tryd.prog.info? 87).map (fun i => (i.zero, i.size, i.bytes)) = some (some (.int .u32 0), 1, 4) := by kernel_rfl
def w32 (x : Wd) : Value := .int .u32 (wv x)
def wordsL (cube : Bool) : List Wd := if cube then (List.range 64).map cubeW else (List.range 8).map squareW
def wordsN (cube : Bool) : Nat := if cube then 64 else 8
def wordsLim (cube : Bool) : Nat := if cube then 312 else 20
theorem wordsL_eq (cube : Bool) : (primesBelow (wordsLim cube)).map (fun p => rootW p cube) = wordsL cube := by
  cases cube
  · exact square_words
  · exact cube_words
theorem words_lim (cube : Bool) : Lim (wordsN cube) (wordsLim cube) := by
  cases cube
  · exact lim8
  · exact lim64

set_option maxRecDepth 10000 in
set_option maxHeartbeats 1000000 in
theorem words_any (cube : Bool) (w : World) :
    Calls Tryd.prog 48 #[.bool cube] w fun e w' => ∃ v, e = .returned v ∧ w'.ownsRow w.heap.size 87 1 v (wordsN cube) ((wordsL cube).map w32) ∧ Below w.heap.size w w' := by
  have hlim := words_lim cube
  have hpr := primes_any (wordsN cube) (wordsLim cube) hlim (by cases cube <;> decide) w
  have hwl : Hid ((primesBelow (wordsLim cube)).map (fun p => rootW p cube) = wordsL cube) := wordsL_eq cube
  have hlen : Hid ((primesBelow (wordsLim cube)).length = wordsN cube) := hlim.eq
  have hN : Hid (0 < wordsN cube ∧ wordsN cube ≤ 64) := by cases cube <;> exact ⟨by decide, by decide⟩
  have hNe : Hid ((cube = true → wordsN cube = 64) ∧ (cube = false → wordsN cube = 8)) := ⟨fun h => by rw [h]; rfl, fun h => by rw [h]; rfl⟩
  generalize primesBelow (wordsLim cube) = P at *
  generalize wordsL cube = L at *
  generalize wordsN cube = N at *
  clear hlim
  have key : Calls Tryd.prog 48 #[.bool cube] w fun e w' => ∃ v, e = .returned v ∧ w'.ownsRow w.heap.size 87 1 v N ((P.map (fun p => rootW p cube)).map w32) ∧ Below w.heap.size w w' := by
    cases cube
    case true =>
      obtain rfl : N = 64 := hNe.out.1 rfl
      go_enter Tryd.func48, Tryd.ntmps48
      go_wp2_with fail
      refine hpr.mono ?_
      rintro e W1 ⟨v, rfl, hown, hB⟩
      obtain ⟨hxl, hcase⟩ := id hown
      rcases hcase with ⟨rfl, h0⟩ | ⟨g, cap, cur, rfl, hg1, hg2, hg3, hg4, hg5, hg6⟩
      · exact absurd h0 (by decide)
      have hcell : Hid (∀ i, i < 64 → W1.cell? ⟨g, i, none⟩ = some (.int .u64 (nv (P[i]?.getD 0)))) := fun i hi => by
        have := hown.cells (g := g) rfl i (uv (P[i]?.getD 0)) (by simp [show i < P.length by have := hlen.out; omega])
        rw [Addr.add_mid, Nat.zero_add] at this
        exact this
      have hgl : g < W1.heap.size := (hown.lt g rfl).2
      clear hxl hg2 hg4 hg5 hg6 hown hpr
      obtain ⟨i0, hi, hz0, hz1, hz2⟩ := info_parts info65
      go_wp2_with fail
      go_loopw [5, 6] (fun v i wr => ∃ k : Nat, k ≤ 64 ∧ i = .int .i64 k ∧ wr.ownsRow W1.heap.size 87 1 v k (((P.take k).map (fun p => rootW p true)).map w32) ∧ Below W1.heap.size W1 wr) (fun _ i _ => 64 - (intOf i).toNat)
      case atStart => exact ⟨0, by omega, rfl, World.ownsRow_nil _ _ _ _, Below.refl _ _⟩
      case round =>
        obtain ⟨k, hk, rfl, how, hBr⟩ := hrel
        by_cases hk64 : k < 64
        · have hc := hcell.out k hk64
          have hc' : wr.cell? ⟨g, k, none⟩ = some (.int .u64 (nv (P[k]?.getD 0))) := by rw [World.cell?_of_block (w := W1) (hBr.block g hgl)]; exact hc
          have Ht : Hid (P.take (k + 1) = P.take k ++ [P[k]?.getD 0]) := by
            show _ = _
            have hkl : k < P.length := by have := hlen.out; omega
            rw [List.take_succ_eq_append_getElem hkl]; simp [hkl]
          have i1 : (k : Int) < 64 := by omega
          generalize P[k]?.getD 0 = p at *
          clear hc
          have hn1 := has_new wr #[.int .u32 (wv (rootW p true))] 87 wr.heap.size rfl
          have hBs : Hid (W1.heap.size ≤ wr.heap.size) := hBr.size
          go_wp2_with (first
            | (go_at_call 55; refine (root_any _ _ _).mono ?_; rintro e w' ⟨rfl, hw⟩; obtain rfl := hw.symm)
            | (refine wpList_append_own _ rfl _ _ 84 rfl W1.heap.size 87 i0 (.int .u32 0) 1 4 Tryd.underlying84 hi hz0 hz1 hz2 rfl (by omega) _ k (((P.take k).map (fun p => rootW p true)).map w32) rfl (how.alloc _) ⟨wr.heap.size, 0, none⟩ 1 1 [w32 (rootW p true)] rfl rfl (fun j u hu => by rw [Addr.add_mid, Nat.zero_add, hn1.cell, ← hu]; simp [w32]) (fun u hu => by simp at hu; subst hu; rfl) (by simp only [maxLen]; omega) (by omega) (by have := hBs.out; simp; omega) ?_; intro v' w2 hown2 hgr hnil; clear hnil))
          go_roundw
          case rel => exact ⟨k + 1, by omega, by go_num, by rw [Ht.out, List.map_append, List.map_append]; exact hown2, below_grown hBr hgr (fun k hk => (how.lt k hk).1)⟩
          case measure => simp [intOf]; omega
        · obtain rfl : k = 64 := by omega
          rw [List.take_of_length_le (by have := hlen.out; omega)] at how
          have hBw : Below w.heap.size w wr := hB.trans (hBr.mono hB.size)
          have Ho := ownsRow_mono how hB.size
          clear how
          go_wp2_with fail
          go_ret
          exact ⟨_, rfl, Ho, hBw⟩
    case false =>
      obtain rfl : N = 8 := hNe.out.2 rfl
      go_enter Tryd.func48, Tryd.ntmps48
      go_wp2_with fail
      refine hpr.mono ?_
      rintro e W1 ⟨v, rfl, hown, hB⟩
      obtain ⟨hxl, hcase⟩ := id hown
      rcases hcase with ⟨rfl, h0⟩ | ⟨g, cap, cur, rfl, hg1, hg2, hg3, hg4, hg5, hg6⟩
      · exact absurd h0 (by decide)
      have hcell : Hid (∀ i, i < 8 → W1.cell? ⟨g, i, none⟩ = some (.int .u64 (nv (P[i]?.getD 0)))) := fun i hi => by
        have := hown.cells (g := g) rfl i (uv (P[i]?.getD 0)) (by simp [show i < P.length by have := hlen.out; omega])
        rw [Addr.add_mid, Nat.zero_add] at this
        exact this
      have hgl : g < W1.heap.size := (hown.lt g rfl).2
      clear hxl hg2 hg4 hg5 hg6 hown hpr
      obtain ⟨i0, hi, hz0, hz1, hz2⟩ := info_parts info65
      go_wp2_with fail
      go_loopw [5, 6] (fun v i wr => ∃ k : Nat, k ≤ 8 ∧ i = .int .i64 k ∧ wr.ownsRow W1.heap.size 87 1 v k (((P.take k).map (fun p => rootW p false)).map w32) ∧ Below W1.heap.size W1 wr) (fun _ i _ => 8 - (intOf i).toNat)
      case atStart => exact ⟨0, by omega, rfl, World.ownsRow_nil _ _ _ _, Below.refl _ _⟩
      case round =>
        obtain ⟨k, hk, rfl, how, hBr⟩ := hrel
        by_cases hk64 : k < 8
        · have hc := hcell.out k hk64
          have hc' : wr.cell? ⟨g, k, none⟩ = some (.int .u64 (nv (P[k]?.getD 0))) := by rw [World.cell?_of_block (w := W1) (hBr.block g hgl)]; exact hc
          have Ht : Hid (P.take (k + 1) = P.take k ++ [P[k]?.getD 0]) := by
            show _ = _
            have hkl : k < P.length := by have := hlen.out; omega
            rw [List.take_succ_eq_append_getElem hkl]; simp [hkl]
          have i1 : (k : Int) < 8 := by omega
          generalize P[k]?.getD 0 = p at *
          clear hc
          have hn1 := has_new wr #[.int .u32 (wv (rootW p false))] 87 wr.heap.size rfl
          have hBs : Hid (W1.heap.size ≤ wr.heap.size) := hBr.size
          go_wp2_with (first
            | (go_at_call 55; refine (root_any _ _ _).mono ?_; rintro e w' ⟨rfl, hw⟩; obtain rfl := hw.symm)
            | (refine wpList_append_own _ rfl _ _ 84 rfl W1.heap.size 87 i0 (.int .u32 0) 1 4 Tryd.underlying84 hi hz0 hz1 hz2 rfl (by omega) _ k (((P.take k).map (fun p => rootW p false)).map w32) rfl (how.alloc _) ⟨wr.heap.size, 0, none⟩ 1 1 [w32 (rootW p false)] rfl rfl (fun j u hu => by rw [Addr.add_mid, Nat.zero_add, hn1.cell, ← hu]; simp [w32]) (fun u hu => by simp at hu; subst hu; rfl) (by simp only [maxLen]; omega) (by omega) (by have := hBs.out; simp; omega) ?_; intro v' w2 hown2 hgr hnil; clear hnil))
          go_roundw
          case rel => exact ⟨k + 1, by omega, by go_num, by rw [Ht.out, List.map_append, List.map_append]; exact hown2, below_grown hBr hgr (fun k hk => (how.lt k hk).1)⟩
          case measure => simp [intOf]; omega
        · obtain rfl : k = 8 := by omega
          rw [List.take_of_length_le (by have := hlen.out; omega)] at how
          have hBw : Below w.heap.size w wr := hB.trans (hBr.mono hB.size)
          have Ho := ownsRow_mono how hB.size
          clear how
          go_wp2_with fail
          go_ret
          exact ⟨_, rfl, Ho, hBw⟩
  rw [hwl.out] at key
  exact key
end Go.Proofs.YtcmkjgodgocdfaaDoor
