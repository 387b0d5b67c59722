/- The document's primes. -/
import Derived.Test.YtcmkjgodgocdfaaDoorE2
import Derived.Laws.AppendOwn
namespace Go.Proofs.YtcmkjgodgocdfaaDoor
open Go.RowKit

def uv (p : Nat) : Value := .int .u64 (nv p)
/-- How far the primes are sought: 64 of them, 8 of them. -/
structure Lim (n lim : Nat) : Prop where
  lt : ∀ p, p < lim → (primesBelow p).length < n
  eq : (primesBelow lim).length = n
  big : 2 ≤ lim ∧ lim ≤ 400
theorem lim64 : Lim 64 312 := ⟨fun p hp => by
  have key : ∀ p : Fin 312, (primesBelow p.val).length < 64 := by decide +kernel
  exact key ⟨p, hp⟩, by decide +kernel, by decide⟩
theorem lim8 : Lim 8 20 := ⟨fun p hp => by
  have key : ∀ p : Fin 20, (primesBelow p.val).length < 8 := by decide +kernel
  exact key ⟨p, hp⟩, by decide +kernel, by decide⟩
theorem primes_pos : ∀ n q, q ∈ primesBelow n → 2 ≤ q ∧ q < n
  | 0, q, h => by simp [primesBelow] at h
  | n + 1, q, h => by
    unfold primesBelow at h
    split at h
    · rw [List.mem_append] at h
      rcases h with h | h
      · have := primes_pos n q h; omega
      · simp at h; subst h; rename_i hh; omega
    · have := primes_pos n q h; omega
theorem primes_next (n : Nat) (h : 2 ≤ n) : primesBelow (n + 1) = if (primesBelow n).all (fun q => n % q != 0) then primesBelow n ++ [n] else primesBelow n := by
  show (if 2 ≤ n ∧ _ then _ else _) = _
  simp only [h, true_and]

theorem below_grown {B : Nat} {w wr w2 : World} {o : Obj} {row : Option Nat} (h : Below B w wr) (hg : (wr.alloc o).grownBy w2 row) (hrow : ∀ k, row = some k → B ≤ k) (hs : B ≤ w.heap.size := by exact Nat.le_refl _) : Below B w w2 := by
  have hsz : (wr.alloc o).heap.size = wr.heap.size + 1 := by simp
  have h1 := h.size
  refine ⟨hg.os.trans h.os, hg.tape.trans h.tape, hg.output.trans h.output, by have := hg.size; omega, fun k hk => ?_⟩
  rw [hg.block k (by omega) (fun e => by have := hrow k e.symm; omega), alloc_get, if_neg (by omega)]
  exact h.block k hk
theorem info60 : (Tryd.prog.info? 82).map (fun i => (i.zero, i.size, i.bytes)) = some (some (.int .u64 0), 1, 8) := by kernel_rfl
set_option maxRecDepth 10000 in
set_option maxHeartbeats 1000000 in
theorem primes_any (n lim : Nat) (hl : Lim n lim) (hn : n ≤ 64) (w : World) :
    Calls Tryd.prog 54 #[.int .i64 n] w fun e w' => ∃ v, e = .returned v ∧ w'.ownsRow w.heap.size 82 1 v n ((primesBelow lim).map uv) ∧ Below w.heap.size w w' := by
  go_enter Tryd.func54, Tryd.ntmps54
  go_wp2_with fail
  go_loopw [3, 4] (fun v t wr => ∃ p : Nat, 2 ≤ p ∧ p ≤ lim ∧ t = .int .u64 (nv p) ∧ wr.ownsRow w.heap.size 82 1 v (primesBelow p).length ((primesBelow p).map uv) ∧ Below w.heap.size w wr) (fun _ t _ => lim - (intOf t).toNat)
  case atStart => exact ⟨2, by omega, hl.big.1, rfl, World.ownsRow_nil _ _ _ _, Below.refl _ _⟩
  case round =>
    obtain ⟨p, hp2, hpl, rfl, hown, hB⟩ := hrel
    by_cases hpp : p < lim
    · have hlen := hl.lt p hpp
      have hpos := primes_pos p
      have Hnx : Hid (primesBelow (p + 1) = if (primesBelow p).all (fun q => p % q != 0) then primesBelow p ++ [p] else primesBelow p) := primes_next p hp2
      have hb := hl.big.2
      generalize primesBelow p = l at *
      have hown' := hown
      obtain ⟨hxl, hcase⟩ := hown'
      rcases hcase with ⟨rfl, h0⟩ | ⟨g, cap, cur, rfl, hg1, hg2, hg3, hg4, hg5, hg6⟩
      · obtain rfl : l = [] := List.eq_nil_of_length_eq_zero h0
        have i1 : (0 : Int) < n := by simp at hlen; omega
        have hp1 : IntKind.u64.wrap (nv p + 1) = nv (p + 1) := by rw [IntKind.wrap_u64]; unfold nv; omega
        have Hp : Hid (p + 1 ≤ lim ∧ 2 ≤ p + 1) := ⟨hpp, by omega⟩
        have Hn : Hid (primesBelow (p + 1) = [p]) := by show _ = _; rw [Hnx.out]; rfl
        obtain ⟨i0, hi, hz0, hz1, hz2⟩ := info_parts info60
        have hn1 := has_new wr #[.int .u64 (nv p)] 82 wr.heap.size rfl
        have hBs : Hid (w.heap.size ≤ wr.heap.size) := hB.size
        clear hpos Hnx hxl h0
        go_wp2_with fail
        go_loop [5, 6] (fun b i => i = .int .i64 0 ∧ b = .bool true) (fun _ i => 0)
        case atStart => exact ⟨rfl, rfl⟩
        case round =>
          obtain ⟨rfl, rfl⟩ := hrel
          go_wp2_with (refine wpList_append_own _ rfl _ _ 93 rfl w.heap.size 82 i0 (.int .u64 0) 1 8 Tryd.underlying93 hi hz0 hz1 hz2 rfl (by omega) _ 0 [] rfl (hown.alloc _) ⟨wr.heap.size, 0, none⟩ 1 1 [uv p] rfl rfl (fun j u hu => by rw [Addr.add_mid, Nat.zero_add, hn1.cell, ← hu]; simp [uv]) (fun u hu => by simp at hu; subst hu; rfl) (by simp only [maxLen]; omega) (by omega) (by have := hBs.out; simp; omega) ?_; intro v' w2 hown2 hgr hnil; clear hnil)
          have hB2 : Below w.heap.size w w2 := below_grown hB hgr (fun k hk => by cases hk)
          go_roundw
          case rel => exact ⟨p + 1, Hp.out.2, Hp.out.1, rfl, by rw [Hn.out]; exact hown2, hB2⟩
          case measure => simp [intOf, nv]; omega
      · have i1 : (l.length : Int) < n := by omega
        have hcell : Hid (∀ i, i < l.length → wr.cell? ⟨g, i, none⟩ = some (.int .u64 (nv (l[i]?.getD 0)))) := fun i hi => by
          have := hown.cells (g := g) rfl i (uv (l[i]?.getD 0)) (by simp [hi])
          rw [Addr.add_mid, Nat.zero_add] at this
          exact this
        have Hall : Hid (∀ k, k < l.length → (l.take (k + 1)).all (fun q => p % q != 0) = ((l.take k).all (fun q => p % q != 0) && (p % (l[k]?.getD 0) != 0))) := fun k hk => by
          rw [List.take_succ_eq_append_getElem hk, List.all_append]; simp [hk]
        have Hend : Hid (∀ k, (l.take k).all (fun q => p % q != 0) = false → l.all (fun q => p % q != 0) = false) := fun k h => by
          rw [← List.take_append_drop k l, List.all_append, h]; rfl
        have hp1 : IntKind.u64.wrap (nv p + 1) = nv (p + 1) := by rw [IntKind.wrap_u64]; unfold nv; omega
        have Hp : Hid (p + 1 ≤ lim ∧ 2 ≤ p + 1) := ⟨hpp, by omega⟩
        have hpos' : Hid (∀ q : Nat, q ∈ l → 2 ≤ q ∧ q < p) := hpos
        have Hg : Hid (n ≤ 64 ∧ l.length < n ∧ w.heap.size ≤ wr.heap.size) := ⟨hn, hlen, hB.size⟩
        clear hpos hg6 hg5 hg4 hg2 hxl hg1
        go_wp2_with fail
        go_loop [5, 6] (fun b i => ∃ k : Nat, k ≤ l.length ∧ i = .int .i64 k ∧ b = .bool ((l.take k).all (fun q => p % q != 0))) (fun _ i => l.length - (intOf i).toNat)
        case atStart => exact ⟨0, by omega, rfl, rfl⟩
        case round =>
          obtain ⟨k, hk, rfl, rfl⟩ := hrel
          by_cases hkl : k < l.length
          · have i2 : (k : Int) < l.length := by omega
            have hc := hcell.out k hkl
            have Ha := Hall.out k hkl
            have hq := hpos'.out (l[k]?.getD 0) (by rw [List.getElem?_eq_getElem hkl]; exact List.getElem_mem _)
            generalize l[k]?.getD 0 = q at *
            generalize hbb : (l.take k).all (fun q => p % q != 0) = b at *
            cases b with
            | true =>
              have z1 : ¬ nv q = 0 := by unfold nv; omega
              have z2 : (nv p).tmod (nv q) = nv (p % q) := by unfold nv; rw [Int.tmod_eq_emod_of_nonneg (by omega)]; rfl
              have z3 : IntKind.u64.wrap (nv (p % q)) = nv (p % q) := wr64 _ (by have := Nat.mod_lt p (show q > 0 by omega); omega)
              have z4 : (nv (p % q) != 0) = (p % q != 0) := by
                rw [Bool.eq_iff_iff, bne_iff_ne, bne_iff_ne]; unfold nv; omega
              have Ha' : Hid ((l.take (k + 1)).all (fun q => p % q != 0) = (p % q != 0)) := by show _ = _; rw [Ha]; rfl
              clear Ha hbb hq
              generalize p % q = m at *
              go_wp2_with fail
              go_round
              case rel => exact ⟨k + 1, by omega, by go_num, by rw [Ha'.out]⟩
              case measure => simp [intOf]; omega
            | false =>
              have He := Hend.out k hbb
              have Hn : Hid (primesBelow (p + 1) = l) := by show _ = _; rw [Hnx.out, He]; rfl
              clear He hbb Ha
              go_wp2_with fail
              go_roundw
              case rel => exact ⟨p + 1, Hp.out.2, Hp.out.1, rfl, by rw [Hn.out]; exact hown, hB⟩
              case measure => simp [intOf, nv]; omega
          · have ek : k = l.length := by omega
            subst ek
            rw [List.take_length]
            generalize hbb : l.all (fun q => p % q != 0) = b at *
            cases b with
            | false =>
              have Hn : Hid (primesBelow (p + 1) = l) := by show _ = _; rw [Hnx.out]; rfl
              go_wp2_with fail
              go_roundw
              case rel => exact ⟨p + 1, Hp.out.2, Hp.out.1, rfl, by rw [Hn.out]; exact hown, hB⟩
              case measure => simp [intOf, nv]; omega
            | true =>
              have Hn : Hid (primesBelow (p + 1) = l ++ [p]) := by show _ = _; rw [Hnx.out]; rfl
              obtain ⟨i0, hi, hz0, hz1, hz2⟩ := info_parts info60
              have hn1 := has_new wr #[.int .u64 (nv p)] 82 wr.heap.size rfl
              have hg1 : Hid (w.heap.size ≤ g) := (hown.lt g rfl).1
              clear hbb Hnx Hend
              go_wp2_with (refine wpList_append_own _ rfl _ _ 93 rfl w.heap.size 82 i0 (.int .u64 0) 1 8 Tryd.underlying93 hi hz0 hz1 hz2 rfl (by omega) _ l.length (l.map uv) rfl (hown.alloc _) ⟨wr.heap.size, 0, none⟩ 1 1 [uv p] rfl rfl (fun j u hu => by rw [Addr.add_mid, Nat.zero_add, hn1.cell, ← hu]; simp [uv]) (fun u hu => by simp at hu; subst hu; rfl) (by have := Hg.out; simp only [maxLen]; omega) (by have := Hg.out; omega) (by have := Hg.out; simp; omega) ?_; intro v' w2 hown2 hgr hnil; clear hnil)
              have hB2 : Below w.heap.size w w2 := below_grown hB hgr (fun k hk => by cases hk; exact hg1.out)
              go_roundw
              case rel => exact ⟨p + 1, Hp.out.2, Hp.out.1, rfl, by rw [Hn.out, List.length_append, List.map_append]; exact hown2, hB2⟩
              case measure => simp [intOf, nv]; omega
    · have ep : p = lim := by omega
      subst ep
      have hlen := hl.eq
      rw [hlen] at hown
      have hown' := hown
      obtain ⟨hxl, hcase⟩ := hown'
      rcases hcase with ⟨rfl, h0⟩ | ⟨g, cap, cur, rfl, hg1, hg2, hg3, hg4, hg5, hg6⟩
      · subst h0
        clear hxl hlen hl
        go_wp2_with fail
        go_ret
        exact ⟨_, rfl, hown, hB⟩
      · clear hxl hlen hl hg2 hg5 hg6 hg4
        go_wp2_with fail
        go_ret
        exact ⟨_, rfl, hown, hB⟩
end Go.Proofs.YtcmkjgodgocdfaaDoor
