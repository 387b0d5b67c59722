/- What is laid, whatever it is; calls that come in; are they few. -/
import Derived.Test.YtgoflpfafkmmgaaJ3
import Derived.Test.YtgoflpfafkmmgaaF1
import Derived.Deep.Strs
import Derived.Deep.Slices
namespace Go.Proofs.Ytgoflpfafkmmgaa
open Go.ChangeShapes Go.WideShapes Go.ChangeAt Go.RowKit

theorem lay_any (p : Nat) (v xv : Value) (bs x : List UInt8) (what n : Int) (hn : n ≤ 9223372036854775807) (w : World) (hW : Wr w p v bs) (hx : InAp (WS p v) w xv x) (hsm : x.length ≤ 1000000000)
    (hfit : bs.length + ((layL what n x).getD []).length ≤ 1048576) :
    Calls Try.prog 13 #[.pointer (some ⟨p, 0, none⟩), .agg #[.int .i64 what, .int .i64 n, xv]] w fun e w' => LayR w w' p v bs (layL what n x) e := by
  obtain ⟨xa, xc, rfl⟩ := hx.slice
  unfold layL at hfit ⊢
  by_cases h0 : what = 0
  · subst h0
    simp only [if_true] at hfit ⊢
    by_cases hn0 : n < 0
    · simp only [if_pos hn0]
      exact lay_0bad p v bs n hn0 w hW xa _ xc
    · simp only [if_neg hn0] at hfit ⊢
      obtain ⟨m, rfl⟩ := Int.eq_ofNat_of_zero_le (by omega : 0 ≤ n)
      exact lay_0 p v bs m (by omega) w hW (by simpa using hfit) xa _ xc
  · simp only [if_neg h0] at hfit ⊢
    by_cases h1 : what = 1
    · subst h1
      simp only [if_true] at hfit ⊢
      cases hi : inS n with
      | false => exact lay_1bad p v bs n hi w hW xa _ xc
      | true =>
        rw [hi] at hfit
        exact lay_1 p v bs n hi w hW (by simpa using hfit) xa _ xc
    · simp only [if_neg h1] at hfit ⊢
      by_cases h2 : what = 2
      · subst h2
        rw [if_pos (.inl rfl)] at hfit ⊢
        exact lay_2 p v bs x n w hW (by simpa using hfit) xa xc hx hsm
      · by_cases h3 : what = 3
        · subst h3
          rw [if_pos (.inr rfl)] at hfit ⊢
          exact lay_3 p v bs x n w hW (by simpa using hfit) xa xc hx hsm
        · rw [if_neg (by omega)] at hfit ⊢
          by_cases h4 : what = 4
          · subst h4
            simp only [if_true] at hfit ⊢
            by_cases hz : n = 0
            · rw [if_pos hz] at hfit ⊢
              exact lay_4false p v bs n hz w hW (by simpa using hfit) xa _ xc
            · rw [if_neg hz] at hfit ⊢
              exact lay_4true p v bs n hz w hW (by simpa using hfit) xa _ xc
          · rw [if_neg h4] at hfit ⊢
            exact lay_5 p v bs x what n ⟨h0, h1, h2, h3, h4⟩ w hW (by simpa using hfit) xa xc hx hsm
theorem layL_len (what n : Int) (hn : n ≤ 9223372036854775807) (x : List UInt8) (hx : x.length ≤ 5000) : ((layL what n x).getD []).length ≤ 2 * (30 + x.length) := by
  unfold layL
  split
  · split
    · simp
    · have := numL_len9 n.toNat (by omega)
      simp; omega
  · split
    · split
      · rename_i h
        have := numL_len9 (foldN n) (foldN_lt n h)
        simp; omega
      · simp
    · split
      · have := numL_len9 x.length (by omega)
        simp [bytL]; omega
      · split
        · simp; omega
        · simp; omega

/-- A call that comes in: what, a number, bytes. -/
structure AddD where
  what : Int
  n : Int
  d : List UInt8
/-- Calls that come in, three cells each. -/
structure Adds (W : World) (v : Value) (xs : List AddD) (a : Option Addr) (cap b o : Nat) (S : Nat → Value) : Prop where
  val : v = .slice a xs.length cap
  at_ : xs ≠ [] → a = some ⟨b, o, none⟩
  c0 : ∀ i x, xs[i]? = some x → W.cell? ⟨b, o + i * 3, none⟩ = some (.int .i64 x.what)
  c1 : ∀ i x, xs[i]? = some x → W.cell? ⟨b, o + i * 3 + 1, none⟩ = some (.int .i64 x.n)
  c2 : ∀ i x, xs[i]? = some x → W.cell? ⟨b, o + i * 3 + 2, none⟩ = some (S i)
  by_ : ∀ i x, xs[i]? = some x → In W (S i) x.d
  wf : ∀ x ∈ xs, -9223372036854775808 ≤ x.n ∧ x.n ≤ 9223372036854775807
  len : xs.length ≤ maxLen
theorem bytes_trod {H : Type} {enc : TypeId × Value → H} {W : World} {fuel : Nat} {cs : List Value} {y : DataW H × List MemPlace} (h : DataW.trod enc Try.prog W 0 (fun _ => true) true fuel 27 cs = some y) : ∃ v x, cs = [v] ∧ In W v x := by
  have hc : Try.prog.cellsOf 5 = 1 := by kernel_rfl
  rcases open_ints Try.underlying27 Try.underlying5 hc h with ⟨hcs, _⟩ | ⟨a, len, cap, zs, hcs, _, hle, _, hall, _, hcell, hwf⟩
  · exact ⟨_, [], hcs, .inl ⟨rfl, none, 0, rfl⟩⟩
  · simp only [if_true] at hall
    have hx : ((zs.take len).map fun z => UInt8.ofNat z.toNat).length = len := by simp; omega
    by_cases h0 : len = 0
    · subst h0
      exact ⟨_, [], hcs, .inl ⟨rfl, some a, cap, rfl⟩⟩
    · have hsp := spot_none (hcell 0 (by omega))
      obtain ⟨b, o, sp⟩ := a
      obtain rfl : sp = none := hsp
      have hlt : b < W.heap.size := block_of_cell (hcell 0 (by omega))
      refine ⟨_, _, hcs, .inr ⟨some ⟨b, o, none⟩, cap, b, o, by rw [hx], by rw [hx]; exact hle, fun _ => rfl, fun j hj => ?_, hlt⟩⟩
      rw [hx] at hj
      have hj' := hcell j (by omega)
      rw [Addr.add_mid] at hj'
      rw [hj']
      have hw := hwf (zs.getD j 0) (by rw [List.getD_eq_getElem?_getD, List.getElem?_eq_getElem (by omega)]; exact List.getElem_mem _)
      have hb := bounds_u8 hw
      have e : ((zs.take len).map fun z => UInt8.ofNat z.toNat)[j]?.getD 0 = UInt8.ofNat (zs.getD j 0).toNat := by
        rw [List.getElem?_map, List.getElem?_take_of_lt hj, List.getD_eq_getElem?_getD, List.getElem?_eq_getElem (by omega)]; rfl
      rw [e]
      refine congrArg (fun z => some (Value.int .u8 z)) ?_
      unfold bv
      rw [UInt8.toNat_ofNat']
      omega
theorem adds_of {H : Type} {enc : TypeId × Value → H} {W : World} {base : Nat} {r : Reach} {v : Value} {d : DataW H} {ps : List MemPlace} (hv : Value.okWide Try.prog W r base 22 v) (h : DataW.Trod enc Try.prog W 0 (fun _ => true) true 22 v d ps) :
    ∃ xs a cap b o S, Adds W v xs a cap b o S := by
  obtain ⟨a0, len, cap, rfl⟩ := okWide_slice Try.underlying22 hv
  obtain ⟨fuel, hf⟩ := h
  have hc : Try.prog.cellsOf 29 = 3 := by kernel_rfl
  rcases DataW.trod_slice Try.underlying22 hf with ⟨hcs, _⟩ | ⟨a, len', cap', elems, rest, n, rfl, hcs, _, _, hle, hmx, hel, hall, _, _⟩
  · simp [Value.cells] at hcs
    obtain ⟨rfl, rfl, rfl⟩ := hcs
    exact ⟨[], none, 0, 0, 0, fun _ => undef, rfl, fun h => absurd rfl h, fun i x h => by simp at h, fun i x h => by simp at h, fun i x h => by simp at h, fun i x h => by simp at h, fun x h => by simp at h, by simp [maxLen]⟩
  · simp [Value.cells] at hcs
    obtain ⟨rfl, rfl, rfl⟩ := hcs
    rw [hc] at hall
    have each : ∀ i, i < len → ∃ y : AddD × Value, W.cell? ((a.add (i * 3)).add 0) = some (.int .i64 y.1.what) ∧ W.cell? ((a.add (i * 3)).add 1) = some (.int .i64 y.1.n) ∧ W.cell? ((a.add (i * 3)).add 2) = some y.2 ∧ In W y.2 y.1.d ∧ (-9223372036854775808 ≤ y.1.n ∧ y.1.n ≤ 9223372036854775807) := fun i hi => by
      have h1 := hall i hi
      rw [List.getElem?_eq_getElem (by omega)] at h1
      rw [Option.bind_eq_some_iff] at h1
      obtain ⟨cs, hcs, htr⟩ := h1
      unfold World.cells? at hcs
      rw [if_pos (Nat.zero_le _)] at hcs
      have hg : ∀ j : Nat, j < 3 → W.cell? ((a.add (i * 3)).add j) = cs[j]? := fun j hj => mapM_some_get hcs j j (by simp [hj])
      have hl : cs.length = 3 := by simpa using mapM_some_length hcs
      match cs, hl with
      | [e0, e1, e2], _ =>
        have g0 : W.cell? ((a.add (i * 3)).add 0) = some e0 := hg 0 (by omega)
        have g1 : W.cell? ((a.add (i * 3)).add 1) = some e1 := hg 1 (by omega)
        have g2 : W.cell? ((a.add (i * 3)).add 2) = some e2 := hg 2 (by omega)
        obtain ⟨y0, y1, y2, n', _, _, t0, t1, t2⟩ := Go.Deep.trod_struct3 Try.underlying29 htr
        have k3 : Try.prog.cellsOf 3 = 1 := by kernel_rfl
        have k2 : Try.prog.cellsOf 2 = 1 := by kernel_rfl
        have k27 : Try.prog.cellsOf 27 = 1 := by kernel_rfl
        simp only [k3, k2, k27, List.drop_zero, List.drop_succ_cons, List.take_succ_cons, List.take_zero] at t0 t1 t2
        obtain ⟨z0, q0, _, _⟩ := DataW.trod_int Try.underlying3 t0
        obtain ⟨z1, q1, _, w1⟩ := DataW.trod_int Try.underlying2 t1
        obtain ⟨v2, x2, q2, hin⟩ := bytes_trod t2
        simp only [List.cons.injEq, and_true] at q0 q1 q2
        subst q0 q1 q2
        exact ⟨(⟨z0, z1, x2⟩, e2), g0, g1, g2, hin, bounds_i64 w1⟩
    by_cases h0 : len = 0
    · subst h0
      exact ⟨[], some a, cap, 0, 0, fun _ => undef, rfl, fun h => absurd rfl h, fun i x h => by simp at h, fun i x h => by simp at h, fun i x h => by simp at h, fun i x h => by simp at h, fun x h => by simp at h, by simp [maxLen]⟩
    · haveI : Inhabited (AddD × Value) := ⟨(⟨0, 0, []⟩, undef)⟩
      obtain ⟨y, hy⟩ := Go.Deep.choose_lt each
      have hsp := spot_none (hy 0 (by omega)).1
      obtain ⟨b, o, sp⟩ := a
      obtain rfl : sp = none := by unfold Addr.add at hsp; cases sp <;> simp_all
      have hget : ∀ i x, ((List.range len).map fun i => (y i).1)[i]? = some x → i < len ∧ x = (y i).1 := fun i x h => by
        rw [List.getElem?_map] at h
        by_cases hi : i < len
        · simp [hi] at h; exact ⟨hi, h.symm⟩
        · simp [show len ≤ i by omega] at h
      refine ⟨(List.range len).map fun i => (y i).1, some ⟨b, o, none⟩, cap, b, o, fun i => (y i).2, by simp, fun _ => rfl, fun i x h => ?_, fun i x h => ?_, fun i x h => ?_, fun i x h => ?_, fun x h => ?_, by simp; omega⟩
      · obtain ⟨hi, rfl⟩ := hget i x h
        have := (hy i hi).1
        rw [Addr.add_mid, Addr.add_mid] at this
        exact this
      · obtain ⟨hi, rfl⟩ := hget i x h
        have := (hy i hi).2.1
        rw [Addr.add_mid, Addr.add_mid] at this
        exact this
      · obtain ⟨hi, rfl⟩ := hget i x h
        have := (hy i hi).2.2.1
        rw [Addr.add_mid, Addr.add_mid] at this
        exact this
      · obtain ⟨hi, rfl⟩ := hget i x h
        exact (hy i hi).2.2.2.1
      · rw [List.mem_map] at h
        obtain ⟨i, hi, rfl⟩ := h
        exact (hy i (by simpa using hi)).2.2.2.2

def wt (x : AddD) : Nat := 30 + min x.d.length 4001
def tot (xs : List AddD) (k : Nat) : Nat := ((xs.take k).map wt).sum
theorem tot_succ (xs : List AddD) (k : Nat) (x : AddD) (h : xs[k]? = some x) : tot xs (k + 1) = tot xs k + wt x := by
  unfold tot
  obtain ⟨hk, he⟩ := List.getElem?_eq_some_iff.1 h
  rw [List.take_succ_eq_append_getElem hk, he, List.map_append, List.sum_append]
  simp
theorem tot_le (xs : List AddD) (k : Nat) : tot xs k ≤ tot xs xs.length := by
  have e : ((xs.take k ++ xs.drop k).map wt).sum = ((xs.take k).map wt).sum + ((xs.drop k).map wt).sum := by rw [List.map_append, List.sum_append]
  rw [List.take_append_drop] at e
  unfold tot
  rw [List.take_length, e]
  exact Nat.le_add_right _ _
/-- Are they few. -/
def fewB (xs : List AddD) : Bool := decide (tot xs xs.length ≤ 4000)
set_option maxRecDepth 10000 in
set_option maxHeartbeats 1000000 in
theorem few_any (v : Value) (xs : List AddD) (a : Option Addr) (cap b o : Nat) (S : Nat → Value) (w : World) (hA : Adds w v xs a cap b o S) :
    Calls Try.prog 10 #[v] w fun e w' => e = .returned (.bool (fewB xs)) ∧ w' = w := by
  obtain rfl := hA.val
  have hlen := hA.len
  unfold maxLen at hlen
  have HL : Hid (xs.length ≤ 9223372036854775807) := hlen
  go_enter Try.func10, Try.ntmps10
  go_wp2_with fail
  go_loop [3, 4] (fun n i => ∃ k : Nat, k ≤ xs.length ∧ i = .int .i64 k ∧ n = .int .i64 (tot xs k) ∧ tot xs k ≤ 9000) (fun _ i => xs.length - (intOf i).toNat)
  case atStart => exact ⟨0, by omega, rfl, rfl, by simp [tot]⟩
  case round =>
    obtain ⟨k, hk, rfl, rfl, ht⟩ := hrel
    by_cases hkl : k < xs.length
    · have i1 : (k : Int) < xs.length := by omega
      by_cases hfew : tot xs k ≤ 4000
      · have hx : xs[k]? = some xs[k] := List.getElem?_eq_getElem hkl
        obtain rfl := hA.at_ (by intro e; simp [e] at hkl)
        have c2 := hA.c2 k _ hx
        have hin := hA.by_ k _ hx
        have Ht := tot_succ xs k _ hx
        generalize xs[k] = x at *
        obtain ⟨sa, sc, hs⟩ := hin.slice
        rw [hs] at c2
        have Hw : Hid (tot xs (k + 1) = tot xs k + (30 + min x.d.length 4001)) := Ht
        clear Ht hin hs hA
        generalize tot xs k = T at *
        have i2 : (T : Int) ≤ 4000 := by omega
        go_wp2_with fail
        go_round
        case rel => exact ⟨k + 1, by omega, by go_num, by rw [Hw.out]; congr 1; split <;> omega, by rw [Hw.out]; omega⟩
        case measure => simp [intOf]; omega
      · have hbad : fewB xs = false := by unfold fewB; have := tot_le xs k; simp; omega
        have i2 : ¬ (tot xs k : Int) ≤ 4000 := by omega
        have HB : Hid (fewB xs = false) := hbad
        clear hbad
        go_wp2_with fail
        go_ret
        exact ⟨by rw [HB.out]; rfl, rfl⟩
    · obtain rfl : k = xs.length := by omega
      have i1 : ¬ (xs.length : Int) < xs.length := by omega
      have HB : Hid (decide ((tot xs xs.length : Int) ≤ 4000) = fewB xs) := by unfold fewB; show _ = _; rw [Bool.eq_iff_iff]; simp; omega
      go_wp2_with fail
      go_ret
      exact ⟨by rw [← HB.out]; rfl, rfl⟩
end Go.Proofs.Ytgoflpfafkmmgaa
