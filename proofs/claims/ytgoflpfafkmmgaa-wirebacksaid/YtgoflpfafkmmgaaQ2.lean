/- Takes that come in; how reader and writer stand in 'again'. -/
import Derived.Test.YtgoflpfafkmmgaaQ1
namespace Go.Proofs.Ytgoflpfafkmmgaa
open Go.ChangeShapes Go.WideShapes Go.ChangeAt Go.RowKit

theorem same_any (r : Nat) (lv : Value) (rest out : List UInt8) (at_ : Nat) (x : AddD) (sv : Value) (hw0 : 0 ≤ x.what) (hw4 : x.what ≤ 4) (hn : x.n ≤ 9223372036854775807) (hd : x.d.length ≤ 1000000000) (w : World) (hb : In w sv x.d) (hl : layL x.what x.n x.d = some out)
    (hR : Rd w r lv (out ++ rest) at_ 0) (hat : at_ + (out ++ rest).length ≤ 10000000000) :
    Calls Try.prog 36 #[.pointer (some ⟨r, 0, none⟩), .agg #[.int .i64 x.what, .int .i64 x.n, sv]] w fun e w' => Behind w w' r rest (at_ + out.length) e := by
  obtain ⟨what, n, d⟩ := x
  obtain ⟨xa, xc, rfl⟩ := hb.slice
  simp only at *
  unfold layL at hl
  obtain rfl | rfl | rfl | rfl | rfl : what = 0 ∨ what = 1 ∨ what = 2 ∨ what = 3 ∨ what = 4 := by omega
  · simp only [if_true] at hl
    by_cases hn0 : n < 0
    · rw [if_pos hn0] at hl; cases hl
    · rw [if_neg hn0] at hl
      obtain ⟨m, rfl⟩ := Int.eq_ofNat_of_zero_le (by omega : 0 ≤ n)
      simp only [Int.toNat_natCast, Option.some.injEq] at hl
      subst hl
      exact same_0 r lv rest at_ m (by omega) xa _ xc w hR hat
  · simp only [if_neg (show ¬ (1 : Int) = 0 by decide), if_true] at hl
    by_cases hi : inS n = true
    · rw [if_pos hi] at hl
      simp only [Option.some.injEq] at hl
      subst hl
      exact same_1 r lv rest at_ n hi xa _ xc w hR hat
    · rw [if_neg hi] at hl; cases hl
  · simp at hl
    subst hl
    exact same_2 r lv rest at_ n d hd xa xc w hb hR hat
  · simp at hl
    subst hl
    exact same_3 r lv rest at_ n d hd xa xc w hb hR hat
  · simp at hl
    by_cases hz : n = 0
    · simp [hz] at hl
      subst hl
      exact same_4false r lv rest at_ n hz xa _ xc w hR hat
    · simp [hz] at hl
      subst hl
      exact same_4true r lv rest at_ n hz xa _ xc w hR hat
/-- Takes that come in, two cells each. -/
structure Takes (W : World) (v : Value) (xs : List (Int × Int)) (a : Option Addr) (cap b o : Nat) : Prop where
  val : v = .slice a xs.length cap
  at_ : xs ≠ [] → a = some ⟨b, o, none⟩
  c0 : ∀ i x, xs[i]? = some x → W.cell? ⟨b, o + i * 2, none⟩ = some (.int .i64 x.1)
  c1 : ∀ i x, xs[i]? = some x → W.cell? ⟨b, o + i * 2 + 1, none⟩ = some (.int .i64 x.2)
  len : xs.length ≤ maxLen
theorem takes_of {H : Type} {enc : TypeId × Value → H} {W : World} {base : Nat} {r : Reach} {v : Value} {d : DataW H} {ps : List MemPlace} (hv : Value.okWide Try.prog W r base 61 v) (h : DataW.Trod enc Try.prog W 0 (fun _ => true) true 61 v d ps) :
    ∃ xs a cap b o, Takes W v xs a cap b o := by
  obtain ⟨a0, len, cap, rfl⟩ := okWide_slice Try.underlying61 hv
  obtain ⟨fuel, hf⟩ := h
  have hc : Try.prog.cellsOf 63 = 2 := by kernel_rfl
  rcases DataW.trod_slice Try.underlying61 hf with ⟨hcs, _⟩ | ⟨a, len', cap', elems, rest, n, rfl, hcs, _, _, hle, hmx, hel, hall, _, _⟩
  · simp [Value.cells] at hcs
    obtain ⟨rfl, rfl, rfl⟩ := hcs
    exact ⟨[], none, 0, 0, 0, rfl, fun h => absurd rfl h, fun i x h => by simp at h, fun i x h => by simp at h, by simp [maxLen]⟩
  · simp [Value.cells] at hcs
    obtain ⟨rfl, rfl, rfl⟩ := hcs
    rw [hc] at hall
    have each : ∀ i, i < len → ∃ y : Int × Int, W.cell? ((a.add (i * 2)).add 0) = some (.int .i64 y.1) ∧ W.cell? ((a.add (i * 2)).add 1) = some (.int .i64 y.2) := fun i hi => by
      have h1 := hall i hi
      rw [List.getElem?_eq_getElem (by omega)] at h1
      rw [Option.bind_eq_some_iff] at h1
      obtain ⟨cs, hcs, htr⟩ := h1
      unfold World.cells? at hcs
      rw [if_pos (Nat.zero_le _)] at hcs
      have hg : ∀ j : Nat, j < 2 → W.cell? ((a.add (i * 2)).add j) = cs[j]? := fun j hj => mapM_some_get hcs j j (by simp [hj])
      have hl : cs.length = 2 := by simpa using mapM_some_length hcs
      match cs, hl with
      | [e0, e1], _ =>
        have g0 : W.cell? ((a.add (i * 2)).add 0) = some e0 := hg 0 (by omega)
        have g1 : W.cell? ((a.add (i * 2)).add 1) = some e1 := hg 1 (by omega)
        obtain ⟨y0, y1, n', _, _, t0, t1⟩ := trod_struct2 Try.underlying63 htr
        have k3 : Try.prog.cellsOf 3 = 1 := by kernel_rfl
        have k2 : Try.prog.cellsOf 2 = 1 := by kernel_rfl
        simp only [k3, k2, List.drop_zero, List.drop_succ_cons, List.take_succ_cons, List.take_zero] at t0 t1
        obtain ⟨z0, q0, _, _⟩ := DataW.trod_int Try.underlying3 t0
        obtain ⟨z1, q1, _, _⟩ := DataW.trod_int Try.underlying2 t1
        simp only [List.cons.injEq, and_true] at q0 q1
        subst q0 q1
        exact ⟨(z0, z1), g0, g1⟩
    by_cases h0 : len = 0
    · subst h0
      exact ⟨[], some a, cap, 0, 0, rfl, fun h => absurd rfl h, fun i x h => by simp at h, fun i x h => by simp at h, by simp [maxLen]⟩
    · obtain ⟨y, hy⟩ := Go.Deep.choose_lt each
      have hsp := spot_none (hy 0 (by omega)).1
      obtain ⟨b, o, sp⟩ := a
      obtain rfl : sp = none := by unfold Addr.add at hsp; cases sp <;> simp_all
      have hget : ∀ i x, ((List.range len).map y)[i]? = some x → i < len ∧ x = y i := fun i x h => by
        rw [List.getElem?_map] at h
        by_cases hi : i < len
        · simp [hi] at h; exact ⟨hi, h.symm⟩
        · simp [show len ≤ i by omega] at h
      refine ⟨(List.range len).map y, some ⟨b, o, none⟩, cap, b, o, by simp, fun _ => rfl, fun i x h => ?_, fun i x h => ?_, by simp; omega⟩
      · obtain ⟨hi, rfl⟩ := hget i x h
        have := (hy i hi).1
        rw [Addr.add_mid, Addr.add_mid] at this
        exact this
      · obtain ⟨hi, rfl⟩ := hget i x h
        have := (hy i hi).2
        rw [Addr.add_mid, Addr.add_mid] at this
        exact this

/-- The blocks in which what is left of the reader doesn't lie. -/
def RB (r p k : Nat) : Prop := k = r ∨ p ≤ k
/-- How reader and writer stand: what was taken was laid. -/
structure Ag (b : List UInt8) (N : Nat) (w0 : World) (r p : Nat) (w : World) (lv : Value) (at_ fl : Nat) (v : Value) : Prop where
  rd : Rd w r lv (b.drop at_) at_ fl
  ap : BytesAp (RB r p) w lv (b.drop at_)
  wr : Wr w p v (b.take at_)
  le : at_ ≤ b.length
  below : Below N w0 w
  hi : ∀ k, WS p v k → p ≤ k
  rp : r < p
  nr : N ≤ r
theorem Ag.grow {b : List UInt8} {N : Nat} {w0 w w' : World} {r p : Nat} {lv v : Value} {at_ fl : Nat} (h : Ag b N w0 r p w lv at_ fl v) (k : Below w.heap.size w w') : Ag b N w0 r p w' lv at_ fl v :=
  ⟨h.rd.below k, h.ap.fr (S' := fun _ => False) (Fr.of_below k) (fun _ _ h => h.elim), h.wr.below k, h.le, h.below.trans (k.mono (by have := h.rd.lt; have := h.nr; omega)), h.hi, h.rp, h.nr⟩
theorem Ag.nw {b : List UInt8} {N : Nat} {w0 w : World} {r p : Nat} {lv v : Value} {at_ fl : Nat} (h : Ag b N w0 r p w lv at_ fl v) : ¬ WS p v r := fun e => by have := h.hi r e; have := h.rp; omega
theorem Ag.flaws {b : List UInt8} {N : Nat} {w0 w w' : World} {r p : Nat} {lv v : Value} {at_ ec : Nat} (h : Ag b N w0 r p w lv at_ 0 v) (k : Flaws w w' r lv (b.drop at_) at_ ec) : Ag b N w0 r p w' lv at_ ec v :=
  ⟨k.1, h.ap.fr (Fr.of_ex k.2) (fun i _ e => .inl e), h.wr.fr (Fr.of_ex k.2) (fun i e e' => h.nw (by rw [← e]; exact e')), h.le, Below.ex h.below (by have := h.rd.lt; have := h.nr; omega) k.2 h.nr, h.hi, h.rp, h.nr⟩
/-- Between what is taken and what is laid. -/
structure AgM (b : List UInt8) (N : Nat) (w0 : World) (r p : Nat) (w : World) (lv : Value) (at_ : Nat) (out : List UInt8) (v : Value) : Prop where
  rd : Rd w r lv (b.drop (at_ + out.length)) (at_ + out.length) 0
  ap : BytesAp (RB r p) w lv (b.drop (at_ + out.length))
  wr : Wr w p v (b.take at_)
  le : at_ + out.length ≤ b.length
  below : Below N w0 w
  hi : ∀ k, WS p v k → p ≤ k
  rp : r < p
  nr : N ≤ r
  eq : b.take (at_ + out.length) = b.take at_ ++ out
theorem Ag.took {b : List UInt8} {N : Nat} {w0 w w' : World} {r p : Nat} {lv v : Value} {at_ : Nat} {out rest : List UInt8} (h : Ag b N w0 r p w lv at_ 0 v) (k : TookR (RB r p) w w' r rest (at_ + ((b.drop at_).length - rest.length))) (hs : b.drop at_ = out ++ rest) : ∃ lv', AgM b N w0 r p w' lv' at_ out v := by
  obtain ⟨lv', ⟨h1, h2⟩, h3⟩ := k
  have hl : (b.drop at_).length - rest.length = out.length := by rw [hs]; simp
  rw [hl] at h1
  have hle : at_ + out.length ≤ b.length := by
    have := congrArg List.length hs
    simp at this
    have := h.le; omega
  have hr : rest = b.drop (at_ + out.length) := by
    rw [← List.drop_drop, hs, List.drop_left]
  rw [hr] at h1 h2
  refine ⟨lv', h1, h2, h.wr.fr (Fr.of_ex h3) (fun i e e' => h.nw (by rw [← e]; exact e')), hle, Below.ex h.below (by have := h.rd.lt; have := h.nr; omega) h3 h.nr, h.hi, h.rp, h.nr, ?_⟩
  rw [List.take_add, hs, List.take_left]
theorem AgM.grow {b : List UInt8} {N : Nat} {w0 w w' : World} {r p : Nat} {lv v : Value} {at_ : Nat} {out : List UInt8} (h : AgM b N w0 r p w lv at_ out v) (k : Below w.heap.size w w') : AgM b N w0 r p w' lv at_ out v :=
  ⟨h.rd.below k, h.ap.fr (S' := fun _ => False) (Fr.of_below k) (fun _ _ h => h.elim), h.wr.below k, h.le, h.below.trans (k.mono (by have := h.rd.lt; have := h.nr; omega)), h.hi, h.rp, h.nr, h.eq⟩
theorem AgM.laid {b : List UInt8} {N : Nat} {w0 w w' : World} {r p : Nat} {lv v : Value} {at_ : Nat} {out : List UInt8} {e : Ending} (h : AgM b N w0 r p w lv at_ out v) (hb : b.length ≤ 2000) (k : Laid w w' p v (b.take at_) out e) : e = .returned (.int .i64 0) ∧ ∃ v', Ag b N w0 r p w' lv (at_ + out.length) 0 v' := by
  have hle := h.le
  obtain ⟨h1, v', h2, h3, h4⟩ := k.ok (by simp; omega)
  rw [← h.eq] at h2
  have hz := h3.size
  have hr1 : ¬ WS p v r := fun e => by have := h.hi r e; have := h.rp; omega
  have hap := h.ap.fr h3 (fun i _ e => .inr (h.hi i e))
  refine ⟨h1, v', ⟨h.rd.has.fr h3 hr1, hap.mono (fun k _ e => .inl e)⟩, hap, h2, h.le, Fr.below h.below h3 (by have := h.rd.lt; have := h.nr; omega) (fun i hi e => by have := h.hi i e; have := h.rp; have := h.nr; omega), fun i hi => ?_, h.rp, h.nr⟩
  rcases hi with hi | hi
  · omega
  · rcases h4 i hi with h5 | h5
    · exact h.hi i (.inr h5)
    · have := h.wr.has.lt; omega
end Go.Proofs.Ytgoflpfafkmmgaa
