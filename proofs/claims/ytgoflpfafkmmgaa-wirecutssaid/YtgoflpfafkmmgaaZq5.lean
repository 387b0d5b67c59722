/- Texts put together, in build order: Q2, Q3, V1, V2, KL. -/
import Derived.Test.YtgoflpfafkmmgaaZq4
import Derived.Laws.AppendOwn
import Derived.Deep.RegionHeld3
import Derived.OrdersHeld
import Derived.OrdersIn
import Derived.WalkKit
import Derived.Deep.Quiet
/- Takes that come in; how reader and writer stand in 'again'. -/
namespace Go.Proofs.Ytgoflpfafkmmgaa
open Go.ChangeShapes Go.WideShapes Go.ChangeAt Go.RowKit

theorem same_any (r : Nat) (lv : Value) (rest out : List UInt8) (at_ : Nat) (x : AddD) (sv : Value) (hw0 : 0 ≤ x.what) (hw4 : x.what ≤ 4) (hn : x.n ≤ 9223372036854775807) (hd : x.d.length ≤ 1000000000) (w : World) (hb : In w sv x.d) (hl : layL x.what x.n x.d = some out)
    (hR : Rd w r lv (out ++ rest) at_ 0) (hat : at_ + (out ++ rest).length ≤ 10000000000) :
    Calls Try.prog 36 #[.pointer (some ⟨r, 0, none⟩), .agg #[.int .i64 x.what, .int .i64 x.n, sv]] w fun e w' => Behind w w' r rest (at_ + out.length) e := by
  obtain ⟨what, n, d⟩ := x
  obtain ⟨xa, xc, rfl⟩ := hb.slice
  simp only at *
  unfold layL at hl
  obtain rfl | rfl | rfl | rfl | rfl : what = 0 ∨ what = 1 ∨ what = 2 ∨ what = 3 ∨ what = 4 := by omega
  · simp only [if_true] at hl
    by_cases hn0 : n < 0
    · rw [if_pos hn0] at hl; cases hl
    · rw [if_neg hn0] at hl
      obtain ⟨m, rfl⟩ := Int.eq_ofNat_of_zero_le (by omega : 0 ≤ n)
      simp only [Int.toNat_natCast, Option.some.injEq] at hl
      subst hl
      exact same_0 r lv rest at_ m (by omega) xa _ xc w hR hat
  · simp only [if_neg (show ¬ (1 : Int) = 0 by decide), if_true] at hl
    by_cases hi : inS n = true
    · rw [if_pos hi] at hl
      simp only [Option.some.injEq] at hl
      subst hl
      exact same_1 r lv rest at_ n hi xa _ xc w hR hat
    · rw [if_neg hi] at hl; cases hl
  · simp at hl
    subst hl
    exact same_2 r lv rest at_ n d hd xa xc w hb hR hat
  · simp at hl
    subst hl
    exact same_3 r lv rest at_ n d hd xa xc w hb hR hat
  · simp at hl
    by_cases hz : n = 0
    · simp [hz] at hl
      subst hl
      exact same_4false r lv rest at_ n hz xa _ xc w hR hat
    · simp [hz] at hl
      subst hl
      exact same_4true r lv rest at_ n hz xa _ xc w hR hat
/-- Takes that come in, two cells each. -/
structure Takes (W : World) (v : Value) (xs : List (Int × Int)) (a : Option Addr) (cap b o : Nat) : Prop where
  val : v = .slice a xs.length cap
  at_ : xs ≠ [] → a = some ⟨b, o, none⟩
  c0 : ∀ i x, xs[i]? = some x → W.cell? ⟨b, o + i * 2, none⟩ = some (.int .i64 x.1)
  c1 : ∀ i x, xs[i]? = some x → W.cell? ⟨b, o + i * 2 + 1, none⟩ = some (.int .i64 x.2)
  len : xs.length ≤ maxLen
theorem takes_of {H : Type} {enc : TypeId × Value → H} {W : World} {base : Nat} {r : Reach} {v : Value} {d : DataW H} {ps : List MemPlace} (hv : Value.okWide Try.prog W r base 61 v) (h : DataW.Trod enc Try.prog W 0 (fun _ => true) true 61 v d ps) :
    ∃ xs a cap b o, Takes W v xs a cap b o := by
  obtain ⟨a0, len, cap, rfl⟩ := okWide_slice Try.underlying61 hv
  obtain ⟨fuel, hf⟩ := h
  have hc : Try.prog.cellsOf 63 = 2 := by kernel_rfl
  rcases DataW.trod_slice Try.underlying61 hf with ⟨hcs, _⟩ | ⟨a, len', cap', elems, rest, n, rfl, hcs, _, _, hle, hmx, hel, hall, _, _⟩
  · simp [Value.cells] at hcs
    obtain ⟨rfl, rfl, rfl⟩ := hcs
    exact ⟨[], none, 0, 0, 0, rfl, fun h => absurd rfl h, fun i x h => by simp at h, fun i x h => by simp at h, by simp [maxLen]⟩
  · simp [Value.cells] at hcs
    obtain ⟨rfl, rfl, rfl⟩ := hcs
    rw [hc] at hall
    have each : ∀ i, i < len → ∃ y : Int × Int, W.cell? ((a.add (i * 2)).add 0) = some (.int .i64 y.1) ∧ W.cell? ((a.add (i * 2)).add 1) = some (.int .i64 y.2) := fun i hi => by
      have h1 := hall i hi
      rw [List.getElem?_eq_getElem (by omega)] at h1
      rw [Option.bind_eq_some_iff] at h1
      obtain ⟨cs, hcs, htr⟩ := h1
      unfold World.cells? at hcs
      rw [if_pos (Nat.zero_le _)] at hcs
      have hg : ∀ j : Nat, j < 2 → W.cell? ((a.add (i * 2)).add j) = cs[j]? := fun j hj => mapM_some_get hcs j j (by simp [hj])
      have hl : cs.length = 2 := by simpa using mapM_some_length hcs
      match cs, hl with
      | [e0, e1], _ =>
        have g0 : W.cell? ((a.add (i * 2)).add 0) = some e0 := hg 0 (by omega)
        have g1 : W.cell? ((a.add (i * 2)).add 1) = some e1 := hg 1 (by omega)
        obtain ⟨y0, y1, n', _, _, t0, t1⟩ := trod_struct2 Try.underlying63 htr
        have k3 : Try.prog.cellsOf 3 = 1 := by kernel_rfl
        have k2 : Try.prog.cellsOf 2 = 1 := by kernel_rfl
        simp only [k3, k2, List.drop_zero, List.drop_succ_cons, List.take_succ_cons, List.take_zero] at t0 t1
        obtain ⟨z0, q0, _, _⟩ := DataW.trod_int Try.underlying3 t0
        obtain ⟨z1, q1, _, _⟩ := DataW.trod_int Try.underlying2 t1
        simp only [List.cons.injEq, and_true] at q0 q1
        subst q0 q1
        exact ⟨(z0, z1), g0, g1⟩
    by_cases h0 : len = 0
    · subst h0
      exact ⟨[], some a, cap, 0, 0, rfl, fun h => absurd rfl h, fun i x h => by simp at h, fun i x h => by simp at h, by simp [maxLen]⟩
    · obtain ⟨y, hy⟩ := Go.Deep.choose_lt each
      have hsp := spot_none (hy 0 (by omega)).1
      obtain ⟨b, o, sp⟩ := a
      obtain rfl : sp = none := by unfold Addr.add at hsp; cases sp <;> simp_all
      have hget : ∀ i x, ((List.range len).map y)[i]? = some x → i < len ∧ x = y i := fun i x h => by
        rw [List.getElem?_map] at h
        by_cases hi : i < len
        · simp [hi] at h; exact ⟨hi, h.symm⟩
        · simp [show len ≤ i by omega] at h
      refine ⟨(List.range len).map y, some ⟨b, o, none⟩, cap, b, o, by simp, fun _ => rfl, fun i x h => ?_, fun i x h => ?_, by simp; omega⟩
      · obtain ⟨hi, rfl⟩ := hget i x h
        have := (hy i hi).1
        rw [Addr.add_mid, Addr.add_mid] at this
        exact this
      · obtain ⟨hi, rfl⟩ := hget i x h
        have := (hy i hi).2
        rw [Addr.add_mid, Addr.add_mid] at this
        exact this

/-- The blocks in which what is left of the reader doesn't lie. -/
def RB (r p k : Nat) : Prop := k = r ∨ p ≤ k
/-- How reader and writer stand: what was taken was laid. -/
structure Ag (b : List UInt8) (N : Nat) (w0 : World) (r p : Nat) (w : World) (lv : Value) (at_ fl : Nat) (v : Value) : Prop where
  rd : Rd w r lv (b.drop at_) at_ fl
  ap : BytesAp (RB r p) w lv (b.drop at_)
  wr : Wr w p v (b.take at_)
  le : at_ ≤ b.length
  below : Below N w0 w
  hi : ∀ k, WS p v k → p ≤ k
  rp : r < p
  nr : N ≤ r
theorem Ag.grow {b : List UInt8} {N : Nat} {w0 w w' : World} {r p : Nat} {lv v : Value} {at_ fl : Nat} (h : Ag b N w0 r p w lv at_ fl v) (k : Below w.heap.size w w') : Ag b N w0 r p w' lv at_ fl v :=
  ⟨h.rd.below k, h.ap.fr (S' := fun _ => False) (Fr.of_below k) (fun _ _ h => h.elim), h.wr.below k, h.le, h.below.trans (k.mono (by have := h.rd.lt; have := h.nr; omega)), h.hi, h.rp, h.nr⟩
theorem Ag.nw {b : List UInt8} {N : Nat} {w0 w : World} {r p : Nat} {lv v : Value} {at_ fl : Nat} (h : Ag b N w0 r p w lv at_ fl v) : ¬ WS p v r := fun e => by have := h.hi r e; have := h.rp; omega
theorem Ag.flaws {b : List UInt8} {N : Nat} {w0 w w' : World} {r p : Nat} {lv v : Value} {at_ ec : Nat} (h : Ag b N w0 r p w lv at_ 0 v) (k : Flaws w w' r lv (b.drop at_) at_ ec) : Ag b N w0 r p w' lv at_ ec v :=
  ⟨k.1, h.ap.fr (Fr.of_ex k.2) (fun i _ e => .inl e), h.wr.fr (Fr.of_ex k.2) (fun i e e' => h.nw (by rw [← e]; exact e')), h.le, Below.ex h.below (by have := h.rd.lt; have := h.nr; omega) k.2 h.nr, h.hi, h.rp, h.nr⟩
/-- Between what is taken and what is laid. -/
structure AgM (b : List UInt8) (N : Nat) (w0 : World) (r p : Nat) (w : World) (lv : Value) (at_ : Nat) (out : List UInt8) (v : Value) : Prop where
  rd : Rd w r lv (b.drop (at_ + out.length)) (at_ + out.length) 0
  ap : BytesAp (RB r p) w lv (b.drop (at_ + out.length))
  wr : Wr w p v (b.take at_)
  le : at_ + out.length ≤ b.length
  below : Below N w0 w
  hi : ∀ k, WS p v k → p ≤ k
  rp : r < p
  nr : N ≤ r
  eq : b.take (at_ + out.length) = b.take at_ ++ out
theorem Ag.took {b : List UInt8} {N : Nat} {w0 w w' : World} {r p : Nat} {lv v : Value} {at_ : Nat} {out rest : List UInt8} (h : Ag b N w0 r p w lv at_ 0 v) (k : TookR (RB r p) w w' r rest (at_ + ((b.drop at_).length - rest.length))) (hs : b.drop at_ = out ++ rest) : ∃ lv', AgM b N w0 r p w' lv' at_ out v := by
  obtain ⟨lv', ⟨h1, h2⟩, h3⟩ := k
  have hl : (b.drop at_).length - rest.length = out.length := by rw [hs]; simp
  rw [hl] at h1
  have hle : at_ + out.length ≤ b.length := by
    have := congrArg List.length hs
    simp at this
    have := h.le; omega
  have hr : rest = b.drop (at_ + out.length) := by
    rw [← List.drop_drop, hs, List.drop_left]
  rw [hr] at h1 h2
  refine ⟨lv', h1, h2, h.wr.fr (Fr.of_ex h3) (fun i e e' => h.nw (by rw [← e]; exact e')), hle, Below.ex h.below (by have := h.rd.lt; have := h.nr; omega) h3 h.nr, h.hi, h.rp, h.nr, ?_⟩
  rw [List.take_add, hs, List.take_left]
theorem AgM.grow {b : List UInt8} {N : Nat} {w0 w w' : World} {r p : Nat} {lv v : Value} {at_ : Nat} {out : List UInt8} (h : AgM b N w0 r p w lv at_ out v) (k : Below w.heap.size w w') : AgM b N w0 r p w' lv at_ out v :=
  ⟨h.rd.below k, h.ap.fr (S' := fun _ => False) (Fr.of_below k) (fun _ _ h => h.elim), h.wr.below k, h.le, h.below.trans (k.mono (by have := h.rd.lt; have := h.nr; omega)), h.hi, h.rp, h.nr, h.eq⟩
theorem AgM.laid {b : List UInt8} {N : Nat} {w0 w w' : World} {r p : Nat} {lv v : Value} {at_ : Nat} {out : List UInt8} {e : Ending} (h : AgM b N w0 r p w lv at_ out v) (hb : b.length ≤ 2000) (k : Laid w w' p v (b.take at_) out e) : e = .returned (.int .i64 0) ∧ ∃ v', Ag b N w0 r p w' lv (at_ + out.length) 0 v' := by
  have hle := h.le
  obtain ⟨h1, v', h2, h3, h4⟩ := k.ok (by simp; omega)
  rw [← h.eq] at h2
  have hz := h3.size
  have hr1 : ¬ WS p v r := fun e => by have := h.hi r e; have := h.rp; omega
  have hap := h.ap.fr h3 (fun i _ e => .inr (h.hi i e))
  refine ⟨h1, v', ⟨h.rd.has.fr h3 hr1, hap.mono (fun k _ e => .inl e)⟩, hap, h2, h.le, Fr.below h.below h3 (by have := h.rd.lt; have := h.nr; omega) (fun i hi e => by have := h.hi i e; have := h.rp; have := h.nr; omega), fun i hi => ?_, h.rp, h.nr⟩
  rcases hi with hi | hi
  · omega
  · rcases h4 i hi with h5 | h5
    · exact h.hi i (.inr h5)
    · have := h.wr.has.lt; omega
end Go.Proofs.Ytgoflpfafkmmgaa
/- again: what is taken off bytes is laid as they are. -/
namespace Go.Proofs.Ytgoflpfafkmmgaa
open Go.RowKit

theorem InAp.after2 {S R : Nat → Prop} {w : World} {lv : Value} {b : List UInt8} {r at_ fl : Nat} (h : InAp S w lv b) (hR : Rd w r lv b at_ fl) (he : ∃ i, i < w.heap.size ∧ ¬ R i) (hs : ∀ k, k < w.heap.size → R k → S k) : BytesAp R w lv b := by
  rcases h with ⟨rfl, a, c, rfl⟩ | h
  · obtain ⟨i, hi, hn⟩ := he
    obtain ⟨a', c', _, _, e, h2, _⟩ := hR.by_
    exact ⟨a', c', i, 0, e, h2, fun h => absurd rfl h, fun j hj => absurd hj (by simp), hi, hn⟩
  · exact h.mono hs
def again1Φ (d : List UInt8) (s : ByteArray) (p : Nat) (ba : Option Addr) (bl bcap : Nat) : Nat → Value → World → Prop
  | 0, v, _ => v = .pointer (some ⟨p, 0, none⟩)
  | 1, v, w => Bytes w v d
  | 2, v, _ => v = .string s
  | 3, v, _ => v = .slice ba bl bcap
  | 4, v, _ => v = .string s
  | 5, v, _ => v = .bool true
  | 6, v, _ => v = .bool true
  | _, _, _ => False
def again2Φ (d : List UInt8) (s : ByteArray) (p r : Nat) (ba : Option Addr) (bl bcap av : Nat) : Nat → Value → World → Prop
  | 0, v, _ => v = .pointer (some ⟨r, 0, none⟩)
  | 1, v, _ => v = .int .i64 av
  | 2, v, _ => v = .slice ba bl bcap
  | 3, v, _ => v = .int .i64 bl
  | 4, v, _ => v = .bool true
  | 5, v, _ => v = .bool true
  | 6, v, _ => v = .pointer (some ⟨p, 0, none⟩)
  | 7, v, w => Bytes w v d
  | 8, v, _ => v = .string s
  | 9, v, _ => v = .slice ba bl bcap
  | 10, v, _ => v = .pointer (some ⟨r, 0, none⟩)
  | 11, v, _ => v = .int .i64 av
  | 12, v, _ => v = .slice ba av bcap
  | 13, v, _ => v = .string s
  | 14, v, _ => v = .bool true
  | 15, v, _ => v = .bool true
  | 16, v, _ => v = .bool true
  | _, _, _ => False
theorem Bytes.cut {w : World} {a : Option Addr} {c k : Nat} {b : List UInt8} (h : Bytes w (.slice a b.length c) b) (hk : k ≤ b.length) : Bytes w (.slice a k c) (b.take k) := by
  obtain ⟨a', c', db, o, e, hcap, ha, hin, hlt⟩ := h
  simp only [Value.slice.injEq] at e
  obtain ⟨rfl, _, rfl⟩ := e
  refine ⟨a, c, db, o, by rw [List.length_take, Nat.min_eq_left hk], by rw [List.length_take]; omega, fun hne => ha (by intro e; rw [e] at hne; simp at hne), fun j hj => ?_, hlt⟩
  rw [List.length_take] at hj
  have := hin j (by omega)
  rw [List.getElem?_take, if_pos (by omega)]
  exact this
theorem Bytes.cap {w : World} {a : Option Addr} {c : Nat} {b : List UInt8} (h : Bytes w (.slice a b.length c) b) : b.length ≤ c := by
  obtain ⟨a', c', db, o, e, hcap, ha, hin, hlt⟩ := h
  simp only [Value.slice.injEq] at e
  obtain ⟨rfl, _, rfl⟩ := e
  exact hcap
set_option maxRecDepth 100000 in
set_option maxHeartbeats 8000000 in
theorem again_any (bvv : Value) (b : List UInt8) (tv : Value) (ts : List (Int × Int)) (ta : Option Addr) (tcap tb to_ : Nat) (w : World) (hB : Bytes w bvv b) (hT : Takes w tv ts ta tcap tb to_) (hb : b.length ≤ 2000) :
    Calls Try.prog 37 #[bvv, tv] w fun e w' => e = .returned (.bool true) ∧ Below w.heap.size w w' := by
  obtain rfl := hT.val
  have hlen := hT.len
  unfold maxLen at hlen
  have h0 : 0 < w.heap.size := by obtain ⟨_, _, _, _, _, _, _, _, h⟩ := hB; omega
  obtain ⟨ba, bcap, bb, bo, hbv, _⟩ := id hB
  subst hbv
  have HT : Hid (Takes w (.slice ta ts.length tcap) ts ta tcap tb to_) := hT
  have HB : Hid (Bytes w (.slice ba b.length bcap) b) := hB
  clear hT hB
  go_enter Try.func37, Try.ntmps37
  go_wp2_with fail
  refine (readx_any _ b w HB.out (by omega)).mono ?_
  rintro e w1 ⟨r, lv0, rfl, hr, hR1, hB1, hI1⟩
  have hr1 := hR1.lt
  go_wp2_with fail
  refine (wnew_any w1).mono ?_
  rintro e w2 ⟨rfl, hB2, hW2⟩
  obtain ⟨N, hN⟩ : ∃ N, N = w.heap.size := ⟨_, rfl⟩
  obtain ⟨p, hp⟩ : ∃ p, p = w1.heap.size := ⟨_, rfl⟩
  have hA : Ag b N w r p w2 lv0 0 0 (.slice none 0 0) := by
    have hz := hB1.size
    have hap : BytesAp (RB r p) w1 lv0 b := hI1.after2 hR1 ⟨0, by omega, fun e => by unfold RB at e; omega⟩ (fun k hk e => by unfold RB at e; omega)
    refine ⟨hR1.below hB2, hap.fr (S' := fun _ => False) (Fr.of_below hB2) (fun _ _ h => h.elim), by rw [hp]; exact hW2, Nat.zero_le _, by rw [hN]; exact hB1.trans (hB2.mono hz), fun k hk => ?_, by omega, by omega⟩
    rcases hk with hk | hk
    · omega
    · cases hk
  have HNe : Hid (N = w.heap.size) := hN
  rw [← hp]
  clear hB1 hB2 hW2 hR1 hI1 hN hp
  go_wp2_with fail
  go_loopw [7] (fun i wr => ∃ (k : Nat) (lv : Value) (at_ fl : Nat) (v : Value), k ≤ ts.length ∧ i = .int .i64 k ∧ Ag b N w r p wr lv at_ fl v) (fun i _ => ts.length - (intOf i).toNat)
  case atStart => exact ⟨0, _, _, _, _, by omega, rfl, hA⟩
  case round =>
    clear hA
    obtain ⟨k, lv, at_, fl, v, hk, rfl, hAg⟩ := hrel
    by_cases hkl : k < ts.length
    · have i1 : (k : Int) < ts.length := by omega
      have hx : ts[k]? = some ts[k] := List.getElem?_eq_getElem hkl
      obtain rfl := HT.out.at_ (by intro e; simp [e] at hkl)
      have hblt : tb < N := by rw [HNe.out]; exact block_of_cell (HT.out.c0 k _ hx)
      have c0 := (hAg.below.cell (p := ⟨tb, to_ + k * 2, none⟩) hblt).trans (HT.out.c0 k _ hx)
      have c1 := (hAg.below.cell (p := ⟨tb, to_ + k * 2 + 1, none⟩) hblt).trans (HT.out.c1 k _ hx)
      generalize ts[k] = x at *
      obtain ⟨what, n⟩ := x
      simp only at c0 c1
      have HK : Hid (k < ts.length) := hkl
      have hat : at_ + (b.drop at_).length ≤ 10000000000 := by have := hAg.le; simp; omega
      clear hx
      by_cases hw0 : what = 0
      · subst hw0
        go_wp2_with fail
        refine named (p := fun X => Calls _ _ _ X _) ?_
        intro W0 hW0
        have hB0 : Below wr.heap.size wr W0 := by rw [hW0]; exact (Below.refl _ _).alloc (Nat.le_refl _) _
        clear hW0
        have hA0 := hAg.grow hB0
        clear hAg hB0
        by_cases hfl : fl = 0
        · subst hfl
          cases hX : bnd n (lnum n (b.drop at_)) with
          | error ec =>
            have hec : ¬ (ec : Int) = 0 := by have := bnd_ne hX (fun _ => lnum_ne); omega
            refine (rnumberR_any (RB r p) r (.inl rfl) lv _ at_ n W0 hA0.rd hA0.ap hat).mono ?_
            intro e w1 hl
            rw [hX] at hl
            obtain ⟨rfl, hf⟩ := hl
            have HAG : Hid (Ag b N w r p w1 lv at_ ec v) := hA0.flaws hf
            clear hA0 hf hX
            go_wp2_with (first | (go_at_call 14; refine (num_any _ _).mono ?_; rintro e w' ⟨rfl, hw⟩; obtain rfl := hw.symm; clear hw) | fail)
            go_roundw
            case rel => exact ⟨k + 1, _, _, _, _, HK.out, by go_num, HAG.out⟩
            case measure => have := HK.out; simp [intOf]; omega
          | ok q =>
            obtain ⟨m, rest⟩ := q
            refine (rnumberR_any (RB r p) r (.inl rfl) lv _ at_ n W0 hA0.rd hA0.ap hat).mono ?_
            intro e w1 hl
            rw [hX] at hl
            obtain ⟨rfl, ht⟩ := hl
            obtain ⟨hs, hm⟩ := lnum_same (bnd_ok hX)
            obtain ⟨lv1, hM⟩ := hA0.took ht hs
            clear ht hX
            go_wp2_with (first | (go_at_call 14; refine (num_any _ _).mono ?_; rintro e w' ⟨rfl, hw⟩; obtain rfl := hw.symm; clear hw) | fail)
            refine (wnumber_ok p v _ m hm w1 hM.wr).mono ?_
            intro e w2 hl2
            obtain ⟨rfl, v2, hA2⟩ := hM.laid hb hl2
            have HAG : Hid (Ag b N w r p w2 lv1 _ 0 v2) := hA2
            clear hA0 hM hl2 hA2
            go_wp2_with (first | (go_at_call 14; refine (num_any _ _).mono ?_; rintro e w' ⟨rfl, hw⟩; obtain rfl := hw.symm; clear hw) | fail)
            go_roundw
            case rel => exact ⟨k + 1, _, _, _, _, HK.out, by go_num, HAG.out⟩
            case measure => have := HK.out; simp [intOf]; omega
        · have hec : ¬ (fl : Int) = 0 := by omega
          refine (rnumber_flaw r lv _ at_ fl n W0 hA0.rd hfl).mono ?_
          rintro e w1 ⟨rfl, hBf⟩
          have HAG : Hid (Ag b N w r p w1 lv at_ fl v) := hA0.grow hBf
          clear hA0 hBf
          go_wp2_with (first | (go_at_call 14; refine (num_any _ _).mono ?_; rintro e w' ⟨rfl, hw⟩; obtain rfl := hw.symm; clear hw) | fail)
          go_roundw
          case rel => exact ⟨k + 1, _, _, _, _, HK.out, by go_num, HAG.out⟩
          case measure => have := HK.out; simp [intOf]; omega
      · skip
        by_cases hw1 : what = 1
        · subst hw1
          go_wp2_with fail
          refine named (p := fun X => Calls _ _ _ X _) ?_
          intro W0 hW0
          have hB0 : Below wr.heap.size wr W0 := by rw [hW0]; exact (Below.refl _ _).alloc (Nat.le_refl _) _
          clear hW0
          have hA0 := hAg.grow hB0
          clear hAg hB0
          by_cases hfl : fl = 0
          · subst hfl
            cases hX : lsig (b.drop at_) with
            | error ec =>
              have hec : ¬ (ec : Int) = 0 := by have := lsig_ne hX; omega
              refine (rsignedR_any (RB r p) r (.inl rfl) lv _ at_ W0 hA0.rd hA0.ap hat).mono ?_
              intro e w1 hl
              rw [hX] at hl
              obtain ⟨rfl, hf⟩ := hl
              have HAG : Hid (Ag b N w r p w1 lv at_ ec v) := hA0.flaws hf
              clear hA0 hf hX
              go_wp2_with (first | (go_at_call 14; refine (num_any _ _).mono ?_; rintro e w' ⟨rfl, hw⟩; obtain rfl := hw.symm; clear hw) | fail)
              go_roundw
              case rel => exact ⟨k + 1, _, _, _, _, HK.out, by go_num, HAG.out⟩
              case measure => have := HK.out; simp [intOf]; omega
            | ok q =>
              obtain ⟨m, rest⟩ := q
              refine (rsignedR_any (RB r p) r (.inl rfl) lv _ at_ W0 hA0.rd hA0.ap hat).mono ?_
              intro e w1 hl
              rw [hX] at hl
              obtain ⟨rfl, ht⟩ := hl
              obtain ⟨hs, hm⟩ := lsig_same hX
              obtain ⟨lv1, hM⟩ := hA0.took ht hs
              have hws := wsigned_ok p v _ m hm w1 hM.wr
              clear hm hs
              generalize numL (foldN m) = om at *
              clear ht hX
              go_wp2_with (first | (go_at_call 14; refine (num_any _ _).mono ?_; rintro e w' ⟨rfl, hw⟩; obtain rfl := hw.symm; clear hw) | fail)
              refine hws.mono ?_
              intro e w2 hl2
              obtain ⟨rfl, v2, hA2⟩ := hM.laid hb hl2
              have HAG : Hid (Ag b N w r p w2 lv1 _ 0 v2) := hA2
              clear hA0 hM hl2 hA2
              go_wp2_with (first | (go_at_call 14; refine (num_any _ _).mono ?_; rintro e w' ⟨rfl, hw⟩; obtain rfl := hw.symm; clear hw) | fail)
              go_roundw
              case rel => exact ⟨k + 1, _, _, _, _, HK.out, by go_num, HAG.out⟩
              case measure => have := HK.out; simp [intOf]; omega
          · have hec : ¬ (fl : Int) = 0 := by omega
            refine (rsigned_flaw r lv _ at_ fl W0 hA0.rd hfl).mono ?_
            rintro e w1 ⟨rfl, hBf⟩
            have HAG : Hid (Ag b N w r p w1 lv at_ fl v) := hA0.grow hBf
            clear hA0 hBf
            go_wp2_with (first | (go_at_call 14; refine (num_any _ _).mono ?_; rintro e w' ⟨rfl, hw⟩; obtain rfl := hw.symm; clear hw) | fail)
            go_roundw
            case rel => exact ⟨k + 1, _, _, _, _, HK.out, by go_num, HAG.out⟩
            case measure => have := HK.out; simp [intOf]; omega
        · skip
          by_cases hw2 : what = 2
          · subst hw2
            go_wp2_with fail
            refine named (p := fun X => Calls _ _ _ X _) ?_
            intro W0 hW0
            have hB0 : Below wr.heap.size wr W0 := by rw [hW0]; exact (Below.refl _ _).alloc (Nat.le_refl _) _
            clear hW0
            have hA0 := hAg.grow hB0
            clear hAg hB0
            by_cases hfl : fl = 0
            · subst hfl
              cases hX : bnd n (lbyt n (b.drop at_)) with
              | error ec =>
                have hec : ¬ (ec : Int) = 0 := by have := bnd_ne hX (fun _ => lbyt_ne); omega
                refine (rbytesR_any (RB r p) r (.inl rfl) lv _ at_ n W0 hA0.rd hA0.ap hat).mono ?_
                intro e w1 hl
                rw [hX] at hl
                obtain ⟨rfl, hf⟩ := hl
                have HAG : Hid (Ag b N w r p w1 lv at_ ec v) := hA0.flaws hf
                clear hA0 hf hX
                go_wp2_with (first | (go_at_call 14; refine (num_any _ _).mono ?_; rintro e w' ⟨rfl, hw⟩; obtain rfl := hw.symm; clear hw) | fail)
                go_roundw
                case rel => exact ⟨k + 1, _, _, _, _, HK.out, by go_num, HAG.out⟩
                case measure => have := HK.out; simp [intOf]; omega
              | ok q =>
                obtain ⟨m, rest⟩ := q
                refine (rbytesR_any (RB r p) r (.inl rfl) lv _ at_ n W0 hA0.rd hA0.ap hat).mono ?_
                intro e w1 hl
                rw [hX] at hl
                obtain ⟨cv, rfl, ht, hO, hnew⟩ := hl
                have hs := lbyt_same (bnd_ok hX)
                obtain ⟨lv1, hM⟩ := hA0.took ht hs
                have hcl : m.length ≤ 1000000000 := by have := hM.le; unfold bytL at this; simp at this; omega
                have hws := wbytes_in p v cv _ m w1 hM.wr (hO.inap (fun j hj e => by have := hnew j hj; have := hA0.wr.lt j e; omega)) hcl
                obtain ⟨ca, cc, rfl⟩ := hO.slice
                clear hO hnew hs
                clear ht hX
                go_wp2_with (first | (go_at_call 14; refine (num_any _ _).mono ?_; rintro e w' ⟨rfl, hw⟩; obtain rfl := hw.symm; clear hw) | fail)
                refine hws.mono ?_
                intro e w2 hl2
                obtain ⟨rfl, v2, hA2⟩ := hM.laid hb hl2
                have HAG : Hid (Ag b N w r p w2 lv1 _ 0 v2) := hA2
                clear hA0 hM hl2 hA2
                go_wp2_with (first | (go_at_call 14; refine (num_any _ _).mono ?_; rintro e w' ⟨rfl, hw⟩; obtain rfl := hw.symm; clear hw) | fail)
                go_roundw
                case rel => exact ⟨k + 1, _, _, _, _, HK.out, by go_num, HAG.out⟩
                case measure => have := HK.out; simp [intOf]; omega
            · have hec : ¬ (fl : Int) = 0 := by omega
              refine (rbytes_flaw r lv _ at_ fl n W0 hA0.rd hfl).mono ?_
              rintro e w1 ⟨rfl, hBf⟩
              have HAG : Hid (Ag b N w r p w1 lv at_ fl v) := hA0.grow hBf
              clear hA0 hBf
              go_wp2_with (first | (go_at_call 14; refine (num_any _ _).mono ?_; rintro e w' ⟨rfl, hw⟩; obtain rfl := hw.symm; clear hw) | fail)
              go_roundw
              case rel => exact ⟨k + 1, _, _, _, _, HK.out, by go_num, HAG.out⟩
              case measure => have := HK.out; simp [intOf]; omega
          · skip
            by_cases hw3 : what = 3
            · subst hw3
              go_wp2_with fail
              refine named (p := fun X => Calls _ _ _ X _) ?_
              intro W0 hW0
              have hB0 : Below wr.heap.size wr W0 := by rw [hW0]; exact (Below.refl _ _).alloc (Nat.le_refl _) _
              clear hW0
              have hA0 := hAg.grow hB0
              clear hAg hB0
              by_cases hfl : fl = 0
              · subst hfl
                cases hX : bnd n (lbyt n (b.drop at_)) with
                | error ec =>
                  have hec : ¬ (ec : Int) = 0 := by have := bnd_ne hX (fun _ => lbyt_ne); omega
                  refine (rtextR_any (RB r p) r (.inl rfl) lv _ at_ n W0 hA0.rd hA0.ap hat).mono ?_
                  intro e w1 hl
                  rw [hX] at hl
                  obtain ⟨rfl, hf⟩ := hl
                  have HAG : Hid (Ag b N w r p w1 lv at_ ec v) := hA0.flaws hf
                  clear hA0 hf hX
                  go_wp2_with (first | (go_at_call 14; refine (num_any _ _).mono ?_; rintro e w' ⟨rfl, hw⟩; obtain rfl := hw.symm; clear hw) | fail)
                  go_roundw
                  case rel => exact ⟨k + 1, _, _, _, _, HK.out, by go_num, HAG.out⟩
                  case measure => have := HK.out; simp [intOf]; omega
                | ok q =>
                  obtain ⟨m, rest⟩ := q
                  refine (rtextR_any (RB r p) r (.inl rfl) lv _ at_ n W0 hA0.rd hA0.ap hat).mono ?_
                  intro e w1 hl
                  rw [hX] at hl
                  obtain ⟨rfl, ht⟩ := hl
                  have hs := lbyt_same (bnd_ok hX)
                  obtain ⟨lv1, hM⟩ := hA0.took ht hs
                  have hcl : m.length ≤ 1000000000 := by have := hM.le; unfold bytL at this; simp at this; omega
                  have hws := wtext_any p v _ m w1 hM.wr hcl
                  clear hs
                  generalize (⟨m.toArray⟩ : ByteArray) = sm at *
                  clear ht hX
                  go_wp2_with (first | (go_at_call 14; refine (num_any _ _).mono ?_; rintro e w' ⟨rfl, hw⟩; obtain rfl := hw.symm; clear hw) | fail)
                  refine hws.mono ?_
                  intro e w2 hl2
                  obtain ⟨rfl, v2, hA2⟩ := hM.laid hb hl2
                  have HAG : Hid (Ag b N w r p w2 lv1 _ 0 v2) := hA2
                  clear hA0 hM hl2 hA2
                  go_wp2_with (first | (go_at_call 14; refine (num_any _ _).mono ?_; rintro e w' ⟨rfl, hw⟩; obtain rfl := hw.symm; clear hw) | fail)
                  go_roundw
                  case rel => exact ⟨k + 1, _, _, _, _, HK.out, by go_num, HAG.out⟩
                  case measure => have := HK.out; simp [intOf]; omega
              · have hec : ¬ (fl : Int) = 0 := by omega
                refine (rtext_flaw r lv _ at_ fl n W0 hA0.rd hfl).mono ?_
                rintro e w1 ⟨rfl, hBf⟩
                have HAG : Hid (Ag b N w r p w1 lv at_ fl v) := hA0.grow hBf
                clear hA0 hBf
                go_wp2_with (first | (go_at_call 14; refine (num_any _ _).mono ?_; rintro e w' ⟨rfl, hw⟩; obtain rfl := hw.symm; clear hw) | fail)
                go_roundw
                case rel => exact ⟨k + 1, _, _, _, _, HK.out, by go_num, HAG.out⟩
                case measure => have := HK.out; simp [intOf]; omega
            · skip
              by_cases hw4 : what = 4
              · subst hw4
                go_wp2_with fail
                refine named (p := fun X => Calls _ _ _ X _) ?_
                intro W0 hW0
                have hB0 : Below wr.heap.size wr W0 := by rw [hW0]; exact (Below.refl _ _).alloc (Nat.le_refl _) _
                clear hW0
                have hA0 := hAg.grow hB0
                clear hAg hB0
                by_cases hfl : fl = 0
                · subst hfl
                  cases hX : ltru (b.drop at_) with
                  | error ec =>
                    have hec : ¬ (ec : Int) = 0 := by have := ltru_ne hX; omega
                    refine (rtruthR_any (RB r p) r (.inl rfl) lv _ at_ W0 hA0.rd hA0.ap hat).mono ?_
                    intro e w1 hl
                    rw [hX] at hl
                    obtain ⟨rfl, hf⟩ := hl
                    have HAG : Hid (Ag b N w r p w1 lv at_ ec v) := hA0.flaws hf
                    clear hA0 hf hX
                    go_wp2_with (first | (go_at_call 14; refine (num_any _ _).mono ?_; rintro e w' ⟨rfl, hw⟩; obtain rfl := hw.symm; clear hw) | fail)
                    go_roundw
                    case rel => exact ⟨k + 1, _, _, _, _, HK.out, by go_num, HAG.out⟩
                    case measure => have := HK.out; simp [intOf]; omega
                  | ok q =>
                    obtain ⟨m, rest⟩ := q
                    refine (rtruthR_any (RB r p) r (.inl rfl) lv _ at_ W0 hA0.rd hA0.ap hat).mono ?_
                    intro e w1 hl
                    rw [hX] at hl
                    obtain ⟨rfl, ht⟩ := hl
                    have hs := ltru_same hX
                    obtain ⟨lv1, hM⟩ := hA0.took ht hs
                    have hws := wtruth_any p v _ m w1 hM.wr
                    clear hs
                    generalize hgm : [if m = true then (1 : UInt8) else 0] = om at *
                    clear ht hX
                    go_wp2_with (first | (go_at_call 14; refine (num_any _ _).mono ?_; rintro e w' ⟨rfl, hw⟩; obtain rfl := hw.symm; clear hw) | fail)
                    refine hws.mono ?_
                    intro e w2 hl2
                    obtain ⟨rfl, v2, hA2⟩ := hM.laid hb hl2
                    have HAG : Hid (Ag b N w r p w2 lv1 _ 0 v2) := hA2
                    clear hA0 hM hl2 hA2
                    go_wp2_with (first | (go_at_call 14; refine (num_any _ _).mono ?_; rintro e w' ⟨rfl, hw⟩; obtain rfl := hw.symm; clear hw) | fail)
                    go_roundw
                    case rel => exact ⟨k + 1, _, _, _, _, HK.out, by go_num, HAG.out⟩
                    case measure => have := HK.out; simp [intOf]; omega
                · have hec : ¬ (fl : Int) = 0 := by omega
                  refine (rtruth_flaw r lv _ at_ fl W0 hA0.rd hfl).mono ?_
                  rintro e w1 ⟨rfl, hBf⟩
                  have HAG : Hid (Ag b N w r p w1 lv at_ fl v) := hA0.grow hBf
                  clear hA0 hBf
                  go_wp2_with (first | (go_at_call 14; refine (num_any _ _).mono ?_; rintro e w' ⟨rfl, hw⟩; obtain rfl := hw.symm; clear hw) | fail)
                  go_roundw
                  case rel => exact ⟨k + 1, _, _, _, _, HK.out, by go_num, HAG.out⟩
                  case measure => have := HK.out; simp [intOf]; omega
              · skip
                by_cases hw5 : what = 5
                · subst hw5
                  go_wp2_with fail
                  refine named (p := fun X => Calls _ _ _ X _) ?_
                  intro W0 hW0
                  have hB0 : Below wr.heap.size wr W0 := by rw [hW0]; exact (Below.refl _ _).alloc (Nat.le_refl _) _
                  clear hW0
                  have hA0 := hAg.grow hB0
                  clear hAg hB0
                  by_cases hfl : fl = 0
                  · subst hfl
                    cases hX : bnd n (lraw n.toNat (b.drop at_)) with
                    | error ec =>
                      have hec : ¬ (ec : Int) = 0 := by have := bnd_ne hX (fun _ => lraw_ne); omega
                      refine (rrawR_any (RB r p) r (.inl rfl) lv _ at_ n W0 hA0.rd hA0.ap hat).mono ?_
                      intro e w1 hl
                      rw [hX] at hl
                      obtain ⟨rfl, hf⟩ := hl
                      have HAG : Hid (Ag b N w r p w1 lv at_ ec v) := hA0.flaws hf
                      clear hA0 hf hX
                      go_wp2_with (first | (go_at_call 14; refine (num_any _ _).mono ?_; rintro e w' ⟨rfl, hw⟩; obtain rfl := hw.symm; clear hw) | fail)
                      go_roundw
                      case rel => exact ⟨k + 1, _, _, _, _, HK.out, by go_num, HAG.out⟩
                      case measure => have := HK.out; simp [intOf]; omega
                    | ok q =>
                      obtain ⟨m, rest⟩ := q
                      refine (rrawR_any (RB r p) r (.inl rfl) lv _ at_ n W0 hA0.rd hA0.ap hat).mono ?_
                      intro e w1 hl
                      rw [hX] at hl
                      obtain ⟨cv, rfl, ht, hO, hnew⟩ := hl
                      have hs := (lraw_same (bnd_ok hX)).1
                      obtain ⟨lv1, hM0⟩ := hA0.took ht hs
                      have hcl : m.length ≤ 1000000000 := by have := hM0.le; omega
                      have hwl := hM0.wr.lt
                      have hcv := (hO.inap (S := WS p v) (fun j hj e => by have := hnew j hj; have := hA0.wr.lt j e; omega)).after (Below.refl _ _) ⟨r, hM0.rd.lt, hA0.nw⟩
                      obtain ⟨ca, cc, rfl⟩ := hO.slice
                      clear hO hnew hs
                      clear ht hX
                      go_wp2_with (first | (go_at_call 14; refine (num_any _ _).mono ?_; rintro e w' ⟨rfl, hw⟩; obtain rfl := hw.symm; clear hw) | fail)
                      refine named (p := fun X => Calls _ _ _ X _) ?_
                      intro W3 hW3
                      have hB3 : Below w1.heap.size w1 W3 := by rw [hW3]; exact (Below.refl _ _).alloc (Nat.le_refl _) _
                      have hP3 : Parts (WS p v) W3 (.slice (some ⟨w1.heap.size, 0, none⟩) 1 1) [m] := by rw [hW3]; exact parts1 w1 _ hcv hwl rfl
                      clear hW3
                      have hM := hM0.grow hB3
                      have ef : [m].flatten = m := by simp
                      have hraw := raw_any p v _ _ [m] W3 hM.wr hP3 (fun d hd => by simp at hd; subst hd; exact hcl)
                      rw [ef] at hraw
                      refine hraw.mono ?_
                      intro e w2 hl2
                      obtain ⟨rfl, v2, hA2⟩ := hM.laid hb hl2
                      have HAG : Hid (Ag b N w r p w2 lv1 _ 0 v2) := hA2
                      clear hA0 hM hl2 hA2
                      go_wp2_with (first | (go_at_call 14; refine (num_any _ _).mono ?_; rintro e w' ⟨rfl, hw⟩; obtain rfl := hw.symm; clear hw) | fail)
                      go_roundw
                      case rel => exact ⟨k + 1, _, _, _, _, HK.out, by go_num, HAG.out⟩
                      case measure => have := HK.out; simp [intOf]; omega
                  · have hec : ¬ (fl : Int) = 0 := by omega
                    refine (rraw_flaw r lv _ at_ fl n W0 hA0.rd hfl).mono ?_
                    rintro e w1 ⟨rfl, hBf⟩
                    have HAG : Hid (Ag b N w r p w1 lv at_ fl v) := hA0.grow hBf
                    clear hA0 hBf
                    go_wp2_with (first | (go_at_call 14; refine (num_any _ _).mono ?_; rintro e w' ⟨rfl, hw⟩; obtain rfl := hw.symm; clear hw) | fail)
                    go_roundw
                    case rel => exact ⟨k + 1, _, _, _, _, HK.out, by go_num, HAG.out⟩
                    case measure => have := HK.out; simp [intOf]; omega
                · skip
                  go_wp2_with fail
                  have HAG : Hid (Ag b N w r p wr lv at_ fl v) := hAg
                  clear hAg
                  go_roundw
                  case rel => exact ⟨k + 1, _, _, _, _, HK.out, by go_num, HAG.out.grow ((Below.refl _ _).alloc (Nat.le_refl _) _)⟩
                  case measure => have := HK.out; simp [intOf]; omega
    · have i1 : ¬ (k : Int) < ts.length := by omega
      by_cases he : endE (b.drop at_) fl = 0
      · have htk : b.take at_ = b := by
          unfold endE at he
          by_cases h1 : fl = 0
          · subst h1
            by_cases h2 : (b.drop at_).length = 0
            · rw [List.length_drop] at h2; exact List.take_of_length_le (by omega)
            · rw [if_neg (by omega), if_neg h2] at he; omega
          · rw [if_pos h1] at he; omega
        have hend := end_any r lv _ at_ fl wr hAg.rd
        rw [he] at hend
        have hplt := hAg.wr.has.lt
        have hWr := hAg.wr
        have hRd := hAg.rd
        have hBlw := hAg.below
        have hle0 := hAg.le
        have hzN := hBlw.size
        obtain ⟨M, hNe⟩ : ∃ M, M = wr.heap.size := ⟨_, rfl⟩
        have hN : M ≤ wr.heap.size := by omega
        have hNpos : 0 < M := by omega
        have hBy : Bytes wr (.slice ba b.length bcap) b := HB.out.below (by rw [← HNe.out]; exact hBlw)
        rw [htk] at hWr
        clear hAg hRd
        generalize b.length = bl at *
        go_wp2_with (first | (go_at_call 34; refine hend.mono ?_; rintro e w' ⟨rfl, hw⟩; obtain rfl := hw.symm; clear hw) | (first | (go_at_call 14; refine (num_any _ _).mono ?_; rintro e w' ⟨rfl, hw⟩; obtain rfl := hw.symm; clear hw) | fail) | fail)
        clear hend
        generalize b = d at *
        generalize hs : (⟨d.toArray⟩ : ByteArray) = s at *
        refine wp_region_owes (A := [0, 1, 3, 0, 8, 31, 63]) (need := [[(6, none)], [(151, some 0)], [(152, some 1)], [(0, none)], [(154, some 3)], [(153, some 2), (155, some 4)], [(156, some 5)]]) (again1Φ d s p ba bl bcap) M 173 (by kernel_rfl) (by kernel_rfl) (by kernel_rfl) (by kernel_rfl) (by kernel_rfl) (by kernel_rfl) rfl ?stable ?hop ?hend
        case stable =>
          intro i v p q hpq h
          unfold again1Φ at h ⊢
          split at h <;> first | exact h | exact h.le hpq
        case hop =>
          refine ⟨?_, ?_, ?_, ?_, ?_, ?_, ?_, trivial⟩
          · intro a w hle hE
            have h6 : a.tmps.getD 6 undef = .pointer (some ⟨p, 0, none⟩) := hE (6, none) (by simp)
            rw [if_pos (wanted_plain rfl)]
            refine owe_value (v := .pointer (some ⟨p, 0, none⟩)) ?_ (Le.refl _ _) rfl
            go_simp
          · intro a w hle hE
            have h151 : a.tmps.getD 151 undef = .pointer (some ⟨p, 0, none⟩) := hE (151, some 0) (by simp)
            rw [if_pos (wanted_plain rfl)]
            refine owe_call (f := 15) (args := #[.pointer (some ⟨p, 0, none⟩)]) (by go_simp) ?_
            refine (all_any p _ _ w (hWr.below (by rw [← hNe]; exact hle.below))).mono ?_
            rintro e w1 ⟨x, rfl, hn⟩
            exact ⟨_, rfl, Le.of hn.below (Nat.le_trans hN hle.size), hn.own.bytes (Nat.lt_of_lt_of_le (Nat.lt_of_lt_of_le hNpos (Nat.le_trans hN hle.size)) hn.below.size)⟩
          · intro a w hle hE
            have h152 : Bytes w (a.tmps.getD 152 undef) d := hE (152, some 1) (by simp)
            rw [if_pos (wanted_plain rfl)]
            have hcv := bytes_string Try.underlying27 Try.underlying5 Try.underlying9 w _ d h152
            rw [hs] at hcv
            refine owe_value (v := .string s) ?_ (Le.refl _ _) rfl
            have e1 : a.eval (.tmp 152) = a.tmps.getD 152 undef := rfl
            unfold execOp
            simp only [e1, hcv, Sem.run_bind, Sem.run_pure, Result.andThen_ok]
          · intro a w hle hE
            have h0 : a.tmps.getD 0 undef = .slice ba bl bcap := hE (0, none) (by simp)
            rw [if_pos (wanted_plain rfl)]
            refine owe_value (v := .slice ba bl bcap) ?_ (Le.refl _ _) rfl
            go_simp
          · intro a w hle hE
            have h154 : a.tmps.getD 154 undef = .slice ba bl bcap := hE (154, some 3) (by simp)
            rw [if_pos (wanted_plain rfl)]
            have hcv := bytes_string Try.underlying27 Try.underlying5 Try.underlying9 w _ d (hBy.le hle)
            rw [hs] at hcv
            refine owe_value (v := .string s) ?_ (Le.refl _ _) rfl
            have e1 : a.eval (.tmp 154) = _ := h154
            unfold execOp
            simp only [e1, hcv, Sem.run_bind, Sem.run_pure, Result.andThen_ok]
          · intro a w hle hE
            have h153 : a.tmps.getD 153 undef = .string s := hE (153, some 2) (by simp)
            have h155 : a.tmps.getD 155 undef = .string s := hE (155, some 4) (by simp)
            rw [if_pos (wanted_plain rfl)]
            refine owe_value (v := .bool true) ?_ (Le.refl _ _) rfl
            go_simp
          · intro a w hle hE
            have h156 : a.tmps.getD 156 undef = .bool true := hE (156, some 5) (by simp)
            rw [if_pos (wanted_plain rfl)]
            refine owe_value (v := .bool true) ?_ (Le.refl _ _) rfl
            go_simp
        case hend =>
          intro a w' hle hdef hsz hall hold
          have h0 : a.tmps.getD 4 undef = .bool true := hall 6 _ 4 rfl rfl
          go_wp2_with fail
          refine bodyPost_ret (results_tmp rfl _ _ _) hdef ?_
          refine ⟨by rw [h0], ?_⟩
          rw [← HNe.out]
          exact hBlw.trans (hle.below.mono (by have := HNe.out; omega))
      · have i2 : ¬ ((endE (b.drop at_) fl : Nat) : Int) = 0 := by omega
        have hend := end_any r lv _ at_ fl wr hAg.rd
        generalize endE (b.drop at_) fl = ec at *
        have hplt := hAg.wr.has.lt
        have hWr := hAg.wr
        have hRd := hAg.rd
        have hBlw := hAg.below
        have hle0 := hAg.le
        have hzN := hBlw.size
        obtain ⟨M, hNe⟩ : ∃ M, M = wr.heap.size := ⟨_, rfl⟩
        have hN : M ≤ wr.heap.size := by omega
        have hNpos : 0 < M := by omega
        have hBy : Bytes wr (.slice ba b.length bcap) b := HB.out.below (by rw [← HNe.out]; exact hBlw)
        have hCut : Bytes wr (.slice ba at_ bcap) (b.take at_) := hBy.cut hle0
        have i3 : (at_ : Int) ≤ b.length := by omega
        have hcap : b.length ≤ bcap := hBy.cap
        generalize b.drop at_ = rst at *
        generalize b.take at_ = d at *
        generalize at_ = av at *
        clear hAg hBy
        generalize b.length = bl at *
        go_wp2_with (first | (go_at_call 34; refine hend.mono ?_; rintro e w' ⟨rfl, hw⟩; obtain rfl := hw.symm; clear hw) | (first | (go_at_call 14; refine (num_any _ _).mono ?_; rintro e w' ⟨rfl, hw⟩; obtain rfl := hw.symm; clear hw) | fail) | fail)
        clear hend
        generalize hs : (⟨d.toArray⟩ : ByteArray) = s at *
        refine wp_region_owes (A := [0, 1, 0, 4, 15, 31, 63, 127, 255, 63, 63, 1279, 3839, 7935, 16383, 32767, 65535]) (need := [[(5, none)], [(157, some 0)], [(0, none)], [(159, some 2)], [(158, some 1), (160, some 3)], [(161, some 4)], [(6, none), (162, some 5)], [(163, some 6), (162, some 5)], [(164, some 7), (162, some 5)], [(0, none), (162, some 5)], [(5, none), (162, some 5)], [(167, some 10), (162, some 5)], [(166, some 9), (168, some 11), (162, some 5)], [(169, some 12), (162, some 5)], [(165, some 8), (170, some 13), (162, some 5)], [(162, some 5), (171, some 14)], [(172, some 15)]]) (again2Φ d s p r ba bl bcap av) M 173 (by kernel_rfl) (by kernel_rfl) (by kernel_rfl) (by kernel_rfl) (by kernel_rfl) (by kernel_rfl) rfl ?stable ?hop ?hend
        case stable =>
          intro i v p q hpq h
          unfold again2Φ at h ⊢
          split at h <;> first | exact h | exact h.le hpq
        case hop =>
          refine ⟨?_, ?_, ?_, ?_, ?_, ?_, ?_, ?_, ?_, ?_, ?_, ?_, ?_, ?_, ?_, ?_, ?_, trivial⟩
          · intro a w hle hE
            have h5 : a.tmps.getD 5 undef = .pointer (some ⟨r, 0, none⟩) := hE (5, none) (by simp)
            rw [if_pos (wanted_plain rfl)]
            refine owe_value (v := .pointer (some ⟨r, 0, none⟩)) ?_ (Le.refl _ _) rfl
            go_simp
          · intro a w hle hE
            have h157 : a.tmps.getD 157 undef = .pointer (some ⟨r, 0, none⟩) := hE (157, some 0) (by simp)
            rw [if_pos (wanted_plain rfl)]
            refine owe_call (f := 32) (args := #[.pointer (some ⟨r, 0, none⟩)]) (by go_simp) ?_
            refine (at_any r _ _ _ _ w (hRd.below (by rw [← hNe]; exact hle.below))).mono ?_
            rintro e w1 ⟨rfl, rfl⟩
            exact ⟨_, rfl, Le.refl _ _, rfl⟩
          · intro a w hle hE
            have h0 : a.tmps.getD 0 undef = .slice ba bl bcap := hE (0, none) (by simp)
            rw [if_pos (wanted_plain rfl)]
            refine owe_value (v := .slice ba bl bcap) ?_ (Le.refl _ _) rfl
            go_simp
          · intro a w hle hE
            have h159 : a.tmps.getD 159 undef = .slice ba bl bcap := hE (159, some 2) (by simp)
            rw [if_pos (wanted_plain rfl)]
            refine owe_value (v := .int .i64 bl) ?_ (Le.refl _ _) rfl
            go_simp
          · intro a w hle hE
            have h158 : a.tmps.getD 158 undef = .int .i64 av := hE (158, some 1) (by simp)
            have h160 : a.tmps.getD 160 undef = .int .i64 bl := hE (160, some 3) (by simp)
            rw [if_pos (wanted_plain rfl)]
            refine owe_value (v := .bool true) ?_ (Le.refl _ _) rfl
            go_simp
          · intro a w hle hE
            have h161 : a.tmps.getD 161 undef = .bool true := hE (161, some 4) (by simp)
            rw [if_pos (wanted_plain rfl)]
            refine owe_value (v := .bool true) ?_ (Le.refl _ _) rfl
            go_simp
          · intro a w hle hE
            have h6 : a.tmps.getD 6 undef = .pointer (some ⟨p, 0, none⟩) := hE (6, none) (by simp)
            have h162 : a.tmps.getD 162 undef = .bool true := hE (162, some 5) (by simp)
            rw [if_pos (wanted_of (j := 5) (b := true) (d := 162) rfl rfl h162)]
            refine owe_value (v := .pointer (some ⟨p, 0, none⟩)) ?_ (Le.refl _ _) rfl
            go_simp
          · intro a w hle hE
            have h163 : a.tmps.getD 163 undef = .pointer (some ⟨p, 0, none⟩) := hE (163, some 6) (by simp)
            have h162 : a.tmps.getD 162 undef = .bool true := hE (162, some 5) (by simp)
            rw [if_pos (wanted_of (j := 5) (b := true) (d := 162) rfl rfl h162)]
            refine owe_call (f := 15) (args := #[.pointer (some ⟨p, 0, none⟩)]) (by go_simp) ?_
            refine (all_any p _ _ w (hWr.below (by rw [← hNe]; exact hle.below))).mono ?_
            rintro e w1 ⟨x, rfl, hn⟩
            exact ⟨_, rfl, Le.of hn.below (Nat.le_trans hN hle.size), hn.own.bytes (Nat.lt_of_lt_of_le (Nat.lt_of_lt_of_le hNpos (Nat.le_trans hN hle.size)) hn.below.size)⟩
          · intro a w hle hE
            have h164 : Bytes w (a.tmps.getD 164 undef) d := hE (164, some 7) (by simp)
            have h162 : a.tmps.getD 162 undef = .bool true := hE (162, some 5) (by simp)
            rw [if_pos (wanted_of (j := 5) (b := true) (d := 162) rfl rfl h162)]
            have hcv := bytes_string Try.underlying27 Try.underlying5 Try.underlying9 w _ d h164
            rw [hs] at hcv
            refine owe_value (v := .string s) ?_ (Le.refl _ _) rfl
            have e1 : a.eval (.tmp 164) = a.tmps.getD 164 undef := rfl
            unfold execOp
            simp only [e1, hcv, Sem.run_bind, Sem.run_pure, Result.andThen_ok]
          · intro a w hle hE
            have h0 : a.tmps.getD 0 undef = .slice ba bl bcap := hE (0, none) (by simp)
            have h162 : a.tmps.getD 162 undef = .bool true := hE (162, some 5) (by simp)
            rw [if_pos (wanted_of (j := 5) (b := true) (d := 162) rfl rfl h162)]
            refine owe_value (v := .slice ba bl bcap) ?_ (Le.refl _ _) rfl
            go_simp
          · intro a w hle hE
            have h5 : a.tmps.getD 5 undef = .pointer (some ⟨r, 0, none⟩) := hE (5, none) (by simp)
            have h162 : a.tmps.getD 162 undef = .bool true := hE (162, some 5) (by simp)
            rw [if_pos (wanted_of (j := 5) (b := true) (d := 162) rfl rfl h162)]
            refine owe_value (v := .pointer (some ⟨r, 0, none⟩)) ?_ (Le.refl _ _) rfl
            go_simp
          · intro a w hle hE
            have h167 : a.tmps.getD 167 undef = .pointer (some ⟨r, 0, none⟩) := hE (167, some 10) (by simp)
            have h162 : a.tmps.getD 162 undef = .bool true := hE (162, some 5) (by simp)
            rw [if_pos (wanted_of (j := 5) (b := true) (d := 162) rfl rfl h162)]
            refine owe_call (f := 32) (args := #[.pointer (some ⟨r, 0, none⟩)]) (by go_simp) ?_
            refine (at_any r _ _ _ _ w (hRd.below (by rw [← hNe]; exact hle.below))).mono ?_
            rintro e w1 ⟨rfl, rfl⟩
            exact ⟨_, rfl, Le.refl _ _, rfl⟩
          · intro a w hle hE
            have h166 : a.tmps.getD 166 undef = .slice ba bl bcap := hE (166, some 9) (by simp)
            have h168 : a.tmps.getD 168 undef = .int .i64 av := hE (168, some 11) (by simp)
            have h162 : a.tmps.getD 162 undef = .bool true := hE (162, some 5) (by simp)
            rw [if_pos (wanted_of (j := 5) (b := true) (d := 162) rfl rfl h162)]
            refine owe_value (v := .slice ba av bcap) ?_ (Le.refl _ _) rfl
            go_simp
            intro h
            omega
          · intro a w hle hE
            have h169 : a.tmps.getD 169 undef = .slice ba av bcap := hE (169, some 12) (by simp)
            have h162 : a.tmps.getD 162 undef = .bool true := hE (162, some 5) (by simp)
            rw [if_pos (wanted_of (j := 5) (b := true) (d := 162) rfl rfl h162)]
            have hcv := bytes_string Try.underlying27 Try.underlying5 Try.underlying9 w _ d (hCut.le hle)
            rw [hs] at hcv
            refine owe_value (v := .string s) ?_ (Le.refl _ _) rfl
            have e1 : a.eval (.tmp 169) = _ := h169
            unfold execOp
            simp only [e1, hcv, Sem.run_bind, Sem.run_pure, Result.andThen_ok]
          · intro a w hle hE
            have h165 : a.tmps.getD 165 undef = .string s := hE (165, some 8) (by simp)
            have h170 : a.tmps.getD 170 undef = .string s := hE (170, some 13) (by simp)
            have h162 : a.tmps.getD 162 undef = .bool true := hE (162, some 5) (by simp)
            rw [if_pos (wanted_of (j := 5) (b := true) (d := 162) rfl rfl h162)]
            refine owe_value (v := .bool true) ?_ (Le.refl _ _) rfl
            go_simp
          · intro a w hle hE
            have h162 : a.tmps.getD 162 undef = .bool true := hE (162, some 5) (by simp)
            have h171 : a.tmps.getD 171 undef = .bool true := hE (171, some 14) (by simp)
            rw [if_pos (wanted_plain rfl)]
            refine owe_value (v := .bool true) ?_ (Le.refl _ _) rfl
            go_simp
          · intro a w hle hE
            have h172 : a.tmps.getD 172 undef = .bool true := hE (172, some 15) (by simp)
            rw [if_pos (wanted_plain rfl)]
            refine owe_value (v := .bool true) ?_ (Le.refl _ _) rfl
            go_simp
        case hend =>
          intro a w' hle hdef hsz hall hold
          have h0 : a.tmps.getD 4 undef = .bool true := hall 16 _ 4 rfl rfl
          go_wp2_with fail
          refine bodyPost_ret (results_tmp rfl _ _ _) hdef ?_
          refine ⟨by rw [h0], ?_⟩
          rw [← HNe.out]
          exact hBlw.trans (hle.below.mono (by have := HNe.out; omega))

end Go.Proofs.Ytgoflpfafkmmgaa
namespace Go.Proofs.Ytgoflpfafkmmgaa
open Go.RowKit
theorem info29 : (Try.prog.info? 29).map (fun i => (i.zero, i.size, i.bytes)) = some (some (.agg #[.int .i64 0, .int .i64 0, .slice none 0 0]), 3, 40) := by kernel_rfl
/-- What one call lays. -/
def oL (y : AddD × Value) : List UInt8 := (layL y.1.what y.1.n y.1.d).getD []
def rowL (ys : List (AddD × Value)) : List Value := ys.flatMap fun y => [.int .i64 y.1.what, .int .i64 y.1.n, y.2]
structure Good (w : World) (y : AddD × Value) : Prop where
  lo : 0 ≤ y.1.what
  hi : y.1.what ≤ 4
  n : y.1.n ≤ 9223372036854775807
  d : y.1.d.length ≤ 4000
  by_ : In w y.2 y.1.d
  lay : layL y.1.what y.1.n y.1.d = some (oL y)
theorem rowL_len (ys : List (AddD × Value)) : (rowL ys).length = ys.length * 3 := by
  induction ys with
  | nil => rfl
  | cons y ys ih => unfold rowL at ih ⊢; rw [List.flatMap_cons, List.length_append, ih]; simp; omega
theorem rowL_at : ∀ (ys : List (AddD × Value)) (j : Nat) (y : AddD × Value), ys[j]? = some y → (rowL ys)[j * 3]? = some (.int .i64 y.1.what) ∧ (rowL ys)[j * 3 + 1]? = some (.int .i64 y.1.n) ∧ (rowL ys)[j * 3 + 2]? = some y.2
  | [], j, y, h => by simp at h
  | x :: xs, 0, y, h => by simp at h; subst h; simp [rowL]
  | x :: xs, j + 1, y, h => by
    have ih := rowL_at xs j y (by simpa using h)
    have e : rowL (x :: xs) = .int .i64 x.1.what :: .int .i64 x.1.n :: x.2 :: rowL xs := by simp [rowL]
    have e0 : (j + 1) * 3 = j * 3 + 1 + 1 + 1 := by omega
    have e1 : (j + 1) * 3 + 1 = j * 3 + 1 + 1 + 1 + 1 := by omega
    have e2 : (j + 1) * 3 + 2 = j * 3 + 2 + 1 + 1 + 1 := by omega
    rw [e, e1, e2, e0]
    simp only [List.getElem?_cons_succ]
    exact ih
theorem rowL_snoc (ys : List (AddD × Value)) (y : AddD × Value) : rowL ys ++ [.int .i64 y.1.what, .int .i64 y.1.n, y.2] = rowL (ys ++ [y]) := by simp [rowL]
/-- The row of what was laid. -/
def Row (w : World) (N : Nat) (v : Value) (ys : List (AddD × Value)) : Prop := w.ownsRow N 29 3 v ys.length (rowL ys)
theorem Row.kind {w : World} {N : Nat} {v : Value} {ys : List (AddD × Value)} (h : Row w N v ys) {k : Nat} (hk : v.ownBlock = some k) : N ≤ k ∧ k < w.heap.size ∧ ∃ c fz, w.heap[k]? = some (.cells c 29 fz) := by
  refine ⟨(h.lt k hk).1, (h.lt k hk).2, ?_⟩
  rcases h.2 with ⟨rfl, _⟩ | ⟨g', cap, cur, rfl, _, hgg, _⟩
  · simp [Value.ownBlock] at hk
  · simp [Value.ownBlock] at hk
    subst hk
    exact ⟨cur, (0, 0), hgg⟩
theorem Row.fr {S : Nat → Prop} {w w' : World} {N : Nat} {v : Value} {ys : List (AddD × Value)} (h : Row w N v ys) (k : Fr S w w') (hs : ∀ i, v.ownBlock = some i → ¬ S i) : Row w' N v ys := by
  refine ⟨h.1, ?_⟩
  rcases h.2 with h2 | ⟨g, cap, cur, a, b, c, e⟩
  · exact .inl h2
  · refine .inr ⟨g, cap, cur, a, b, ?_, e⟩
    rw [k.block g (by have := (h.lt g (by rw [a]; rfl)).2; exact this) (hs g (by rw [a]; rfl))]
    exact c
theorem Row.notWS {w : World} {N p : Nat} {v u : Value} {bs : List UInt8} {ys : List (AddD × Value)} (h : Row w N v ys) (hW : Wr w p u bs) : ∀ i, v.ownBlock = some i → ¬ WS p u i := by
  intro i hi e
  obtain ⟨_, _, c, fz, hc⟩ := h.kind hi
  rcases e with e | e
  · subst e
    have := hW.has
    unfold Has at this
    rw [hc] at this
    simp at this
  · rcases hW.own.2 with ⟨rfl, _⟩ | ⟨g, cap, cur, rfl, _, h2, _⟩
    · cases e
    · simp [Value.ownBlock] at e
      subst e
      rw [hc] at h2
      simp at h2
theorem Row.form {w : World} {N : Nat} {v : Value} {ys : List (AddD × Value)} (h : Row w N v ys) : ∃ a c, v = .slice a ys.length c := by
  rcases h.2 with ⟨rfl, h0⟩ | ⟨g, c, cur, rfl, _⟩
  · rw [h0]; exact ⟨_, _, rfl⟩
  · exact ⟨_, _, rfl⟩
theorem Row.at_ {w : World} {N : Nat} {a : Option Addr} {c n : Nat} {ys : List (AddD × Value)} (h : Row w N (.slice a n c) ys) {j : Nat} {y : AddD × Value} (hj : ys[j]? = some y) : ∃ g, a = some ⟨g, 0, none⟩ ∧ w.cell? ⟨g, j * 3, none⟩ = some (.int .i64 y.1.what) ∧ w.cell? ⟨g, j * 3 + 1, none⟩ = some (.int .i64 y.1.n) ∧ w.cell? ⟨g, j * 3 + 2, none⟩ = some y.2 := by
  obtain ⟨h0, h1, h2⟩ := rowL_at ys j y hj
  rcases id h.2 with ⟨_, e⟩ | ⟨g, cap, cur, e, _⟩
  · have : ys = [] := List.eq_nil_of_length_eq_zero e
    subst this
    simp at hj
  · simp only [Value.slice.injEq] at e
    obtain ⟨rfl, _, _⟩ := e
    have hc := World.ownsRow.cells (g := g) h rfl
    refine ⟨g, rfl, ?_, ?_, ?_⟩
    · have := hc _ _ h0; rwa [Addr.add_mid, Nat.zero_add] at this
    · have := hc _ _ h1; rwa [Addr.add_mid, Nat.zero_add] at this
    · have := hc _ _ h2; rwa [Addr.add_mid, Nat.zero_add] at this
theorem In.keep {w w' : World} {v : Value} {d : List UInt8} (h : In w v d) (k : Below w.heap.size w w') : In w' v d := by
  rcases h with h | h
  · exact .inl h
  · exact .inr (h.below k)
theorem Takes.keep {w w' : World} {v : Value} {xs : List (Int × Int)} {a : Option Addr} {cap b o : Nat} (h : Takes w v xs a cap b o) (k : Below w.heap.size w w') : Takes w' v xs a cap b o :=
  ⟨h.val, h.at_, fun i x hi => (k.cell (p := ⟨b, o + i * 2, none⟩) (block_of_cell (h.c0 i x hi))).trans (h.c0 i x hi), fun i x hi => (k.cell (p := ⟨b, o + i * 2 + 1, none⟩) (block_of_cell (h.c1 i x hi))).trans (h.c1 i x hi), h.len⟩
end Go.Proofs.Ytgoflpfafkmmgaa
/- WireBack: the law's walk. -/
namespace Go.Proofs.Ytgoflpfafkmmgaa
open Go.RowKit

/-- How the law stands behind k calls. -/
structure Dn (xs : List AddD) (w : World) (p : Nat) (wr : World) (k : Nat) (v : Value) (bs : List UInt8) (dv : Value) (ys : List (AddD × Value)) : Prop where
  kle : k ≤ xs.length
  wn : WrN p w wr p v bs
  row : Row wr p dv ys
  good : ∀ y ∈ ys, Good w y
  bse : bs = (ys.map oL).flatten
  len : bs.length ≤ 2 * tot xs k
  few : ys.length ≤ k
theorem tot_mono (xs : List AddD) (k : Nat) (x : AddD) (h : xs[k]? = some x) : tot xs k ≤ tot xs (k + 1) := by rw [tot_succ xs k x h]; omega
theorem tot_ge (xs : List AddD) : ∀ k, k ≤ xs.length → 30 * k ≤ tot xs k
  | 0, _ => by simp
  | k + 1, h => by
    have hx : xs[k]? = some xs[k] := List.getElem?_eq_getElem (by omega)
    rw [tot_succ xs k _ hx]
    have := tot_ge xs k (by omega)
    unfold wt
    omega
theorem Dn.grow {xs : List AddD} {w wr w' : World} {p k : Nat} {v dv : Value} {bs : List UInt8} {ys : List (AddD × Value)} (h : Dn xs w p wr k v bs dv ys) (hB : Below wr.heap.size wr w') : Dn xs w p w' k v bs dv ys :=
  ⟨h.kle, h.wn.grow hB, h.row.fr (S := fun _ => False) (Fr.of_below hB) (fun _ _ h => h), h.good, h.bse, h.len, h.few⟩
theorem Dn.skip {xs : List AddD} {w wr : World} {p k : Nat} {v dv : Value} {bs : List UInt8} {ys : List (AddD × Value)} (h : Dn xs w p wr k v bs dv ys) (hk : k < xs.length) : Dn xs w p wr (k + 1) v bs dv ys :=
  ⟨hk, h.wn, h.row, h.good, h.bse, Nat.le_trans h.len (by have := tot_mono xs k _ (List.getElem?_eq_getElem hk); omega), by have := h.few; omega⟩
theorem Dn.laid {xs : List AddD} {w wr w3 : World} {p k : Nat} {v v3 dv : Value} {bs d : List UInt8} {ys : List (AddD × Value)} (h : Dn xs w p wr k v bs dv ys) (hW : Wr w3 p v3 (bs ++ d)) (hF : Fr (WS p v) wr w3) (hL : Loc wr v v3) :
    WrN p w w3 p v3 (bs ++ d) ∧ Row w3 p dv ys := ⟨h.wn.step hW hF hL, h.row.fr hF (h.row.notWS h.wn.wr)⟩
theorem Dn.none {xs : List AddD} {w wr w3 : World} {p k : Nat} {v v3 dv : Value} {bs : List UInt8} {ys : List (AddD × Value)} (h : Dn xs w p wr k v bs dv ys) (hk : k < xs.length) (hW : Wr w3 p v3 (bs ++ [])) (hF : Fr (WS p v) wr w3) (hL : Loc wr v v3) : Dn xs w p w3 (k + 1) v3 bs dv ys := by
  obtain ⟨h1, h2⟩ := h.laid hW hF hL
  rw [List.append_nil] at h1
  exact Dn.skip ⟨h.kle, h1, h2, h.good, h.bse, h.len, h.few⟩ hk
theorem Dn.more {xs : List AddD} {w wr w3 w4 : World} {p k : Nat} {v v3 dv dv4 sv : Value} {bs d : List UInt8} {ys : List (AddD × Value)} {x : AddD} (h : Dn xs w p wr k v bs dv ys) (hx : xs[k]? = some x) (h3 : WrN p w w3 p v3 (bs ++ d)) (hr : Row w3 p dv ys)
    (hr4 : Row w4 p dv4 (ys ++ [(x, sv)])) (hg : w3.grownBy w4 dv.ownBlock) (hgd : Good w (x, sv)) (hd : oL (x, sv) = d) (hl : (bs ++ d).length ≤ 2 * tot xs (k + 1)) : Dn xs w p w4 (k + 1) v3 (bs ++ d) dv4 (ys ++ [(x, sv)]) := by
  have hF : Fr (fun i => dv.ownBlock = some i) w3 w4 := grown_fr hg
  refine ⟨by have := (List.getElem?_eq_some_iff.1 hx).1; omega, ⟨h3.wr.fr hF (fun i hi => hr.notWS h3.wr i hi), Fr.below h3.below hF h3.le (fun i hi e => by have := (hr.kind e).1; omega), h3.hi, Nat.le_trans h3.le hF.size⟩, hr4, fun y hy => ?_, ?_, hl, by have := h.few; simp; omega⟩
  · rcases List.mem_append.1 hy with hy | hy
    · exact h.good y hy
    · rw [List.mem_singleton] at hy; subst hy; exact hgd
  · rw [List.map_append, List.flatten_append, ← h.bse, List.map_singleton, hd]
    simp
theorem Row.notRd {w : World} {N r at_ fl : Nat} {v lv : Value} {rest : List UInt8} {ys : List (AddD × Value)} (h : Row w N v ys) (hR : Rd w r lv rest at_ fl) : ∀ i, v.ownBlock = some i → ¬ i = r := by
  rintro i hi rfl
  obtain ⟨_, _, c, fz, hc⟩ := h.kind hi
  have := hR.has
  unfold Has at this
  rw [hc] at this
  simp at this
/-- How the law stands behind j calls taken. -/
structure Bk (w : World) (p r : Nat) (dv : Value) (ys : List (AddD × Value)) (wr : World) (j : Nat) (lv : Value) (at_ : Nat) : Prop where
  jle : j ≤ ys.length
  rd : Rd wr r lv ((ys.drop j).map oL).flatten at_ 0
  le : at_ + ((ys.drop j).map oL).flatten.length ≤ 8000
  row : Row wr p dv ys
  below : Below p w wr
  hi : p ≤ r
theorem Bk.step {w wr w' : World} {p r j at_ : Nat} {dv lv lv' : Value} {ys : List (AddD × Value)} (h : Bk w p r dv ys wr j lv at_) (hj : j < ys.length) {y : AddD × Value} (hd : ((ys.drop j).map oL).flatten = oL y ++ ((ys.drop (j + 1)).map oL).flatten)
    (hR : Rd w' r lv' ((ys.drop (j + 1)).map oL).flatten (at_ + (oL y).length) 0) (hE : Ex r wr w') : Bk w p r dv ys w' (j + 1) lv' (at_ + (oL y).length) := by
  have hl := h.le
  rw [hd, List.length_append] at hl
  exact ⟨hj, hR, by omega, h.row.fr (Fr.of_ex hE) (h.row.notRd h.rd), Below.ex h.below (by have := h.rd.lt; have := h.hi; omega) hE h.hi, h.hi⟩
set_option maxRecDepth 100000 in
set_option maxHeartbeats 8000000 in
theorem back_few (v : Value) (xs : List AddD) (a : Option Addr) (cap b o : Nat) (S : Nat → Value) (bv : Value) (bb : List UInt8) (tv : Value) (ts : List (Int × Int)) (ta : Option Addr) (tcap tb to_ : Nat) (w : World) (hA : Adds w v xs a cap b o S) (hf : fewB xs = true) (hB : In w bv bb) (hT : Takes w tv ts ta tcap tb to_) (hb : bb.length ≤ 2000) (ht : ts.length ≤ 60) :
    Calls Try.prog 9 #[v, bv, tv] w fun e w' => e = .returned (.bool true) ∧ Below w.heap.size w w' := by
  have hfew := few_any v xs a cap b o S w hA
  rw [hf] at hfew
  have htot : tot xs xs.length ≤ 4000 := by unfold fewB at hf; simpa using hf
  have hlen := hA.len
  unfold maxLen at hlen
  obtain rfl := hA.val
  obtain rfl := hT.val
  obtain ⟨ba, bc0, rfl⟩ := hB.slice
  have i0 : ¬ (2000 : Int) < bb.length := by omega
  have i00 : ¬ (60 : Int) < ts.length := by omega
  have HA : Hid (Adds w (.slice a xs.length cap) xs a cap b o S) := hA
  have HB : Hid (In w (.slice ba bb.length bc0) bb) := hB
  have HTk : Hid (Takes w (.slice ta ts.length tcap) ts ta tcap tb to_) := hT
  have HT : Hid (tot xs xs.length ≤ 4000) := htot
  have Hb2 : Hid (bb.length ≤ 2000) := hb
  clear hA hf htot hB hT hb
  go_enter Try.func9, Try.ntmps9
  go_wp2_with (first | (go_at_call 10; refine hfew.mono ?_; rintro e w' ⟨rfl, hw⟩; obtain rfl := hw.symm; clear hw) | fail)
  refine (wnew_any w).mono ?_
  rintro e w1 ⟨rfl, hBn, hW⟩
  have h1 := WrN.new w w1 hBn hW
  clear hBn hW hfew
  generalize hNw : w.heap.size = p at h1
  have HN : Hid (w.heap.size = p) := hNw
  clear hNw
  go_wp2_with fail
  go_loopw [8, 9] (fun dv i wr => ∃ (k : Nat) (v : Value) (bs : List UInt8) (ys : List (AddD × Value)), i = .int .i64 k ∧ Dn xs w p wr k v bs dv ys) (fun _ i _ => xs.length - (intOf i).toNat)
  case atStart => exact ⟨0, _, [], [], rfl, by omega, h1, World.ownsRow_nil _ _ _ _, by simp, rfl, by simp, by simp⟩
  case round =>
    clear h1
    obtain ⟨k, v, bs, ys, rfl, hD⟩ := hrel
    obtain ⟨da, dc, rfl⟩ := hD.row.form
    have hk := hD.kle
    by_cases hkl : k < xs.length
    · have i1 : (k : Int) < xs.length := by omega
      have hx : xs[k]? = some xs[k] := List.getElem?_eq_getElem hkl
      obtain rfl := HA.out.at_ (by intro e; simp [e] at hkl)
      have hblt : b < p := by rw [← HN.out]; exact block_of_cell (HA.out.c0 k _ hx)
      have c0 := (hD.wn.below.cell (p := ⟨b, o + k * 3, none⟩) hblt).trans (HA.out.c0 k _ hx)
      have c1 := (hD.wn.below.cell (p := ⟨b, o + k * 3 + 1, none⟩) hblt).trans (HA.out.c1 k _ hx)
      have c2 := (hD.wn.below.cell (p := ⟨b, o + k * 3 + 2, none⟩) hblt).trans (HA.out.c2 k _ hx)
      have hin := HA.out.by_ k _ hx
      have hwf := HA.out.wf xs[k] (List.getElem_mem _)
      have Ht := tot_succ xs k _ hx
      have htk := tot_le xs (k + 1)
      have HX : Hid (xs[k]? = some xs[k]) := hx
      generalize xs[k] = x at *
      have HK : Hid (k < xs.length) := hkl
      by_cases hw0 : x.what < 0
      · have HD : Hid (Dn xs w p wr (k + 1) v bs (.slice da ys.length dc) ys) := hD.skip HK.out
        clear hD hx Ht htk hin hwf
        go_wp2_with fail
        go_roundw
        case rel => exact ⟨k + 1, v, bs, ys, by go_num, HD.out⟩
        case measure => have := HK.out; simp [intOf]; omega
      · by_cases hw4 : 4 < x.what
        · have HD : Hid (Dn xs w p wr (k + 1) v bs (.slice da ys.length dc) ys) := hD.skip HK.out
          clear hD hx Ht htk hin hwf
          go_wp2_with fail
          go_roundw
          case rel => exact ⟨k + 1, v, bs, ys, by go_num, HD.out⟩
          case measure => have := HK.out; simp [intOf]; omega
        · have hxl : x.d.length ≤ 4000 := by have := HT.out; unfold wt at Ht; omega
          have hll := layL_len x.what x.n hwf.2 x.d (by omega)
          have Hb : Hid (bs.length + ((layL x.what x.n x.d).getD []).length ≤ 2 * tot xs (k + 1) ∧ 2 * tot xs (k + 1) ≤ 8000) := ⟨by have := hD.len; unfold wt at Ht; omega, by have := HT.out; omega⟩
          obtain ⟨sa, sc, hs⟩ := hin.slice
          have HI : Hid (In w (.slice sa x.d.length sc) x.d) := by rw [← hs]; exact hin
          rw [hs] at c2
          have hlay := lay_any p v (.slice sa x.d.length sc) bs x.d x.what x.n hwf.2 wr hD.wn.wr (HI.out.inap (by rw [HN.out]; exact hD.wn.below) (fun i hi => by rw [HN.out]; exact hD.wn.hi i hi)) (by omega) (by have := Hb.out; omega)
          have HWF : Hid (x.n ≤ 9223372036854775807) := hwf.2
          have HXL : Hid (x.d.length ≤ 4000) := hxl
          have hbw : b < wr.heap.size := by have := hD.wn.le; omega
          have hbn : ¬ WS p v b := fun e => by have := hD.wn.hi b e; omega
          clear hin hs hx Ht htk hll hwf hxl
          have HD : Hid (Dn xs w p wr k v bs (.slice da ys.length dc) ys) := hD
          clear hD
          go_wp2_with fail
          refine hlay.mono ?_
          rintro e w3 ⟨v3, y, he, hW3, hF3, hL3, hY3, hyn⟩
          obtain ⟨ya, yc, hy⟩ := hY3.slice
          clear hyn hlay hY3
          cases hlx : layL x.what x.n x.d with
          | none =>
            rw [hlx] at he hW3 hy
            simp only [Option.isNone_none, if_true, Option.getD_none, List.length_nil] at he hW3 hy
            subst hy he
            have HD3 : Hid (Dn xs w p w3 (k + 1) v3 bs (.slice da ys.length dc) ys) := HD.out.none HK.out hW3 hF3 hL3
            clear HD hW3 hF3 hL3 c0 c1 c2
            go_wp2_with (first | (go_at_call 14; refine (num_any _ _).mono ?_; rintro e w' ⟨rfl, hw⟩; obtain rfl := hw.symm; clear hw) | fail)
            go_roundw
            case rel => exact ⟨k + 1, _, bs, ys, by go_num, HD3.out⟩
            case measure => have := HK.out; simp [intOf]; omega
          | some d =>
            rw [hlx] at he hW3 hy
            simp only [Option.isNone_some, Option.getD_some, Bool.false_eq_true, if_false] at he hW3 hy
            obtain ⟨yl, hyl⟩ : ∃ n : Nat, n = d.length := ⟨_, rfl⟩
            rw [← hyl] at hy
            subst hy he
            clear hyl
            have Hl : Hid ((bs ++ d).length ≤ 2 * tot xs (k + 1)) := by have := Hb.out; rw [hlx] at this; rw [Option.getD_some] at this; show _ ≤ _; rw [List.length_append]; exact this.1
            obtain ⟨h3, hr3⟩ := HD.out.laid hW3 hF3 hL3
            have e0 : w3.cell? ⟨b, o + k * 3, none⟩ = some (.int .i64 x.what) := (World.cell?_of_block (w := wr) (hF3.block b hbw hbn)).trans c0
            have e1 : w3.cell? ⟨b, o + k * 3 + 1, none⟩ = some (.int .i64 x.n) := (World.cell?_of_block (w := wr) (hF3.block b hbw hbn)).trans c1
            have e2 : w3.cell? ⟨b, o + k * 3 + 2, none⟩ = some (.slice sa x.d.length sc) := (World.cell?_of_block (w := wr) (hF3.block b hbw hbn)).trans c2
            have HG : Hid (Good w (x, .slice sa x.d.length sc)) := ⟨by show 0 ≤ x.what; omega, by show x.what ≤ 4; omega, HWF.out, HXL.out, HI.out, by show layL x.what x.n x.d = some ((layL x.what x.n x.d).getD []); rw [hlx]; rfl⟩
            have HO : Hid (oL (x, .slice sa x.d.length sc) = d) := by show (layL x.what x.n x.d).getD [] = d; rw [hlx]; rfl
            have H3 : Hid (WrN p w w3 p v3 (bs ++ d)) := h3
            have HR3 : Hid (Row w3 p (.slice da ys.length dc) ys) := hr3
            have hz3 := h3.le
            have hyk : ys.length ≤ 200 := by have := HD.out.few; have := tot_ge xs k hk; have := tot_le xs k; have := HT.out; omega
            have hb3 : b < w3.heap.size := by have := hF3.size; omega
            clear hlx hW3 hF3 hL3 c0 c1 c2 h3 hr3 hbw
            obtain ⟨i29, hi, hz0, hz1, hz2⟩ := info_parts info29
            have hn3 := has_new w3 #[.int .i64 x.what, .int .i64 x.n, .slice sa x.d.length sc] 29 w3.heap.size rfl
            have hnw : ∀ (j : Nat) (u : Value), ([.int .i64 x.what, .int .i64 x.n, .slice sa x.d.length sc] : List Value)[j]? = some u → (w3.alloc (.cells #[.int .i64 x.what, .int .i64 x.n, .slice sa x.d.length sc] 29)).cell? ((⟨w3.heap.size, 0, none⟩ : Addr).add j) = some u := fun j u hu => by
              rw [Addr.add_mid, Nat.zero_add, hn3.cell, ← hu]; simp
            have hone : ∀ u ∈ ([.int .i64 x.what, .int .i64 x.n, .slice sa x.d.length sc] : List Value), u.oneCell' = true := fun u hu => by
              simp at hu; rcases hu with rfl | rfl | rfl <;> rfl
            have HRA : Hid (Row (w3.alloc (.cells #[.int .i64 x.what, .int .i64 x.n, .slice sa x.d.length sc] 29)) p (.slice da ys.length dc) ys) := World.ownsRow.alloc HR3.out _
            go_wp2_with (first | (go_at_call 14; refine (num_any _ _).mono ?_; rintro e w' ⟨rfl, hw⟩; obtain rfl := hw.symm; clear hw) | (refine wpList_append_own _ rfl _ _ 22 rfl p 29 i29 (.agg #[.int .i64 0, .int .i64 0, .slice none 0 0]) 3 40 Try.underlying22 hi hz0 hz1 hz2 rfl (by omega) _ ys.length (rowL ys) rfl HRA.out ⟨w3.heap.size, 0, none⟩ 1 1 [.int .i64 x.what, .int .i64 x.n, .slice sa x.d.length sc] rfl rfl hnw hone (by simp only [maxLen]; omega) (by omega) (by simp; omega) ?_; intro v' w4 hown4 hgr4 hnil; clear hnil))
            have hr4 : Row w4 p v' (ys ++ [(x, .slice sa x.d.length sc)]) := by
              unfold Row
              rw [← rowL_snoc, List.length_append]
              exact hown4
            have HD4 : Hid (Dn xs w p w4 (k + 1) v3 (bs ++ d) v' (ys ++ [(x, .slice sa x.d.length sc)])) := HD.out.more HX.out (H3.out.grow ((Below.refl _ _).alloc (Nat.le_refl _) _)) HRA.out hr4 hgr4 HG.out HO.out Hl.out
            clear hown4 hgr4 hr4 HD HRA HR3 hnw hone hn3
            go_wp2_with fail
            go_roundw
            case rel => exact ⟨k + 1, _, _, _, by go_num, HD4.out⟩
            case measure => have := HK.out; simp [intOf]; omega
    · obtain rfl : k = xs.length := by omega
      have i1 : ¬ (xs.length : Int) < xs.length := by omega
      have hbl : bs.length ≤ 8000 := by have := HT.out; have := hD.len; omega
      have hplt := hD.wn.wr.has.lt
      have HGD : Hid (∀ y ∈ ys, Good w y) := hD.good
      have hyk : ys.length ≤ 200 := by have := hD.few; have := tot_ge xs xs.length (Nat.le_refl _); have := HT.out; omega
      go_wp2_with fail
      refine (all_any p v bs wr hD.wn.wr).mono ?_
      rintro e w3 ⟨u, rfl, hN3⟩
      obtain ⟨hO3, hn3, hB3⟩ := hN3
      have hz3 := hB3.size
      have hD3 := hD.grow hB3
      clear hD
      obtain ⟨ua, uc, rfl⟩ := hO3.slice
      go_wp2_with fail
      refine (readx_any _ bs w3 (hO3.bytes (by omega)) (by omega)).mono ?_
      rintro e w4 ⟨r, lv0, rfl, hr, hR4, hB4, hI4⟩
      have hD4 := hD3.grow hB4
      clear hD3
      have hK0 : Bk w p r (.slice da ys.length dc) ys w4 0 lv0 0 := ⟨Nat.zero_le _, by rw [List.drop_zero, ← hD4.bse]; exact hR4, by rw [List.drop_zero, ← hD4.bse]; omega, hD4.row, hD4.wn.below, by omega⟩
      clear hD4 hR4 hB4 hI4 hB3 hO3 hn3
      go_wp2_with fail
      go_loopw [14] (fun i wr => ∃ (j : Nat) (lv : Value) (at_ : Nat), i = .int .i64 j ∧ Bk w p r (.slice da ys.length dc) ys wr j lv at_) (fun i _ => ys.length - (intOf i).toNat)
      case atStart => exact ⟨0, _, _, rfl, hK0⟩
      case round =>
        clear hK0
        obtain ⟨j, lv, at_, rfl, hK⟩ := hrel
        have hjl : j ≤ ys.length := hK.jle
        by_cases hj : j < ys.length
        · have i2 : (j : Int) < ys.length := by omega
          have hy : ys[j]? = some ys[j] := List.getElem?_eq_getElem hj
          obtain ⟨g, rfl, c0, c1, c2⟩ := hK.row.at_ hy
          have hG := HGD.out ys[j] (List.getElem_mem _)
          have hdrop : ((ys.drop j).map oL).flatten = oL ys[j] ++ ((ys.drop (j + 1)).map oL).flatten := by rw [List.drop_eq_getElem_cons hj, List.map_cons, List.flatten_cons]
          clear hy
          generalize ys[j] = y at *
          obtain ⟨x, sv⟩ := y
          obtain ⟨sa, sc, hs⟩ := hG.by_.slice
          simp only at hs c0 c1 c2
          subst hs
          have hKr := hK.rd
          have hKl := hK.le
          rw [hdrop] at hKr hKl
          have hsame := same_any r lv _ (oL (x, .slice sa x.d.length sc)) at_ x (.slice sa x.d.length sc) hG.lo hG.hi hG.n (by have := hG.d; simp only at this; omega) _ (hG.by_.keep (by rw [HN.out]; exact hK.below)) hG.lay hKr (by omega)
          have HJ : Hid (j < ys.length) := hj
          have HKK : Hid (Bk w p r (.slice (some ⟨g, 0, none⟩) ys.length dc) ys _ j lv at_) := hK
          have HDR : Hid (((ys.drop j).map oL).flatten = oL (x, .slice sa x.d.length sc) ++ ((ys.drop (j + 1)).map oL).flatten) := hdrop
          clear hK hKr hKl hdrop hG
          go_wp2_with fail
          refine hsame.mono ?_
          rintro e w5 ⟨rfl, lv5, hR5, hE5⟩
          have HK5 : Hid (Bk w p r (.slice (some ⟨g, 0, none⟩) ys.length dc) ys w5 (j + 1) lv5 (at_ + (oL (x, .slice sa x.d.length sc)).length)) := HKK.out.step HJ.out HDR.out hR5 hE5
          clear hsame hR5 hE5 HKK c0 c1 c2
          go_wp2_with fail
          go_roundw
          case rel => exact ⟨j + 1, lv5, _, by go_num, HK5.out⟩
          case measure => have := HJ.out; simp [intOf]; omega
        · have i2 : ¬ (j : Int) < ys.length := by omega
          obtain rfl : j = ys.length := by omega
          have hKr := hK.rd
          rw [List.drop_length] at hKr
          have hend := end_any r lv _ at_ 0 _ hKr
          have he : endE ((([] : List (AddD × Value)).map oL).flatten) 0 = 0 := rfl
          rw [he] at hend
          have hBw := hK.below
          have hz := hKr.lt
          have hag := again_any _ bb _ ts ta tcap tb to_ _ (HB.out.bytes (by rw [HN.out]; exact hBw) (by omega)) (HTk.out.keep (by rw [HN.out]; exact hBw)) Hb2.out
          have hzp : p ≤ r := hK.hi
          clear hK hKr he
          go_wp2_with (first | (go_at_call 34; refine hend.mono ?_; rintro e w' ⟨rfl, hw⟩; obtain rfl := hw.symm; clear hw) | (go_at_call 14; refine (num_any _ _).mono ?_; rintro e w' ⟨rfl, hw⟩; obtain rfl := hw.symm; clear hw) | (go_at_call 37; refine hag.mono ?_; rintro e w6 ⟨rfl, hB6⟩) | (go_at_call 11; refine (works_any _).mono ?_; rintro e w7 ⟨rfl, hB7⟩) | fail)
          go_ret
          refine ⟨rfl, ?_⟩
          rw [HN.out]
          have hz6 := hB6.size
          exact (hBw.trans (hB6.mono (by omega))).trans (hB7.mono (by omega))
set_option maxHeartbeats 1000000 in
theorem back_many (v : Value) (xs : List AddD) (a : Option Addr) (cap b o : Nat) (S : Nat → Value) (ba : Option Addr) (bl bc0 : Nat) (ta : Option Addr) (tl tcap : Nat) (w : World) (hA : Adds w v xs a cap b o S) (h : ¬ (fewB xs = true ∧ bl ≤ 2000 ∧ tl ≤ 60)) :
    Calls Try.prog 9 #[v, .slice ba bl bc0, .slice ta tl tcap] w fun e w' => e = .returned (.bool true) ∧ Below w.heap.size w w' := by
  have hfew := few_any v xs a cap b o S w hA
  obtain rfl := hA.val
  clear hA
  cases hf : fewB xs with
  | false =>
    rw [hf] at hfew
    go_enter Try.func9, Try.ntmps9
    go_wp2_with (first | (go_at_call 10; refine hfew.mono ?_; rintro e w' ⟨rfl, hw⟩; obtain rfl := hw.symm; clear hw) | (go_at_call 11; refine (works_any _).mono ?_; rintro e w3 ⟨rfl, hw3⟩) | fail)
    go_ret
    exact ⟨rfl, hw3⟩
  | true =>
    rw [hf] at hfew
    by_cases h1 : bl ≤ 2000
    · have i0 : ¬ (2000 : Int) < bl := by omega
      have i1 : (60 : Int) < tl := by
        have : ¬ tl ≤ 60 := fun e => h ⟨hf, h1, e⟩
        omega
      clear h hf
      go_enter Try.func9, Try.ntmps9
      go_wp2_with (first | (go_at_call 10; refine hfew.mono ?_; rintro e w' ⟨rfl, hw⟩; obtain rfl := hw.symm; clear hw) | (go_at_call 11; refine (works_any _).mono ?_; rintro e w3 ⟨rfl, hw3⟩) | fail)
      go_ret
      exact ⟨rfl, hw3⟩
    · have i0 : (2000 : Int) < bl := by omega
      clear h hf
      go_enter Try.func9, Try.ntmps9
      go_wp2_with (first | (go_at_call 10; refine hfew.mono ?_; rintro e w' ⟨rfl, hw⟩; obtain rfl := hw.symm; clear hw) | (go_at_call 11; refine (works_any _).mono ?_; rintro e w3 ⟨rfl, hw3⟩) | fail)
      go_ret
      exact ⟨rfl, hw3⟩
theorem back_walk (v : Value) (xs : List AddD) (a : Option Addr) (cap b o : Nat) (S : Nat → Value) (bv : Value) (bb : List UInt8) (tv : Value) (ts : List (Int × Int)) (ta : Option Addr) (tcap tb to_ : Nat) (w : World) (hA : Adds w v xs a cap b o S) (hB : In w bv bb) (hT : Takes w tv ts ta tcap tb to_) :
    Calls Try.prog 9 #[v, bv, tv] w fun e w' => e = .returned (.bool true) ∧ Below w.heap.size w w' := by
  by_cases h : fewB xs = true ∧ bb.length ≤ 2000 ∧ ts.length ≤ 60
  · exact back_few v xs a cap b o S bv bb tv ts ta tcap tb to_ w hA h.1 hB hT h.2.1 h.2.2
  · obtain ⟨ba, bc, rfl⟩ := hB.slice
    obtain rfl := hT.val
    exact back_many v xs a cap b o S ba _ bc ta _ tcap w hA h
end Go.Proofs.Ytgoflpfafkmmgaa
/- Regions that draw their order: what is held is asked behind those operations alone that may come up ahead of one that leans on it; an end of one's own, two operations that may come up, one that is not wanted. -/
namespace Go.Proofs.Ytgoflpfafkmmgaa
open Go.RowKit
/-- To the end, or not at all. -/
def onlyN (Q : Exit → Act → World → Prop) : Exit → Act → World → Prop := fun e a w => e = .normal ∧ Q .normal a w
variable {P : Program} {ops : Array Oper} {Q : Exit → Act → World → Prop} {S : World → Prop} {kp : Nat → Bool}

/-- Whatever order: S holds behind each operation that kp tells. -/
def anyK (P : Program) (ops : Array Oper) (Q : Exit → Act → World → Prop) (S : World → Prop) (kp : Nat → Bool) : Nat → Array Bool → Act → World → Prop
  | 0, listed, a, w => Region.ready .any ops listed = [] ∧ Q .normal a w
  | fuel + 1, listed, a, w => (Region.ready .any ops listed = [] → Q .normal a w) ∧
    ∀ i ∈ Region.ready .any ops listed, wpOp P ops Q i (fun a' w' => (kp i = true → S w') ∧ anyK P ops Q S kp fuel (listed.setIfInBounds i true) a' w') a w
theorem any_of_K : ∀ (fuel : Nat) (listed : Array Bool) (a : Act) (w : World), anyK P ops Q S kp fuel listed a w → wpAny P .any ops Q fuel listed a w
  | 0, _, _, _, h => h
  | fuel + 1, _, _, _, h => ⟨h.1, fun i hi => wpOp_mono (fun a' w' h' => any_of_K fuel _ a' w' h'.2) (h.2 i hi)⟩
/-- Does an operation wait for i? -/
def waitsFor (ops : Array Oper) (j i : Nat) : Bool := ((ops[j]?).map fun o => o.after.any fun e => Region.binds .any e && e.on == i).getD false
/-- Does an operation wait for i, by way of others too? -/
def reach (ops : Array Oper) : Nat → Nat → Nat → Bool
  | 0, j, i => waitsFor ops j i
  | f + 1, j, i => waitsFor ops j i || (List.range ops.size).any fun m => waitsFor ops j m && reach ops f m i
/-- Behind each operation that does not wait for i S is asked. -/
def asksAll (ops : Array Oper) (kp : Nat → Bool) (i : Nat) : Bool := (List.range ops.size).all fun j => j == i || kp j || reach ops 6 j i
/-- What is listed has listed what it waits for. -/
def Closed (ops : Array Oper) (listed : Array Bool) : Prop := ∀ (m : Nat) (om : Oper), ops[m]? = some om → listed.getD m false = true → ∀ e ∈ om.after, Region.binds .any e = true → listed.getD e.on false = true
def closedB (ops : Array Oper) (listed : Array Bool) : Bool := (List.range ops.size).all fun m => !listed.getD m false || ((ops[m]?).map fun o => o.after.all fun e => !Region.binds .any e || listed.getD e.on false).getD true
theorem closed_of {listed : Array Bool} (h : closedB ops listed = true) : Closed ops listed := fun m om hm hl e he hb => by
  unfold closedB at h
  rw [List.all_eq_true] at h
  have h1 := h m (by simp; exact (Array.getElem?_eq_some_iff.1 hm).1)
  rw [hl, hm] at h1
  simp only [Bool.not_true, Bool.false_or, Option.map_some, Option.getD_some, Array.all_eq_true', Bool.or_eq_true, Bool.not_eq_true'] at h1
  rcases h1 e he with h2 | h2
  · rw [hb] at h2; cases h2
  · exact h2
theorem waits_at {j i : Nat} {oj : Oper} (hj : ops[j]? = some oj) (h : waitsFor ops j i = true) : ∃ e ∈ oj.after, Region.binds .any e = true ∧ e.on = i := by
  unfold waitsFor at h
  rw [hj] at h
  simp only [Option.map_some, Option.getD_some, Array.any_eq_true', Bool.and_eq_true, beq_iff_eq] at h
  exact h
theorem reach_listed {i : Nat} {listed : Array Bool} (hcl : Closed ops listed) : ∀ (f j : Nat) (oj : Oper), ops[j]? = some oj → (∀ e ∈ oj.after, Region.binds .any e = true → listed.getD e.on false = true) → reach ops f j i = true → listed.getD i false = true := by
  have direct : ∀ (j : Nat) (oj : Oper), ops[j]? = some oj → (∀ e ∈ oj.after, Region.binds .any e = true → listed.getD e.on false = true) → ∀ m, waitsFor ops j m = true → listed.getD m false = true := fun j oj hj hall m h => by
    obtain ⟨e, he, hb, ho⟩ := waits_at hj h
    exact ho ▸ hall e he hb
  intro f
  induction f with
  | zero => intro j oj hj hall h; exact direct j oj hj hall i h
  | succ f ih =>
    intro j oj hj hall h
    simp only [reach, Bool.or_eq_true, List.any_eq_true, Bool.and_eq_true, List.mem_range] at h
    rcases h with h | ⟨m, hm, h1, h2⟩
    · exact direct j oj hj hall i h
    · have hml := direct j oj hj hall m h1
      exact ih m _ (Array.getElem?_eq_getElem hm) (fun e he hb => hcl m _ (Array.getElem?_eq_getElem hm) hml e he hb) h2
theorem asksAll_at {i : Nat} {listed : Array Bool} (h : asksAll ops kp i = true) (hcl : Closed ops listed) (hun : listed.getD i false ≠ true) (j : Nat) (oj : Oper) (hj : ops[j]? = some oj) (hne : j ≠ i) (hall : ∀ e ∈ oj.after, Region.binds .any e = true → listed.getD e.on false = true) : kp j = true := by
  unfold asksAll at h
  rw [List.all_eq_true] at h
  have h1 := h j (by simp; exact (Array.getElem?_eq_some_iff.1 hj).1)
  simp only [Bool.or_eq_true, beq_iff_eq, hne, false_or] at h1
  rcases h1 with h1 | h1
  · exact h1
  · exact absurd (reach_listed hcl 6 j oj hj hall h1) hun
theorem anyK_first {i : Nat} {oi : Oper} {v : Value} (hi : ops[i]? = some oi) (hsel : ∀ (j : Nat) (o : Oper) cs b, ops[j]? = some o → o.op ≠ .select cs b)
    (hQ : ∀ c a w, Q (.panic c) (a.put oi.dst v) w → Q (.panic c) a w) (hk : asksAll ops kp i = true) :
    ∀ (fuel : Nat) (listed : Array Bool) (a : Act) (w : World), Closed ops listed →
      (∀ j oj, ops[j]? = some oj → j ≠ i → listed.getD j true = false → (∀ e ∈ oj.after, Region.binds .any e = true → e.on ≠ i) → oi.apart ops oj = true) →
      i ∈ Region.ready .any ops listed → YieldsIf P ops S oi v a → S w →
      anyK P ops Q S kp fuel (listed.setIfInBounds i true) (a.put oi.dst v) w → anyK P ops Q S kp (fuel + 1) listed a w := by
  intro fuel
  induction fuel with
  | zero =>
    intro listed a w _ _ hr hy hS H
    refine ⟨fun h => (by rw [h] at hr; cases hr), fun j hj => ?_⟩
    by_cases hji : j = i
    · subst hji; exact hy.wpOp hi hS ⟨fun _ => hS, H⟩
    · have := ready_mono hj hji
      rw [H.1] at this
      cases this
  | succ fuel ih =>
    intro listed a w hcl hfree hr hy hS H
    refine ⟨fun h => (by rw [h] at hr; cases hr), fun j hj => ?_⟩
    by_cases hji : j = i
    · subst hji; exact hy.wpOp hi hS ⟨fun _ => hS, H⟩
    · have h1 := H.2 j (ready_mono hj hji)
      obtain ⟨hjun, oj, hoj, hall⟩ := Go.mem_ready.1 hj
      have hnot : ∀ e ∈ oj.after, Region.binds .any e = true → e.on ≠ i := fun e he hb heq => by
        have h1 := hall e he hb
        have h0 := (Go.mem_ready.1 hr).1
        rw [heq] at h1
        rcases Nat.lt_or_ge i listed.size with h' | h'
        · simp [h'] at h0 h1; rw [h0] at h1; cases h1
        · simp [Array.getElem?_eq_none h'] at h1
      have hun : listed.getD i false ≠ true := by
        have h0 := (Go.mem_ready.1 hr).1
        rcases Nat.lt_or_ge i listed.size with h' | h'
        · simp [h'] at h0 ⊢; exact h0
        · simp [Array.getElem?_eq_none h']
      have hkj := asksAll_at hk hcl hun j oj hoj hji hall
      have hcl' : Closed ops (listed.setIfInBounds j true) := fun m om hm hl e he hb => by
        have key : ∀ q, listed.getD q false = true → (listed.setIfInBounds j true).getD q false = true := fun q hq => by
          rw [Array.getD_eq_getD_getElem?, Array.getElem?_setIfInBounds]
          by_cases e : j = q
          · subst e
            rw [if_pos rfl]
            split
            · rfl
            · rename_i hh; rw [Array.getD_eq_getD_getElem?, Array.getElem?_eq_none (by omega)] at hq; cases hq
          · rw [if_neg e, ← Array.getD_eq_getD_getElem?]; exact hq
        by_cases hjm : j = m
        · subst hjm
          rw [hoj] at hm
          cases hm
          exact key _ (hall e he hb)
        · refine key _ (hcl m om hm ?_ e he hb)
          rwa [Array.getD_eq_getD_getElem?, Array.getElem?_setIfInBounds, if_neg hjm, ← Array.getD_eq_getD_getElem?] at hl
      have h2 := wpOp_putIf hoj (hfree j oj hoj hji hjun hnot) (fun cs b => hsel i oi cs b hi) (fun cs b => hsel j oj cs b hoj) hQ hy h1
      have hfree' : ∀ k ok, ops[k]? = some ok → k ≠ i → (listed.setIfInBounds j true).getD k true = false →
          (∀ e ∈ ok.after, Region.binds .any e = true → e.on ≠ i) → oi.apart ops ok = true := fun k ok hk hki hun hno => by
        refine hfree k ok hk hki ?_ hno
        by_cases hjk : j = k
        · subst hjk; exact hjun
        · rw [getD_set_ne true hjk] at hun; exact hun
      refine wpOp_mono (fun a' w' h3 => ⟨h3.2.1, ih (listed.setIfInBounds j true) a' w' hcl' hfree' (ready_mono hr (Ne.symm hji)) h3.1 (h3.2.1 hkj) ?_⟩) h2
      rw [Array.setIfInBounds_comm _ _ hji]
      exact h3.2.2
/-- The operation i is taken first. -/
theorem K_take {i : Nat} {oi : Oper} {v : Value} {fuel : Nat} {listed : Array Bool} {a : Act} {w : World} (hi : ops[i]? = some oi)
    (hs : Region.noSelect ops = true) (hf : Region.free .any ops listed i = true) (hr : (Region.ready .any ops listed).contains i = true) (hk : asksAll ops kp i = true) (hc : closedB ops listed = true)
    (hw : Region.wanted oi (yielded ops a.tmps) = true) (hy : ∀ w', S w' → (execOp a.eval oi).run P w' = .ok (.value v) w') (hS : S w)
    (h : anyK P ops (onlyN Q) S kp fuel (listed.setIfInBounds i true) (a.put oi.dst v) w) : anyK P ops (onlyN Q) S kp (fuel + 1) listed a w :=
  anyK_first hi (Region.noSelect_spec hs) (fun _ _ _ h => absurd h.1 (by simp)) hk fuel listed a w (closed_of hc) (Region.free_spec hi hf) (by simpa using hr) (.inl ⟨hw, hy⟩) hS h
/-- The operation i comes up alone. -/
theorem K_next {i : Nat} {o : Oper} {fuel : Nat} {listed : Array Bool} {a : Act} {w : World} (hr : Region.ready .any ops listed = [i]) (ho : ops[i]? = some o) (hw : Region.wanted o (yielded ops a.tmps) = true)
    (h : ∀ K : Act → World → Prop, (∀ a' w', (kp i = true → S w') → anyK P ops Q S kp fuel (listed.setIfInBounds i true) a' w' → K a' w') → o.wp P a w K Q) : anyK P ops Q S kp (fuel + 1) listed a w :=
  ⟨fun h0 => (by rw [h0] at hr; cases hr), fun j hj => by
    rw [hr] at hj
    obtain rfl : j = i := by simpa using hj
    unfold wpOp
    rw [ho]
    simp only []
    rw [if_pos hw]
    exact .inl (h _ fun a' w' h1 h2 => ⟨h1, h2⟩)⟩
theorem K_done {listed : Array Bool} {a : Act} {w : World} (hr : Region.ready .any ops listed = []) (h : Q .normal a w) : anyK P ops (onlyN Q) S kp 0 listed a w := ⟨hr, rfl, h⟩
theorem wp_region_K {id : Nat} {a : Act} {w : World} (S : World → Prop) (kp : Nat → Bool) (hm : P.follows .mixedOrders = true) 
    (h : anyK P ops (onlyN Q) S kp ops.size (Array.replicate ops.size false) a w.drew) : (Code.region id ops true).wp P Q a w :=
  wp_mono (wp_region_any hm (any_of_K _ _ _ _ h)) (by rintro e a w ⟨rfl, h⟩; exact h)
/-- A region that draws its order, its end told by a relation of one's own. -/
theorem wp_region_via {id : Nat} {a : Act} {w : World} (S : World → Prop) (kp : Nat → Bool) (R : Act → Act → World → Prop) (hm : P.follows .mixedOrders = true)
    (h : anyK P ops (onlyN fun _ a' w' => R a a' w') S kp ops.size (Array.replicate ops.size false) a w.drew) (hQ : ∀ a' w', R a a' w' → Q .normal a' w') : (Code.region id ops true).wp P Q a w := by
  refine wp_mono (wp_region_any hm (any_of_K _ _ _ _ h)) ?_
  rintro e a' w' ⟨rfl, h⟩
  exact hQ a' w' h
/-- Two operations may come up. -/
theorem K_fork {i j : Nat} {oi oj : Oper} {fuel : Nat} {listed : Array Bool} {a : Act} {w : World} (hr : Region.ready .any ops listed = [i, j])
    (hi : ops[i]? = some oi) (hj : ops[j]? = some oj) (hwi : Region.wanted oi (yielded ops a.tmps) = true) (hwj : Region.wanted oj (yielded ops a.tmps) = true)
    (h1 : ∀ K : Act → World → Prop, (∀ a' w', (kp i = true → S w') → anyK P ops Q S kp fuel (listed.setIfInBounds i true) a' w' → K a' w') → oi.wp P a w K Q)
    (h2 : ∀ K : Act → World → Prop, (∀ a' w', (kp j = true → S w') → anyK P ops Q S kp fuel (listed.setIfInBounds j true) a' w' → K a' w') → oj.wp P a w K Q) : anyK P ops Q S kp (fuel + 1) listed a w :=
  ⟨fun h0 => (by rw [h0] at hr; cases hr), fun q hq => by
    rw [hr] at hq
    have : q = i ∨ q = j := by simpa using hq
    unfold wpOp
    rcases this with rfl | rfl
    · rw [hi]
      simp only []
      rw [if_pos hwi]
      exact .inl (h1 _ fun a' w' x y => ⟨x, y⟩)
    · rw [hj]
      simp only []
      rw [if_pos hwj]
      exact .inl (h2 _ fun a' w' x y => ⟨x, y⟩)⟩
/-- An operation that is not wanted. -/
theorem K_skip {i : Nat} {oi : Oper} {fuel : Nat} {listed : Array Bool} {a : Act} {w : World} (hi : ops[i]? = some oi)
    (hs : Region.noSelect ops = true) (hf : Region.free .any ops listed i = true) (hr : (Region.ready .any ops listed).contains i = true) (hk : asksAll ops kp i = true) (hc : closedB ops listed = true)
    (hw : Region.wanted oi (yielded ops a.tmps) = false) (hS : S w)
    (h : anyK P ops (onlyN Q) S kp fuel (listed.setIfInBounds i true) (a.put oi.dst undef) w) : anyK P ops (onlyN Q) S kp (fuel + 1) listed a w :=
  anyK_first hi (Region.noSelect_spec hs) (fun _ _ _ h => absurd h.1 (by simp)) hk fuel listed a w (closed_of hc) (Region.free_spec hi hf) (by simpa using hr) (.inr ⟨hw, rfl⟩) hS h
end Go.Proofs.Ytgoflpfafkmmgaa
