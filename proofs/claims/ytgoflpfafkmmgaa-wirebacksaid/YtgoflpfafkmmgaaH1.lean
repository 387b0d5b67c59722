/- Bytes that come in, by a writer's calls. -/
import Derived.Test.YtgoflpfafkmmgaaG4
namespace Go.Proofs.Ytgoflpfafkmmgaa
open Go.RowKit

/-- No bytes, or such as lie in no block of S. -/
def InAp (S : Nat → Prop) (w : World) (v : Value) (d : List UInt8) : Prop := (d = [] ∧ ∃ a c, v = .slice a 0 c) ∨ BytesAp S w v d
theorem InAp.slice {S : Nat → Prop} {w : World} {v : Value} {d : List UInt8} (h : InAp S w v d) : ∃ a c, v = .slice a d.length c := by
  rcases h with ⟨rfl, a, c, rfl⟩ | h
  · exact ⟨a, c, rfl⟩
  · exact h.slice
theorem InAp.after {S : Nat → Prop} {w w' : World} {v : Value} {d : List UInt8} (h : InAp S w v d) (k : Below w.heap.size w w') (he : ∃ i, i < w'.heap.size ∧ ¬ S i) : BytesAp S w' v d := by
  rcases h with ⟨rfl, a, c, rfl⟩ | h
  · obtain ⟨i, hi, hn⟩ := he
    exact ⟨a, c, i, 0, rfl, Nat.zero_le _, fun h => absurd rfl h, fun j hj => absurd hj (by simp), hi, hn⟩
  · exact h.fr (S' := fun _ => False) (Fr.of_below k) (fun _ _ h => h.elim)
theorem In.inap {w w' : World} {v : Value} {d : List UInt8} (h : In w v d) (k : Below w.heap.size w w') {S : Nat → Prop} (hS : ∀ i, S i → w.heap.size ≤ i) : InAp S w' v d := by
  rcases h with h | h
  · exact .inl h
  · exact .inr (In.ap (.inr h) k hS (by obtain ⟨_, _, db, _, _, _, _, _, h5⟩ := h; exact ⟨db, Nat.lt_of_lt_of_le h5 k.size, fun e => by have := hS _ e; omega⟩))
theorem New.block {S : Nat → Prop} {w w' : World} {v : Value} {d : List UInt8} (h : New w w' v d) (hd : d ≠ []) (hS : ∀ k, S k → k < w.heap.size) : ∃ i, i < w'.heap.size ∧ ¬ S i := by
  obtain ⟨a, c, db, o, _, _, _, _, h5, h6⟩ := h.ap (S := S) hd hS
  exact ⟨db, h5, h6⟩
set_option maxHeartbeats 400000 in
theorem wbytes_in (p : Nat) (v xv : Value) (bs x : List UInt8) (w : World) (hW : Wr w p v bs) (hx : InAp (WS p v) w xv x) (hsm : x.length ≤ 1000000000) :
    Calls Try.prog 18 #[.pointer (some ⟨p, 0, none⟩), xv] w fun e w' => Laid w w' p v bs (bytL x) e := by
  obtain ⟨xa, xc, hxv⟩ := hx.slice
  have Hx : Hid (InAp (WS p v) w xv x) := hx
  clear hx
  subst hxv
  go_enter Try.func18, Try.ntmps18
  go_wp2_with fail
  refine (numberI_any x.length (by omega) w).mono ?_
  rintro e w1 ⟨u, rfl, hN⟩
  obtain ⟨ua, uc, rfl⟩ := hN.own.slice
  go_wp2_with fail
  have hS : ∀ k, WS p v k → k < w.heap.size := hW.lt
  have hz := hN.below.size
  have hex : ∃ i, i < w1.heap.size ∧ ¬ WS p v i := New.block hN (numL_ne _) hS
  have hW1 : Wr (w1.alloc (.cells #[.slice ua (numL x.length).length uc, .slice xa x.length xc] 27)) p v bs := (hN.wr hW).below ((Below.refl _ _).alloc (Nat.le_refl _) _)
  refine (raw_any p v _ bs [numL x.length, x] _ hW1 (parts2 w1 _ _ (hN.ap (numL_ne _) hS) (Hx.out.after hN.below hex) (fun k hk => Nat.lt_of_lt_of_le (hS k hk) hz)) (two_le x hsm)).mono ?_
  intro e w2 h
  have h' := h.after ((hN.below).alloc hz _)
  clear h
  obtain ⟨r, rfl⟩ := h'.code
  have ef : [numL x.length, x].flatten = bytL x := by simp [bytL]
  rw [ef] at h'
  have H : Hid (Laid w w2 p v bs (bytL x) (.returned (.int .i64 r))) := h'
  clear h'
  go_wp2_with fail
  go_ret
  exact H.out


theorem InAp.below {S : Nat → Prop} {w w' : World} {v : Value} {d : List UInt8} (h : InAp S w v d) (k : Below w.heap.size w w') : InAp S w' v d := by
  rcases h with h | h
  · exact .inl h
  · exact .inr (h.fr (S' := fun _ => False) (Fr.of_below k) (fun _ _ h => h.elim))
theorem InAp.mono {S S' : Nat → Prop} {w : World} {v : Value} {d : List UInt8} (h : InAp S w v d) (hs : ∀ k, k < w.heap.size → S' k → S k) : InAp S' w v d := by
  rcases h with h | h
  · exact .inl h
  · exact .inr (h.mono hs)
theorem Own.inap {S : Nat → Prop} {w : World} {v : Value} {d : List UInt8} (h : Own w v d) (hs : ∀ i, v.ownBlock = some i → ¬ S i) : InAp S w v d := by
  rcases h.2 with ⟨rfl, h0⟩ | ⟨g, cap, cur, rfl, _⟩
  · exact .inl ⟨List.eq_nil_of_length_eq_zero h0, none, 0, rfl⟩
  · exact .inr (h.bytesAp hs (fun e => by cases e))
/-- A reader stands while another block is written. -/
theorem Rd.ex {w w' : World} {r r' : Nat} {lv : Value} {rest : List UInt8} {at_ fl : Nat} (h : Rd w r lv rest at_ fl) (k : Ex r' w w') (hne : r ≠ r') (hi : InAp (· = r') w lv rest) : Rd w' r lv rest at_ fl := by
  refine ⟨h.has.ex k hne, ?_⟩
  rcases hi with ⟨rfl, a0, c0, e0⟩ | hi
  · obtain ⟨a, c, db, o, h1, h2, h3, h4, h5, h6⟩ := h.by_
    exact ⟨a, c, db, o, h1, h2, h3, fun j hj => absurd hj (by simp), Nat.lt_of_lt_of_le h5 k.size, h6⟩
  · obtain ⟨a, c, db, o, h1, h2, h3, h4, h5, h6⟩ := hi
    obtain ⟨a', c', db', o', h1', h2', h3', h4', h5', h6'⟩ := h.by_
    by_cases hr : rest = []
    · subst hr
      exact ⟨a', c', db', o', h1', h2', h3', fun j hj => absurd hj (by simp), Nat.lt_of_lt_of_le h5' k.size, h6'⟩
    · have e1 : (some (⟨db', o', none⟩ : Addr)) = some ⟨db, o, none⟩ := by
        rw [← h3' hr, ← h3 hr]
        rw [h1] at h1'
        simp only [Value.slice.injEq] at h1'
        exact h1'.1.symm
      simp only [Option.some.injEq, Addr.mk.injEq] at e1
      obtain ⟨rfl, rfl, _⟩ := e1
      exact ⟨a', c', db', o', h1', h2', h3', fun j hj => (World.cell?_of_block (w := w) (k.block db' h5' h6)).trans (h4' j hj), Nat.lt_of_lt_of_le h5' k.size, h6'⟩
set_option maxHeartbeats 1000000 in
theorem readx_any (xv : Value) (x : List UInt8) (w : World) (hx : Bytes w xv x) (hsm : x.length ≤ 10000000000) :
    Calls Try.prog 22 #[xv] w fun e w' => ∃ g lv, e = .returned (.pointer (some ⟨g, 0, none⟩)) ∧ w.heap.size ≤ g ∧ Rd w' g lv x 0 0 ∧ Below w.heap.size w w' ∧ InAp (fun k => k < w.heap.size ∨ k = g) w' lv x := by
  have HX : Hid (Bytes w xv x) := hx
  obtain ⟨xa, xc, xb, xo, rfl, _⟩ := hx
  go_enter Try.func22, Try.ntmps22
  go_wp2_with (refine wpList_append_bytes _ rfl _ _ 80 27 rfl info5 Try.underlying80 Try.underlying27 (.slice none 0 0) _ [] x rfl rfl (Own.nil w) HX.out (by simp; omega) ?_; intro v2 w2 hown2 hgr hloc hnil; clear hnil; rw [List.nil_append] at hown2; obtain ⟨a3, c3, hv2⟩ := hown2.slice; subst hv2)
  go_ret
  have hB : Below w.heap.size w w2 := ⟨hgr.os, hgr.tape, hgr.output, hgr.size, fun k hk => hgr.block k hk (by simp [Value.ownBlock])⟩
  have hz := hB.size
  refine ⟨w2.heap.size, _, rfl, hz, ⟨has_new _ _ _ _ rfl, hown2.apNew _ (by omega)⟩, hB.alloc hz _, Own.inap (own_alloc hown2 _) (fun i hi => ?_)⟩
  have h1 := hown2.lt' hi
  rcases hloc i hi with h | h
  · cases h
  · omega
/-- No byte lies in a reader's block. -/
theorem Bytes.notReader {w : World} {v : Value} {d : List UInt8} (h : Bytes w v d) {q : Nat} {lv : Value} {rest : List UInt8} {at_ fl : Nat} (hq : Rd w q lv rest at_ fl) : InAp (· = q) w v d := by
  obtain ⟨a, c, db, o, h1, h2, h3, h4, h5⟩ := h
  by_cases hd : d = []
  · subst hd
    exact .inl ⟨rfl, a, c, h1⟩
  · refine .inr ⟨a, c, db, o, h1, h2, h3, h4, h5, ?_⟩
    rintro rfl
    have hlen : 0 < d.length := List.length_pos_iff.2 hd
    have hc := h4 0 hlen
    rw [Nat.add_zero, hq.has.cell o] at hc
    obtain ⟨la, lc, hl⟩ := hq.by_.slice
    subst hl
    have ho : o < 4 := by
      have := (Array.getElem?_eq_some_iff.1 hc).1
      simpa using this
    obtain rfl | rfl | rfl | rfl : o = 0 ∨ o = 1 ∨ o = 2 ∨ o = 3 := by omega
    all_goals simp [bc] at hc
theorem InAp.ex {w w' : World} {v : Value} {d : List UInt8} {q : Nat} (h : InAp (· = q) w v d) (k : Ex q w w') (h0 : 0 < w'.heap.size) : Bytes w' v d := by
  rcases h with ⟨rfl, a, c, rfl⟩ | h
  · exact ⟨a, c, 0, 0, rfl, Nat.zero_le _, fun h => absurd rfl h, fun j hj => absurd hj (by simp), h0⟩
  · exact (h.fr (Fr.of_ex k) (fun i _ e => e)).bytes
theorem RAnsB.all {w w' : World} {r : Nat} {lv : Value} {l : List UInt8} {x : Except Nat (List UInt8 × List UInt8)} {e : Ending} (h : RAnsB w w' r lv l 0 x e) :
    ∃ v, e = .returned (.tuple #[v, .int .i64 (vec x)]) ∧ Own w' v (vd x) ∧ (∀ k, v.ownBlock = some k → w.heap.size ≤ k) ∧ (∃ lv' rest' fl, Rd w' r lv' rest' (atN l 0 x) fl) ∧ Ex r w w' := by
  cases x with
  | error ec => exact ⟨_, h.1, Own.nil _, (fun k hk => by cases hk), ⟨lv, l, ec, h.2.1⟩, h.2.2⟩
  | ok p =>
    obtain ⟨d, rest'⟩ := p
    obtain ⟨v, h1, ⟨lv', h2, h3⟩, h4, h5⟩ := h
    exact ⟨v, h1, h4, h5, ⟨lv', rest', 0, by rw [Nat.zero_add] at h2; exact h2⟩, h3⟩
theorem RAns.text {w w' : World} {r : Nat} {lv : Value} {l : List UInt8} {x : Except Nat (List UInt8 × List UInt8)} {e : Ending} (h : RAns (.string ⟨#[]⟩) w w' r lv l 0 (vS x) e) :
    e = .returned (.tuple #[.string ⟨(vd x).toArray⟩, .int .i64 (vec x)]) ∧ (∃ lv' rest' fl, Rd w' r lv' rest' (atN l 0 x) fl) ∧ Ex r w w' := by
  cases x with
  | error ec => exact ⟨h.1, ⟨lv, l, ec, h.2.1⟩, h.2.2⟩
  | ok p =>
    obtain ⟨d, rest'⟩ := p
    obtain ⟨h1, lv', h2, h3⟩ := h
    exact ⟨h1, ⟨lv', rest', 0, by rw [Nat.zero_add] at h2; exact h2⟩, h3⟩
end Go.Proofs.Ytgoflpfafkmmgaa
