/- What is laid by one call: raw ones. -/
import Derived.Test.YtgoflpfafkmmgaaJ2
namespace Go.Proofs.Ytgoflpfafkmmgaa
open Go.RowKit

/-- An append of bytes onto bytes that the call owns, at a step of a region that draws its order. -/
theorem step_append_bytes {P : Program} {ops : Array Oper} {o : Oper} {a : Act} {w : World} {K : Act → World → Prop} {Q : Exit → Act → World → Prop} {E : Prop} (hgd : o.guard = none) (s y : Operand) (t u : TypeId)
    (ho : o.op = .call { callee := .builtin .append, args := #[s, y], argTypes := #[t, u] }) (h5 : (P.info? 5).map (fun i => (i.zero, i.size, i.bytes)) = some (some (.int .u8 0), 1, 1))
    (ht : P.underlying t = some (.slice 5)) (hu : P.underlying u = some (.slice 5)) (v xv : Value) (d x : List UInt8) (hs : a.eval s = v) (hy : a.eval y = xv) (hown : Own w v d) (hx : Bytes w xv x) (hsm : d.length + x.length ≤ 100000000000000)
    (h : ∀ v' w', Own w' v' (d ++ x) → w.grownBy w' v.ownBlock → Loc w v v' → K (a.put o.dst v') w') :
    if Region.wanted o (yielded ops a.tmps) = true then Oper.wp P o a w K Q else E := by
  have hw : Region.wanted o (yielded ops a.tmps) = true := by simp [Region.wanted, hgd]
  rw [if_pos hw]
  obtain ⟨v', w', h1, h2, h3, h5', h4⟩ := run_append_bytes o.type h5 ht hu w v xv d x hown hx hsm
  unfold Oper.wp execOp
  simp only [ho, resolve, invoke, builtin, Sem.run_bind, Sem.run_pure, Result.andThen_ok, List.map_toArray, List.map_cons, List.map_nil, hs, hy, h1]
  exact h v' w' h2 h3 h5'
theorem three_le (x : List UInt8) (h : x.length ≤ 1000000000) : ∀ d ∈ [x, [], x], d.length ≤ 1000000000 := by
  intro d hd
  simp only [List.mem_cons, List.not_mem_nil, or_false] at hd
  rcases hd with e | e | e
  · rw [e]; exact h
  · rw [e]; simp
  · rw [e]; exact h
theorem Parts.drew {S : Nat → Prop} {w : World} {v : Value} {ds : List (List UInt8)} (h : Parts S w v ds) : Parts S w.drew v ds := by
  obtain ⟨a, cap, pb, po, h1, h2, h3, h4, h5⟩ := h
  refine ⟨a, cap, pb, po, h1, h2, fun i hi => ?_, h4, h5⟩
  obtain ⟨sv, hs, hb⟩ := h3 i hi
  exact ⟨sv, hs, hb.fr (S' := fun _ => False) ⟨rfl, rfl, rfl, Nat.le_refl _, fun _ _ _ => rfl⟩ (fun _ _ h => h.elim)⟩
theorem has_drew {w : World} {b t : Nat} {cs : Array Value} (h : Has w b cs t) : Has w.drew b cs t := h
theorem Parts.below {S : Nat → Prop} {w w' : World} {v : Value} {ds : List (List UInt8)} (h : Parts S w v ds) (k : Below w.heap.size w w') : Parts S w' v ds := by
  obtain ⟨a, cap, pb, po, h1, h2, h3, h4, h5⟩ := h
  refine ⟨a, cap, pb, po, h1, h2, fun i hi => ?_, Nat.lt_of_lt_of_le h4 k.size, h5⟩
  obtain ⟨sv, hs, hb⟩ := h3 i hi
  exact ⟨sv, (k.cell (p := ⟨pb, po + i, none⟩) h4).trans hs, hb.fr (S' := fun _ => False) (Fr.of_below k) (fun _ _ h => h.elim)⟩
theorem own_empty {w : World} {e : Nat} (h : Has w e #[] 5) : Own w (.slice (some ⟨e, 0, none⟩) 0 0) [] :=
  ⟨rfl, .inr ⟨e, 0, #[], rfl, Nat.zero_le _, h, Nat.le_refl _, by decide, rfl, rfl⟩⟩
/-- Blocks that came later, none of them the writer's. -/
def FreshK (B p : Nat) (v1 : Value) (k : Nat) : Prop := B ≤ k ∧ ¬ WS p v1 k
/-- Bytes that are being made behind a writer's call. -/
structure Mk (B p : Nat) (v1 : Value) (w1 w2 : World) (y : Value) (d : List UInt8) : Prop where
  own : Own w2 y d
  new : ∀ k, y.ownBlock = some k → FreshK B p v1 k
  fr : Fr (FreshK B p v1) w1 w2
theorem Mk.more {B p : Nat} {v1 v v2 : Value} {w1 w w2 : World} {d x : List UInt8} (h : Mk B p v1 w1 w v d) (hB : B ≤ w1.heap.size) (hS : ∀ k, WS p v1 k → k < w1.heap.size) (hO : Own w2 v2 (d ++ x)) (hg : w.grownBy w2 v.ownBlock) (hL : Loc w v v2) : Mk B p v1 w1 w2 v2 (d ++ x) := by
  have hz := h.fr.size
  refine ⟨hO, fun k hk => ?_, h.fr.trans' (grown_fr hg) (fun k _ e => h.new k e)⟩
  rcases hL k hk with h1 | h1
  · exact h.new k h1
  · exact ⟨by omega, fun e => by have := hS k e; omega⟩
theorem LayR.mk2 {w W0 w1 w2 : World} {p : Nat} {v v1 y : Value} {bs d : List UInt8} (hB0 : Below w.heap.size w W0) (hW1 : Wr w1 p v1 (bs ++ d)) (hF : Fr (WS p v) W0 w1) (hL : Loc W0 v v1) (hM : Mk W0.heap.size p v1 w1 w2 y d) : LayR w w2 p v bs (some d) (.returned (.tuple #[.int .i64 0, y, .int .i64 0])) := by
  have hz := hB0.size
  refine ⟨v1, y, rfl, hW1.fr hM.fr (fun k h => h.2), ((Fr.of_below hB0).trans hF).trans' hM.fr (fun k hk e => by have := e.1; omega), fun k hk => (hL k hk).imp id (fun h => by omega), hM.own, fun k hk => ?_⟩
  have := hM.new k hk
  exact ⟨by have := this.1; omega, this.2⟩
theorem InAp.later {w1 w2 : World} {B p : Nat} {v1 v : Value} {d : List UInt8} (h : InAp (fun k => B ≤ k) w1 v d) (k : Fr (FreshK B p v1) w1 w2) (h0 : 0 < w2.heap.size) : Bytes w2 v d := by
  rcases h with ⟨rfl, a, c, rfl⟩ | h
  · exact ⟨a, c, 0, 0, rfl, Nat.zero_le _, fun h => absurd rfl h, fun j hj => absurd hj (by simp), h0⟩
  · exact (h.fr k (fun i _ e => e.1)).bytes
/-- All that the walk wants behind a writer's call, in whatever order the empty row was made. -/
theorem after_raw {W0 WX w1 : World} {p : Nat} {v v1 xs : Value} {bs x d : List UInt8} (hW : Wr W0 p v bs) (hBX : Below W0.heap.size W0 WX) (hx : InAp (WS p v) W0 xs x) (hW1 : Wr w1 p v1 d) (hF : Fr (WS p v) WX w1) (hL : Loc WX v v1) :
    Fr (WS p v) W0 w1 ∧ Loc W0 v v1 ∧ InAp (fun k => W0.heap.size ≤ k) w1 xs x ∧ (∀ e, Has WX e #[] 5 → W0.heap.size ≤ e → Mk W0.heap.size p v1 w1 w1 (.slice (some ⟨e, 0, none⟩) 0 0) []) ∧ Mk W0.heap.size p v1 w1 (w1.alloc (.cells #[] 5)) (.slice (some ⟨w1.heap.size, 0, none⟩) 0 0) [] := by
  have hF' : Fr (WS p v) W0 w1 := (Fr.of_below hBX).trans hF
  have hz := hBX.size
  have hz1 := hF.size
  refine ⟨hF', fun k hk => (hL k hk).imp id (fun h => by omega), ?_, fun e he hle => ?_, ?_⟩
  · rcases hx with h | ⟨a, c, db, o, h1, h2, h3, h4, h5, h6⟩
    · exact .inl h
    · exact .inr ⟨a, c, db, o, h1, h2, h3, fun j hj => (World.cell?_of_block (w := W0) (hF'.block db h5 h6)).trans (h4 j hj), Nat.lt_of_lt_of_le h5 hF'.size, by omega⟩
  · have hn : ¬ WS p v e := fun h => by have := hW.lt e h; omega
    refine ⟨own_empty (he.fr hF hn), fun k hk => ?_, Fr.refl _ _⟩
    simp [Value.ownBlock] at hk
    subst hk
    refine ⟨hle, fun h => ?_⟩
    rcases h with h | h
    · exact hn (.inl h)
    · rcases hL _ h with h1 | h1
      · exact hn (.inr h1)
      · have := he.lt; omega
  · refine ⟨own_empty (has_new _ _ _ _ rfl), fun k hk => ?_, Fr.of_below ((Below.refl _ _).alloc (Nat.le_refl _) _)⟩
    simp [Value.ownBlock] at hk
    subst hk
    exact ⟨by omega, fun h => by have := hW1.lt _ h; omega⟩
set_option maxRecDepth 10000 in
set_option maxHeartbeats 2000000 in
theorem lay_5 (p : Nat) (v : Value) (bs x : List UInt8) (what n : Int) (hwh : ¬ what = 0 ∧ ¬ what = 1 ∧ ¬ what = 2 ∧ ¬ what = 3 ∧ ¬ what = 4) (w : World) (hW : Wr w p v bs) (hfit : bs.length + (x ++ x).length ≤ 1048576) (xa : Option Addr) (xc : Nat) (hx : InAp (WS p v) w (.slice xa x.length xc) x) (hsm : x.length ≤ 1000000000) :
    Calls Try.prog 13 #[.pointer (some ⟨p, 0, none⟩), .agg #[.int .i64 what, .int .i64 n, .slice xa x.length xc]] w fun e w' => LayR w w' p v bs (some (x ++ x)) e := by
  have hS := hW.lt
  obtain ⟨wh0, wh1, wh2, wh3, wh4⟩ := hwh
  go_enter Try.func13, Try.ntmps13
  go_wp2_with fail
  refine named (p := Code.wp _ _ _ _) ?_
  intro W0 hW0
  have hB0 : Below w.heap.size w W0 := by rw [hW0]; exact (Below.refl _ _).alloc (Nat.le_refl _) _
  have hX0 : Has W0 w.heap.size #[.int .i64 what, .int .i64 n, .slice xa x.length xc] 29 := by rw [hW0]; exact has_new _ _ _ _ rfl
  clear hW0
  have hW1 := hW.below hB0
  have hdrew := hW1.drew
  have hnS : ¬ WS p v w.heap.size := fun e => by have := hS _ e; omega
  have hx1 := hx.below hB0
  have c2 := hX0.cell 2
  simp at c2
  have hex : ∃ i, i < W0.heap.size ∧ ¬ WS p v i := ⟨w.heap.size, hX0.lt, hnS⟩
  have hal : ∀ (ob : Obj) (W : World), W.cell? ⟨w.heap.size, 2, none⟩ = some (.slice xa x.length xc) → (W.alloc ob).cell? ⟨w.heap.size, 2, none⟩ = some (.slice xa x.length xc) := fun ob W h => by
    refine (World.cell?_of_block (w := W) ?_).trans h
    have hlt := block_of_cell h
    show (W.alloc ob).heap[w.heap.size]? = _
    rw [alloc_get, if_neg (by simp at hlt; omega)]
  have hxa := hx1.after (Below.refl _ _) hex
  have hxn : BytesAp (WS p v) W0 (.slice none 0 0) [] := InAp.after (.inl ⟨rfl, none, 0, rfl⟩) (Below.refl _ _) hex
  have ef : [x, [], x].flatten = x ++ x := by simp
  have hfE : Fr (fun _ => False) W0 (W0.alloc (.cells #[] 5)) := Fr.of_below ((Below.refl _ _).alloc (Nat.le_refl _) _)
  have hb1 : ∀ o, Below W0.heap.size W0 (W0.alloc o) := fun o => (Below.refl _ _).alloc (Nat.le_refl _) _
  have hBa : Below W0.heap.size W0 (W0.alloc (.cells #[.slice xa x.length xc, .slice none 0 0, .slice xa x.length xc] 27)).drew := (hb1 _).trans ⟨rfl, rfl, rfl, Nat.le_refl _, fun _ _ => rfl⟩
  have hPa : Parts (WS p v) (W0.alloc (.cells #[.slice xa x.length xc, .slice none 0 0, .slice xa x.length xc] 27)).drew (.slice (some ⟨W0.heap.size, 0, none⟩) 3 3) [x, [], x] := (parts3 W0 _ _ _ hxa hxn hxa hW1.lt).drew
  have hrawa := raw_any p v _ bs [x, [], x] _ (hW1.below hBa) hPa (three_le x hsm)
  have hEa : True := trivial
  rw [ef] at hrawa
  clear hPa
  generalize hWXa : (W0.alloc (.cells #[.slice xa x.length xc, .slice none 0 0, .slice xa x.length xc] 27)).drew = WXa at hrawa hBa
  have HRa : Hid (Calls Try.prog 21 #[.pointer (some ⟨p, 0, none⟩), .slice (some ⟨W0.heap.size, 0, none⟩) 3 3] WXa fun e w' => Laid WXa w' p v bs (x ++ x) e) := hrawa
  have HWa : Hid ((W0.alloc (.cells #[.slice xa x.length xc, .slice none 0 0, .slice xa x.length xc] 27)).drew = WXa) := hWXa
  clear hrawa hWXa
  have hBb : Below W0.heap.size W0 ((W0.alloc (.cells #[.slice xa x.length xc, .slice none 0 0, .slice xa x.length xc] 27)).alloc (.cells #[] 5)).drew := (alloc2_below _ _ _).trans ⟨rfl, rfl, rfl, Nat.le_refl _, fun _ _ => rfl⟩
  have hPb : Parts (WS p v) ((W0.alloc (.cells #[.slice xa x.length xc, .slice none 0 0, .slice xa x.length xc] 27)).alloc (.cells #[] 5)).drew (.slice (some ⟨W0.heap.size, 0, none⟩) 3 3) [x, [], x] := ((parts3 W0 _ _ _ hxa hxn hxa hW1.lt).below ((Below.refl _ _).alloc (Nat.le_refl _) _)).drew
  have hrawb := raw_any p v _ bs [x, [], x] _ (hW1.below hBb) hPb (three_le x hsm)
  have hEb : Has ((W0.alloc (.cells #[.slice xa x.length xc, .slice none 0 0, .slice xa x.length xc] 27)).alloc (.cells #[] 5)).drew (W0.heap.size + 1) #[] 5 := has_drew (has_new _ _ _ _ (by simp))
  rw [ef] at hrawb
  clear hPb
  generalize hWXb : ((W0.alloc (.cells #[.slice xa x.length xc, .slice none 0 0, .slice xa x.length xc] 27)).alloc (.cells #[] 5)).drew = WXb at hrawb hBb hEb
  have HRb : Hid (Calls Try.prog 21 #[.pointer (some ⟨p, 0, none⟩), .slice (some ⟨W0.heap.size, 0, none⟩) 3 3] WXb fun e w' => Laid WXb w' p v bs (x ++ x) e) := hrawb
  have HWb : Hid (((W0.alloc (.cells #[.slice xa x.length xc, .slice none 0 0, .slice xa x.length xc] 27)).alloc (.cells #[] 5)).drew = WXb) := hWXb
  clear hrawb hWXb
  have hBc : Below W0.heap.size W0 ((W0.alloc (.cells #[] 5)).alloc (.cells #[.slice xa x.length xc, .slice none 0 0, .slice xa x.length xc] 27)).drew := (alloc2_below _ _ _).trans ⟨rfl, rfl, rfl, Nat.le_refl _, fun _ _ => rfl⟩
  have hPc : Parts (WS p v) ((W0.alloc (.cells #[] 5)).alloc (.cells #[.slice xa x.length xc, .slice none 0 0, .slice xa x.length xc] 27)).drew (.slice (some ⟨W0.heap.size + 1, 0, none⟩) 3 3) [x, [], x] := (parts3 (W0.alloc _) _ _ _ (hxa.fr hfE (fun _ _ h => h.elim)) (hxn.fr hfE (fun _ _ h => h.elim)) (hxa.fr hfE (fun _ _ h => h.elim)) (fun k hk => by have := hW1.lt k hk; simp; omega)).drew
  have hrawc := raw_any p v _ bs [x, [], x] _ (hW1.below hBc) hPc (three_le x hsm)
  have hEc : Has ((W0.alloc (.cells #[] 5)).alloc (.cells #[.slice xa x.length xc, .slice none 0 0, .slice xa x.length xc] 27)).drew (W0.heap.size) #[] 5 := has_drew (has_old (has_new _ _ _ _ rfl))
  rw [ef] at hrawc
  clear hPc
  generalize hWXc : ((W0.alloc (.cells #[] 5)).alloc (.cells #[.slice xa x.length xc, .slice none 0 0, .slice xa x.length xc] 27)).drew = WXc at hrawc hBc hEc
  have HRc : Hid (Calls Try.prog 21 #[.pointer (some ⟨p, 0, none⟩), .slice (some ⟨W0.heap.size + 1, 0, none⟩) 3 3] WXc fun e w' => Laid WXc w' p v bs (x ++ x) e) := hrawc
  have HWc : Hid (((W0.alloc (.cells #[] 5)).alloc (.cells #[.slice xa x.length xc, .slice none 0 0, .slice xa x.length xc] 27)).drew = WXc) := hWXc
  clear hrawc hWXc
  go_region_held3 (fun W => W.cell? ⟨w.heap.size, 2, none⟩ = some (.slice xa x.length xc)) (first | exact c2 | exact hal _ _ c2 | exact hal _ _ (hal _ _ c2) | exact hk1 | exact hal _ _ hk1 | exact hk2 | exact hk3)
    ((first | (go_at_call 21; rw [HWa.out]; refine HRa.out.mono ?_; intro e w1 hl; obtain ⟨rfl, v1, hW2, hF2, hL2⟩ := hl.ok hfit; obtain ⟨hF2', hL2', hxF, hM1, hM0⟩ := after_raw hW1 hBa hx1 hW2 hF2 hL2; have hX1 := hX0.fr hF2' hnS; have hk1 : w1.cell? ⟨w.heap.size, 2, none⟩ = some (.slice xa x.length xc) := hX1.cell 2) | (go_at_call 21; rw [HWb.out]; refine HRb.out.mono ?_; intro e w1 hl; obtain ⟨rfl, v1, hW2, hF2, hL2⟩ := hl.ok hfit; obtain ⟨hF2', hL2', hxF, hM1, hM0⟩ := after_raw hW1 hBb hx1 hW2 hF2 hL2; have hX1 := hX0.fr hF2' hnS; have hk1 : w1.cell? ⟨w.heap.size, 2, none⟩ = some (.slice xa x.length xc) := hX1.cell 2; have hMe := hM1 _ hEb (by omega)) | (go_at_call 21; rw [HWc.out]; refine HRc.out.mono ?_; intro e w1 hl; obtain ⟨rfl, v1, hW2, hF2, hL2⟩ := hl.ok hfit; obtain ⟨hF2', hL2', hxF, hM1, hM0⟩ := after_raw hW1 hBc hx1 hW2 hF2 hL2; have hX1 := hX0.fr hF2' hnS; have hk1 : w1.cell? ⟨w.heap.size, 2, none⟩ = some (.slice xa x.length xc) := hX1.cell 2; have hMe := hM1 _ hEc (Nat.le_refl _)) | (refine step_append_bytes rfl _ _ 27 27 rfl info5 Try.underlying27 Try.underlying27 (.slice (some ⟨w1.heap.size, 0, none⟩) 0 0) (.slice xa x.length xc) [] x rfl rfl hM0.own (hxF.later hM0.fr (by simp)) (by simp; omega) ?_; intro v2 w2 hO2 hg2 hL3; have hM2 := hM0.more hF2'.size hW2.lt hO2 hg2 hL3; rw [List.nil_append] at hM2; clear hO2 hg2 hL3; have hk2 : w2.cell? ⟨w.heap.size, 2, none⟩ = some (.slice xa x.length xc) := (World.cell?_of_block (w := w1) (hM2.fr.block w.heap.size hX1.lt (fun e => by have := e.1; have := hX0.lt; omega))).trans hk1; obtain ⟨ya, yc, hy⟩ := hM2.own.slice; subst hy) | (refine step_append_bytes rfl _ _ 27 27 rfl info5 Try.underlying27 Try.underlying27 (.slice (some ⟨W0.heap.size + 1, 0, none⟩) 0 0) (.slice xa x.length xc) [] x rfl rfl hMe.own (hxF.later hMe.fr (by have := hX1.lt; omega)) (by simp; omega) ?_; intro v2 w2 hO2 hg2 hL3; have hM2 := hMe.more hF2'.size hW2.lt hO2 hg2 hL3; rw [List.nil_append] at hM2; clear hO2 hg2 hL3; have hk2 : w2.cell? ⟨w.heap.size, 2, none⟩ = some (.slice xa x.length xc) := (World.cell?_of_block (w := w1) (hM2.fr.block w.heap.size hX1.lt (fun e => by have := e.1; have := hX0.lt; omega))).trans hk1; obtain ⟨ya, yc, hy⟩ := hM2.own.slice; subst hy) | (refine step_append_bytes rfl _ _ 27 27 rfl info5 Try.underlying27 Try.underlying27 (.slice (some ⟨W0.heap.size, 0, none⟩) 0 0) (.slice xa x.length xc) [] x rfl rfl hMe.own (hxF.later hMe.fr (by have := hX1.lt; omega)) (by simp; omega) ?_; intro v2 w2 hO2 hg2 hL3; have hM2 := hMe.more hF2'.size hW2.lt hO2 hg2 hL3; rw [List.nil_append] at hM2; clear hO2 hg2 hL3; have hk2 : w2.cell? ⟨w.heap.size, 2, none⟩ = some (.slice xa x.length xc) := (World.cell?_of_block (w := w1) (hM2.fr.block w.heap.size hX1.lt (fun e => by have := e.1; have := hX0.lt; omega))).trans hk1; obtain ⟨ya, yc, hy⟩ := hM2.own.slice; subst hy) | (refine step_append_bytes rfl _ _ 27 27 rfl info5 Try.underlying27 Try.underlying27 (.slice ya x.length yc) (.slice xa x.length xc) x x rfl rfl hM2.own (hxF.later hM2.fr (by have := hX1.lt; have := hM2.fr.size; omega)) (by omega) ?_; intro v3 w3 hO3 hg3 hL3; have hM3 := hM2.more hF2'.size hW2.lt hO3 hg3 hL3; clear hO3 hg3 hL3; have hk3 : w3.cell? ⟨w.heap.size, 2, none⟩ = some (.slice xa x.length xc) := (World.cell?_of_block (w := w1) (hM3.fr.block w.heap.size hX1.lt (fun e => by have := e.1; have := hX0.lt; omega))).trans hk1; have HM3 : Hid (Mk W0.heap.size p v1 w1 w3 v3 (x ++ x)) := hM3; obtain ⟨za, zc, hz⟩ := hM3.own.slice; rw [List.length_append] at hz; subst hz; clear hM3)))
  all_goals
    go_wp2_with fail
    go_ret3
    exact LayR.mk2 hB0 hW2 hF2' hL2' HM3.out
end Go.Proofs.Ytgoflpfafkmmgaa
