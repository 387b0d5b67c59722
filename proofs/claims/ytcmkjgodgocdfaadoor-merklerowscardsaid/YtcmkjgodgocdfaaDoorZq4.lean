/- Texts put together, in build order: R6, N2, N3, D5, N4, T1, T2, T3, T4, T5, T6, T7. -/
import Derived.Test.YtcmkjgodgocdfaaDoorZq3
import Derived.Shelf.Abstract
import Derived.Sort.QuietIn
import Derived.WalkMore
import Derived.Laws.EntriesVeiled
/- A region that draws its order: what is held is asked behind those operations alone that may come up ahead of one that leans on it. -/
namespace Go.Proofs.YtcmkjgodgocdfaaDoor
open Go.RowKit
variable {n l : Nat} {P : Program} {ops : Array Oper} {Q : Exit → Act → World → Prop} {S : World → Prop} {kp : Nat → Bool}

/-- Whatever order: S holds behind each operation that kp tells. -/
def anyK (P : Program) (ops : Array Oper) (Q : Exit → Act → World → Prop) (S : World → Prop) (kp : Nat → Bool) : Nat → Array Bool → Act → World → Prop
  | 0, listed, a, w => Region.ready .any ops listed = [] ∧ Q .normal a w
  | fuel + 1, listed, a, w => (Region.ready .any ops listed = [] → Q .normal a w) ∧
    ∀ i ∈ Region.ready .any ops listed, wpOp P ops Q i (fun a' w' => (kp i = true → S w') ∧ anyK P ops Q S kp fuel (listed.setIfInBounds i true) a' w') a w
theorem any_of_K : ∀ (fuel : Nat) (listed : Array Bool) (a : Act) (w : World), anyK P ops Q S kp fuel listed a w → wpAny P .any ops Q fuel listed a w
  | 0, _, _, _, h => h
  | fuel + 1, _, _, _, h => ⟨h.1, fun i hi => wpOp_mono (fun a' w' h' => any_of_K fuel _ a' w' h'.2) (h.2 i hi)⟩
/-- Does an operation wait for i? -/
def waitsFor (ops : Array Oper) (j i : Nat) : Bool := ((ops[j]?).map fun o => o.after.any fun e => Region.binds .any e && e.on == i).getD false
/-- Does an operation wait for i, by way of others too? -/
def reach (ops : Array Oper) : Nat → Nat → Nat → Bool
  | 0, j, i => waitsFor ops j i
  | f + 1, j, i => waitsFor ops j i || (List.range ops.size).any fun m => waitsFor ops j m && reach ops f m i
/-- Behind each operation that does not wait for i S is asked. -/
def asksAll (ops : Array Oper) (kp : Nat → Bool) (i : Nat) : Bool := (List.range ops.size).all fun j => j == i || kp j || reach ops 6 j i
/-- What is listed has listed what it waits for. -/
def Closed (ops : Array Oper) (listed : Array Bool) : Prop := ∀ (m : Nat) (om : Oper), ops[m]? = some om → listed.getD m false = true → ∀ e ∈ om.after, Region.binds .any e = true → listed.getD e.on false = true
def closedB (ops : Array Oper) (listed : Array Bool) : Bool := (List.range ops.size).all fun m => !listed.getD m false || ((ops[m]?).map fun o => o.after.all fun e => !Region.binds .any e || listed.getD e.on false).getD true
theorem closed_of {listed : Array Bool} (h : closedB ops listed = true) : Closed ops listed := fun m om hm hl e he hb => by
  unfold closedB at h
  rw [List.all_eq_true] at h
  have h1 := h m (by simp; exact (Array.getElem?_eq_some_iff.1 hm).1)
  rw [hl, hm] at h1
  simp only [Bool.not_true, Bool.false_or, Option.map_some, Option.getD_some, Array.all_eq_true', Bool.or_eq_true, Bool.not_eq_true'] at h1
  rcases h1 e he with h2 | h2
  · rw [hb] at h2; cases h2
  · exact h2
theorem waits_at {j i : Nat} {oj : Oper} (hj : ops[j]? = some oj) (h : waitsFor ops j i = true) : ∃ e ∈ oj.after, Region.binds .any e = true ∧ e.on = i := by
  unfold waitsFor at h
  rw [hj] at h
  simp only [Option.map_some, Option.getD_some, Array.any_eq_true', Bool.and_eq_true, beq_iff_eq] at h
  exact h
theorem reach_listed {i : Nat} {listed : Array Bool} (hcl : Closed ops listed) : ∀ (f j : Nat) (oj : Oper), ops[j]? = some oj → (∀ e ∈ oj.after, Region.binds .any e = true → listed.getD e.on false = true) → reach ops f j i = true → listed.getD i false = true := by
  have direct : ∀ (j : Nat) (oj : Oper), ops[j]? = some oj → (∀ e ∈ oj.after, Region.binds .any e = true → listed.getD e.on false = true) → ∀ m, waitsFor ops j m = true → listed.getD m false = true := fun j oj hj hall m h => by
    obtain ⟨e, he, hb, ho⟩ := waits_at hj h
    exact ho ▸ hall e he hb
  intro f
  induction f with
  | zero => intro j oj hj hall h; exact direct j oj hj hall i h
  | succ f ih =>
    intro j oj hj hall h
    simp only [reach, Bool.or_eq_true, List.any_eq_true, Bool.and_eq_true, List.mem_range] at h
    rcases h with h | ⟨m, hm, h1, h2⟩
    · exact direct j oj hj hall i h
    · have hml := direct j oj hj hall m h1
      exact ih m _ (Array.getElem?_eq_getElem hm) (fun e he hb => hcl m _ (Array.getElem?_eq_getElem hm) hml e he hb) h2
theorem asksAll_at {i : Nat} {listed : Array Bool} (h : asksAll ops kp i = true) (hcl : Closed ops listed) (hun : listed.getD i false ≠ true) (j : Nat) (oj : Oper) (hj : ops[j]? = some oj) (hne : j ≠ i) (hall : ∀ e ∈ oj.after, Region.binds .any e = true → listed.getD e.on false = true) : kp j = true := by
  unfold asksAll at h
  rw [List.all_eq_true] at h
  have h1 := h j (by simp; exact (Array.getElem?_eq_some_iff.1 hj).1)
  simp only [Bool.or_eq_true, beq_iff_eq, hne, false_or] at h1
  rcases h1 with h1 | h1
  · exact h1
  · exact absurd (reach_listed hcl 6 j oj hj hall h1) hun
theorem anyK_first {i : Nat} {oi : Oper} {v : Value} (hi : ops[i]? = some oi) (hsel : ∀ (j : Nat) (o : Oper) cs b, ops[j]? = some o → o.op ≠ .select cs b)
    (hQ : ∀ c a w, Q (.panic c) (a.put oi.dst v) w → Q (.panic c) a w) (hk : asksAll ops kp i = true) :
    ∀ (fuel : Nat) (listed : Array Bool) (a : Act) (w : World), Closed ops listed →
      (∀ j oj, ops[j]? = some oj → j ≠ i → listed.getD j true = false → (∀ e ∈ oj.after, Region.binds .any e = true → e.on ≠ i) → oi.apart ops oj = true) →
      i ∈ Region.ready .any ops listed → YieldsIf P ops S oi v a → S w →
      anyK P ops Q S kp fuel (listed.setIfInBounds i true) (a.put oi.dst v) w → anyK P ops Q S kp (fuel + 1) listed a w := by
  intro fuel
  induction fuel with
  | zero =>
    intro listed a w _ _ hr hy hS H
    refine ⟨fun h => (by rw [h] at hr; cases hr), fun j hj => ?_⟩
    by_cases hji : j = i
    · subst hji; exact hy.wpOp hi hS ⟨fun _ => hS, H⟩
    · have := ready_mono hj hji
      rw [H.1] at this
      cases this
  | succ fuel ih =>
    intro listed a w hcl hfree hr hy hS H
    refine ⟨fun h => (by rw [h] at hr; cases hr), fun j hj => ?_⟩
    by_cases hji : j = i
    · subst hji; exact hy.wpOp hi hS ⟨fun _ => hS, H⟩
    · have h1 := H.2 j (ready_mono hj hji)
      obtain ⟨hjun, oj, hoj, hall⟩ := Go.mem_ready.1 hj
      have hnot : ∀ e ∈ oj.after, Region.binds .any e = true → e.on ≠ i := fun e he hb heq => by
        have h1 := hall e he hb
        have h0 := (Go.mem_ready.1 hr).1
        rw [heq] at h1
        rcases Nat.lt_or_ge i listed.size with h' | h'
        · simp [h'] at h0 h1; rw [h0] at h1; cases h1
        · simp [Array.getElem?_eq_none h'] at h1
      have hun : listed.getD i false ≠ true := by
        have h0 := (Go.mem_ready.1 hr).1
        rcases Nat.lt_or_ge i listed.size with h' | h'
        · simp [h'] at h0 ⊢; exact h0
        · simp [Array.getElem?_eq_none h']
      have hkj := asksAll_at hk hcl hun j oj hoj hji hall
      have hcl' : Closed ops (listed.setIfInBounds j true) := fun m om hm hl e he hb => by
        have key : ∀ q, listed.getD q false = true → (listed.setIfInBounds j true).getD q false = true := fun q hq => by
          rw [Array.getD_eq_getD_getElem?, Array.getElem?_setIfInBounds]
          by_cases e : j = q
          · subst e
            rw [if_pos rfl]
            split
            · rfl
            · rename_i hh; rw [Array.getD_eq_getD_getElem?, Array.getElem?_eq_none (by omega)] at hq; cases hq
          · rw [if_neg e, ← Array.getD_eq_getD_getElem?]; exact hq
        by_cases hjm : j = m
        · subst hjm
          rw [hoj] at hm
          cases hm
          exact key _ (hall e he hb)
        · refine key _ (hcl m om hm ?_ e he hb)
          rwa [Array.getD_eq_getD_getElem?, Array.getElem?_setIfInBounds, if_neg hjm, ← Array.getD_eq_getD_getElem?] at hl
      have h2 := wpOp_putIf hoj (hfree j oj hoj hji hjun hnot) (fun cs b => hsel i oi cs b hi) (fun cs b => hsel j oj cs b hoj) hQ hy h1
      have hfree' : ∀ k ok, ops[k]? = some ok → k ≠ i → (listed.setIfInBounds j true).getD k true = false →
          (∀ e ∈ ok.after, Region.binds .any e = true → e.on ≠ i) → oi.apart ops ok = true := fun k ok hk hki hun hno => by
        refine hfree k ok hk hki ?_ hno
        by_cases hjk : j = k
        · subst hjk; exact hjun
        · rw [getD_set_ne true hjk] at hun; exact hun
      refine wpOp_mono (fun a' w' h3 => ⟨h3.2.1, ih (listed.setIfInBounds j true) a' w' hcl' hfree' (ready_mono hr (Ne.symm hji)) h3.1 (h3.2.1 hkj) ?_⟩) h2
      rw [Array.setIfInBounds_comm _ _ hji]
      exact h3.2.2
/-- The operation i is taken first. -/
theorem K_take {i : Nat} {oi : Oper} {v : Value} {fuel : Nat} {listed : Array Bool} {a : Act} {w : World} (hi : ops[i]? = some oi)
    (hs : Region.noSelect ops = true) (hf : Region.free .any ops listed i = true) (hr : (Region.ready .any ops listed).contains i = true) (hk : asksAll ops kp i = true) (hc : closedB ops listed = true)
    (hw : Region.wanted oi (yielded ops a.tmps) = true) (hy : ∀ w', S w' → (execOp a.eval oi).run P w' = .ok (.value v) w') (hS : S w)
    (h : anyK P ops (onlyN Q) S kp fuel (listed.setIfInBounds i true) (a.put oi.dst v) w) : anyK P ops (onlyN Q) S kp (fuel + 1) listed a w :=
  anyK_first hi (Region.noSelect_spec hs) (fun _ _ _ h => absurd h.1 (by simp)) hk fuel listed a w (closed_of hc) (Region.free_spec hi hf) (by simpa using hr) (.inl ⟨hw, hy⟩) hS h
/-- The operation i comes up alone. -/
theorem K_next {i : Nat} {o : Oper} {fuel : Nat} {listed : Array Bool} {a : Act} {w : World} (hr : Region.ready .any ops listed = [i]) (ho : ops[i]? = some o) (hw : Region.wanted o (yielded ops a.tmps) = true)
    (h : ∀ K : Act → World → Prop, (∀ a' w', (kp i = true → S w') → anyK P ops Q S kp fuel (listed.setIfInBounds i true) a' w' → K a' w') → o.wp P a w K Q) : anyK P ops Q S kp (fuel + 1) listed a w :=
  ⟨fun h0 => (by rw [h0] at hr; cases hr), fun j hj => by
    rw [hr] at hj
    obtain rfl : j = i := by simpa using hj
    unfold wpOp
    rw [ho]
    simp only []
    rw [if_pos hw]
    exact .inl (h _ fun a' w' h1 h2 => ⟨h1, h2⟩)⟩
theorem K_done {listed : Array Bool} {a : Act} {w : World} (hr : Region.ready .any ops listed = []) (h : Q .normal a w) : anyK P ops (onlyN Q) S kp 0 listed a w := ⟨hr, rfl, h⟩
theorem wpIn_round_K {id : Nat} {a : Act} {w : World} (S : World → Prop) (kp : Nat → Bool) (hm : P.follows .mixedOrders = true) (hp : noDefer ops = true)
    (h : anyK P ops (onlyN Q) S kp ops.size (Array.replicate ops.size false) a w.drew) : (Code.region id ops true).wpIn (Fence.wide.inRound l) n P Q a w :=
  wpIn_region_any hm (wpAny_round (fun i o ho c => noDefer_at hp i o ho c) _ _ _ _ (any_of_K _ _ _ _ h))
theorem wp_region_K {id : Nat} {a : Act} {w : World} (S : World → Prop) (kp : Nat → Bool) (hm : P.follows .mixedOrders = true) 
    (h : anyK P ops (onlyN Q) S kp ops.size (Array.replicate ops.size false) a w.drew) : (Code.region id ops true).wp P Q a w :=
  wp_mono (wp_region_any hm (any_of_K _ _ _ _ h)) (by rintro e a w ⟨rfl, h⟩; exact h)
end Go.Proofs.YtcmkjgodgocdfaaDoor
/- merkle.above: the row above a row. -/
namespace Go.Proofs.YtcmkjgodgocdfaaDoor
open Go.RowKit
attribute [local go_sem] Oper.semAt_some

def markL (d : Dig) : Dig := shaL (0 :: d)
def bothL (a b : Dig) : Dig := shaL (1 :: (a ++ b))
def aboveL : List Dig → List Dig
  | a :: b :: r => bothL a b :: aboveL r
  | r => r
theorem aboveL_len : ∀ (n : Nat) (ds : List Dig), ds.length ≤ n → (aboveL ds).length = (ds.length + 1) / 2
  | _, [], _ => rfl
  | _, [_], _ => by simp [aboveL]
  | 0, _ :: _ :: _, h => by simp at h
  | n + 1, a :: b :: r, h => by
    show (bothL a b :: aboveL r).length = _
    rw [List.length_cons, aboveL_len n r (by simp at h; omega), List.length_cons, List.length_cons]
    omega
theorem aboveL_all : ∀ (n : Nat) (ds : List Dig), ds.length ≤ n → All32 ds → All32 (aboveL ds)
  | _, [], _, h => h
  | _, [_], _, h => h
  | 0, _ :: _ :: _, h, _ => by simp at h
  | n + 1, a :: b :: r, hl, h => fun i d hd => by
    have ih := aboveL_all n r (by simp at hl; omega) (fun i d hd => h (i + 2) d hd)
    cases i with
    | zero => simp [aboveL] at hd; rw [← hd]; exact shaL_length _
    | succ i => exact ih i d (by simpa [aboveL] using hd)
/-- The k-th one of the row above. -/
def aboveAt (ds : List Dig) (k : Nat) : Dig := if 2 * k + 1 < ds.length then bothL (ds[2 * k]?.getD []) (ds[2 * k + 1]?.getD []) else ds[2 * k]?.getD []
theorem aboveL_at : ∀ (k : Nat) (ds : List Dig), 2 * k < ds.length → (aboveL ds)[k]? = some (aboveAt ds k)
  | 0, [_], _ => rfl
  | 0, a :: b :: r, _ => by simp [aboveL, aboveAt]
  | k + 1, [_], h => by simp at h
  | k + 1, a :: b :: r, h => by
    have h' : 2 * k < r.length := by simp at h; omega
    have := aboveL_at k r h'
    show (bothL a b :: aboveL r)[k + 1]? = _
    rw [List.getElem?_cons_succ, this]
    unfold aboveAt
    simp only [List.length_cons, show 2 * (k + 1) = 2 * k + 1 + 1 by omega, List.getElem?_cons_succ]
    by_cases e : 2 * k + 1 < r.length
    · rw [if_pos e, if_pos (by omega)]
    · rw [if_neg e, if_neg (by omega)]
theorem aboveL_take (ds : List Dig) (k : Nat) (h : 2 * k < ds.length) : (aboveL ds).take (k + 1) = (aboveL ds).take k ++ [aboveAt ds k] := by
  rw [List.take_add_one, aboveL_at k ds h]; rfl
/-- The function that puts together. -/
def joinV (fb : Nat) : Value := .func (.func 44) #[] #[.pointer (some ⟨fb, 0, none⟩)]

theorem OwnD.ex {base b : Nat} {w w' : World} {v : Value} {ds : List Dig} (h : OwnD base w v ds) (k : Ex b w w') (hb : b < base) : OwnD base w' v ds :=
  ⟨h.1, World.ownsRow.kept (row := some b) h.2 ⟨k.os, k.tape, k.output, k.size, fun i hi hn => k.block i hi (fun e => hn (by rw [e]))⟩ (by
    cases hv : v.ownBlock with
    | none => exact .inl rfl
    | some q => right; intro e; have := (h.2.lt q hv).1; have := Option.some.inj e; omega)⟩
/-- Between two rounds of 'above'. -/
structure AbI (w : World) (jv sv : Value) (ds : List Dig) (k : Nat) (W : World) : Prop where
  low : Below w.heap.size w W
  jn : Has W w.heap.size #[jv] 70
  b2 : Has W (w.heap.size + 2) #[sv] 22
  b3 : Has W (w.heap.size + 3) #[.int .i64 2] 3
  dfr : W.heap[w.heap.size + 4]? = some (.deferred (some []))
  size : w.heap.size + 6 ≤ W.heap.size
  up : ∃ v, Has W (w.heap.size + 1) #[v] 22 ∧ OwnD (w.heap.size + 6) W v ((aboveL ds).take k)
theorem AbI.ex {w W W' : World} {jv sv : Value} {ds : List Dig} {k : Nat} (h : AbI w jv sv ds k W) (e : Ex (w.heap.size + 5) W W') : AbI w jv sv ds k W' := by
  have hs := h.size
  obtain ⟨v, h1, h2⟩ := h.up
  exact ⟨h.low.trans (e.low (by omega) (by omega)), h.jn.ex e (by omega), h.b2.ex e (by omega), h.b3.ex e (by omega), (e.block _ (by omega) (by omega)).trans h.dfr, Nat.le_trans hs e.size, v, h1.ex e (by omega), h2.ex e (by omega)⟩
theorem AbI.grow {w W W' : World} {jv sv : Value} {ds : List Dig} {k : Nat} (h : AbI w jv sv ds k W) (e : Below W.heap.size W W') : AbI w jv sv ds k W' := by
  have hs := h.size
  obtain ⟨v, h1, h2⟩ := h.up
  exact ⟨h.low.trans (e.mono (by omega)), h.jn.below e h.jn.lt, h.b2.below e h.b2.lt, h.b3.below e h.b3.lt, (e.block _ (by omega)).trans h.dfr, Nat.le_trans hs e.size, v, h1.below e h1.lt, h2.below e⟩
/-- What an append onto the row above, and its store, leave. -/
theorem AbI.next {w W W1 W2 : World} {jv sv v v' : Value} {ds : List Dig} {k : Nat} {x : Dig} (h : AbI w jv sv ds k W) (e : Below W.heap.size W W1) (h1 : Has W (w.heap.size + 1) #[v] 22) (h2 : OwnD (w.heap.size + 6) W1 v ((aboveL ds).take k))
    (hg : W1.grownBy W2 v.ownBlock) (h3 : OwnD (w.heap.size + 6) W2 v' ((aboveL ds).take k ++ [x])) (hx : (aboveL ds).take (k + 1) = (aboveL ds).take k ++ [x]) : AbI w jv sv ds (k + 1) (W2.setCell ⟨w.heap.size + 1, 0, none⟩ v') := by
  have g := h.grow e
  have hs := g.size
  have hlow := grown_low2 h2.2 hg hs
  have hX := Ex.set (w.heap.size + 1) W2 0 v'
  have hs2 := hg.size
  have hk : ∀ q, q < w.heap.size + 6 → q ≠ w.heap.size + 1 → (W2.setCell ⟨w.heap.size + 1, 0, none⟩ v').heap[q]? = W1.heap[q]? := fun q hq hne => (hX.block q (by omega) hne).trans (hlow.block q hq)
  refine ⟨(g.low.trans (hlow.mono (by omega))).trans (hX.low (by omega) (by omega)), (hk _ (by omega) (by omega)).trans g.jn, (hk _ (by omega) (by omega)).trans g.b2, (hk _ (by omega) (by omega)).trans g.b3, (hk _ (by omega) (by omega)).trans g.dfr,
    by have := hX.size; omega, v', ?_, ?_⟩
  · exact ((h1.below e h1.lt).below hlow (by omega)).set 0 v'
  · rw [hx]; exact h3.ex hX (by omega)
set_option maxRecDepth 100000 in
set_option maxHeartbeats 2000000 in
theorem above_any (v : Value) (ds : List Dig) (fb : Nat) (w : World) (hv : Digs w v ds) (hn : ds.length ≤ 16) (hne : 0 < ds.length) (hf : w.cell? ⟨fb, 0, none⟩ = some (.int .u8 (bv 1))) (hfl : fb < w.heap.size) (hg : Glob w) :
    Calls Tryd.prog 47 #[v, joinV fb] w fun e w' => ∃ v', e = .returned v' ∧ OwnD w.heap.size w' v' (aboveL ds) ∧ Below w.heap.size w w' := by
  obtain ⟨h32, a, cap, g, o, rfl, hcap, hmx, ha, hin, hgl⟩ := hv
  obtain rfl := ha (by intro e; simp [e] at hne)
  clear ha
  have hgs := hg.size
  unfold joinV
  refine (callsIn_wide (n := 10)).1 ?_
  refine callsIn_of_wp_marks Tryd.func47 rfl trivial ?_ rfl
  simp only [Tryd.ntmps47, List.size_toArray, List.length_cons, List.length_nil, Nat.reduceAdd, Nat.reduceSub, Array.replicate_succ, Array.replicate_zero, List.push_toArray, List.append_toArray, List.nil_append, List.cons_append]
  gi_wp2_with (refine ⟨trivial, ?_⟩; refine (callsIn_wide.2 (chunk_any _ _ _ _)).mono ?_; rintro e w' ⟨rfl, hw⟩; obtain rfl := hw.symm)
  refine named (p := Code.wpIn _ _ _ _ _ _) ?_
  intro W0 hW0
  have hz : W0.heap.size = w.heap.size + 4 := by rw [hW0]; simp
  have hB : Below w.heap.size w W0 := by
    rw [hW0]
    repeat (first | exact Below.refl _ _ | refine Below.alloc ?_ (by simp <;> omega) _)
  have x0 : Has W0 w.heap.size #[.func (.func 44) #[] #[.pointer (some ⟨fb, 0, none⟩)]] 70 := by
    rw [hW0]; repeat (first | (refine has_new _ _ _ _ ?_; simp; done) | refine has_old ?_)
  have x1 : Has W0 (w.heap.size + 1) #[.slice none 0 0] 22 := by
    rw [hW0]; repeat (first | (refine has_new _ _ _ _ ?_; simp; done) | refine has_old ?_)
  have x2 : Has W0 (w.heap.size + 2) #[.slice (some ⟨g, o, none⟩) ds.length cap] 22 := by
    rw [hW0]; repeat (first | (refine has_new _ _ _ _ ?_; simp; done) | refine has_old ?_)
  have x3 : Has W0 (w.heap.size + 3) #[.int .i64 2] 3 := by
    rw [hW0]; repeat (first | (refine has_new _ _ _ _ ?_; simp; done) | refine has_old ?_)
  clear hW0 hw
  simp only [Nat.add_assoc, Nat.reduceAdd]
  have hlen := aboveL_len _ ds (Nat.le_refl _)
  refine wp_range_leave (gf := 63) (lb := #[.pointer (some ⟨w.heap.size + 2, 0, none⟩), .pointer (some ⟨w.heap.size + 3, 0, none⟩)]) rfl (Go.Proofs.enters_of Tryd.func63 (by kernel_rfl) rfl)
    (fun W3 => AbI w (.func (.func 44) #[] #[.pointer (some ⟨fb, 0, none⟩)]) (.slice (some ⟨g, o, none⟩) ds.length cap) ds ((ds.length + 1) / 2) W3) (fun _ _ => False) ?call ?done ?left
  case call =>
    intro fn W1 hB0 hz1 hD1 hl1
    rw [hz] at hB0 hz1 hD1 hl1 ⊢
    have hI0 : AbI w (.func (.func 44) #[] #[.pointer (some ⟨fb, 0, none⟩)]) (.slice (some ⟨g, o, none⟩) ds.length cap) ds 0 W1 :=
      ⟨hB.trans (hB0.mono (by omega)), x0.below hB0 (by omega), x2.below hB0 (by omega), x3.below hB0 (by omega), hD1, by omega, _, x1.below hB0 (by omega), by rw [List.take_zero]; exact OwnD.nil _ _⟩
    clear x0 x1 x2 x3 hB
    refine (chunk1_any 9 (w.heap.size + 4 + 1) (w.heap.size + 2) (w.heap.size + 3) g o ds.length cap W1
      (fun k W => W.heap[w.heap.size + 4 + 1]? = W1.heap[w.heap.size + 4 + 1]? ∧ AbI w (.func (.func 44) #[] #[.pointer (some ⟨fb, 0, none⟩)]) (.slice (some ⟨g, o, none⟩) ds.length cap) ds k W)
      hn hcap hmx ⟨rfl, hI0⟩ (fun k W' q h => ⟨h.1, h.2.grow ⟨rfl, rfl, rfl, Nat.le_refl _, fun _ _ => rfl⟩⟩) (fun k W' h => ⟨h.2.b2, h.2.b3⟩) ?_).mono ?_
    · intro k W hk hJ
      obtain ⟨hrec, hI⟩ := hJ
      rw [hl1] at hrec ⊢
      refine (yield_in (R := fun W' => W'.heap[w.heap.size + 4 + 1]? = W.heap[w.heap.size + 4 + 1]? ∧ AbI w (.func (.func 44) #[] #[.pointer (some ⟨fb, 0, none⟩)]) (.slice (some ⟨g, o, none⟩) ds.length cap) ds (k + 1) W') (Rx := fun _ _ => False) hrec rfl ?_).mono ?_
      · clear hrec hl1 hI0 hD1 hB0 hz1
        intro RR RB hrr
        have HR : Hid (W.heap[w.heap.size + 4 + 1]? = some RR) := hrr
        clear hrr
        gi_wp2
        refine ⟨HR.out, ?_⟩
        intro W5 hE5 hs5 hl5
        have hI5 := hI.ex hE5
        clear hI
        obtain ⟨uv, hu, ho⟩ := hI5.up
        have cu := hu.one
        have fu := hu.free 0
        have cj := hI5.jn.one
        have HL : Hid (W5.heap[w.heap.size + 4 + 1]? = some RB) := hl5
        clear hl5
        have htk := aboveL_take ds k hk
        by_cases h2 : 2 * k + 1 < ds.length
        · have em : Nat.min 2 (ds.length - 2 * k) = 2 := by change min 2 _ = 2; omega
          rw [em]
          gi_wp2
          have hgl5 : g < W5.heap.size := Nat.lt_of_lt_of_le hgl hI5.low.size
          have hin5 := hin.block (hI5.low.block g hgl)
          refine wpIn_round_K (S := fun W' => W'.cell? ⟨w.heap.size + 1, 0, none⟩ = some uv ∧ W'.cell? ⟨w.heap.size, 0, none⟩ = some (.func (.func 44) #[] #[.pointer (some ⟨fb, 0, none⟩)])) (fun i => decide (i < 5)) (by kernel_rfl) (by kernel_rfl) ?_
          refine K_take (i := 0) (v := uv) rfl (by kernel_rfl) (by kernel_rfl) (by kernel_rfl) (by kernel_rfl) (by kernel_rfl) (by rfl) (fun w' hS => by obtain ⟨h1, h2⟩ := hS; go_simp) ⟨cu, cj⟩ ?_
          refine K_take (i := 1) (v := .func (.func 44) #[] #[.pointer (some ⟨fb, 0, none⟩)]) rfl (by kernel_rfl) (by kernel_rfl) (by kernel_rfl) (by kernel_rfl) (by kernel_rfl) (by rfl) (fun w' hS => by obtain ⟨h1, h2⟩ := hS; go_simp) ⟨cu, cj⟩ ?_
          refine K_take (i := 2) (v := .slice (some ⟨g, o + 2 * k * 32, none⟩) 2 2) rfl (by kernel_rfl) (by kernel_rfl) (by kernel_rfl) (by kernel_rfl) (by kernel_rfl) (by rfl) (fun w' hS => by go_simp) ⟨cu, cj⟩ ?_
          refine K_next (i := 3) (by kernel_rfl) rfl (by rfl) (fun K hK => ?_)
          go_simp
          have hdg : Digs W5.drew (.slice (some ⟨g, o + 2 * k * 32, none⟩) 2 2) [ds[2 * k]?.getD [], ds[2 * k + 1]?.getD []] := by
            have := digs_sub (w := W5.drew) (j := 2 * k) (m := 2) (c := 2) h32 hin5 hgl5 (by omega) (Nat.le_refl _) (by unfold maxLen; omega)
            have e : (ds.drop (2 * k)).take 2 = [ds[2 * k]?.getD [], ds[2 * k + 1]?.getD []] := by
              apply List.ext_getElem?
              intro i
              rw [List.getElem?_take, List.getElem?_drop]
              match i with
              | 0 => simp [show 2 * k < ds.length by omega]
              | 1 => simp [h2]
              | i + 2 => rw [if_neg (by omega)]; simp
            rwa [e] at this
          have hat : aboveAt ds k = shaL (1 :: [ds[2 * k]?.getD [], ds[2 * k + 1]?.getD []].flatten) := by unfold aboveAt bothL; rw [if_pos h2]; simp
          obtain ⟨x, hx⟩ : ∃ x, aboveAt ds k = x := ⟨_, rfl⟩
          rw [hx] at hat htk
          have hx32 : x.length = 32 := by rw [hat]; exact shaL_length _
          refine (behind1_any 1 fb _ _ W5.drew ((hI5.low.cell (p := ⟨fb, 0, none⟩) hfl).trans hf) (Nat.lt_of_lt_of_le hfl hI5.low.size) hdg (by simp) ⟨(hg.below hI5.low hg.size).sq, (hg.below hI5.low hg.size).cu, (hg.below hI5.low hg.size).size⟩).mono ?_
          rintro e W6 ⟨rfl, hB6⟩
          rw [← hat]
          have hB6' : Below W5.heap.size W5 W6 := (Below.refl _ W5).drew.trans hB6
          have s6 : W6.cell? ⟨w.heap.size + 1, 0, none⟩ = some uv ∧ W6.cell? ⟨w.heap.size, 0, none⟩ = some (.func (.func 44) #[] #[.pointer (some ⟨fb, 0, none⟩)]) := ⟨(hu.below hB6' hu.lt).one, (hI5.jn.below hB6' hI5.jn.lt).one⟩
          refine hK _ _ (fun _ => s6) ?_
          clear hK
          refine K_next (i := 4) (by kernel_rfl) rfl (by rfl) (fun K hK => ?_)
          refine op_run (run_build_one _ _ _ x _ hx32 rfl rfl) ?_
          have hB7 : Below W5.heap.size W5 (W6.alloc (.cells (byteCells x) 30)) := hB6'.alloc hB6'.size _
          refine hK _ _ (fun _ => ⟨(hu.below hB7 hu.lt).one, (hI5.jn.below hB7 hI5.jn.lt).one⟩) ?_
          clear hK s6
          refine K_next (i := 5) (by kernel_rfl) rfl (by rfl) (fun K hK => ?_)
          refine wp_append_digs _ _ rfl (w.heap.size + 6) uv _ _ [x] rfl rfl (ho.below hB7) (digs_one W6 x hx32) (by simp; omega) (by have := hI5.size; have := hB7.size; omega) ?_
          intro v8 W8 ho8 hg8
          refine hK _ _ (fun h => absurd h (by decide)) ?_
          clear hK
          have hI8 := hI5.next hB7 hu (ho.below hB7) hg8 ho8 htk
          have hu8 : Has W8 (w.heap.size + 1) #[uv] 22 := (hu.below hB7 hu.lt).below (grown_low2 (ho.below hB7).2 hg8 (by have := hI5.size; have := hB7.size; omega)) (by omega)
          have c8 := hu8.one
          have f8 := hu8.free 0
          have hL8 : W8.heap[w.heap.size + 4 + 1]? = some RB := ((grown_low2 (ho.below hB7).2 hg8 (by have := hI5.size; have := hB7.size; omega)).block _ (by omega)).trans ((hB7.block _ (by have := hI5.size; omega)).trans HL.out)
          have HL8 : Hid (W8.heap[w.heap.size + 4 + 1]? = some RB) := hL8
          clear hL8
          obtain ⟨a8, n8, cp8, rfl⟩ : ∃ a n c, v8 = Value.slice a n c := by obtain ⟨a, c, e⟩ := ho8.slice; exact ⟨a, _, c, e⟩
          clear ho8
          refine K_next (i := 6) (by kernel_rfl) rfl (by rfl) (fun K hK => ?_)
          go_simp
          refine hK _ _ (fun h => absurd h (by decide)) (K_done (by kernel_rfl) ?_)
          have hX := Ex.set (w.heap.size + 1) W8 0 (.slice a8 n8 cp8)
          have hs8 : w.heap.size + 4 + 1 < W8.heap.size := (Array.getElem?_eq_some_iff.1 HL8.out).1
          exact ⟨(hX.block _ hs8 (by omega)).trans HL8.out, fun W6 hE6 hs6 hl6 => ⟨hl6.trans HR.out.symm, hI8.ex hE6⟩⟩
        · have em : Nat.min 2 (ds.length - 2 * k) = 1 := by change min 2 _ = 1; omega
          rw [em]
          have hgl5 : g < W5.heap.size := Nat.lt_of_lt_of_le hgl hI5.low.size
          have hin5 := hin.block (hI5.low.block g hgl)
          obtain ⟨x, hx⟩ : ∃ x, aboveAt ds k = x := ⟨_, rfl⟩
          have hat : x = ds[2 * k]?.getD [] := by rw [← hx]; unfold aboveAt; rw [if_neg h2]
          rw [hx] at htk
          have hdg : Digs W5 (.slice (some ⟨g, o + 2 * k * 32, none⟩) 1 1) [x] := by
            have := digs_sub (w := W5) (j := 2 * k) (m := 1) (c := 1) h32 hin5 hgl5 (by omega) (Nat.le_refl _) (by unfold maxLen; omega)
            have e : (ds.drop (2 * k)).take 1 = [x] := by
              apply List.ext_getElem?
              intro i
              rw [List.getElem?_take, List.getElem?_drop, hat]
              match i with
              | 0 => simp [hk]
              | i + 1 => rw [if_neg (by omega)]; simp
            rwa [e] at this
          have hz5 := hI5.size
          have hlen5 : ((aboveL ds).take k).length + 1 ≤ 1000 := by rw [List.length_take]; omega
          clear hat hx
          gi_wp2_with (refine wpListIn_append_digs (by rfl) _ _ rfl (w.heap.size + 6) uv _ _ [x] rfl rfl ho hdg (by simpa using hlen5) (by omega) ?_; intro v8 W8 ho8 hg8; have hI8 := hI5.next (Below.refl _ _) hu ho hg8 ho8 htk; have hu8 : Has W8 (w.heap.size + 1) #[uv] 22 := hu.below (grown_low2 ho.2 hg8 (by omega)) (by omega); have c8 := hu8.one; have f8 := hu8.free 0; have HL8 : Hid (W8.heap[w.heap.size + 4 + 1]? = some RB) := ((grown_low2 ho.2 hg8 (by omega)).block _ (by omega)).trans HL.out; obtain ⟨a8, n8, cp8, rfl⟩ : ∃ a n c, v8 = Value.slice a n c := (by obtain ⟨a, c, e⟩ := ho8.slice; exact ⟨a, _, c, e⟩); clear ho8)
          have hX := Ex.set (w.heap.size + 1) W8 0 (.slice a8 n8 cp8)
          have hs8 : w.heap.size + 4 + 1 < W8.heap.size := (Array.getElem?_eq_some_iff.1 HL8.out).1
          exact ⟨(hX.block _ hs8 (by omega)).trans HL8.out, fun W6 hE6 hs6 hl6 => ⟨hl6.trans HR.out.symm, hI8.ex hE6⟩⟩
      · rintro e W' (⟨rfl, h1, h2⟩ | ⟨_, _, _, h⟩)
        · exact ⟨rfl, h1.trans hrec, h2⟩
        · exact h.elim
    · rintro e W3 ⟨rfl, h1, h2⟩
      exact ⟨⟨_, rfl⟩, .inl ⟨h1, h2⟩⟩
  case left => intro c W3 W4 h; exact h.elim
  case done =>
    rintro W3 W4 hI3 hE4 hs4
    rw [hz] at hE4
    have hI4 := hI3.ex hE4
    obtain ⟨uv, hu, ho⟩ := hI4.up
    have cu := hu.one
    gi_wp2
    rw [hz]
    refine ⟨by simp, .inl ⟨_, _, rfl, run_takeDeferred hI4.dfr, ?_⟩⟩
    refine ⟨_, results_tmp rfl _ _ _, _, rfl, ?_, ?_⟩
    · rw [← hlen, List.take_length] at ho
      exact (ho.ex (putObj_ex (w.heap.size + 4) W4 _) (by omega)).mono (by omega)
    · have := hI4.size; exact hI4.low.trans ((putObj_ex (w.heap.size + 4) W4 _).low (by omega) (by omega))
end Go.Proofs.YtcmkjgodgocdfaaDoor
/- merkle.rowsFrom: all rows from a row on. -/
namespace Go.Proofs.YtcmkjgodgocdfaaDoor
open Go.RowKit

def rowsL (ds : List Dig) : List (List Dig) := if _h : 1 < ds.length then ds :: rowsL (aboveL ds) else [ds]
  termination_by ds.length
  decreasing_by rw [aboveL_len _ ds (Nat.le_refl _)]; omega
theorem rowsL_more {ds : List Dig} (h : 1 < ds.length) : rowsL ds = ds :: rowsL (aboveL ds) := by rw [rowsL, dif_pos h]
theorem rowsL_last {ds : List Dig} (h : ¬ 1 < ds.length) : rowsL ds = [ds] := by rw [rowsL, dif_neg h]
theorem rowsL_len : ∀ (n : Nat) (ds : List Dig), ds.length ≤ n → (rowsL ds).length ≤ n + 1 := by
  intro n
  induction n using Nat.strongRecOn with
  | _ n ih =>
    intro ds hn
    by_cases h : 1 < ds.length
    · rw [rowsL_more h, List.length_cons]
      have hl := aboveL_len _ ds (Nat.le_refl _)
      have := ih (n - 1) (by omega) (aboveL ds) (by omega)
      omega
    · rw [rowsL_last h]; simp
theorem own_apart {w : World} {b1 b2 e1 e2 s1 s2 n1 n2 : Nat} {v1 v2 : Value} {x1 x2 : List Value} (h1 : w.ownsRow b1 e1 s1 v1 n1 x1) (h2 : w.ownsRow b2 e2 s2 v2 n2 x2) (he : e1 ≠ e2) : v1.ownBlock = none ∨ v1.ownBlock ≠ v2.ownBlock := by
  rcases h1.2 with ⟨rfl, _⟩ | ⟨g, c, cur, rfl, _, hg, _⟩
  · exact .inl rfl
  · right
    rcases h2.2 with ⟨rfl, _⟩ | ⟨g', c', cur', rfl, _, hg', _⟩
    · simp [Value.ownBlock]
    · intro e
      simp only [Value.ownBlock, Option.some.injEq] at e
      subst e
      rw [hg] at hg'
      simp only [Option.some.injEq, Obj.cells.injEq] at hg'
      exact he hg'.2.1
/-- A row of rows of digests, each in a block of its own. -/
structure RowsAt (base C : Nat) (w : World) (rv : Value) (rows : List (List Dig)) (xs : List Value) : Prop where
  own : w.ownsRow C 22 1 rv rows.length xs
  each : ∀ j, j < rows.length → ∃ sv, xs[j]? = some sv ∧ OwnD base w sv (rows[j]?.getD [])
  apart : ∀ (i j : Nat) (u v : Value) (b : Nat), i < j → xs[i]? = some u → xs[j]? = some v → u.ownBlock = some b → v.ownBlock ≠ some b
theorem RowsAt.below {B C : Nat} {w w' : World} {mv : Value} {rows : List (List Dig)} {xs : List Value} (h : RowsAt B C w mv rows xs) (k : Below w.heap.size w w') : RowsAt B C w' mv rows xs :=
  ⟨ownsRow_below h.own k, fun j hj => by obtain ⟨sv, h1, h2⟩ := h.each j hj; exact ⟨sv, h1, h2.below k⟩, h.apart⟩
theorem OwnD.kept {base B e size n : Nat} {w w' : World} {v mv : Value} {ds : List Dig} {xs : List Value} (h : OwnD base w v ds) (hm : w.ownsRow B e size mv n xs) (hg : w.grownBy w' mv.ownBlock) (he : 30 ≠ e) : OwnD base w' v ds :=
  ⟨h.1, World.ownsRow.kept h.2 hg (own_apart h.2 hm he)⟩
theorem RowsAt.snoc {B C : Nat} {w w1 w2 : World} {mv mv' sv : Value} {rows : List (List Dig)} {xs : List Value} {d : List Dig} (h : RowsAt B C w mv rows xs) (k : Below w.heap.size w w1) (hd : OwnD w.heap.size w1 sv d) (hb : B ≤ w.heap.size)
    (ho : w1.ownsRow C 22 1 mv rows.length xs) (ho2 : w2.ownsRow C 22 1 mv' (rows.length + 1) (xs ++ [sv])) (hg : w1.grownBy w2 mv.ownBlock) : RowsAt B C w2 mv' (rows ++ [d]) (xs ++ [sv]) := by
  have hl : xs.length = rows.length := by have := h.own.1; omega
  refine ⟨by rw [List.length_append]; exact ho2, fun j hj => ?_, fun i j u v b hij hu hv hb1 => ?_⟩
  · rw [List.length_append] at hj
    by_cases e : j < rows.length
    · obtain ⟨s, h1, h2⟩ := h.each j e
      refine ⟨s, by rw [List.getElem?_append_left (by omega)]; exact h1, ?_⟩
      rw [List.getElem?_append_left e]
      exact (h2.below k).kept ho hg (by decide)
    · have ej : j = rows.length := by simp at hj; omega
      subst ej
      refine ⟨sv, by rw [List.getElem?_append_right (by omega), hl]; simp, ?_⟩
      rw [List.getElem?_append_right (by omega)]
      simp only [Nat.sub_self, List.getElem?_cons_zero, Option.getD_some]
      exact (hd.mono hb).kept ho hg (by decide)
  · have hj : j < xs.length + 1 := by have := (List.getElem?_eq_some_iff.1 hv).1; simpa using this
    have hi : i < xs.length := by omega
    rw [List.getElem?_append_left hi] at hu
    by_cases e : j < xs.length
    · rw [List.getElem?_append_left e] at hv
      exact h.apart i j u v b hij hu hv hb1
    · have ej : j = xs.length := by omega
      subst ej
      rw [List.getElem?_append_right (by omega), Nat.sub_self] at hv
      obtain rfl : sv = v := by simpa using hv
      intro hc
      have h1 := (hd.2.lt b hc).1
      obtain ⟨s, h2, h3⟩ := h.each i (by omega)
      obtain rfl : s = u := Option.some.inj (h2.symm.trans hu)
      have h4 := (h3.2.lt b hb1).2
      omega
theorem info22 : (Tryd.prog.info? 22).map (fun i => (i.zero, i.size, i.bytes)) = some (some (.slice none 0 0), 1, 24) := by kernel_rfl
theorem OwnD.len {base : Nat} {w : World} {v : Value} {ds : List Dig} (h : OwnD base w v ds) : sliceLen v = ds.length := by
  obtain ⟨a, c, rfl⟩ := h.slice; rfl

set_option maxRecDepth 100000 in
set_option maxHeartbeats 2000000 in
theorem rowsFrom_any (B : Nat) (v : Value) (ds : List Dig) (fb : Nat) (w : World) (hv : OwnD B w v ds) (hB : B ≤ w.heap.size) (hn : ds.length ≤ 16) (hne : 0 < ds.length) (hf : w.cell? ⟨fb, 0, none⟩ = some (.int .u8 (bv 1))) (hfl : fb < w.heap.size) (hg : Glob w) :
    Calls Tryd.prog 42 #[v, joinV fb] w fun e w' => ∃ v' xs, e = .returned v' ∧ RowsAt B w.heap.size w' v' (rowsL ds) xs ∧ Below w.heap.size w w' := by
  have hgs := hg.size
  obtain ⟨j0, hi, hz0, hz1, hz2⟩ := info_parts info22
  have hrl := rowsL_len _ ds hn
  obtain ⟨jv, hjv⟩ : ∃ jv, joinV fb = jv := ⟨_, rfl⟩
  rw [hjv]
  obtain ⟨a0, n0, c0, rfl⟩ : ∃ a n c, v = Value.slice a n c := by obtain ⟨a, c, e⟩ := hv.slice; exact ⟨a, _, c, e⟩
  go_enter Tryd.func42, Tryd.ntmps42
  go_wp2_with fail
  refine named (p := Code.wp _ _ _ _) ?_
  intro W0 hW0
  have hz : w.heap.size < W0.heap.size := by rw [hW0]; simp
  have hB0 : Below w.heap.size w W0 := by rw [hW0]; exact (Below.refl _ _).alloc (Nat.le_refl _) _
  have x0 : Has W0 w.heap.size #[.slice a0 n0 c0] 22 := by rw [hW0]; exact has_new _ _ _ _ rfl
  have hR0 : RowsAt B w.heap.size W0 (.slice (some ⟨w.heap.size, 0, none⟩) 1 1) [ds] [.slice a0 n0 c0] :=
    ⟨⟨rfl, .inr ⟨_, 1, _, rfl, Nat.le_refl _, x0, Nat.le_refl _, by simp only [maxLen]; omega, rfl, rfl⟩⟩, fun j hj => by
      obtain rfl : j = 0 := by simp at hj; omega
      exact ⟨_, rfl, hv.below hB0⟩, fun i j u v b hij hu hv => by
      have := (List.getElem?_eq_some_iff.1 hv).1
      simp at this; omega⟩
  clear hW0 x0
  have hv0 := hv.below hB0
  go_loopw [0, 5] (fun r rv wr => ∃ ds' pre xs, OwnD B wr r ds' ∧ 0 < ds'.length ∧ ds'.length ≤ 16 ∧ Hid (rowsL ds = pre ++ rowsL ds') ∧ RowsAt B w.heap.size wr rv (pre ++ [ds']) xs ∧ Below w.heap.size w wr) (fun r _ _ => sliceLen r)
  case atStart => exact ⟨ds, [], _, hv0, hne, hn, rfl, hR0, hB0⟩
  case round =>
    obtain ⟨ds', pre, xs, ho, h0, h16, hrw, hR, hBw⟩ := hrel
    obtain ⟨ar, cr, rfl⟩ := ho.slice
    by_cases hlt : 1 < ds'.length
    · have hgw := hg.below hBw hg.size
      have hws : 2 ≤ wr.heap.size := hgw.size
      have hfw := (hBw.cell (p := ⟨fb, 0, none⟩) hfl).trans hf
      have hfl' : fb < wr.heap.size := Nat.lt_of_lt_of_le hfl hBw.size
      have hBwr : B ≤ wr.heap.size := Nat.le_trans hB hBw.size
      have hplen : Hid ((pre ++ [ds']).length + 1 ≤ 17) := by
        have := congrArg List.length hrw.out
        rw [List.length_append, rowsL_more hlt, List.length_cons] at this
        have h3 : 1 ≤ (rowsL (aboveL ds')).length := by
          rw [rowsL]; split <;> simp
        show (pre ++ [ds']).length + 1 ≤ 17
        rw [List.length_append, List.length_singleton]
        omega
      obtain ⟨m, hm⟩ : ∃ m, (pre ++ [ds']).length = m := ⟨_, rfl⟩
      have hown := hR.own
      rw [hm] at hplen hown
      go_wp2_with fail
      have hcall := above_any (.slice ar ds'.length cr) ds' fb wr (ho.digs (by omega)) h16 h0 hfw hfl' hgw
      rw [hjv] at hcall
      refine hcall.mono ?_
      clear hcall
      rintro e W1 ⟨v1, rfl, ho1, hB1⟩
      obtain ⟨a1, c1, hv1⟩ := ho1.slice
      have hl1 := aboveL_len _ ds' (Nat.le_refl _)
      obtain ⟨n1, hn1⟩ : ∃ n, (aboveL ds').length = n := ⟨_, rfl⟩
      rw [hn1] at hv1 hl1
      subst hv1
      have hl2 : Hid (n1 = (ds'.length + 1) / 2) := hl1
      have hn1' : Hid ((aboveL ds').length = n1) := hn1
      clear hl1 hn1
      have hws' := hBw.size
      have hown1 := ownsRow_below hown hB1
      have hn2 := has_new W1 #[Value.slice a1 n1 c1] 22 W1.heap.size rfl
      have hs1 := hB1.size
      go_wp2_with (refine wpList_append_own _ rfl _ _ 45 rfl w.heap.size 22 j0 (.slice none 0 0) 1 24 Tryd.underlying45 hi hz0 hz1 hz2 rfl (by omega) _ m xs rfl (hown1.alloc _) ⟨W1.heap.size, 0, none⟩ 1 1 [Value.slice a1 n1 c1] rfl rfl (fun j u hu => by rw [Addr.add_mid, Nat.zero_add]; refine (hn2.cell j).trans ?_; rw [← hu]; simp) (fun u hu => by simp at hu; subst hu; rfl) (by have := hplen.out; simp only [maxLen]; omega) (by have := hplen.out; omega) (by simp; omega) ?_; intro v4 w4 hown4 hg4 hnil; clear hnil)
      have hBa := (Below.refl W1.heap.size W1).alloc (Nat.le_refl _) (.cells #[Value.slice a1 n1 c1] 22)
      have hRn := hR.snoc (hB1.trans (hBa.mono hs1)) (ho1.alloc _) hBwr (by rw [hm]; exact hown1.alloc _) (by rw [hm]; exact hown4) hg4
      have hlow := grown_low2 (hown1.alloc (.cells #[Value.slice a1 n1 c1] 22)) hg4 (by simp; omega)
      have hl1 := hl2.out
      have hn1 := hn1'.out
      go_roundw
      case rel => exact ⟨aboveL ds', pre ++ [ds'], _, ((ho1.alloc _).mono hBwr).kept (hown1.alloc _) hg4 (by decide), by omega, by omega, by have := hrw.out; rw [rowsL_more hlt] at this; show _ = _; rw [this]; simp, hRn, ((hBw.trans (hB1.mono hBw.size)).trans (hBa.mono (by have := hBw.size; omega))).trans hlow⟩
      case measure => simp [sliceLen]; omega
    · have hfin : rowsL ds = pre ++ [ds'] := by have := hrw.out; rwa [rowsL_last hlt] at this
      go_wp2
      go_ret
      exact ⟨_, xs, rfl, by rw [hfin]; exact hR, hBw⟩
end Go.Proofs.YtcmkjgodgocdfaaDoor
/- Slices of digests that are written out, in a walk. -/
namespace Go.Proofs.YtcmkjgodgocdfaaDoor
open Go.RowKit
theorem wpList_build_one {w : World} {ops : Array Oper} {rest : List Oper} {o : Oper} {a : Act} {Q : Exit → Act → World → Prop} (hgd : o.guard = none) (x : Operand) (ho : o.op = .buildSlice 22 1 #[(0, x)]) (d : Dig) (hx : a.eval x = .agg (byteCells d)) (hd : d.length = 32)
    (h : wpList Tryd.prog ops Q rest (a.put o.dst (.slice (some ⟨w.heap.size, 0, none⟩) 1 1)) (w.alloc (.cells (byteCells d) 30))) : wpList Tryd.prog ops Q (o :: rest) a w :=
  wpList_plain hgd fun _ hK => op_run (run_build_one o a.eval x d w hd ho hx) (hK _ _ h)
theorem wpList_build_two {w : World} {ops : Array Oper} {rest : List Oper} {o : Oper} {a : Act} {Q : Exit → Act → World → Prop} (hgd : o.guard = none) (x y : Operand) (ho : o.op = .buildSlice 22 2 #[(0, x), (1, y)]) (d e : Dig) (hx : a.eval x = .agg (byteCells d)) (hy : a.eval y = .agg (byteCells e)) (hd : d.length = 32) (he : e.length = 32)
    (h : wpList Tryd.prog ops Q rest (a.put o.dst (.slice (some ⟨w.heap.size, 0, none⟩) 2 2)) (w.alloc (.cells ([d, e].flatten.map bc).toArray 30))) : wpList Tryd.prog ops Q (o :: rest) a w :=
  wpList_plain hgd fun _ hK => op_run (run_build_two o a.eval x y d e w hd he ho hx hy) (hK _ _ h)
theorem wpListIn_run {F : Fence} {n : Nat} {P : Program} {ops : Array Oper} {rest : List Oper} {o : Oper} {a : Act} {w w' : World} {v : Value} {Q : Exit → Act → World → Prop} (hw : Region.wanted o (yielded ops a.tmps) = true) (hc : ∀ c, o.op ≠ .call c) (hd : ∀ c, o.op ≠ .defer c)
    (hrun : (execOp a.eval o).run P w = .ok (.value v) w') (h : wpListIn F n P ops Q rest (a.put o.dst v) w') : wpListIn F n P ops Q (o :: rest) a w := by
  refine wpListIn_step fun K hK => ?_
  rw [if_pos hw]
  unfold Oper.wpIn
  refine ⟨?_, ?_⟩
  · unfold Oper.about
    cases ho : o.op <;> first | (intro f hf; cases hf; done) | exact absurd ho (hc _) | exact absurd ho (hd _) | skip
  · rw [Oper.semAt_plain F _ _ hd, hrun]
    exact hK _ _ h
end Go.Proofs.YtcmkjgodgocdfaaDoor
/- merkle: all rows of leaves. -/
namespace Go.Proofs.YtcmkjgodgocdfaaDoor
open Go.RowKit

set_option maxRecDepth 100000 in
set_option maxHeartbeats 2000000 in
theorem rows_any (v : Value) (ds : List Dig) (w : World) (hv : Digs w v ds) (hn : ds.length ≤ 16) (hne : 0 < ds.length) (hg : Glob w) :
    Calls Tryd.prog 33 #[v] w fun e w' => ∃ v' xs, e = .returned v' ∧ RowsAt w.heap.size w.heap.size w' v' (rowsL (ds.map markL)) xs ∧ Below w.heap.size w w' := by
  obtain ⟨h32, a, cap, g, o, rfl, hcap, hmx, ha, hin, hgl⟩ := hv
  obtain rfl := ha (by intro e; simp [e] at hne)
  clear ha
  unfold maxLen at hmx
  have hgs := hg.size
  go_enter Tryd.func33, Tryd.ntmps33
  go_wp2_with (first
    | (go_at_call 40; refine (behind_any 0 _).mono ?_; rintro e w' ⟨rfl, hw⟩; obtain rfl := hw.symm)
    | (go_at_call 40; refine (behind_any 1 _).mono ?_; rintro e w' ⟨rfl, hw⟩; obtain rfl := hw.symm))
  refine named (p := Code.wp _ _ _ _) ?_
  intro W0 hW0
  have hz : w.heap.size + 2 ≤ W0.heap.size := by rw [hW0]; simp
  have hB0 : Below w.heap.size w W0 := by
    rw [hW0]
    repeat (first | exact Below.refl _ _ | refine Below.alloc ?_ (by simp <;> omega) _)
  have x0 : Has W0 w.heap.size #[.int .u8 (bv 0)] 5 := by
    rw [hW0]; repeat (first | (refine has_new _ _ _ _ ?_; simp; done) | refine has_old ?_)
  have x1 : Has W0 (w.heap.size + 1) #[.int .u8 (bv 1)] 5 := by
    rw [hW0]; repeat (first | (refine has_new _ _ _ _ ?_; simp; done) | refine has_old ?_)
  clear hW0
  go_loopw [5, 12] (fun mv i wr => ∃ k : Nat, k ≤ ds.length ∧ i = .int .i64 k ∧ OwnD w.heap.size wr mv ((ds.map markL).take k) ∧ Has wr w.heap.size #[.int .u8 (bv 0)] 5 ∧ Has wr (w.heap.size + 1) #[.int .u8 (bv 1)] 5 ∧ Below w.heap.size w wr ∧ w.heap.size + 2 ≤ wr.heap.size) (fun _ i _ => ds.length - (intOf i).toNat)
  case atStart => exact ⟨0, Nat.zero_le _, rfl, by rw [List.take_zero]; exact OwnD.nil _ _, x0, x1, hB0, hz⟩
  case round =>
    clear x0 x1 hB0 hz
    obtain ⟨k, hk, rfl, ho, x0, x1, hBw, hsz⟩ := hrel
    have hgw := hg.below hBw hg.size
    by_cases hlt : k < ds.length
    · have hd := h32.at_ hlt
      have hrg := rangeAt_block (hin k hlt) (hBw.block g hgl)
      obtain ⟨d, hdd⟩ : ∃ d, ds[k]?.getD [] = d := ⟨_, rfl⟩
      rw [hdd] at hd hrg
      have hbs : (byteCells d).size = 32 := by rw [byteCells_size, hd]
      have hn1 := has_new wr (zeroCells 32) 30 wr.heap.size rfl
      go_upto_region 6 with (first
        | refine wpList_load_mid rfl 30 _ rfl g (o + k * 32) rfl (byteCells d).toList _ hrg Tryd.underlying30 rfl (by rw [byteCells_len, hd]; kernel_rfl) ?_
        | refine wpList_store_row rfl 30 _ _ rfl wr.heap.size (byteCells d) rfl rfl 30 _ hn1 (by rw [hbs]; kernel_rfl) (by rw [hbs, zeroCells_size]) (byteCells_one _) ?_)
      refine named (p := Code.wp _ _ _ _) ?_
      intro W1 hW1
      have hz1' : wr.heap.size < W1.heap.size := by rw [hW1]; simp
      have hB1 : Below wr.heap.size wr W1 := by
        rw [hW1]; exact ((Below.refl _ _).alloc (Nat.le_refl _) _).trans ⟨rfl, rfl, rfl, by simp, fun j hj => setRow_other _ _ _ _ (by omega)⟩
      have hk1 : Has W1 wr.heap.size (byteCells d) 30 := by rw [hW1]; exact setRow_heap _ _ _ _ _ _ hn1
      clear hW1 hn1 hrg
      have hdg := digs_one W1 d hd
      have hBa := (Below.refl W1.heap.size W1).alloc (Nat.le_refl _) (.cells (byteCells d) 30)
      have hB2 : Below wr.heap.size wr (W1.alloc (.cells (byteCells d) 30)) := hB1.trans (hBa.mono (by omega))
      have hg2 := hgw.below hB2 hgw.size
      have hx2 := x0.below hB2 x0.lt
      have ho2 := ho.below hB2
      have hmk : markL d = shaL (0 :: [d].flatten) := by simp [markL]
      obtain ⟨x, hx⟩ : ∃ x, markL d = x := ⟨_, rfl⟩
      rw [hx] at hmk
      have hx32 : x.length = 32 := by rw [hmk]; exact shaL_length _
      go_wp2_with (first
        | refine wpList_load_row rfl 30 _ rfl wr.heap.size rfl 30 (byteCells d) (0, 0) _ hk1 Tryd.underlying30 rfl (by rw [hbs]; kernel_rfl) ?_
        | refine wpList_build_one rfl _ rfl d rfl hd ?_)
      refine (behind1_any 0 w.heap.size _ [d] _ hx2.one hx2.lt hdg (by simp) hg2).mono ?_
      rintro e W3 ⟨rfl, hB3⟩
      rw [← hmk]
      have HX : Hid (markL d = x) := hx
      clear hmk hx hdg
      have hB4 : Below wr.heap.size wr W3 := hB2.trans (hB3.mono (by have := hB2.size; omega))
      have ho4 := ho.below hB4
      have hdx := digs_one W3 x hx32
      have hlen4 : ((ds.map markL).take k).length + 1 ≤ 1000 := by rw [List.length_take]; omega
      have hs4 := hB4.size
      go_wp2_with (first
        | refine wpList_build_one rfl _ rfl x rfl hx32 ?_
        | (refine wpList_append_digs rfl _ _ rfl w.heap.size _ _ _ [x] rfl rfl (ho4.alloc _) hdx hlen4 (by simp; omega) ?_; intro v5 W5 ho5 hg5))
      have hBb := (Below.refl W3.heap.size W3).alloc (Nat.le_refl _) (.cells (byteCells x) 30)
      have hlow := grown_low2 (ho4.alloc (.cells (byteCells x) 30)).2 hg5 (by simp; omega)
      have htk : (ds.map markL).take (k + 1) = (ds.map markL).take k ++ [x] := by
        rw [List.take_add_one, List.getElem?_map, ← HX.out, ← hdd]
        simp [hlt]
      have y0 := (x0.below hB4 x0.lt).below hBb (Nat.lt_of_lt_of_le x0.lt hs4)
      have y1 := (x1.below hB4 x1.lt).below hBb (Nat.lt_of_lt_of_le x1.lt hs4)
      have hs5 := hg5.size
      rw [World.size_alloc] at hs5
      go_roundw
      case rel => exact ⟨k + 1, by omega, by go_num, by rw [htk]; exact ho5, grown_has (ho4.alloc _).2 hg5 y0 (by decide), grown_has (ho4.alloc _).2 hg5 y1 (by decide), ((hBw.trans (hB4.mono (by omega))).trans (hBb.mono (by omega))).trans hlow, by omega⟩
      case measure => simp [intOf]; omega
    · obtain rfl : k = ds.length := by omega
      rw [List.take_of_length_le (by simp)] at ho
      obtain ⟨am, nm, cm, rfl⟩ : ∃ a n c, u5 = Value.slice a n c := by obtain ⟨a, c, e⟩ := ho.slice; exact ⟨a, _, c, e⟩
      have hcall := rowsFrom_any w.heap.size (.slice am nm cm) (ds.map markL) (w.heap.size + 1) wr ho (by omega) (by simpa using hn) (by simpa using hne) x1.one x1.lt hgw
      unfold joinV at hcall
      go_wp2_with (go_at_call 42; refine hcall.mono ?_; rintro e w' ⟨v', xs, rfl, hR, hB'⟩)
      go_ret
      exact ⟨_, xs, rfl, ⟨ownsRow_mono hR.own (by omega), hR.each, hR.apart⟩, hBw.trans (hB'.mono (by omega))⟩
end Go.Proofs.YtcmkjgodgocdfaaDoor
/- A tree: New, none, asked, Len, Leaf. -/
namespace Go.Proofs.YtcmkjgodgocdfaaDoor
open Go.RowKit

/-- A tree of leaves, which lie in no block below B. -/
def TreeAt (B : Nat) (w : World) (tb : Nat) (ds : List Dig) : Prop := 0 < ds.length ∧ ds.length ≤ 16 ∧ B ≤ tb ∧ ∃ v, Has w tb #[v] 64 ∧ OwnD B w v ds
theorem TreeAt.below {B tb : Nat} {w w' : World} {ds : List Dig} (h : TreeAt B w tb ds) (k : Below w.heap.size w w') : TreeAt B w' tb ds := by
  obtain ⟨h1, h2, h3, v, h4, h5⟩ := h
  exact ⟨h1, h2, h3, v, h4.below k h4.lt, h5.below k⟩
theorem nil_ne (a : Addr) (n c : Nat) (w : World) : (binOp .eql 22 (.slice (some a) n c) (.slice none 0 0)).run Tryd.prog w = .ok (.bool false) w := by
  simp only [binOp, Op.equal]
  rw [show Op.maxDepth = 9999 + 1 from rfl, Op.equalIn]
  simp [go_sem, run_underlying Tryd.underlying22, Result.andThen]
set_option maxRecDepth 100000 in
set_option maxHeartbeats 1000000 in
theorem clone_any (v : Value) (ds : List Dig) (w : World) (hv : Digs w v ds) (hne : 0 < ds.length) (hn : ds.length ≤ 16) :
    Calls Tryd.prog 31 #[v] w fun e w' => ∃ v', e = .returned v' ∧ OwnD w.heap.size w' v' ds ∧ Below w.heap.size w w' := by
  have hv' := hv
  obtain ⟨h32, a, cap, g, o, rfl, hcap, hmx, ha, hin, hgl⟩ := hv
  obtain rfl := ha (by intro e; simp [e] at hne)
  clear ha
  have hm : OwnD w.heap.size (w.alloc (.cells #[] 30)) (.slice (some ⟨w.heap.size, 0, none⟩) 0 0) [] :=
    ⟨All32.nil, World.ownsRow_made w #[] 0 (Nat.le_refl _) (by simp only [maxLen]; omega) rfl⟩
  have hB0 := (Below.refl w.heap.size w).alloc (Nat.le_refl _) (.cells #[] 30)
  have hv2 := hv'.below hB0
  have hq := nil_ne ⟨g, o, none⟩ ds.length cap w
  go_enter Tryd.func31, Tryd.ntmps31
  go_wp2_with (refine wpList_append_digs rfl _ _ rfl w.heap.size _ _ [] ds rfl rfl hm hv2 (by simp; omega) (by simp) ?_; intro v1 w1 ho1 hg1)
  go_ret
  exact ⟨_, rfl, by simpa using ho1, hB0.trans (grown_low2 hm.2 hg1 (by simp))⟩
set_option maxHeartbeats 1000000 in
theorem tnew_any (v : Value) (ds : List Dig) (w : World) (hv : Digs w v ds) (hne : 0 < ds.length) (hn : ds.length ≤ 16) :
    Calls Tryd.prog 14 #[v] w fun e w' => ∃ tb, e = .returned (.tuple #[.pointer (some ⟨tb, 0, none⟩), .int .i64 0]) ∧ TreeAt w.heap.size w' tb ds ∧ Below w.heap.size w w' := by
  have hm : mayB (ds.length : Int) = true := by simp [mayB]; omega
  have hc := clone_any v ds w hv hne hn
  obtain ⟨a, cap, rfl⟩ := hv.slice
  obtain ⟨n, hnn⟩ : ∃ n, ds.length = n := ⟨_, rfl⟩
  rw [hnn] at hm hc ⊢
  go_enter Tryd.func14, Tryd.ntmps14
  go_wp2_with (first
    | (go_at_call 30; refine (may_any _ _).mono ?_; rintro e w' ⟨rfl, hw⟩; obtain rfl := hw.symm)
    | (go_at_call 31; refine hc.mono ?_; rintro e w' ⟨v', rfl, ho, hB⟩; obtain ⟨a1, n1, c1, rfl⟩ : ∃ a n c, v' = Value.slice a n c := (by obtain ⟨a, c, e⟩ := ho.slice; exact ⟨a, _, c, e⟩)))
  go_ret2
  exact ⟨_, rfl, ⟨hne, hn, hB.size, _, has_new _ _ _ _ rfl, ho.alloc _⟩, hB.alloc hB.size _⟩
set_option maxHeartbeats 1000000 in
theorem tnew_bad (a : Option Addr) (n cap : Nat) (w : World) (h : mayB (n : Int) = false) :
    Calls Tryd.prog 14 #[.slice a n cap] w fun e w' => e = .returned (.tuple #[.pointer none, .int .i64 2]) ∧ w' = w := by
  go_enter Tryd.func14, Tryd.ntmps14
  go_wp2_with (go_at_call 30; refine (may_any _ _).mono ?_; rintro e w' ⟨rfl, hw⟩; obtain rfl := hw.symm)
  go_ret2
  exact ⟨rfl, rfl⟩
set_option maxHeartbeats 1000000 in
theorem none_tree {B tb : Nat} {ds : List Dig} {w : World} (h : TreeAt B w tb ds) : Calls Tryd.prog 32 #[.pointer (some ⟨tb, 0, none⟩)] w fun e w' => e = .returned (.bool false) ∧ w' = w := by
  obtain ⟨h0, h16, _, v, hv, ho⟩ := h
  obtain ⟨a, c, rfl⟩ := ho.slice
  have c1 := hv.one
  have hne : ¬ ds.length = 0 := by omega
  go_enter Tryd.func32, Tryd.ntmps32
  go_wp2
  go_ret
  exact ⟨by simp [hne], rfl⟩
set_option maxHeartbeats 1000000 in
theorem none_tnil (w : World) : Calls Tryd.prog 32 #[.pointer none] w fun e w' => e = .returned (.bool true) ∧ w' = w := by
  go_enter Tryd.func32, Tryd.ntmps32
  go_wp2
  go_ret
  exact ⟨rfl, rfl⟩
set_option maxHeartbeats 1000000 in
theorem asked_any {B tb : Nat} {ds : List Dig} {w : World} (h : TreeAt B w tb ds) (i : Int) : Calls Tryd.prog 34 #[.pointer (some ⟨tb, 0, none⟩), .int .i64 i] w fun e w' => e = .returned (.int .i64 (if thereB i ds.length then 0 else 4)) ∧ w' = w := by
  have hnn := none_tree h
  obtain ⟨h0, h16, _, v, hv, ho⟩ := h
  obtain ⟨a, c, rfl⟩ := ho.slice
  have c1 := hv.one
  cases ht : thereB i ds.length with
  | true =>
    go_enter Tryd.func34, Tryd.ntmps34
    go_wp2_with (first
      | (go_at_call 32; refine hnn.mono ?_; rintro e w' ⟨rfl, hw⟩; obtain rfl := hw.symm)
      | (go_at_call 35; refine (there_any _ _ _).mono ?_; rintro e w' ⟨rfl, hw⟩; obtain rfl := hw.symm))
    go_ret
    exact ⟨rfl, rfl⟩
  | false =>
    go_enter Tryd.func34, Tryd.ntmps34
    go_wp2_with (first
      | (go_at_call 32; refine hnn.mono ?_; rintro e w' ⟨rfl, hw⟩; obtain rfl := hw.symm)
      | (go_at_call 35; refine (there_any _ _ _).mono ?_; rintro e w' ⟨rfl, hw⟩; obtain rfl := hw.symm))
    go_ret
    exact ⟨rfl, rfl⟩
set_option maxHeartbeats 1000000 in
theorem asked_nil (i : Int) (w : World) : Calls Tryd.prog 34 #[.pointer none, .int .i64 i] w fun e w' => e = .returned (.int .i64 1) ∧ w' = w := by
  go_enter Tryd.func34, Tryd.ntmps34
  go_wp2_with (go_at_call 32; refine (none_tnil _).mono ?_; rintro e w' ⟨rfl, hw⟩; obtain rfl := hw.symm)
  go_ret
  exact ⟨rfl, rfl⟩
set_option maxHeartbeats 1000000 in
theorem len_tree {B tb : Nat} {ds : List Dig} {w : World} (h : TreeAt B w tb ds) : Calls Tryd.prog 21 #[.pointer (some ⟨tb, 0, none⟩)] w fun e w' => e = .returned (.int .i64 (ds.length : Int)) ∧ w' = w := by
  have hnn := none_tree h
  obtain ⟨h0, h16, _, v, hv, ho⟩ := h
  obtain ⟨a, c, rfl⟩ := ho.slice
  have c1 := hv.one
  go_enter Tryd.func21, Tryd.ntmps21
  go_wp2_with (go_at_call 32; refine hnn.mono ?_; rintro e w' ⟨rfl, hw⟩; obtain rfl := hw.symm)
  go_ret
  exact ⟨rfl, rfl⟩
set_option maxHeartbeats 1000000 in
theorem len_tnil (w : World) : Calls Tryd.prog 21 #[.pointer none] w fun e w' => e = .returned (.int .i64 0) ∧ w' = w := by
  go_enter Tryd.func21, Tryd.ntmps21
  go_wp2_with (go_at_call 32; refine (none_tnil _).mono ?_; rintro e w' ⟨rfl, hw⟩; obtain rfl := hw.symm)
  go_ret
  exact ⟨rfl, rfl⟩
set_option maxHeartbeats 1000000 in
theorem trows_any (v : Value) (p : Option Addr) (hp : v = .pointer p) (w : World) : Calls Tryd.prog 19 #[v] w fun e w' => e = .returned (.func (.func 37) #[] #[.pointer (some ⟨w.heap.size, 0, none⟩)]) ∧ w' = w.alloc (.cells #[v] 24) := by
  subst hp
  go_enter Tryd.func19, Tryd.ntmps19
  go_wp2
  go_ret
  exact ⟨rfl, rfl⟩
end Go.Proofs.YtcmkjgodgocdfaaDoor
/- A tree: Root, Leaf. -/
namespace Go.Proofs.YtcmkjgodgocdfaaDoor
open Go.RowKit

theorem results_two {fn : Func} {p q : Tmp} (hr : fn.results = #[.cell p 30, .tmp q]) (tmps : Array Value) (W : World) (g : Nat) (cs : Array Value) (n : Int) (hp : tmps.getD p undef = .pointer (some ⟨g, 0, none⟩)) (h3 : tmps.getD q undef = .int .i64 n) (hg : Has W g cs 30) (hs : cs.size = 32) :
    (results fn tmps).run Tryd.prog W = .ok (.tuple #[.agg cs, .int .i64 n]) W := by
  have hp' : tmps[p]?.getD undef = .pointer (some ⟨g, 0, none⟩) := by simpa using hp
  have h3' : tmps[q]?.getD undef = .int .i64 n := by simpa using h3
  simp [results, hr, hp', h3', asAddr, run_loadVar_row W g 30 30 cs (0, 0) _ hg Tryd.underlying30 rfl (by rw [hs]; kernel_rfl), Result.andThen]
theorem rowsL_end : ∀ (n : Nat) (ds : List Dig), ds.length ≤ n → 0 < ds.length → All32 ds → ∃ r, (rowsL ds)[(rowsL ds).length - 1]? = some [r] ∧ r.length = 32 ∧ 0 < (rowsL ds).length := by
  intro n
  induction n using Nat.strongRecOn with
  | _ n ih =>
    intro ds hn h0 h32
    by_cases h : 1 < ds.length
    · have hl := aboveL_len _ ds (Nat.le_refl _)
      obtain ⟨r, h1, h2, h3⟩ := ih (n - 1) (by omega) (aboveL ds) (by omega) (by omega) (aboveL_all _ ds (Nat.le_refl _) h32)
      rw [rowsL_more h]
      refine ⟨r, ?_, h2, by simp⟩
      rw [List.length_cons, show (rowsL (aboveL ds)).length + 1 - 1 = ((rowsL (aboveL ds)).length - 1) + 1 by omega, List.getElem?_cons_succ]
      exact h1
    · rw [rowsL_last h]
      match ds, h0, h with
      | [d], _, _ => exact ⟨d, rfl, h32 0 d rfl, by simp⟩
      | _ :: _ :: _, _, h => simp at h
def rootOf (ds : List Dig) : Dig := ((rowsL (ds.map markL))[(rowsL (ds.map markL)).length - 1]?.getD [])[0]?.getD []
theorem marks_all (ds : List Dig) : All32 (ds.map markL) := fun i d hd => by
  rw [List.getElem?_map] at hd
  cases h : ds[i]? with
  | none => rw [h] at hd; cases hd
  | some x => rw [h] at hd; simp at hd; rw [← hd]; exact shaL_length _
theorem rootOf_spec {ds : List Dig} (h0 : 0 < ds.length) : (rowsL (ds.map markL))[(rowsL (ds.map markL)).length - 1]? = some [rootOf ds] ∧ (rootOf ds).length = 32 ∧ 0 < (rowsL (ds.map markL)).length := by
  obtain ⟨r, h1, h2, h3⟩ := rowsL_end _ (ds.map markL) (Nat.le_refl _) (by simpa using h0) (marks_all ds)
  have e : rootOf ds = r := by unfold rootOf; rw [h1]; rfl
  rw [e]
  exact ⟨h1, h2, h3⟩
theorem RowsAt.at_ {B C : Nat} {w : World} {rv : Value} {rows : List (List Dig)} {xs : List Value} (h : RowsAt B C w rv rows xs) {j : Nat} (hj : j < rows.length) :
    ∃ g cap sv, rv = .slice (some ⟨g, 0, none⟩) rows.length cap ∧ w.cell? ⟨g, j, none⟩ = some sv ∧ xs[j]? = some sv ∧ OwnD B w sv (rows[j]?.getD []) := by
  obtain ⟨sv, h1, h2⟩ := h.each j hj
  rcases h.own.2 with ⟨rfl, e⟩ | ⟨g, cap, cur, rfl, hb, hg, _⟩
  · omega
  · have := h.own.cells (g := g) rfl j sv h1
    rw [Addr.add_mid, Nat.zero_add] at this
    exact ⟨g, cap, sv, rfl, this, h1, h2⟩
set_option maxRecDepth 100000 in
set_option maxHeartbeats 2000000 in
theorem troot_any {B tb : Nat} {ds : List Dig} {w : World} (h : TreeAt B w tb ds) (hg : Glob w) : Calls Tryd.prog 16 #[.pointer (some ⟨tb, 0, none⟩)] w fun e w' => e = .returned (.tuple #[.agg (byteCells (rootOf ds)), .int .i64 0]) ∧ Below w.heap.size w w' := by
  have hgs := hg.size
  have hB0 := (Below.refl w.heap.size w).alloc (Nat.le_refl _) (.cells (zeroCells 32) 30)
  have h' := h.below hB0
  have hnn := none_tree h'
  obtain ⟨h0, h16, _, v, hv, ho⟩ := id h'
  have hrw := rows_any v ds _ (ho.digs (by simp)) h16 h0 (hg.below hB0 hg.size)
  obtain ⟨a, n, c, rfl⟩ : ∃ a n c, v = Value.slice a n c := by obtain ⟨a, c, e⟩ := ho.slice; exact ⟨a, _, c, e⟩
  have c1 := hv.one
  obtain ⟨hr1, hr2, hr3⟩ := rootOf_spec h0
  obtain ⟨R, hR⟩ : ∃ R, rowsL (ds.map markL) = R := ⟨_, rfl⟩
  have hR17 : R.length ≤ 17 := by rw [← hR]; exact rowsL_len 16 _ (by simpa using h16)
  rw [hR] at hr1 hr3 hrw
  obtain ⟨x, hx⟩ : ∃ x, rootOf ds = x := ⟨_, rfl⟩
  rw [hx] at hr1 hr2 ⊢
  clear hR hx
  go_enter Tryd.func16, Tryd.ntmps16
  go_wp2_with (first
    | (go_at_call 32; refine hnn.mono ?_; rintro e w' ⟨rfl, hw⟩; obtain rfl := hw.symm))
  refine hrw.mono ?_
  rintro e W1 ⟨v1, xs, rfl, hRw, hB1⟩
  obtain ⟨g, cap, sv, rfl, hcell, hxs, hsv⟩ := hRw.at_ (j := R.length - 1) (by omega)
  rw [hr1, Option.getD_some] at hsv
  obtain ⟨g2, o2, c2, rfl, hrg, hg2⟩ := (hsv.digs (by have := hB1.size; simp at this; omega)).at_ (i := 0) (by simp)
  simp only [List.getElem?_cons_zero, Option.getD_some, Nat.zero_mul, Nat.add_zero, List.length_singleton] at hrg hcell
  obtain ⟨L, hL⟩ : ∃ L, R.length - 1 = L := ⟨_, rfl⟩
  have hL1 : R.length = L + 1 := by omega
  rw [hL] at hcell
  rw [hL1]
  clear hRw hxs hrw hr1 hL
  have hr : Has W1 w.heap.size (zeroCells 32) 30 := (has_new _ _ _ _ rfl).below hB1 (by simp)
  have hb32 : (byteCells x).size = 32 := by rw [byteCells_size, hr2]
  have eL : ((L + 1 : Nat) : Int) - 1 = (L : Int) := by omega
  go_wp2_with (first
    | refine wpList_load_mid rfl 30 _ rfl g2 o2 rfl (byteCells x).toList _ hrg Tryd.underlying30 rfl (by rw [byteCells_len, hr2]; kernel_rfl) ?_
    | refine wpList_store_row rfl 30 _ _ rfl w.heap.size (byteCells x) rfl rfl 30 _ hr (by rw [hb32]; kernel_rfl) (by rw [hb32, zeroCells_size]) (byteCells_one _) ?_)
  refine bodyPost_ret (results_two rfl _ _ w.heap.size _ _ rfl rfl (setRow_heap _ _ _ _ _ _ hr) hb32) rfl ?_
  exact ⟨rfl, (hB0.trans (hB1.mono (by simp))).trans ⟨rfl, rfl, rfl, by simp, fun j hj => setRow_other _ _ _ _ (by omega)⟩⟩
set_option maxRecDepth 100000 in
set_option maxHeartbeats 1000000 in
theorem troot_nil (w : World) : Calls Tryd.prog 16 #[.pointer none] w fun e w' => e = .returned (.tuple #[.agg (zeroCells 32), .int .i64 1]) ∧ Below w.heap.size w w' := by
  have hB0 := (Below.refl w.heap.size w).alloc (Nat.le_refl _) (.cells (zeroCells 32) 30)
  have hr : Has (w.alloc (.cells (zeroCells 32) 30)) w.heap.size (zeroCells 32) 30 := has_new _ _ _ _ rfl
  go_enter Tryd.func16, Tryd.ntmps16
  go_wp2_with (first
    | (go_at_call 32; refine (none_tnil _).mono ?_; rintro e w' ⟨rfl, hw⟩; obtain rfl := hw.symm)
    | refine wpList_store_row rfl 30 _ _ rfl w.heap.size (zeroCells 32) rfl rfl 30 _ hr (by kernel_rfl) rfl (by kernel_rfl) ?_)
  refine bodyPost_ret (results_two rfl _ _ w.heap.size _ _ rfl rfl (setRow_heap _ _ _ _ _ _ hr) rfl) rfl ?_
  exact ⟨rfl, hB0.trans ⟨rfl, rfl, rfl, by simp, fun j hj => setRow_other _ _ _ _ (by omega)⟩⟩
set_option maxRecDepth 100000 in
set_option maxHeartbeats 1000000 in
theorem leaf_bad (p : Value) (i k : Int) (w : World) (hk : ¬ k = 0) (ha : ∀ w1, Below w.heap.size w w1 → Calls Tryd.prog 34 #[p, .int .i64 i] w1 fun e w' => e = .returned (.int .i64 k) ∧ w' = w1) :
    Calls Tryd.prog 17 #[p, .int .i64 i] w fun e w' => e = .returned (.tuple #[.agg (zeroCells 32), .int .i64 k]) ∧ Below w.heap.size w w' := by
  have hB0 := (Below.refl w.heap.size w).alloc (Nat.le_refl _) (.cells (zeroCells 32) 30)
  have hr : Has (w.alloc (.cells (zeroCells 32) 30)) w.heap.size (zeroCells 32) 30 := has_new _ _ _ _ rfl
  have ha1 := ha _ hB0
  clear ha
  go_enter Tryd.func17, Tryd.ntmps17
  go_wp2_with (first
    | (go_at_call 34; refine ha1.mono ?_; rintro e w' ⟨rfl, hw⟩; obtain rfl := hw.symm)
    | refine wpList_store_row rfl 30 _ _ rfl w.heap.size (zeroCells 32) rfl rfl 30 _ hr (by kernel_rfl) rfl (by kernel_rfl) ?_)
  refine bodyPost_ret (results_two rfl _ _ w.heap.size _ _ rfl rfl (setRow_heap _ _ _ _ _ _ hr) rfl) rfl ?_
  exact ⟨rfl, hB0.trans ⟨rfl, rfl, rfl, by simp, fun j hj => setRow_other _ _ _ _ (by omega)⟩⟩
set_option maxRecDepth 100000 in
set_option maxHeartbeats 1000000 in
theorem leaf_ok {B tb : Nat} {ds : List Dig} {w : World} (h : TreeAt B w tb ds) (i : Nat) (hi : i < ds.length) :
    Calls Tryd.prog 17 #[.pointer (some ⟨tb, 0, none⟩), .int .i64 (i : Int)] w fun e w' => e = .returned (.tuple #[.agg (byteCells (ds[i]?.getD [])), .int .i64 0]) ∧ Below w.heap.size w w' := by
  have hB0 := (Below.refl w.heap.size w).alloc (Nat.le_refl _) (.cells (zeroCells 32) 30)
  have hr : Has (w.alloc (.cells (zeroCells 32) 30)) w.heap.size (zeroCells 32) 30 := has_new _ _ _ _ rfl
  have h' := h.below hB0
  have ha := asked_any h' (i : Int)
  rw [show thereB (i : Int) ds.length = true by simp [thereB]; omega, if_pos rfl] at ha
  obtain ⟨h0, h16, _, v, hv, ho⟩ := id h'
  have hd := ho.1.at_ hi
  obtain ⟨g, o, c, rfl, hrg, hgl⟩ := (ho.digs (by simp)).at_ hi
  have c1 := hv.one
  obtain ⟨d, hdd⟩ : ∃ d, ds[i]?.getD [] = d := ⟨_, rfl⟩
  rw [hdd] at hd hrg ⊢
  have hbs : (byteCells d).size = 32 := by rw [byteCells_size, hd]
  go_enter Tryd.func17, Tryd.ntmps17
  go_wp2_with (first
    | (go_at_call 34; refine ha.mono ?_; rintro e w' ⟨rfl, hw⟩; obtain rfl := hw.symm)
    | refine wpList_load_mid rfl 30 _ rfl g (o + i * 32) rfl (byteCells d).toList _ hrg Tryd.underlying30 rfl (by rw [byteCells_len, hd]; kernel_rfl) ?_
    | refine wpList_store_row rfl 30 _ _ rfl w.heap.size (byteCells d) rfl rfl 30 _ hr (by rw [hbs]; kernel_rfl) (by rw [hbs, zeroCells_size]) (byteCells_one _) ?_)
  refine bodyPost_ret (results_two rfl _ _ w.heap.size _ _ rfl rfl (setRow_heap _ _ _ _ _ _ hr) hbs) rfl ?_
  exact ⟨rfl, hB0.trans ⟨rfl, rfl, rfl, by simp, fun j hj => setRow_other _ _ _ _ (by omega)⟩⟩
end Go.Proofs.YtcmkjgodgocdfaaDoor
/- A tree's rows: the function that is ranged over, whatever its round does. -/
namespace Go.Proofs.YtcmkjgodgocdfaaDoor
open Go.RowKit
attribute [local go_sem] Oper.semAt_some

theorem own_at {C : Nat} {w : World} {rv : Value} {n : Nat} {xs : List Value} (h : w.ownsRow C 22 1 rv n xs) {j : Nat} {sv : Value} (hj : xs[j]? = some sv) : ∃ g cap, rv = .slice (some ⟨g, 0, none⟩) n cap ∧ w.cell? ⟨g, j, none⟩ = some sv := by
  rcases h.2 with ⟨rfl, e⟩ | ⟨g, cap, cur, rfl, hb, hg, _⟩
  · have := h.1; have := (List.getElem?_eq_some_iff.1 hj).1; omega
  · have := h.cells (g := g) rfl j sv hj
    rw [Addr.add_mid, Nat.zero_add] at this
    exact ⟨g, cap, rfl, this⟩
set_option maxRecDepth 100000 in
set_option maxHeartbeats 2000000 in
theorem rows1_any (N l bt tb B : Nat) (ds : List Dig) (W : World) (hT : TreeAt B W tb ds) (hb : Has W bt #[.pointer (some ⟨tb, 0, none⟩)] 24) (hg : Glob W)
    (J : Value → List Value → Nat → World → Prop) (Jx : World → Prop)
    (h0 : ∀ rv xs W', RowsAt W.heap.size W.heap.size W' rv (rowsL (ds.map markL)) xs → Below W.heap.size W W' → J rv xs 0 W')
    (hJb : ∀ rv xs k W', J rv xs k W' → W'.ownsRow W.heap.size 22 1 rv (rowsL (ds.map markL)).length xs)
    (hY : ∀ rv xs k sv W', xs[k]? = some sv → J rv xs k W' → YieldAt Fence.wide (N - 1) Tryd.prog l #[sv] W' fun e W'' => (e = .returned (.bool true) ∧ J rv xs (k + 1) W'') ∨ (e = .returned (.bool false) ∧ Jx W'')) :
    CallsIn Fence.wide N Tryd.prog 37 #[.func (.yield l) #[] #[], .pointer (some ⟨bt, 0, none⟩)] W fun e W' => e = .returned (.tuple #[]) ∧ ((∃ rv xs, J rv xs (rowsL (ds.map markL)).length W') ∨ Jx W') := by
  have hnn := none_tree hT
  obtain ⟨hd0, hd16, _, v, hv, ho⟩ := id hT
  have hgs := hg.size
  have hrw := rows_any v ds W (ho.digs (by omega)) hd16 hd0 hg
  obtain ⟨a, n, c, rfl⟩ : ∃ a n c, v = Value.slice a n c := by obtain ⟨a, c, e⟩ := ho.slice; exact ⟨a, _, c, e⟩
  have c1 := hv.one
  have c2 := hb.one
  have hR17 : (rowsL (ds.map markL)).length ≤ 17 := rowsL_len 16 _ (by simpa using hd16)
  have hR0 := (rootOf_spec hd0).2.2
  obtain ⟨R, hR⟩ : ∃ R, rowsL (ds.map markL) = R := ⟨_, rfl⟩
  rw [hR] at hrw hR17 hJb h0 hR0 ⊢
  clear hR
  refine callsIn_of_wp Tryd.func37 rfl trivial ?_ rfl
  simp only [Tryd.ntmps37, List.size_toArray, List.length_cons, List.length_nil, Nat.reduceAdd, Nat.reduceSub, Array.replicate_succ, Array.replicate_zero, List.push_toArray, List.append_toArray, List.nil_append, List.cons_append]
  gi_wp2_with (first
    | (refine ⟨trivial, fun h => (by cases h), ?_⟩; refine (callsIn_wide.2 hnn).mono ?_; rintro e w' ⟨rfl, hw⟩; obtain rfl := hw.symm)
    | (refine ⟨trivial, fun h => (by cases h), ?_⟩; refine (callsIn_wide.2 hrw).mono ?_; rintro e W1 ⟨rv, xs, rfl, hRw, hB1⟩; obtain ⟨g, cap, sv, rfl, _, _, _⟩ := hRw.at_ (j := 0) hR0))
  have hJ0 := h0 _ _ _ hRw hB1
  have hxl : xs.length = R.length := by have := hRw.own.1; omega
  have HX : Hid (xs.length = R.length) := hxl
  clear hRw h0 hrw hnn c1 c2 hxl
  gi_loopw [13] (fun i wr => ∃ k : Nat, i = .int .i64 k ∧ k ≤ R.length ∧ J (.slice (some ⟨g, 0, none⟩) R.length cap) xs k wr) (fun i _ => R.length - (intOf i).toNat)
  case atStart => exact ⟨0, rfl, Nat.zero_le _, hJ0⟩
  case round =>
    obtain ⟨k, rfl, hk, hJ⟩ := hrel
    by_cases hlt : k < R.length
    · obtain ⟨s, hs⟩ : ∃ s, xs[k]? = some s := ⟨xs[k]'(by have := HX.out; omega), List.getElem?_eq_getElem _⟩
      obtain ⟨g', cap', e', hcell⟩ := own_at (hJb _ _ _ _ hJ) hs
      simp only [Value.slice.injEq, Option.some.injEq, Addr.mk.injEq, true_and, and_true] at e'
      obtain ⟨rfl, rfl⟩ := e'
      have hY1 := hY _ _ k s wr hs hJ
      obtain ⟨fn, tmps, assign, body, hy, hRd⟩ := hY1
      clear hY hs
      gi_wp2
      refine ⟨fun h => (by cases h), hRd.mono ?_⟩
      clear hRd hy hcell
      rintro e W3 (⟨rfl, hJ3⟩ | ⟨rfl, hJ3⟩)
      · gi_wp2_with fail
        go_roundw
        case rel => exact ⟨k + 1, by go_num, by omega, hJ3⟩
        case measure => simp [intOf]; omega
      · gi_wp2_with fail
        refine bodyPost_ret (results_none rfl _ _ _) rfl ?_
        exact ⟨rfl, .inr hJ3⟩
    · obtain rfl : k = R.length := by omega
      gi_wp2
      go_end0
      exact ⟨rfl, .inl ⟨_, _, hJ⟩⟩
set_option maxRecDepth 100000 in
set_option maxHeartbeats 1000000 in
theorem rows1_nil (N l bt : Nat) (W : World) (hb : Has W bt #[.pointer none] 24) :
    CallsIn Fence.wide N Tryd.prog 37 #[.func (.yield l) #[] #[], .pointer (some ⟨bt, 0, none⟩)] W fun e W' => e = .returned (.tuple #[]) ∧ W' = W := by
  have c2 := hb.one
  refine callsIn_of_wp Tryd.func37 rfl trivial ?_ rfl
  simp only [Tryd.ntmps37, List.size_toArray, List.length_cons, List.length_nil, Nat.reduceAdd, Nat.reduceSub, Array.replicate_succ, Array.replicate_zero, List.push_toArray, List.append_toArray, List.nil_append, List.cons_append]
  gi_wp2_with (refine ⟨trivial, fun h => (by cases h), ?_⟩; refine (callsIn_wide.2 (none_tnil _)).mono ?_; rintro e w' ⟨rfl, hw⟩; obtain rfl := hw.symm)
  refine bodyPost_ret (results_none rfl _ _ _) rfl ?_
  exact ⟨rfl, rfl⟩
end Go.Proofs.YtcmkjgodgocdfaaDoor
/- Paths, as lists; rows that stay. -/
namespace Go.Proofs.YtcmkjgodgocdfaaDoor
open Go.RowKit

theorem rowsL_at : ∀ (n : Nat) (ds : List Dig), ds.length ≤ n → 0 < ds.length → All32 ds → ∀ (k : Nat) (r : List Dig), (rowsL ds)[k]? = some r →
    0 < r.length ∧ r.length ≤ ds.length ∧ All32 r ∧ (1 < r.length → (rowsL ds)[k + 1]? = some (aboveL r)) ∧ (¬ 1 < r.length → k + 1 = (rowsL ds).length) := by
  intro n
  induction n using Nat.strongRecOn with
  | _ n ih =>
    intro ds hn h0 h32 k r hr
    by_cases h : 1 < ds.length
    · have hl := aboveL_len _ ds (Nat.le_refl _)
      rw [rowsL_more h] at hr ⊢
      cases k with
      | zero =>
        simp at hr
        subst hr
        refine ⟨h0, Nat.le_refl _, h32, fun _ => ?_, fun e => absurd h e⟩
        rw [List.getElem?_cons_succ]
        by_cases h' : 1 < (aboveL ds).length
        · rw [rowsL_more h']; rfl
        · rw [rowsL_last h']; rfl
      | succ k =>
        rw [List.getElem?_cons_succ] at hr ⊢
        obtain ⟨a1, a2, a3, a4, a5⟩ := ih (n - 1) (by omega) (aboveL ds) (by omega) (by omega) (aboveL_all _ ds (Nat.le_refl _) h32) k r hr
        refine ⟨a1, by omega, a3, a4, fun e => ?_⟩
        rw [List.length_cons, a5 e]
    · rw [rowsL_last h] at hr ⊢
      cases k with
      | zero =>
        simp at hr
        subst hr
        exact ⟨h0, Nat.le_refl _, h32, fun e => absurd e h, fun _ => rfl⟩
      | succ k => simp at hr
/-- The path of a place through rows. -/
def pathUp : List (List Dig) → Nat → List Dig
  | [], _ => []
  | [_], _ => []
  | r :: s :: t, i => (if oth i < r.length then [r[oth i]?.getD []] else []) ++ pathUp (s :: t) (i / 2)
theorem pathUp_len : ∀ (rows : List (List Dig)) (i : Nat), (pathUp rows i).length ≤ rows.length
  | [], _ => by simp [pathUp]
  | [_], _ => by simp [pathUp]
  | r :: s :: t, i => by
    have := pathUp_len (s :: t) (i / 2)
    simp only [pathUp, List.length_append]
    split <;> simp at this ⊢ <;> omega
theorem pathUp_drop {rows : List (List Dig)} {k : Nat} {r : List Dig} (hr : rows[k]? = some r) (h2 : k + 1 < rows.length) (i : Nat) :
    pathUp (rows.drop k) i = (if oth i < r.length then [r[oth i]?.getD []] else []) ++ pathUp (rows.drop (k + 1)) (i / 2) := by
  have hk : k < rows.length := by omega
  have e : rows[k] = r := by rw [List.getElem?_eq_getElem hk] at hr; exact Option.some.inj hr
  rw [List.drop_eq_getElem_cons hk, e, List.drop_eq_getElem_cons h2]
  rfl
theorem pathUp_last {rows : List (List Dig)} {k : Nat} (h2 : k + 1 = rows.length) (i : Nat) : pathUp (rows.drop k) i = [] := by
  rw [List.drop_eq_getElem_cons (by omega), List.drop_of_length_le (by omega)]
  rfl
def pathOf (ds : List Dig) (i : Nat) : List Dig := pathUp (rowsL (ds.map markL)) i
/-- From C on, what was there is as it was. -/
structure Frm (C : Nat) (w w' : World) : Prop where
  size : w.heap.size ≤ w'.heap.size
  block : ∀ q, C ≤ q → q < w.heap.size → w'.heap[q]? = w.heap[q]?
theorem Frm.refl (C : Nat) (w : World) : Frm C w w := ⟨Nat.le_refl _, fun _ _ _ => rfl⟩
theorem Frm.trans {C : Nat} {x y z : World} (h : Frm C x y) (k : Frm C y z) : Frm C x z := ⟨Nat.le_trans h.size k.size, fun q h1 h2 => (k.block q h1 (Nat.lt_of_lt_of_le h2 h.size)).trans (h.block q h1 h2)⟩
theorem Frm.ex {C b : Nat} {x y z : World} (h : Frm C x y) (k : Ex b y z) (hb : b < C) : Frm C x z := ⟨Nat.le_trans h.size k.size, fun q h1 h2 => (k.block q (Nat.lt_of_lt_of_le h2 h.size) (by omega)).trans (h.block q h1 h2)⟩
theorem Frm.below {C D : Nat} {x y z : World} (h : Frm C x y) (k : Below D y z) (hD : x.heap.size ≤ D) : Frm C x z := ⟨Nat.le_trans h.size k.size, fun q h1 h2 => (k.block q (by omega)).trans (h.block q h1 h2)⟩
theorem own_mid {C e s n : Nat} {w w' : World} {v : Value} {xs : List Value} (h : w.ownsRow C e s v n xs) (k : Frm C w w') : w'.ownsRow C e s v n xs := by
  refine ⟨h.1, ?_⟩
  rcases h.2 with hn | ⟨g, cap, cur, rfl, hb, hgg, rest⟩
  · exact .inl hn
  · exact .inr ⟨g, cap, cur, rfl, hb, (k.block g hb (Array.getElem?_eq_some_iff.1 hgg).1).trans hgg, rest⟩
theorem RowsAt.mid {C : Nat} {w w' : World} {rv : Value} {rows : List (List Dig)} {xs : List Value} (h : RowsAt C C w rv rows xs) (k : Frm C w w') : RowsAt C C w' rv rows xs :=
  ⟨own_mid h.own k, fun j hj => by obtain ⟨sv, h1, h2⟩ := h.each j hj; exact ⟨sv, h1, h2.1, own_mid h2.2 k⟩, h.apart⟩
end Go.Proofs.YtcmkjgodgocdfaaDoor
/- merkle's Path. -/
namespace Go.Proofs.YtcmkjgodgocdfaaDoor
open Go.RowKit
attribute [local go_sem] Oper.semAt_some

/-- Between two rounds of Path: C is where the rows' memory begins. -/
structure PaI (w : World) (C : Nat) (R : List (List Dig)) (P : List Dig) (rv : Value) (xs : List Value) (k : Nat) (W : World) : Prop where
  low : Below w.heap.size w W
  dfr : W.heap[w.heap.size + 3]? = some (.deferred (some []))
  hC : C = w.heap.size + 5
  more : k < R.length
  run : ∃ W' v p i', RowsAt C C W' rv R xs ∧ Frm C W' W ∧ C ≤ W'.heap.size ∧ Has W w.heap.size #[.int .i64 ((i' : Nat) : Int)] 3 ∧ Has W (w.heap.size + 1) #[v] 22 ∧ OwnD W'.heap.size W v p ∧ Hid (p ++ pathUp (R.drop k) i' = P) ∧ i' < (R[k]?.getD []).length ∧ p.length ≤ k
theorem PaI.ex {w W W2 : World} {C : Nat} {R : List (List Dig)} {P : List Dig} {rv : Value} {xs : List Value} {k : Nat} (h : PaI w C R P rv xs k W) (e : Ex (w.heap.size + 4) W W2) : PaI w C R P rv xs k W2 := by
  obtain ⟨W', v, p, i', h1, h2, h3, h4, h5, h6, h7⟩ := h.run
  have hC := h.hC
  have hs := h2.size
  exact ⟨h.low.trans (e.low (by omega) (by omega)), (e.block _ (by omega) (by omega)).trans h.dfr, h.hC, h.more, W', v, p, i', h1, h2.ex e (by omega), h3, h4.ex e (by omega), h5.ex e (by omega), h6.ex e (by omega), h7⟩

set_option maxRecDepth 100000 in
set_option maxHeartbeats 4000000 in
theorem path_ok {B tb : Nat} {ds : List Dig} {w : World} (h : TreeAt B w tb ds) (hg : Glob w) (i : Nat) (hi : i < ds.length) :
    Calls Tryd.prog 18 #[.pointer (some ⟨tb, 0, none⟩), .int .i64 (i : Int)] w fun e w' => ∃ v, e = .returned (.tuple #[v, .int .i64 0]) ∧ OwnD w.heap.size w' v (pathOf ds i) ∧ Below w.heap.size w w' := by
  have hgs := hg.size
  have hB1 := (Below.refl w.heap.size w).alloc (Nat.le_refl _) (.cells #[.int .i64 (i : Int)] 3)
  have ha := asked_any (h.below hB1) (i : Int)
  rw [show thereB (i : Int) ds.length = true by simp [thereB]; omega, if_pos rfl] at ha
  have hd0 := h.1
  have hd16 := h.2.1
  have hR17 : (rowsL (ds.map markL)).length ≤ 17 := rowsL_len 16 _ (by simpa using hd16)
  have hR0 := (rootOf_spec hd0).2.2
  have hRat := rowsL_at _ (ds.map markL) (Nat.le_refl _) (by simpa using hd0) (marks_all ds)
  have hRfst : (rowsL (ds.map markL))[0]? = some (ds.map markL) := by
    by_cases hh : 1 < (ds.map markL).length
    · rw [rowsL_more hh]; rfl
    · rw [rowsL_last hh]; rfl
  have hseq := fun N l bt W hT hb hg J Jx => rows1_any N l bt tb B ds W hT hb hg J Jx
  unfold pathOf
  obtain ⟨R, hR⟩ : ∃ R, rowsL (ds.map markL) = R := ⟨_, rfl⟩
  rw [hR] at hR17 hR0 hRat hRfst ⊢
  simp only [hR] at hseq
  refine (callsIn_wide (n := 10)).1 ?_
  refine callsIn_of_wp_marks Tryd.func18 rfl trivial ?_ rfl
  simp only [Tryd.ntmps18, List.size_toArray, List.length_cons, List.length_nil, Nat.reduceAdd, Nat.reduceSub, Array.replicate_succ, Array.replicate_zero, List.push_toArray, List.append_toArray, List.nil_append, List.cons_append]
  refine wpIn_wide.2 ?_
  go_wp2_with fail
  go_step3
  go_wp2_with (go_at_call 34; refine ha.mono ?_; rintro e w' ⟨rfl, hw⟩; obtain rfl := hw.symm)
  go_step3
  go_wp2_with (go_at_call 19; refine (trows_any _ _ rfl _).mono ?_; rintro e w' ⟨rfl, hw⟩; obtain rfl := hw.symm)
  refine (wpIn_wide (n := 10)).1 ?_
  refine named (p := Code.wpIn _ _ _ _ _ _) ?_
  intro W0 hW0
  have hz : W0.heap.size = w.heap.size + 3 := by rw [hW0]; simp
  have hB : Below w.heap.size w W0 := by
    rw [hW0]
    repeat (first | exact Below.refl _ _ | refine Below.alloc ?_ (by simp <;> omega) _)
  have x0 : Has W0 w.heap.size #[.int .i64 (i : Int)] 3 := by
    rw [hW0]; repeat (first | (refine has_new _ _ _ _ ?_; simp; done) | refine has_old ?_)
  have x1 : Has W0 (w.heap.size + 1) #[.slice none 0 0] 22 := by
    rw [hW0]; repeat (first | (refine has_new _ _ _ _ ?_; simp; done) | refine has_old ?_)
  have x2 : Has W0 (w.heap.size + 2) #[.pointer (some ⟨tb, 0, none⟩)] 24 := by
    rw [hW0]; repeat (first | (refine has_new _ _ _ _ ?_; simp; done) | refine has_old ?_)
  clear hW0 ha
  simp only [Nat.add_assoc, Nat.reduceAdd]
  refine wp_range_leave (gf := 37) (lb := #[.pointer (some ⟨w.heap.size + 2, 0, none⟩)]) rfl (Go.Proofs.enters_of Tryd.func37 (by kernel_rfl) rfl)
    (fun _ => False) (fun c W3 => c = .exit 0 ∧ Below w.heap.size w W3 ∧ W3.heap[w.heap.size + 3]? = some (.deferred (some [])) ∧ w.heap.size + 5 ≤ W3.heap.size ∧ ∃ v, Has W3 (w.heap.size + 1) #[v] 22 ∧ OwnD (w.heap.size + 5) W3 v (pathUp R i)) ?call ?done ?left
  case done => intro W3 W4 h; exact h.elim
  case left =>
    rintro c W3 W4 ⟨rfl, h1, h2, h3, v, h4, h5⟩ hE4 hs4
    rw [hz] at hE4
    have c4 := (h4.ex hE4 (by omega)).one
    have hK : W4.heap[w.heap.size + 3]? = some (.deferred (some [])) := (hE4.block _ (by omega) (by omega)).trans h2
    have h5' := h5.ex hE4 (by omega)
    obtain ⟨av, nv, cv, rfl⟩ : ∃ a n c, v = Value.slice a n c := by obtain ⟨a, c, e⟩ := h5.slice; exact ⟨a, _, c, e⟩
    refine wpIn_wide.2 ?_
    go_wp2
    rw [Exit.noGoto_ret, hz]
    refine ⟨by simp, .inl ⟨_, _, rfl, run_takeDeferred hK, ?_⟩⟩
    refine ⟨_, results_tmp2 rfl _ _ _, _, rfl, ?_, ?_⟩
    · exact (h5'.ex (putObj_ex (w.heap.size + 3) W4 _) (by omega)).mono (by omega)
    · exact (h1.trans (hE4.low (by omega) (by omega))).trans ((putObj_ex (w.heap.size + 3) W4 _).low (by omega) (by omega))
  case call =>
    intro fn W1 hB0 hz1 hD1 hl1
    rw [hz] at hB0 hz1 hD1 hl1 ⊢
    have hBw1 : Below w.heap.size w W1 := hB.trans (hB0.mono (by omega))
    have hT1 : TreeAt B W1 tb ds := h.below hBw1
    have hW1s : W1.heap.size = w.heap.size + 5 := by omega
    refine (hseq 9 (w.heap.size + 3 + 1) (w.heap.size + 2) W1 hT1 (x2.below hB0 (by omega)) (hg.below hBw1 hg.size)
      (fun rv xs k W => W.heap[w.heap.size + 3 + 1]? = W1.heap[w.heap.size + 3 + 1]? ∧ PaI w W1.heap.size R (pathUp R i) rv xs k W)
      (fun W3 => ∃ c, Pend (w.heap.size + 3 + 1) c W3 ∧ c = .exit 0 ∧ Below w.heap.size w W3 ∧ W3.heap[w.heap.size + 3]? = some (.deferred (some [])) ∧ w.heap.size + 5 ≤ W3.heap.size ∧ ∃ v, Has W3 (w.heap.size + 1) #[v] 22 ∧ OwnD (w.heap.size + 5) W3 v (pathUp R i))
      ?_ ?_ ?_).mono ?_
    · intro rv xs W' hRw hB'
      refine ⟨hB'.block _ (by omega), hBw1.trans (hB'.mono (by omega)), (hB'.block _ (by omega)).trans hD1, hW1s, hR0, W', .slice none 0 0, [], i, hRw, Frm.refl _ _, hB'.size, (x0.below hB0 (by omega)).below hB' (by omega), (x1.below hB0 (by omega)).below hB' (by omega), OwnD.nil _ _, rfl, ?_, Nat.le_refl _⟩
      rw [hRfst]; simpa using hi
    · rintro rv xs k W' ⟨_, hI⟩
      obtain ⟨W'', v, p, i', h1, h2, _⟩ := hI.run
      exact own_mid h1.own h2
    · rintro rv xs k sv W hsv ⟨hrec, hI⟩
      rw [hl1] at hrec ⊢
      refine (yield_in (R := fun W' => W'.heap[w.heap.size + 3 + 1]? = W.heap[w.heap.size + 3 + 1]? ∧ PaI w W1.heap.size R (pathUp R i) rv xs (k + 1) W')
        (Rx := fun c W3 => c = .exit 0 ∧ Below w.heap.size w W3 ∧ W3.heap[w.heap.size + 3]? = some (.deferred (some [])) ∧ w.heap.size + 5 ≤ W3.heap.size ∧ ∃ v, Has W3 (w.heap.size + 1) #[v] 22 ∧ OwnD (w.heap.size + 5) W3 v (pathUp R i)) hrec rfl ?_).mono ?_
      · clear hrec hl1 hseq hD1 hB0 hz1 x0 x1 x2
        intro RR RB hrr
        have HR : Hid (W.heap[w.heap.size + 3 + 1]? = some RR) := hrr
        clear hrr
        gi_wp2
        refine ⟨HR.out, ?_⟩
        intro W5 hE5 hs5 hl5
        have HL : Hid (W5.heap[w.heap.size + 3 + 1]? = some RB) := hl5
        clear hl5
        have hI5 := hI.ex hE5
        clear hI
        have hkR := hI5.more
        obtain ⟨W', v, p, i', hRw, hM, hC5, hbi, hbp, hop, hpp, hi', hpk⟩ := hI5.run
        obtain ⟨r, hr⟩ : ∃ r, R[k]? = some r := ⟨R[k], List.getElem?_eq_getElem hkR⟩
        obtain ⟨a1, a2, a3, a4, a5⟩ := hRat k r hr
        rw [hr, Option.getD_some] at hi'
        obtain ⟨sv', hsv', hod⟩ := (hRw.mid hM).each k hkR
        obtain rfl : sv' = sv := Option.some.inj (hsv'.symm.trans hsv)
        rw [hr, Option.getD_some] at hod
        have hr16 : r.length ≤ 16 := by simp at a2; omega
        have hs5' : w.heap.size + 5 ≤ W5.heap.size := by have := hM.size; omega
        have hdg := hod.digs (by omega)
        obtain ⟨g2, o2, c2, rfl, _, hg2⟩ := hdg.at_ a1
        have cbp := hbp.one
        have cbi := hbi.one
        have fbi := hbi.free 0
        have fbp := hbp.free 0
        obtain ⟨av, nv, cv, rfl⟩ : ∃ a n c, v = Value.slice a n c := by obtain ⟨a, c, e⟩ := hop.slice; exact ⟨a, _, c, e⟩
        by_cases h1r : 1 < r.length
        · have hk1 := a4 h1r
          have hk2 : k + 1 < R.length := (List.getElem?_eq_some_iff.1 hk1).1
          have hal := aboveL_len _ r (Nat.le_refl _)
          have hpd := pathUp_drop hr hk2 i'
          have hoth : oth i' < 64 := by unfold oth; split <;> omega
          obtain ⟨rl, hrl⟩ : ∃ rl, r.length = rl := ⟨_, rfl⟩
          have e1 : ¬ (rl : Int) = 1 := by omega
          have hnext : i' / 2 < (R[k + 1]?.getD []).length := by rw [hk1, Option.getD_some]; omega
          have HN : Hid (i' / 2 < (R[k + 1]?.getD []).length) := hnext
          have Hal : Hid ((aboveL r).length = (r.length + 1) / 2) := hal
          clear hnext hal hk1 a4 a5
          rw [hrl] at hi' hr16 h1r ⊢
          by_cases ho : oth i' < rl
          · have ht : thereB (oth i' : Int) (rl : Int) = true := by simp [thereB]; omega
            rw [hrl, if_pos ho] at hpd
            have hd := a3.at_ (show oth i' < r.length by omega)
            obtain ⟨g3, o3, c3, e3, hrg, _⟩ := hdg.at_ (show oth i' < r.length by omega)
            simp only [Value.slice.injEq, Option.some.injEq, Addr.mk.injEq, true_and, and_true] at e3
            obtain ⟨⟨rfl, rfl⟩, rfl⟩ := e3
            obtain ⟨d, hdd⟩ : ∃ d, r[oth i']?.getD [] = d := ⟨_, rfl⟩
            rw [hdd] at hd hrg hpd
            have HP : Hid ((p ++ [d]) ++ pathUp (R.drop (k + 1)) (i' / 2) = pathUp R i) := by have := hpp.out; rw [hpd] at this; show _ = _; rw [List.append_assoc]; exact this
            clear hpp hpd hr hsv hsv' hdd
            have Hrl : Hid (r.length = rl) := hrl
            clear hrl
            gi_wp2_with (first
              | (refine ⟨trivial, ?_⟩; refine (CallsIn.inRound _ (callsIn_wide.2 (other_any i' (by omega) _))).mono ?_; rintro e w' ⟨rfl, hw⟩; obtain rfl := hw.symm)
              | (refine ⟨trivial, ?_⟩; refine (CallsIn.inRound _ (callsIn_wide.2 (there_any _ _ _))).mono ?_; rintro e w' ⟨rfl, hw⟩; obtain rfl := hw.symm))
            refine wpIn_round_K (S := fun X => X.cell? ⟨w.heap.size + 1, 0, none⟩ = some (.slice av nv cv) ∧ X.cell? ⟨w.heap.size, 0, none⟩ = some (.int .i64 (i' : Int))) (fun i => decide (i < 7)) (by kernel_rfl) (by kernel_rfl) ?_
            refine K_take (i := 0) (v := .slice av nv cv) rfl (by kernel_rfl) (by kernel_rfl) (by kernel_rfl) (by kernel_rfl) (by kernel_rfl) (by rfl) (fun w' hS => by obtain ⟨h1, h2⟩ := hS; go_simp) ⟨cbp, cbi⟩ ?_
            refine K_take (i := 1) (v := .slice (some ⟨g2, o2, none⟩) rl c2) rfl (by kernel_rfl) (by kernel_rfl) (by kernel_rfl) (by kernel_rfl) (by kernel_rfl) (by rfl) (fun w' hS => by go_simp) ⟨cbp, cbi⟩ ?_
            refine K_take (i := 2) (v := .int .i64 (i' : Int)) rfl (by kernel_rfl) (by kernel_rfl) (by kernel_rfl) (by kernel_rfl) (by kernel_rfl) (by rfl) (fun w' hS => by obtain ⟨h1, h2⟩ := hS; go_simp) ⟨cbp, cbi⟩ ?_
            refine K_next (i := 3) (by kernel_rfl) rfl (by rfl) (fun K hK => ?_)
            go_simp
            refine (other_any i' (by omega) W5.drew).mono ?_
            rintro e w' ⟨rfl, rfl⟩
            refine hK _ _ (fun _ => ⟨cbp, cbi⟩) ?_
            clear hK
            refine K_next (i := 4) (by kernel_rfl) rfl (by rfl) (fun K hK => ?_)
            go_simp
            refine hK _ _ (fun _ => ⟨cbp, cbi⟩) ?_
            clear hK
            refine K_next (i := 5) (by kernel_rfl) rfl (by rfl) (fun K hK => ?_)
            refine wp_load_mid 30 _ rfl g2 (o2 + oth i' * 32) rfl (byteCells d).toList _ hrg Tryd.underlying30 rfl (by rw [byteCells_len, hd]; kernel_rfl) ?_
            refine hK _ _ (fun _ => ⟨cbp, cbi⟩) ?_
            clear hK
            refine K_next (i := 6) (by kernel_rfl) rfl (by rfl) (fun K hK => ?_)
            refine op_run (run_build_one _ _ _ d _ hd rfl rfl) ?_
            have hB7 : Below W5.heap.size W5 (W5.drew.alloc (.cells (byteCells d) 30)) := (Below.refl _ W5).drew.alloc (Nat.le_refl _) _
            refine hK _ _ (fun _ => ⟨(hbp.below hB7 hbp.lt).one, (hbi.below hB7 hbi.lt).one⟩) ?_
            clear hK
            refine K_next (i := 7) (by kernel_rfl) rfl (by rfl) (fun K hK => ?_)
            refine wp_append_digs _ _ rfl W'.heap.size (.slice av nv cv) _ _ [d] rfl rfl (hop.below hB7) (digs_one W5.drew d hd) (by simp; omega) (by have := hM.size; have := hB7.size; omega) ?_
            intro v8 W8 ho8 hg8
            refine hK _ _ (fun h => absurd h (by decide)) ?_
            clear hK
            have hlow8 := grown_low2 (hop.below hB7).2 hg8 (by have := hM.size; have := hB7.size; omega)
            have hs8 := hlow8.size
            have hsb : W5.heap.size < (W5.drew.alloc (.cells (byteCells d) 30)).heap.size := by rw [World.size_alloc]; exact Nat.lt_succ_self _
            have hp8 : Has W8 (w.heap.size + 1) #[.slice av nv cv] 22 := (hbp.below hB7 hbp.lt).below hlow8 (by omega)
            have hi8 : Has W8 w.heap.size #[.int .i64 (i' : Int)] 3 := (hbi.below hB7 hbi.lt).below hlow8 (by omega)
            have hL8 : Hid (W8.heap[w.heap.size + 3 + 1]? = some RB) := (hlow8.block _ (by omega)).trans ((hB7.block _ (by omega)).trans HL.out)
            have hM8 : Frm W1.heap.size W' W8 := (hM.below hB7 hM.size).below hlow8 (Nat.le_refl _)
            have hD8 : W8.heap[w.heap.size + 3]? = some (.deferred (some [])) := (hlow8.block _ (by omega)).trans ((hB7.block _ (by omega)).trans hI5.dfr)
            have hl8 : Below w.heap.size w W8 := (hI5.low.trans (hB7.mono (by omega))).trans (hlow8.mono (by omega))
            obtain ⟨a8, n8, cp8, rfl⟩ : ∃ a n c, v8 = Value.slice a n c := by obtain ⟨a, c, e⟩ := ho8.slice; exact ⟨a, _, c, e⟩
            have c8 := hp8.one
            have f8 := hp8.free 0
            clear hlow8 cbp cbi
            refine K_next (i := 8) (by kernel_rfl) rfl (by rfl) (fun K hK => ?_)
            go_simp
            refine hK _ _ (fun h => absurd h (by decide)) (K_done (by kernel_rfl) ?_)
            clear hK c8 f8
            refine named (p := fun X => Exit.inBlock 2 _ _ _ X) ?_
            intro W9 hW9
            have hX : Ex (w.heap.size + 1) W8 W9 := by rw [hW9]; exact Ex.set _ _ _ _
            have hp9 : Has W9 (w.heap.size + 1) #[.slice a8 n8 cp8] 22 := by rw [hW9]; exact hp8.set 0 _
            clear hW9
            have hlt8 := hp8.lt
            have hi9 := hi8.ex hX (by omega)
            have ho9 := ho8.ex hX (by omega)
            have hlt9 : w.heap.size + 3 + 1 < W8.heap.size := (Array.getElem?_eq_some_iff.1 hL8.out).1
            have HL9 : Hid (W9.heap[w.heap.size + 3 + 1]? = some RB) := (hX.block _ hlt9 (by omega)).trans hL8.out
            have hM9 := hM8.ex hX (by omega)
            have hD9 := (hX.block _ (by omega) (by omega)).trans hD8
            have hl9 := hl8.trans (hX.low (by omega) (by omega))
            have hs9 := hX.size
            clear ho8 hX hp8 hi8 hL8 hM8 hD8 hl8
            have ci9 := hi9.one
            have fi9 := hi9.free 0
            gi_wp2
            have eq2 : (i' : Int) / 2 = ((i' / 2 : Nat) : Int) := by omega
            have hY := Ex.set w.heap.size W9 0 (.int .i64 ((i' : Int) / 2))
            have hYs := hY.size
            refine ⟨(hY.block _ (by omega) (by omega)).trans HL9.out, fun W6 hE6 hs6 hl6 => ⟨hl6.trans HR.out.symm, ?_⟩⟩
            have hs6' := hE6.size
            refine ⟨(hl9.trans (hY.low (Nat.le_refl _) (by omega))).trans (hE6.low (by omega) (by omega)), (hE6.block _ (by omega) (by omega)).trans ((hY.block _ (by omega) (by omega)).trans hD9), hI5.hC, hk2, W', _, p ++ [d], i' / 2, hRw, (hM9.ex hY (by omega)).ex hE6 (by omega), hC5, ?_, (hp9.ex hY (by omega)).ex hE6 (by omega), (ho9.ex hY (by omega)).ex hE6 (by omega), HP, HN.out, by simp; omega⟩
            have := (hi9.set 0 (.int .i64 ((i' : Int) / 2))).ex hE6 (by omega)
            rw [eq2] at this
            exact this
          · have ht : thereB (oth i' : Int) (rl : Int) = false := by simp [thereB]; omega
            rw [hrl, if_neg ho, List.nil_append] at hpd
            have HP : Hid (p ++ pathUp (R.drop (k + 1)) (i' / 2) = pathUp R i) := by have := hpp.out; rw [hpd] at this; exact this
            clear hpp hpd hr hsv hsv'
            have Hrl : Hid (r.length = rl) := hrl
            clear hrl
            have hi9 := hbi
            have hp9 := hbp
            have ho9 := hop
            have hM9 := hM
            have hD9 := hI5.dfr
            have hl9 := hI5.low
            have HL9 := HL
            obtain ⟨W9, hW9⟩ : ∃ W9, W5 = W9 := ⟨_, rfl⟩
            rw [hW9] at hi9 hp9 ho9 hM9 hD9 hl9 HL9 hs5' ⊢
            clear cbi cbp fbi fbp hW9
            have ci9 := hi9.one
            have fi9 := hi9.free 0
            gi_wp2_with (first
              | (refine ⟨trivial, ?_⟩; refine (CallsIn.inRound _ (callsIn_wide.2 (other_any i' (by omega) _))).mono ?_; rintro e w' ⟨rfl, hw⟩; obtain rfl := hw.symm)
              | (refine ⟨trivial, ?_⟩; refine (CallsIn.inRound _ (callsIn_wide.2 (there_any _ _ _))).mono ?_; rintro e w' ⟨rfl, hw⟩; obtain rfl := hw.symm))
            have eq2 : (i' : Int) / 2 = ((i' / 2 : Nat) : Int) := by omega
            have hY := Ex.set w.heap.size W9 0 (.int .i64 ((i' : Int) / 2))
            have hYs := hY.size
            refine ⟨(hY.block _ (by omega) (by omega)).trans HL9.out, fun W6 hE6 hs6 hl6 => ⟨hl6.trans HR.out.symm, ?_⟩⟩
            have hs6' := hE6.size
            refine ⟨(hl9.trans (hY.low (Nat.le_refl _) (by omega))).trans (hE6.low (by omega) (by omega)), (hE6.block _ (by omega) (by omega)).trans ((hY.block _ (by omega) (by omega)).trans hD9), hI5.hC, hk2, W', _, p, i' / 2, hRw, (hM9.ex hY (by omega)).ex hE6 (by omega), hC5, ?_, (hp9.ex hY (by omega)).ex hE6 (by omega), (ho9.ex hY (by omega)).ex hE6 (by omega), HP, HN.out, by omega⟩
            have := (hi9.set 0 (.int .i64 ((i' : Int) / 2))).ex hE6 (by omega)
            rw [eq2] at this
            exact this
        · have hk1 := a5 h1r
          have hrl : r.length = 1 := by omega
          have HP : Hid (p = pathUp R i) := by have := hpp.out; rw [pathUp_last hk1, List.append_nil] at this; exact this
          rw [hrl]
          clear hpp hpk a4 a5 hdg hod hsv hsv' hr
          gi_wp2
          refine ⟨HL.out, fun W6 hE6 hs6 => ⟨rfl, hI5.low.trans (hE6.low (by omega) (by omega)), (hE6.block _ (by omega) (by omega)).trans hI5.dfr, by omega, _, hbp.ex hE6 (by omega), ?_⟩⟩
          rw [← HP.out]
          exact (hop.ex hE6 (by omega)).mono (by omega)
      · rintro e W' (⟨rfl, h1, h2⟩ | ⟨rfl, c, h1, h2⟩)
        · exact .inl ⟨rfl, h1.trans hrec, h2⟩
        · exact .inr ⟨rfl, c, h1, h2⟩
    · rintro e W3 ⟨rfl, ⟨rv, xs, _, hI⟩ | hx⟩
      · exact absurd hI.more (Nat.lt_irrefl _)
      · exact ⟨⟨_, rfl⟩, .inr hx⟩
end Go.Proofs.YtcmkjgodgocdfaaDoor
/- merkle's Path of no place; Up. -/
namespace Go.Proofs.YtcmkjgodgocdfaaDoor
open Go.RowKit
attribute [local go_sem] Oper.semAt_some

set_option maxRecDepth 100000 in
set_option maxHeartbeats 1000000 in
theorem path_bad (p : Value) (i k : Int) (w : World) (hk : ¬ k = 0) (ha : ∀ w1, Below w.heap.size w w1 → Calls Tryd.prog 34 #[p, .int .i64 i] w1 fun e w' => e = .returned (.int .i64 k) ∧ w' = w1) :
    Calls Tryd.prog 18 #[p, .int .i64 i] w fun e w' => e = .returned (.tuple #[.slice none 0 0, .int .i64 k]) ∧ Below w.heap.size w w' := by
  have hB0 := (Below.refl w.heap.size w).alloc (Nat.le_refl _) (.cells #[.int .i64 i] 3)
  have ha1 := ha _ hB0
  clear ha
  go_enter Tryd.func18, Tryd.ntmps18
  go_wp2_with fail
  go_step3
  go_wp2_with (go_at_call 34; refine ha1.mono ?_; rintro e w' ⟨rfl, hw⟩; obtain rfl := hw.symm)
  rw [Exit.noGoto_ret]
  go_ret2
  exact ⟨rfl, hB0⟩
/-- Up by a path. -/
def upL : List Bool → List Dig → Dig → Dig
  | b :: bs, q :: qs, d => upL bs qs (if b then bothL q d else bothL d q)
  | _, _, d => d
theorem upL_snoc : ∀ (bs : List Bool) (qs : List Dig) (d : Dig) (b : Bool) (q : Dig), bs.length = qs.length → upL (bs ++ [b]) (qs ++ [q]) d = (if b then bothL q (upL bs qs d) else bothL (upL bs qs d) q)
  | [], [], _, _, _, _ => rfl
  | _ :: bs, _ :: qs, d, b, q, h => by
    have := upL_snoc bs qs
    simp only [List.cons_append, upL]
    exact this _ b q (by simpa using h)
theorem upL_take {bs : List Bool} {qs : List Dig} (hl : bs.length = qs.length) {k : Nat} {b : Bool} (hk : bs[k]? = some b) (d : Dig) :
    upL (bs.take (k + 1)) (qs.take (k + 1)) d = (if b then bothL (qs[k]?.getD []) (upL (bs.take k) (qs.take k) d) else bothL (upL (bs.take k) (qs.take k) d) (qs[k]?.getD [])) := by
  have hkl := (List.getElem?_eq_some_iff.1 hk).1
  have e1 : bs.take (k + 1) = bs.take k ++ [b] := by rw [List.take_add_one, hk]; rfl
  have e2 : qs.take (k + 1) = qs.take k ++ [qs[k]?.getD []] := by rw [List.take_add_one, List.getElem?_eq_getElem (by omega)]; rfl
  rw [e1, e2, upL_snoc _ _ _ _ _ (by simp; omega)]
theorem both_len (a b : Dig) : (bothL a b).length = 32 := shaL_length _
theorem upL_len : ∀ (bs : List Bool) (qs : List Dig) (d : Dig), d.length = 32 → (upL bs qs d).length = 32
  | [], _, d, h => by cases ‹List Dig› <;> exact h
  | _ :: _, [], d, h => h
  | b :: bs, q :: qs, d, h => upL_len bs qs _ (by cases b <;> exact both_len _ _)
theorem run_load_mid {o : Oper} {ρ : Operand → Value} {w : World} (x : Operand) (ho : o.op = .load 30 x) (b f : Nat) (hx : ρ x = .pointer (some ⟨b, f, none⟩)) (d : Dig) (hd : d.length = 32) (hc : w.rangeAt b f (byteCells d).toList) :
    (execOp ρ o).run Tryd.prog w = .ok (.value (.agg (byteCells d))) w := by
  unfold execOp
  simp only [ho, hx, Instr.loadAt, Instr.sureAddr, Sem.run_bind, Sem.run_pure, Result.andThen_ok, run_loadVar_mid w b f 30 _ _ hc Tryd.underlying30 rfl (show (Tryd.prog.info? 30).map (·.size) = some (byteCells d).toList.length by rw [byteCells_len, hd]; kernel_rfl)]
theorem run_load_row {o : Oper} {ρ : Operand → Value} {w : World} (x : Operand) (ho : o.op = .load 30 x) (b : Nat) (hx : ρ x = .pointer (some ⟨b, 0, none⟩)) (d : Dig) (hd : d.length = 32) (hc : Has w b (byteCells d) 30) :
    (execOp ρ o).run Tryd.prog w = .ok (.value (.agg (byteCells d))) w := by
  unfold execOp
  simp only [ho, hx, Instr.loadAt, Instr.sureAddr, Sem.run_bind, Sem.run_pure, Result.andThen_ok, run_loadVar_row w b 30 30 (byteCells d) (0, 0) _ hc Tryd.underlying30 rfl (show (Tryd.prog.info? 30).map (·.size) = some (byteCells d).size by rw [byteCells_size, hd]; kernel_rfl)]
theorem wp_store_dig {o : Oper} {a : Act} {w : World} {K : Act → World → Prop} {Q : Exit → Act → World → Prop} (x y : Operand) (ho : o.op = .store 30 x y) (g : Nat) (d : Dig) (hx : a.eval x = .pointer (some ⟨g, 0, none⟩)) (hy : a.eval y = .agg (byteCells d)) (hd : d.length = 32)
    (old : Array Value) (hg : Has w g old 30) (hs : old.size = 32) (h : K (a.put o.dst undef) (w.setRow g (byteCells d))) : o.wp Tryd.prog a w K Q := by
  have hb : (byteCells d).size = 32 := by rw [byteCells_size, hd]
  unfold Oper.wp execOp
  simp only [ho, hx, hy, Instr.storeAt, Instr.sureAddr, Sem.run_bind, Sem.run_pure, Result.andThen_ok, run_storeVar_row (P := Tryd.prog) w g 30 30 old (byteCells d) hg (show (Tryd.prog.info? 30).map (·.size) = some (byteCells d).size by rw [hb]; kernel_rfl) (by omega) (byteCells_one _)]
  exact h
/-- Between two rounds of Up. -/
structure UpI (w : World) (jb fb ab D : Nat) (pv : Value) (x : Dig) (W : World) : Prop where
  low : Below w.heap.size w W
  dfr : W.heap[D]? = some (.deferred (some []))
  size : D + 2 ≤ W.heap.size
  path : Has W (w.heap.size + 1) #[pv] 22
  res : Has W (w.heap.size + 2) (zeroCells 32) 30
  one : Has W fb #[.int .u8 (bv 1)] 5
  jn : Has W jb #[.func (.func 44) #[] #[.pointer (some ⟨fb, 0, none⟩)]] 70
  acc : Has W ab (byteCells x) 30
  lt : fb < D ∧ jb < D ∧ ab < D ∧ w.heap.size + 2 < D ∧ w.heap.size + 2 < ab
theorem UpI.ex {w W W' : World} {jb fb ab D : Nat} {pv : Value} {x : Dig} (h : UpI w jb fb ab D pv x W) (e : Ex (D + 1) W W') : UpI w jb fb ab D pv x W' := by
  have hs := h.size
  obtain ⟨l1, l2, l3, l4, l5⟩ := h.lt
  exact ⟨h.low.trans (e.low (by omega) (by omega)), (e.block _ (by omega) (by omega)).trans h.dfr, Nat.le_trans hs e.size, h.path.ex e (by omega), h.res.ex e (by omega), h.one.ex e (by omega), h.jn.ex e (by omega), h.acc.ex e (by omega), h.lt⟩
theorem UpI.grow {w W W' : World} {jb fb ab D : Nat} {pv : Value} {x : Dig} (h : UpI w jb fb ab D pv x W) (e : Below W.heap.size W W') : UpI w jb fb ab D pv x W' := by
  have hs := h.size
  obtain ⟨l1, l2, l3, l4, l5⟩ := h.lt
  exact ⟨h.low.trans (e.mono (by omega)), (e.block _ (by omega)).trans h.dfr, Nat.le_trans hs e.size, h.path.below e h.path.lt, h.res.below e h.res.lt, h.one.below e h.one.lt, h.jn.below e h.jn.lt, h.acc.below e h.acc.lt, h.lt⟩
theorem has_ne {W : World} {b c t u : Nat} {x y : Array Value} (h : Has W b x t) (k : Has W c y u) (ht : t ≠ u) : b ≠ c := by
  rintro rfl
  have := Option.some.inj ((show W.heap[b]? = some _ from h).symm.trans (show W.heap[b]? = some _ from k))
  simp only [Obj.cells.injEq] at this
  exact ht this.2.1
theorem UpI.set {w W : World} {jb fb ab D : Nat} {pv : Value} {x : Dig} (h : UpI w jb fb ab D pv x W) (y : Dig) : UpI w jb fb ab D pv y (W.setRow ab (byteCells y)) := by
  have hs := h.size
  obtain ⟨l1, l2, l3, l4, l5⟩ := h.lt
  have e := Ex.setRow ab W (byteCells y)
  have hal := h.acc.lt
  exact ⟨h.low.trans (e.low (by omega) (by omega)), (e.block _ (by omega) (by omega)).trans h.dfr, Nat.le_trans hs e.size, h.path.ex e (by omega), h.res.ex e (by omega), h.one.ex e (has_ne h.one h.acc (by decide)), h.jn.ex e (has_ne h.jn h.acc (by decide)), setRow_heap _ _ _ _ _ _ h.acc, h.lt⟩
set_option maxRecDepth 100000 in
set_option maxHeartbeats 1000000 in
theorem up_ok (leaf : Dig) (i n : Nat) (pv : Value) (ds : List Dig) (w : World) (hl : leaf.length = 32) (hin : i < n) (hn : n ≤ 16) (hp : Digs w pv ds) (hlen : ds.length = (sidesL i n).length) (hg : Glob w) :
    Calls Tryd.prog 25 #[.agg (byteCells leaf), .int .i64 (i : Int), .int .i64 (n : Int), pv] w fun e w' => e = .returned (.tuple #[.agg (byteCells (upL (sidesL i n) ds (markL leaf))), .int .i64 0]) ∧ Below w.heap.size w w' := by
  have hgs := hg.size
  have hp0 := hp
  obtain ⟨h32, a, cap, g, o, rfl, hcap, hmx, ha, hinn, hgl⟩ := hp
  have hs16 := sidesL_le n i
  have hbs : (byteCells leaf).size = 32 := by rw [byteCells_size, hl]
  have hst := steps_ok i n hin hn
  have hseq := fun N l bi bn W J => sides1_any N l bi bn i n W J hin hn
  obtain ⟨sd, hsd⟩ : ∃ sd, sidesL i n = sd := ⟨_, rfl⟩
  obtain ⟨m, hm⟩ : ∃ m, ds.length = m := ⟨_, rfl⟩
  rw [hsd] at hlen hs16 ⊢
  simp only [hsd] at hst hseq
  rw [hm] at hlen hcap hp0 ⊢
  rw [← hlen] at hs16
  simp only [← hlen] at hst
  have HL : Hid (m = sd.length ∧ ds.length = m) := ⟨hlen, hm⟩
  clear hsd hlen hm
  refine (callsIn_wide (n := 10)).1 ?_
  refine callsIn_of_wp_marks Tryd.func25 rfl trivial ?_ rfl
  simp only [Tryd.ntmps25, List.size_toArray, List.length_cons, List.length_nil, Nat.reduceAdd, Nat.reduceSub, Array.replicate_succ, Array.replicate_zero, List.push_toArray, List.append_toArray, List.nil_append, List.cons_append]
  refine wpIn_wide.2 ?_
  go_upto_region 1 with (fail)
  refine named (p := Code.wp _ _ _ _) ?_
  intro W0 hW0
  have hz0 : w.heap.size + 3 ≤ W0.heap.size := by rw [hW0]; simp
  have hB0 : Below w.heap.size w W0 := by
    rw [hW0]
    repeat (first | exact Below.refl _ _ | refine Below.alloc ?_ (by simp <;> omega) _)
  have x0 : Has W0 w.heap.size (byteCells leaf) 30 := by
    rw [hW0]; repeat (first | (refine has_new _ _ _ _ ?_; simp; done) | refine has_old ?_)
  have x1 : Has W0 (w.heap.size + 1) #[.slice a m cap] 22 := by
    rw [hW0]; repeat (first | (refine has_new _ _ _ _ ?_; simp; done) | refine has_old ?_)
  have x2 : Has W0 (w.heap.size + 2) (zeroCells 32) 30 := by
    rw [hW0]; repeat (first | (refine has_new _ _ _ _ ?_; simp; done) | refine has_old ?_)
  clear hW0
  go_wp2_with fail
  refine (hst W0).mono ?_
  rintro e W1 ⟨rfl, hB1⟩
  have hz1 := hB1.size
  have c1 := (x1.below hB1 x1.lt).one
  go_upto_region 7 with (first
    | (go_at_call 40; refine (behind_any 0 _).mono ?_; rintro e w' ⟨rfl, hw⟩; obtain rfl := hw.symm)
    | (go_at_call 40; refine (behind_any 1 _).mono ?_; rintro e w' ⟨rfl, hw⟩; obtain rfl := hw.symm))
  refine named (p := Code.wp _ _ _ _) ?_
  intro W2 hW2
  have hz2 : W1.heap.size + 3 ≤ W2.heap.size := by rw [hW2]; simp
  have hB2 : Below W1.heap.size W1 W2 := by
    rw [hW2]
    repeat (first | exact Below.refl _ _ | refine Below.alloc ?_ (by simp <;> omega) _ | refine Below.setCell ?_ (by simp <;> omega) _)
  have y0 : Has W2 W1.heap.size #[.int .u8 (bv 0)] 5 := by
    rw [hW2]; repeat (first | (refine has_new _ _ _ _ ?_; simp; done) | refine has_old ?_)
  have y1 : Has W2 (W1.heap.size + 1) #[.int .u8 (bv 1)] 5 := by
    rw [hW2]; repeat (first | (refine has_new _ _ _ _ ?_; simp; done) | refine has_old ?_)
  have y2 : Has W2 (W1.heap.size + 2) #[.func (.func 44) #[] #[.pointer (some ⟨W1.heap.size + 1, 0, none⟩)]] 70 := by
    rw [hW2]; repeat (first | (refine has_new _ _ _ _ ?_; simp; done) | refine has_old ?_)
  clear hW2 c1
  have hB02 : Below W0.heap.size W0 W2 := hB1.trans (hB2.mono (by omega))
  have hBw2 : Below w.heap.size w W2 := hB0.trans (hB02.mono (by omega))
  have xl := x0.below hB02 x0.lt
  have hdg := digs_one W2 leaf hl
  have hBa := (Below.refl W2.heap.size W2).alloc (Nat.le_refl _) (.cells (byteCells leaf) 30)
  have hg2 := (hg.below hBw2 hg.size).below hBa (by have := (hg.below hBw2 hg.size).size; omega)
  have y0' := y0.below hBa y0.lt
  go_wp2_with (first
    | refine wpList_load_row rfl 30 _ rfl w.heap.size rfl 30 (byteCells leaf) (0, 0) _ xl Tryd.underlying30 rfl (by rw [hbs]; kernel_rfl) ?_
    | refine wpList_build_one rfl _ rfl leaf rfl hl ?_)
  refine (behind1_any 0 W1.heap.size _ [leaf] _ y0'.one y0'.lt hdg (by simp) hg2).mono ?_
  rintro e W3 ⟨rfl, hB3⟩
  have hmk : markL leaf = shaL (0 :: [leaf].flatten) := by simp [markL]
  rw [← hmk]
  have hm32 : (markL leaf).length = 32 := shaL_length _
  obtain ⟨x, hx⟩ : ∃ x, markL leaf = x := ⟨_, rfl⟩
  rw [hx] at hm32 ⊢
  have HX : Hid (markL leaf = x) := hx
  have hxs : (byteCells x).size = 32 := by rw [byteCells_size, hm32]
  clear hmk hx hdg
  have hn3 := has_new W3 (zeroCells 32) 30 W3.heap.size rfl
  go_upto_region 8 with (refine wpList_store_row rfl 30 _ _ rfl W3.heap.size (byteCells x) rfl rfl 30 _ hn3 (by rw [hxs]; kernel_rfl) (by rw [hxs, zeroCells_size]) (byteCells_one _) ?_)
  refine named (p := Code.wp _ _ _ _) ?_
  intro W4 hW4
  have hB4 : Below W3.heap.size W3 W4 := by
    rw [hW4]; exact ((Below.refl _ _).alloc (Nat.le_refl _) _).trans ⟨rfl, rfl, rfl, by simp, fun j hj => setRow_other _ _ _ _ (by omega)⟩
  have y3 : Has W4 W3.heap.size (byteCells x) 30 := by rw [hW4]; exact setRow_heap _ _ _ _ _ _ hn3
  clear hW4 hn3
  have hz3 := hB3.size
  rw [World.size_alloc] at hz3
  have hB24 : Below W2.heap.size W2 W4 := (hBa.trans (hB3.mono (by simp))).trans (hB4.mono (by omega))
  have z1 := x1.below (hB02.trans (hB24.mono (by have := hB02.size; omega))) x1.lt
  have z2 := x2.below (hB02.trans (hB24.mono (by have := hB02.size; omega))) x2.lt
  have z3 := y1.below hB24 y1.lt
  have z4 := y2.below hB24 y2.lt
  have hBw4 : Below w.heap.size w W4 := hBw2.trans (hB24.mono (by omega))
  have hz4 := y3.lt
  have hlow5 : w.heap.size + 2 < W3.heap.size := by omega
  obtain ⟨fb, hfb⟩ : ∃ fb, W1.heap.size + 1 = fb := ⟨_, rfl⟩
  obtain ⟨jb, hjb⟩ : ∃ jb, W1.heap.size + 2 = jb := ⟨_, rfl⟩
  obtain ⟨ab, hab⟩ : ∃ ab, W3.heap.size = ab := ⟨_, rfl⟩
  rw [hfb] at z3 z4
  rw [hjb] at z4
  rw [hab] at y3 hz4 hlow5
  have hlt : fb < W4.heap.size ∧ jb < W4.heap.size ∧ ab < W4.heap.size := by omega
  simp only [Nat.add_assoc, Nat.reduceAdd]
  simp only [hfb, hjb, hab]
  clear hB0 x0 x1 x2 y0 y1 y2 hB1 hB2 hB02 hBw2 xl hBa hg2 y0' hB3 hB4 hB24 hfb hjb hab
  go_wp2_with (go_at_call 41; refine (sides_any _ _ _).mono ?_; rintro e w' ⟨rfl, hw⟩; obtain rfl := hw.symm)
  refine (wpIn_wide (n := 10)).1 ?_
  refine named (p := Code.wpIn _ _ _ _ _ _) ?_
  intro W5 hW5
  have hz5 : W5.heap.size = W4.heap.size + 2 := by rw [hW5]; simp
  have hB5 : Below W4.heap.size W4 W5 := by
    rw [hW5]
    repeat (first | exact Below.refl _ _ | refine Below.alloc ?_ (by simp <;> omega) _)
  have v0 : Has W5 W4.heap.size #[.int .i64 (i : Int)] 3 := by
    rw [hW5]; repeat (first | (refine has_new _ _ _ _ ?_; simp; done) | refine has_old ?_)
  have v1 : Has W5 (W4.heap.size + 1) #[.int .i64 (n : Int)] 3 := by
    rw [hW5]; repeat (first | (refine has_new _ _ _ _ ?_; simp; done) | refine has_old ?_)
  clear hW5
  obtain ⟨D, hD⟩ : ∃ D, W5.heap.size = D := ⟨_, rfl⟩
  have hD2 : D ≤ W4.heap.size + 2 := by omega
  have hD3 : W4.heap.size + 2 ≤ D := by omega
  clear hz5
  have hI0 : ∀ W, Below W5.heap.size W5 W → W.heap[D]? = some (.deferred (some [])) → D + 2 ≤ W.heap.size → UpI w jb fb ab D (.slice a m cap) x W := fun W hW h1 h2 => by
    have hB45 : Below W4.heap.size W4 W := hB5.trans (hW.mono (by omega))
    exact ⟨hBw4.trans (hB45.mono (by omega)), h1, h2, z1.below hB45 z1.lt, z2.below hB45 z2.lt, z3.below hB45 z3.lt, z4.below hB45 z4.lt, y3.below hB45 y3.lt, by omega⟩
  clear z1 z2 z3 z4 y3 hBw4
  refine wp_range_leave (gf := 46) (lb := #[.pointer (some ⟨W4.heap.size, 0, none⟩), .pointer (some ⟨W4.heap.size + 1, 0, none⟩)]) rfl (Go.Proofs.enters_of Tryd.func46 (by kernel_rfl) rfl)
    (fun W3 => UpI w jb fb ab D (.slice a m cap) (upL sd ds x) W3) (fun _ _ => False) ?call ?done ?left
  case left => intro c W3 W4 h; exact h.elim
  case done =>
    rintro X3 X4 hI3 hE4 hs4
    rw [hD] at hE4
    have hI4 := hI3.ex hE4
    have hy32 := upL_len sd ds x hm32
    obtain ⟨y, hy⟩ : ∃ y, upL sd ds x = y := ⟨_, rfl⟩
    rw [hy] at hI4 hy32
    have hys : (byteCells y).size = 32 := by rw [byteCells_size, hy32]
    have hra := hI4.acc
    have hrr := hI4.res
    have hrl := hrr.lt
    go_wp2_with (first
      | refine wpList_load_row rfl 30 _ rfl ab rfl 30 (byteCells y) (0, 0) _ hra Tryd.underlying30 rfl (by rw [hys]; kernel_rfl) ?_
      | refine wpList_store_row rfl 30 _ _ rfl (w.heap.size + 2) (byteCells y) rfl rfl 30 _ hrr (by rw [hys]; kernel_rfl) (by rw [hys, zeroCells_size]) (byteCells_one _) ?_)
    have hlt4 := hI4.lt
    have hsz4 := hI4.size
    have hXr := Ex.setRow (w.heap.size + 2) X4 (byteCells y)
    have hK : (X4.setRow (w.heap.size + 2) (byteCells y)).heap[D]? = some (.deferred (some [])) := (hXr.block _ (by omega) (by omega)).trans hI4.dfr
    refine ⟨by simp, .inl ⟨_, _, rfl, run_takeDeferred hK, ?_⟩⟩
    have hP := putObj_ex D (X4.setRow (w.heap.size + 2) (byteCells y)) (.deferred none)
    refine ⟨_, results_two rfl _ _ (w.heap.size + 2) _ _ rfl rfl ((show Has _ _ _ _ from setRow_heap _ _ _ _ _ _ hrr).ex hP (by omega)) hys, ?_, ?_⟩
    · rw [← hy, ← HX.out]
    · have := hXr.size
      exact (hI4.low.trans (hXr.low (by omega) (by omega))).trans (hP.low (by omega) (by omega))
  case call =>
    intro fn V1 hBv hzv hDv hlv
    rw [hD] at hBv hzv hDv hlv ⊢
    refine (hseq 9 (D + 1) W4.heap.size (W4.heap.size + 1) V1
      (fun k W => W.heap[D + 1]? = V1.heap[D + 1]? ∧ UpI w jb fb ab D (.slice a m cap) (upL (sd.take k) (ds.take k) x) W)
      (v0.below hBv (by omega)) (v1.below hBv (by omega)) ?_ ?_).mono ?_
    · intro q
      exact ⟨rfl, by have := hI0 V1 (by rw [hD]; exact hBv) hDv (by omega); exact this.grow ⟨rfl, rfl, rfl, Nat.le_refl _, fun _ _ => rfl⟩⟩
    · intro k b W hk hJ
      obtain ⟨hrec, hI⟩ := hJ
      rw [hlv] at hrec ⊢
      refine (yield_in (R := fun W' => W'.heap[D + 1]? = W.heap[D + 1]? ∧ UpI w jb fb ab D (.slice a m cap) (upL (sd.take (k + 1)) (ds.take (k + 1)) x) W') (Rx := fun _ _ => False) hrec rfl ?_).mono ?_
      · clear hrec hlv hI0 hDv hBv hzv hseq hst v0 v1 hB5
        intro RR RB hrr
        have HR : Hid (W.heap[D + 1]? = some RR) := hrr
        clear hrr
        have hkl := (List.getElem?_eq_some_iff.1 hk).1
        have hkm : k < m := by have := HL.out; omega
        have hkd : k < ds.length := by have := HL.out; omega
        obtain rfl := ha (by intro e; simp [e] at hkd)
        have hstep := upL_take (qs := ds) (by have := HL.out; omega) hk x
        have hq32 := h32.at_ hkd
        have hrq := hinn k hkd
        obtain ⟨q, hqq⟩ : ∃ q, ds[k]?.getD [] = q := ⟨_, rfl⟩
        rw [hqq] at hstep hq32 hrq
        have hy32 := upL_len (sd.take k) (ds.take k) x hm32
        obtain ⟨y, hyy⟩ : ∃ y, upL (sd.take k) (ds.take k) x = y := ⟨_, rfl⟩
        rw [hyy] at hstep hy32 hI
        clear hqq hyy
        cases b with
        | true =>
          rw [if_pos rfl] at hstep
          gi_wp2
          refine ⟨HR.out, ?_⟩
          intro W5 hE5 hs5 hl5
          clear hs5
          have HL5 : Hid (W5.heap[D + 1]? = some RB) := hl5
          clear hl5
          have hI5 := hI.ex hE5
          clear hI
          have hrg : W5.rangeAt g (o + k * 32) (byteCells q).toList := rangeAt_block hrq (hI5.low.block g hgl)
          have hgl5 : g < W5.heap.size := Nat.lt_of_lt_of_le hgl hI5.low.size
          have hS0 : W5.cell? ⟨jb, 0, none⟩ = some (.func (.func 44) #[] #[.pointer (some ⟨fb, 0, none⟩)]) ∧ W5.cell? ⟨w.heap.size + 1, 0, none⟩ = some (.slice (some ⟨g, o, none⟩) m cap) ∧ Has W5 ab (byteCells y) 30 ∧ W5.rangeAt g (o + k * 32) (byteCells q).toList := ⟨hI5.jn.one, hI5.path.one, hI5.acc, hrg⟩
          gi_wp2
          refine wpIn_round_K (S := fun X => X.cell? ⟨jb, 0, none⟩ = some (.func (.func 44) #[] #[.pointer (some ⟨fb, 0, none⟩)]) ∧ X.cell? ⟨w.heap.size + 1, 0, none⟩ = some (.slice (some ⟨g, o, none⟩) m cap) ∧ Has X ab (byteCells y) 30 ∧ X.rangeAt g (o + k * 32) (byteCells q).toList) (fun i => decide (i < 8)) (by kernel_rfl) (by kernel_rfl) ?_
          refine K_take (i := 0) (v := .func (.func 44) #[] #[.pointer (some ⟨fb, 0, none⟩)]) rfl (by kernel_rfl) (by kernel_rfl) (by kernel_rfl) (by kernel_rfl) (by kernel_rfl) (by rfl) (fun w' hS => by obtain ⟨h1, h2, h3, h4⟩ := hS; go_simp) hS0 ?_
          refine K_take (i := 1) (v := .slice (some ⟨g, o, none⟩) m cap) rfl (by kernel_rfl) (by kernel_rfl) (by kernel_rfl) (by kernel_rfl) (by kernel_rfl) (by rfl) (fun w' hS => by obtain ⟨h1, h2, h3, h4⟩ := hS; go_simp) hS0 ?_
          refine K_take (i := 2) (v := .int .i64 (k : Int)) rfl (by kernel_rfl) (by kernel_rfl) (by kernel_rfl) (by kernel_rfl) (by kernel_rfl) (by rfl) (fun w' hS => by go_simp) hS0 ?_
          refine K_take (i := 5) (v := .agg (byteCells y)) rfl (by kernel_rfl) (by kernel_rfl) (by kernel_rfl) (by kernel_rfl) (by kernel_rfl) (by rfl) (fun w' hS => by exact run_load_row _ rfl ab rfl y hy32 hS.2.2.1) hS0 ?_
          refine K_take (i := 3) (v := .pointer (some ⟨g, o + k * 32, none⟩)) rfl (by kernel_rfl) (by kernel_rfl) (by kernel_rfl) (by kernel_rfl) (by kernel_rfl) (by rfl) (fun w' hS => by go_simp) hS0 ?_
          refine K_take (i := 4) (v := .agg (byteCells q)) rfl (by kernel_rfl) (by kernel_rfl) (by kernel_rfl) (by kernel_rfl) (by kernel_rfl) (by rfl) (fun w' hS => by exact run_load_mid _ rfl g (o + k * 32) rfl q hq32 hS.2.2.2) hS0 ?_
          refine K_next (i := 6) (by kernel_rfl) rfl (by rfl) (fun K hK => ?_)
          refine op_run (run_build_two _ _ (.tmp 50) (.tmp 51) q y _ hq32 hy32 rfl (by kernel_rfl) (by kernel_rfl)) ?_
          have hdgs := digs_new W5.drew [q, y] (All32.two hq32 hy32) (by simp)
          have hB7 : Below W5.heap.size W5 (W5.drew.alloc (.cells ([q, y].flatten.map bc).toArray 30)) := (Below.refl _ W5).drew.alloc (Nat.le_refl _) _
          obtain ⟨W7, hW7⟩ : ∃ W7, W5.drew.alloc (.cells ([q, y].flatten.map bc).toArray 30) = W7 := ⟨_, rfl⟩
          rw [hW7] at hdgs hB7 ⊢
          clear hW7
          have hI7 := hI5.grow hB7
          refine hK _ _ (fun _ => ⟨hI7.jn.one, hI7.path.one, hI7.acc, rangeAt_block hrg (hB7.block g hgl5)⟩) ?_
          clear hK
          refine K_next (i := 7) (by kernel_rfl) rfl (by rfl) (fun K hK => ?_)
          go_simp
          have hg7 := hg.below hI7.low hg.size
          refine (behind1_any 1 fb _ [q, y] W7 hI7.one.one hI7.one.lt hdgs (by simp) hg7).mono ?_
          rintro e W8 ⟨rfl, hB8⟩
          have hI8 := hI7.grow hB8
          have hbt : bothL q y = shaL (1 :: [q, y].flatten) := by simp [bothL]
          rw [← hbt]
          have hz32 : (bothL q y).length = 32 := both_len _ _
          obtain ⟨z, hz⟩ : ∃ z, bothL q y = z := ⟨_, rfl⟩
          rw [hz] at hz32 hbt hstep ⊢
          refine hK _ _ (fun _ => ⟨hI8.jn.one, hI8.path.one, hI8.acc, rangeAt_block (rangeAt_block hrg (hB7.block g hgl5)) (hB8.block g (Nat.lt_of_lt_of_le hgl5 hB7.size))⟩) ?_
          clear hK hbt
          refine K_next (i := 8) (by kernel_rfl) rfl (by rfl) (fun K hK => ?_)
          refine wp_store_dig _ _ rfl ab z (by kernel_rfl) (by kernel_rfl) hz32 _ hI8.acc (by rw [byteCells_size, hy32]) ?_
          refine hK _ _ (fun h => absurd h (by decide)) (K_done (by kernel_rfl) ?_)
          clear hK
          have hI9 := hI8.set z
          have hLL : (W8.setRow ab (byteCells z)).heap[D + 1]? = some RB := (setRow_other _ _ _ _ (by have := hI8.lt; omega)).trans ((hB8.block _ (by have := hI7.size; omega)).trans ((hB7.block _ (by have := hI5.size; omega)).trans HL5.out))
          exact ⟨hLL, fun W6 hE6 hs6 hl6 => ⟨hl6.trans HR.out.symm, by rw [hz]; exact hI9.ex hE6⟩⟩
        | false =>
          rw [if_neg (by decide)] at hstep
          gi_wp2
          refine ⟨HR.out, ?_⟩
          intro W5 hE5 hs5 hl5
          clear hs5
          have HL5 : Hid (W5.heap[D + 1]? = some RB) := hl5
          clear hl5
          have hI5 := hI.ex hE5
          clear hI
          have hrg : W5.rangeAt g (o + k * 32) (byteCells q).toList := rangeAt_block hrq (hI5.low.block g hgl)
          have hgl5 : g < W5.heap.size := Nat.lt_of_lt_of_le hgl hI5.low.size
          have hS0 : W5.cell? ⟨jb, 0, none⟩ = some (.func (.func 44) #[] #[.pointer (some ⟨fb, 0, none⟩)]) ∧ W5.cell? ⟨w.heap.size + 1, 0, none⟩ = some (.slice (some ⟨g, o, none⟩) m cap) ∧ Has W5 ab (byteCells y) 30 ∧ W5.rangeAt g (o + k * 32) (byteCells q).toList := ⟨hI5.jn.one, hI5.path.one, hI5.acc, hrg⟩
          gi_wp2
          refine wpIn_round_K (S := fun X => X.cell? ⟨jb, 0, none⟩ = some (.func (.func 44) #[] #[.pointer (some ⟨fb, 0, none⟩)]) ∧ X.cell? ⟨w.heap.size + 1, 0, none⟩ = some (.slice (some ⟨g, o, none⟩) m cap) ∧ Has X ab (byteCells y) 30 ∧ X.rangeAt g (o + k * 32) (byteCells q).toList) (fun i => decide (i < 8)) (by kernel_rfl) (by kernel_rfl) ?_
          refine K_take (i := 0) (v := .func (.func 44) #[] #[.pointer (some ⟨fb, 0, none⟩)]) rfl (by kernel_rfl) (by kernel_rfl) (by kernel_rfl) (by kernel_rfl) (by kernel_rfl) (by rfl) (fun w' hS => by obtain ⟨h1, h2, h3, h4⟩ := hS; go_simp) hS0 ?_
          refine K_take (i := 1) (v := .agg (byteCells y)) rfl (by kernel_rfl) (by kernel_rfl) (by kernel_rfl) (by kernel_rfl) (by kernel_rfl) (by rfl) (fun w' hS => by exact run_load_row _ rfl ab rfl y hy32 hS.2.2.1) hS0 ?_
          refine K_take (i := 2) (v := .slice (some ⟨g, o, none⟩) m cap) rfl (by kernel_rfl) (by kernel_rfl) (by kernel_rfl) (by kernel_rfl) (by kernel_rfl) (by rfl) (fun w' hS => by obtain ⟨h1, h2, h3, h4⟩ := hS; go_simp) hS0 ?_
          refine K_take (i := 3) (v := .int .i64 (k : Int)) rfl (by kernel_rfl) (by kernel_rfl) (by kernel_rfl) (by kernel_rfl) (by kernel_rfl) (by rfl) (fun w' hS => by go_simp) hS0 ?_
          refine K_take (i := 4) (v := .pointer (some ⟨g, o + k * 32, none⟩)) rfl (by kernel_rfl) (by kernel_rfl) (by kernel_rfl) (by kernel_rfl) (by kernel_rfl) (by rfl) (fun w' hS => by go_simp) hS0 ?_
          refine K_take (i := 5) (v := .agg (byteCells q)) rfl (by kernel_rfl) (by kernel_rfl) (by kernel_rfl) (by kernel_rfl) (by kernel_rfl) (by rfl) (fun w' hS => by exact run_load_mid _ rfl g (o + k * 32) rfl q hq32 hS.2.2.2) hS0 ?_
          refine K_next (i := 6) (by kernel_rfl) rfl (by rfl) (fun K hK => ?_)
          refine op_run (run_build_two _ _ (.tmp 55) (.tmp 59) y q _ hy32 hq32 rfl (by kernel_rfl) (by kernel_rfl)) ?_
          have hdgs := digs_new W5.drew [y, q] (All32.two hy32 hq32) (by simp)
          have hB7 : Below W5.heap.size W5 (W5.drew.alloc (.cells ([y, q].flatten.map bc).toArray 30)) := (Below.refl _ W5).drew.alloc (Nat.le_refl _) _
          obtain ⟨W7, hW7⟩ : ∃ W7, W5.drew.alloc (.cells ([y, q].flatten.map bc).toArray 30) = W7 := ⟨_, rfl⟩
          rw [hW7] at hdgs hB7 ⊢
          clear hW7
          have hI7 := hI5.grow hB7
          refine hK _ _ (fun _ => ⟨hI7.jn.one, hI7.path.one, hI7.acc, rangeAt_block hrg (hB7.block g hgl5)⟩) ?_
          clear hK
          refine K_next (i := 7) (by kernel_rfl) rfl (by rfl) (fun K hK => ?_)
          go_simp
          have hg7 := hg.below hI7.low hg.size
          refine (behind1_any 1 fb _ [y, q] W7 hI7.one.one hI7.one.lt hdgs (by simp) hg7).mono ?_
          rintro e W8 ⟨rfl, hB8⟩
          have hI8 := hI7.grow hB8
          have hbt : bothL y q = shaL (1 :: [y, q].flatten) := by simp [bothL]
          rw [← hbt]
          have hz32 : (bothL y q).length = 32 := both_len _ _
          obtain ⟨z, hz⟩ : ∃ z, bothL y q = z := ⟨_, rfl⟩
          rw [hz] at hz32 hbt hstep ⊢
          refine hK _ _ (fun _ => ⟨hI8.jn.one, hI8.path.one, hI8.acc, rangeAt_block (rangeAt_block hrg (hB7.block g hgl5)) (hB8.block g (Nat.lt_of_lt_of_le hgl5 hB7.size))⟩) ?_
          clear hK hbt
          refine K_next (i := 8) (by kernel_rfl) rfl (by rfl) (fun K hK => ?_)
          refine wp_store_dig _ _ rfl ab z (by kernel_rfl) (by kernel_rfl) hz32 _ hI8.acc (by rw [byteCells_size, hy32]) ?_
          refine hK _ _ (fun h => absurd h (by decide)) (K_done (by kernel_rfl) ?_)
          clear hK
          have hI9 := hI8.set z
          have hLL : (W8.setRow ab (byteCells z)).heap[D + 1]? = some RB := (setRow_other _ _ _ _ (by have := hI8.lt; omega)).trans ((hB8.block _ (by have := hI7.size; omega)).trans ((hB7.block _ (by have := hI5.size; omega)).trans HL5.out))
          exact ⟨hLL, fun W6 hE6 hs6 hl6 => ⟨hl6.trans HR.out.symm, by rw [hz]; exact hI9.ex hE6⟩⟩
      · rintro e W' (⟨rfl, h1, h2⟩ | ⟨_, _, _, h⟩)
        · exact ⟨rfl, h1.trans hrec, h2⟩
        · exact h.elim
    · rintro e W3 ⟨rfl, h1, h2⟩
      refine ⟨⟨_, rfl⟩, .inl ⟨h1, ?_⟩⟩
      rwa [List.take_of_length_le (Nat.le_refl _), List.take_of_length_le (by have := HL.out; omega)] at h2
end Go.Proofs.YtcmkjgodgocdfaaDoor
/- merkle's Check. -/
namespace Go.Proofs.YtcmkjgodgocdfaaDoor
open Go.RowKit

def checkE (E : Int) (same : Bool) : Int := if E = 0 then (if same then 0 else 140) else E
set_option maxRecDepth 100000 in
set_option maxHeartbeats 1000000 in
theorem check_of (root leaf D : Dig) (i n E : Int) (pv : Value) (a : Option Addr) (m cap : Nat) (hpv : pv = .slice a m cap) (w : World) (hr : root.length = 32) (hl : leaf.length = 32) (hD : D.length = 32)
    (hup : ∀ w1, Below w.heap.size w w1 → Calls Tryd.prog 25 #[.agg (byteCells leaf), .int .i64 i, .int .i64 n, pv] w1 fun e w' => e = .returned (.tuple #[.agg (byteCells D), .int .i64 E]) ∧ Below w1.heap.size w1 w') :
    Calls Tryd.prog 27 #[.agg (byteCells root), .agg (byteCells leaf), .int .i64 i, .int .i64 n, pv] w fun e w' => e = .returned (.int .i64 (checkE E (D == root))) ∧ Below w.heap.size w w' := by
  subst hpv
  have hrs : (byteCells root).size = 32 := by rw [byteCells_size, hr]
  have hls : (byteCells leaf).size = 32 := by rw [byteCells_size, hl]
  have hDs : (byteCells D).size = 32 := by rw [byteCells_size, hD]
  have q : ∀ w, (Op.equalIn 10000 30 (.agg (byteCells D)) (.agg (byteCells root))).run Tryd.prog w = .ok (D == root) w := fun w => eq_dig D root hD hr w
  obtain ⟨sm, hsm⟩ : ∃ sm, (D == root) = sm := ⟨_, rfl⟩
  rw [hsm]
  simp only [hsm] at q
  clear hsm
  go_enter Tryd.func27, Tryd.ntmps27
  go_upto_region 1 with (fail)
  refine named (p := Code.wp _ _ _ _) ?_
  intro W0 hW0
  have hz0 : w.heap.size + 2 ≤ W0.heap.size := by rw [hW0]; simp
  have hB0 : Below w.heap.size w W0 := by
    rw [hW0]
    repeat (first | exact Below.refl _ _ | refine Below.alloc ?_ (by simp <;> omega) _)
  have x0 : Has W0 w.heap.size (byteCells root) 30 := by
    rw [hW0]; repeat (first | (refine has_new _ _ _ _ ?_; simp; done) | refine has_old ?_)
  have x1 : Has W0 (w.heap.size + 1) (byteCells leaf) 30 := by
    rw [hW0]; repeat (first | (refine has_new _ _ _ _ ?_; simp; done) | refine has_old ?_)
  clear hW0
  have hu := hup W0 hB0
  clear hup
  go_wp2_with (refine wpList_load_row rfl 30 _ rfl (w.heap.size + 1) rfl 30 (byteCells leaf) (0, 0) _ x1 Tryd.underlying30 rfl (by rw [hls]; kernel_rfl) ?_)
  refine hu.mono ?_
  clear hu
  rintro e W1 ⟨rfl, hB1⟩
  have hz1 := hB1.size
  have hn1 := has_new W1 (zeroCells 32) 30 W1.heap.size rfl
  go_upto_region 2 with (refine wpList_store_row rfl 30 _ _ rfl W1.heap.size (byteCells D) rfl rfl 30 _ hn1 (by rw [hDs]; kernel_rfl) (by rw [hDs, zeroCells_size]) (byteCells_one _) ?_)
  refine named (p := Code.wp _ _ _ _) ?_
  intro W2 hW2
  have hB2 : Below W1.heap.size W1 W2 := by
    rw [hW2]; exact ((Below.refl _ _).alloc (Nat.le_refl _) _).trans ⟨rfl, rfl, rfl, by simp, fun j hj => setRow_other _ _ _ _ (by omega)⟩
  have y0 : Has W2 W1.heap.size (byteCells D) 30 := by rw [hW2]; exact setRow_heap _ _ _ _ _ _ hn1
  clear hW2 hn1
  have y1 := (x0.below hB1 x0.lt).below hB2 (Nat.lt_of_lt_of_le x0.lt hz1)
  have hBw : Below w.heap.size w W2 := (hB0.trans (hB1.mono (by omega))).trans (hB2.mono (by omega))
  by_cases hE : E = 0
  · subst hE
    cases sm with
    | true =>
      go_wp2_with (first
        | refine wpList_load_row rfl 30 _ rfl W1.heap.size rfl 30 (byteCells D) (0, 0) _ y0 Tryd.underlying30 rfl (by rw [hDs]; kernel_rfl) ?_
        | refine wpList_load_row rfl 30 _ rfl w.heap.size rfl 30 (byteCells root) (0, 0) _ y1 Tryd.underlying30 rfl (by rw [hrs]; kernel_rfl) ?_)
      go_ret
      exact ⟨rfl, hBw⟩
    | false =>
      go_wp2_with (first
        | refine wpList_load_row rfl 30 _ rfl W1.heap.size rfl 30 (byteCells D) (0, 0) _ y0 Tryd.underlying30 rfl (by rw [hDs]; kernel_rfl) ?_
        | refine wpList_load_row rfl 30 _ rfl w.heap.size rfl 30 (byteCells root) (0, 0) _ y1 Tryd.underlying30 rfl (by rw [hrs]; kernel_rfl) ?_)
      go_ret
      exact ⟨rfl, hBw⟩
  · go_wp2
    go_ret
    exact ⟨by unfold checkE; rw [if_neg hE]; rfl, hBw⟩
end Go.Proofs.YtcmkjgodgocdfaaDoor
