/- A range over a function: one round with its worlds named; a body that may leave. -/
import Derived.Test.YtcmkjgodgocdfaaDoorA8
import Derived.Test.YtcmkjgodgocdfaaDoorR2
namespace Go.Proofs.YtcmkjgodgocdfaaDoor
open Go.RowKit
variable {n : Nat} {P : Program}

/-- The record l has a jump that waits. -/
def Pend (l : Nat) (c : Code) (W : World) : Prop := ∃ r : Loop, W.heap[l]? = some (.loop r) ∧ r.state ≠ .busy ∧ r.pending = some c
theorem putObj_ex (l : Nat) (W : World) (o : Obj) : Ex l W (W.putObj l o) := ⟨rfl, rfl, rfl, by simp, fun k _ hk => World.putObj_heap_other hk⟩
/-- How a round's body may end. -/
def leaves (l : Nat) (RR RB : Obj) (R : World → Prop) (Rx : Code → World → Prop) : Exit → Act → World → Prop
  | .normal, _, W => W.heap[l]? = some RB ∧ ∀ W6, Ex l W W6 → W6.heap.size = W.heap.size → W6.heap[l]? = some RR → R W6
  | .ret, _, W => W.heap[l]? = some RB ∧ ∀ W6, Ex l W W6 → W6.heap.size = W.heap.size → Rx .ret W6
  | .exit id, _, W => W.heap[l]? = some RB ∧ ∀ W6, Ex l W W6 → W6.heap.size = W.heap.size → Rx (.exit id) W6
  | _, _, _ => False
/-- One round. -/
theorem yield_in {fn : FuncId} {tmps : Array Value} {ps : Array Tmp} {assign body : Code} {D l : Nat} {W : World} {args : Array Value} {R : World → Prop} {Rx : Code → World → Prop}
    (hl : W.heap[l]? = some (.loop (recOf fn tmps ps assign body D .ready))) (hps : args.size = ps.size)
    (h : ∀ RR RB : Obj, W.heap[l]? = some RR → assign.wpIn (Fence.wide.inRound l) n P (Exit.then (fun a₁ w₁ => w₁.heap[l]? = some RR ∧
        ∀ W5, Ex l w₁ W5 → W5.heap.size = w₁.heap.size → W5.heap[l]? = some RB → body.wpIn (Fence.wide.inRound l) n P (leaves l RR RB R Rx) a₁ W5)
      (fun _ _ _ => False)) { tmps := (ps.zip args).foldl (fun t (p, v) => t.setIfInBounds p v) tmps, defers := [] } W) :
    YieldAt Fence.wide n P l args W fun e W' => (e = .returned (.bool true) ∧ R W') ∨ (e = .returned (.bool false) ∧ ∃ c, Pend l c W' ∧ Rx c W') := by
  have hy := run_yield (P := P) (args := args) hl hps
  have h := h (.loop (recOf fn tmps ps assign body D .ready)) (.loop (recOf fn tmps ps assign body D .busy)) hl
  have lt_of : ∀ {X : World} {o : Obj}, X.heap[l]? = some o → l < X.heap.size := fun hX => (Array.getElem?_eq_some_iff.1 hX).1
  refine ⟨fn, _, assign, body, hy, roundIn_of_wpIn trivial ?_⟩
  refine wpIn_mono h ?_
  rintro e a₁ w₁ hp
  cases e with
  | normal =>
    obtain ⟨hl1, hb⟩ := hp
    refine ⟨_, run_beginRound hl1 rfl, ?_⟩
    refine wpIn_mono (hb _ (putObj_ex l w₁ _) (by simp) (World.putObj_heap_same (lt_of hl1))) ?_
    intro e a3 W3 he
    cases e with
    | normal =>
      obtain ⟨hl3, hR⟩ := he
      exact ⟨_, _, run_endRound (P := P) none hl3, .inl ⟨rfl, hR _ (putObj_ex l W3 _) (by simp) (World.putObj_heap_same (lt_of hl3))⟩⟩
    | ret =>
      obtain ⟨hl3, hR⟩ := he
      exact ⟨_, _, run_endRound (P := P) (some .ret) hl3, .inr ⟨rfl, .ret, ⟨_, World.putObj_heap_same (lt_of hl3), by simp, rfl⟩, hR _ (putObj_ex l W3 _) (by simp)⟩⟩
    | exit id =>
      obtain ⟨hl3, hR⟩ := he
      exact ⟨_, _, run_endRound (P := P) (some (.exit id)) hl3, .inr ⟨rfl, .exit id, ⟨_, World.putObj_heap_same (lt_of hl3), by simp, rfl⟩, hR _ (putObj_ex l W3 _) (by simp)⟩⟩
    | _ => exact he.elim
  | _ => exact hp
/-- The statement: the call of the function that is ranged over, at yield; behind it the jump that waits, or none. -/
theorem wp_range_leave {g : Operand} {ps : Array Tmp} {assign body : Code} {Q : Exit → Act → World → Prop} {a : Act} {w : World} {gf : Nat} {lb : Array Value}
    (hg : a.eval g = .func (.func gf) #[] lb) (eg : ∀ args w, (callFunc gf args).run P w = .ok (.enter gf args) w) (R : World → Prop) (Rx : Code → World → Prop)
    (hcall : ∀ fn W1, Below w.heap.size w W1 → W1.heap.size = w.heap.size + 2 → W1.heap[w.heap.size]? = some (.deferred (some [])) → W1.heap[w.heap.size + 1]? = some (.loop (recOf fn a.tmps ps assign body w.heap.size .ready)) →
      CallsIn Fence.wide (n - 1) P gf (#[.func (.yield (w.heap.size + 1)) #[] #[]] ++ lb) W1 fun e W3 => (∃ v, e = .returned v) ∧ ((W3.heap[w.heap.size + 1]? = W1.heap[w.heap.size + 1]? ∧ R W3) ∨ ∃ c, Pend (w.heap.size + 1) c W3 ∧ Rx c W3))
    (hdone : ∀ W3 W4, R W3 → Ex (w.heap.size + 1) W3 W4 → W4.heap.size = W3.heap.size → Q .normal { a with defers := { target := .collected w.heap.size, args := #[] } :: a.defers } W4)
    (hleft : ∀ c W3 W4, Rx c W3 → Ex (w.heap.size + 1) W3 W4 → W4.heap.size = W3.heap.size → c.wpIn Fence.wide n P Q { a with defers := { target := .collected w.heap.size, args := #[] } :: a.defers } W4) :
    (Code.rangeFunc g ps assign body).wpIn Fence.wide n P Q a w := by
  refine wpIn_rangeFunc ?_
  intro fn _
  obtain ⟨W1, hW1⟩ : ∃ W1, (w.alloc (.deferred (some []))).alloc (.loop (recOf fn a.tmps ps assign body w.heap.size .ready)) = W1 := ⟨_, rfl⟩
  have hL : W1.heap[w.heap.size + 1]? = some (.loop (recOf fn a.tmps ps assign body w.heap.size .ready)) := by
    rw [← hW1]
    have := World.alloc_heap_new (w.alloc (.deferred (some []))) (.loop (recOf fn a.tmps ps assign body w.heap.size .ready)); rwa [World.size_alloc] at this
  refine ⟨w.heap.size + 1, [{ target := .collected w.heap.size, args := #[] }], W1, { target := .fn (.func gf) lb, args := #[.func (.yield (w.heap.size + 1)) #[] #[]] }, W1, gf,
    #[.func (.yield (w.heap.size + 1)) #[] #[]] ++ lb, W1, ?_, ?_, ?_, ?_, (fun h => by cases h), ?_⟩
  · rw [← hW1]; exact run_enterLoop_outer _ _ _ _ _
  · simp only [resolve, hg]
    simp [go_sem]
  · intro f' _; trivial
  · simp [invoke, go_sem, eg]
  · have hD : W1.heap[w.heap.size]? = some (.deferred (some [])) := by
      rw [← hW1]; exact (Below.heap_alloc _ _ _ (by simp)).trans (World.alloc_heap_new w _)
    refine (hcall fn W1 (by rw [← hW1]; exact ((Below.refl _ w).alloc (Nat.le_refl _) _).alloc (by simp) _) (by rw [← hW1]; simp) hD hL).mono ?_
    rintro e W3 ⟨⟨v, rfl⟩, ⟨hl3, hR⟩ | ⟨c, ⟨r, hr, hb, hp⟩, hR⟩⟩
    · rw [hL] at hl3
      exact ⟨none, _, run_endLoop hl3 (by simp [recOf]), hdone W3 _ hR (putObj_ex _ _ _) (by simp)⟩
    · exact ⟨some c, _, by rw [← hp]; exact run_endLoop hr hb, hleft c W3 _ hR (putObj_ex _ _ _) (by simp)⟩
end Go.Proofs.YtcmkjgodgocdfaaDoor
