/- Texts put together, in build order: R3, F1, N3, G4, S1, S2, S3, S4, P1, P2, H1, S5. -/
import Derived.Test.YtgoflpfafkmmgaaZq2
import Derived.Test.YtgoflpfafkmmgaaRows
import Derived.ProofKit
import Derived.OpenShut
import Derived.ChangeOld
import Derived.ChangeSlices
import Derived.Stop.Joined
import Derived.Test.YtgoflpfafkmmgaaZq1
/- A region that draws its order and writes nothing that was there: each operation is shown once, from what is known of the operations that it waits for; what is known stays known as memory grows. So in every order all of it holds at the end. -/
namespace Go.Proofs.Ytgoflpfafkmmgaa
open Go.RowKit
variable {P : Program}

/-- Below N nothing has turned; no cell that was there has turned, and no row is of another make. -/
structure Le (N : Nat) (w w' : World) : Prop where
  below : Below N w w'
  cells : ∀ a : Addr, a.block < w.heap.size → w'.cell? a = w.cell? a
  shape : ∀ k, k < w.heap.size → w'.shape? k = w.shape? k
theorem Le.refl (N : Nat) (w : World) : Le N w w := ⟨Below.refl _ _, fun _ _ => rfl, fun _ _ => rfl⟩
theorem Le.trans {N : Nat} {x y z : World} (h : Le N x y) (k : Le N y z) : Le N x z :=
  ⟨h.below.trans k.below, fun a ha => (k.cells a (Nat.lt_of_lt_of_le ha h.below.size)).trans (h.cells a ha), fun a ha => (k.shape a (Nat.lt_of_lt_of_le ha h.below.size)).trans (h.shape a ha)⟩
theorem Le.drew (N : Nat) (w : World) : Le N w w.drew := ⟨(Below.refl _ _).drew, fun _ _ => rfl, fun _ _ => rfl⟩
theorem Le.drewN (N : Nat) (w : World) (k : Nat) : Le N w (w.drewN k) := ⟨⟨rfl, rfl, rfl, Nat.le_refl _, fun _ _ => rfl⟩, fun _ _ => rfl, fun _ _ => rfl⟩
theorem Le.of {N : Nat} {w w' : World} (h : Below w.heap.size w w') (hN : N ≤ w.heap.size) : Le N w w' :=
  ⟨h.mono hN, fun a ha => h.cell (p := a) ha, fun k hk => by unfold World.shape?; rw [h.block k hk]⟩
theorem Le.alloc {N : Nat} (w : World) (o : Obj) (hN : N ≤ w.heap.size) : Le N w (w.alloc o) := Le.of ((Below.refl _ _).alloc (Nat.le_refl _) _) hN
theorem Le.size {N : Nat} {w w' : World} (h : Le N w w') : w.heap.size ≤ w'.heap.size := h.below.size
theorem freeze_row {w : World} (a : Addr) (n k : Nat) {c : Array Value} {e : TypeId} {fr : Nat × Nat} (h : w.heap[k]? = some (.cells c e fr)) : ∃ fr', (w.freeze a n).heap[k]? = some (.cells c e fr') := by
  unfold World.freeze
  by_cases hn : n = 0
  · rw [if_pos hn]; exact ⟨_, h⟩
  rw [if_neg hn]
  simp only [Array.getElem?_modify, h]
  by_cases e : a.block = k
  · rw [if_pos e]; obtain ⟨lo, hi⟩ := fr; exact ⟨_, rfl⟩
  · rw [if_neg e]; exact ⟨_, rfl⟩
theorem freeze_other {w : World} (a : Addr) (n k : Nat) (h : ∀ c e fr, w.heap[k]? ≠ some (.cells c e fr)) : (w.freeze a n).heap[k]? = w.heap[k]? := by
  unfold World.freeze
  by_cases hn : n = 0
  · rw [if_pos hn]
  rw [if_neg hn]
  simp only [Array.getElem?_modify]
  by_cases e : a.block = k
  · rw [if_pos e]
    cases hk : w.heap[k]? with
    | none => rfl
    | some o => cases o <;> first | rfl | exact absurd hk (h _ _ _)
  · rw [if_neg e]
theorem Le.freeze {N : Nat} (w : World) (a : Addr) (n : Nat) (ha : N ≤ a.block) : Le N w (w.freeze a n) := by
  refine ⟨⟨by unfold World.freeze; split <;> rfl, by unfold World.freeze; split <;> rfl, by unfold World.freeze; split <;> rfl, by unfold World.freeze; split <;> simp, fun k hk => ?_⟩, fun p _ => ?_, fun k _ => ?_⟩
  · unfold World.freeze
    by_cases hn : n = 0
    · rw [if_pos hn]
    rw [if_neg hn]
    simp only [Array.getElem?_modify]
    rw [if_neg (by omega)]
  · unfold World.cell?
    by_cases h : ∃ c e fr, w.heap[p.block]? = some (.cells c e fr)
    · obtain ⟨c, e, fr, h⟩ := h
      obtain ⟨fr', h'⟩ := freeze_row a n p.block h
      rw [h, h']
    · rw [freeze_other a n p.block (fun c e fr hh => h ⟨c, e, fr, hh⟩)]
  · unfold World.shape?
    by_cases h : ∃ c e fr, w.heap[k]? = some (.cells c e fr)
    · obtain ⟨c, e, fr, h⟩ := h
      obtain ⟨fr', h'⟩ := freeze_row a n k h
      rw [h, h']
    · rw [freeze_other a n k (fun c e fr hh => h ⟨c, e, fr, hh⟩)]

/-- Each bit of a mask is an operation that is waited for, by an edge or by way of one. -/
def ancOk (l : List Oper) (A : List Nat) : Bool := (List.range l.length).all fun i => (List.range l.length).all fun j =>
  !(A.getD i 0).testBit j || (((l[i]?).map (·.after.any fun e => Region.binds .any e && (e.on == j || (decide (e.on < i) && (A.getD e.on 0).testBit j)))).getD false)
/-- Each slot that is listed is the one of an operation that is waited for, or is written by none but such as wait. -/
def needOk (l : List Oper) (A : List Nat) (need : List (List (Nat × Option Nat))) : Bool := (List.range l.length).all fun i => (need.getD i []).all fun p =>
  match p.2 with
  | some j => ((l[j]?).map (·.dst == some p.1)).getD false && (A.getD i 0).testBit j
  | none => (List.range l.length).all fun j => !((l[j]?).map (·.dst == some p.1)).getD false || (A.getD j 0).testBit i
/-- No two operations write one slot. -/
def dstsOk (l : List Oper) : Bool := (List.range l.length).all fun i => (List.range l.length).all fun j => i == j || (match (l[i]?).bind (·.dst), (l[j]?).bind (·.dst) with | some x, some y => x != y | _, _ => true)
def roomOk (l : List Oper) (M : Nat) : Bool := l.all fun o => match o.dst with | some d => decide (d < M) | none => true

structure Shut3 (l : List Oper) (listed : Array Bool) : Prop where
  size : listed.size = l.length
  shut : ∀ i, listed.getD i false = true → ∀ o, l[i]? = some o → ∀ e ∈ o.after, Region.binds .any e = true → listed.getD e.on false = true

theorem anc_listed {l : List Oper} {A : List Nat} (hA : ancOk l A = true) {listed : Array Bool} (hs : Shut3 l listed) : ∀ (k i : Nat), i ≤ k → ∀ o, l[i]? = some o → (∀ e ∈ o.after, Region.binds .any e = true → listed.getD e.on false = true) →
    ∀ j, j < l.length → (A.getD i 0).testBit j = true → listed.getD j false = true := by
  intro k
  induction k with
  | zero =>
    intro i hi o ho hdir j hj hb
    obtain rfl : i = 0 := by omega
    unfold ancOk at hA
    rw [List.all_eq_true] at hA
    have h1 := hA 0 (by simp; exact (List.getElem?_eq_some_iff.1 ho).1)
    rw [List.all_eq_true] at h1
    have h2 := h1 j (by simpa using hj)
    rw [hb, ho] at h2
    simp only [Bool.not_true, Bool.false_or, Option.map_some, Option.getD_some, Array.any_eq_true'] at h2
    obtain ⟨e, he, h3⟩ := h2
    simp only [Bool.and_eq_true, Bool.or_eq_true, beq_iff_eq, decide_eq_true_eq] at h3
    obtain ⟨hbd, h4⟩ := h3
    rcases h4 with rfl | ⟨h5, _⟩
    · exact hdir e he hbd
    · omega
  | succ k ih =>
    intro i hi o ho hdir j hj hb
    have hi0 : i < l.length := (List.getElem?_eq_some_iff.1 ho).1
    unfold ancOk at hA
    have hA' := hA
    rw [List.all_eq_true] at hA
    have h1 := hA i (by simpa using hi0)
    rw [List.all_eq_true] at h1
    have h2 := h1 j (by simpa using hj)
    rw [hb, ho] at h2
    simp only [Bool.not_true, Bool.false_or, Option.map_some, Option.getD_some, Array.any_eq_true'] at h2
    obtain ⟨e, he, h3⟩ := h2
    simp only [Bool.and_eq_true, Bool.or_eq_true, beq_iff_eq, decide_eq_true_eq] at h3
    obtain ⟨hbd, h4⟩ := h3
    rcases h4 with rfl | ⟨h5, h6⟩
    · exact hdir e he hbd
    · have hl := hdir e he hbd
      have he0 : e.on < l.length := by omega
      exact ih e.on (by omega) l[e.on] (List.getElem?_eq_getElem he0) (fun e' he' hb' => hs.shut e.on hl _ (List.getElem?_eq_getElem he0) e' he' hb') j hj h6

theorem wp_of_false {o : Oper} {a : Act} {w : World} {K K' : Act → World → Prop} {Q : Exit → Act → World → Prop} (h : o.wp P a w K (fun _ _ _ => False)) (hk : ∀ a w, K a w → K' a w) : o.wp P a w K' Q := by
  unfold Oper.wp at *
  generalize (execOp a.eval o).run P w = r at *
  cases r with
  | ok x w' =>
    cases x <;> simp only [Oper.upon] at h ⊢
    case value => exact hk _ _ h
    case skip => exact hk _ _ h
    case defer => exact hk _ _ h
    case enter =>
      refine h.mono fun e w'' he => ?_
      cases e with
      | returned v => exact hk _ _ he
      | panicked c => exact he.elim
      | outgrown => obtain ⟨_, _, hf⟩ := he; exact hf.elim
    case row => exact h.mono fun v w'' he => hk _ _ he
  | halt x w' =>
    cases x <;> simp only [Oper.upon] at h ⊢

section
variable {l : List Oper} {Φ : Nat → Value → World → Prop} {N : Nat} {a0 : Act} {W0 : World} {Q : Exit → Act → World → Prop}

structure At (l : List Oper) (Φ : Nat → Value → World → Prop) (N : Nat) (a0 : Act) (W0 : World) (listed : Array Bool) (a : Act) (w : World) : Prop where
  le : Le N W0 w
  shut : Shut3 l listed
  defers : a.defers = a0.defers
  size : a.tmps.size = a0.tmps.size
  slots : ∀ (i : Nat) (o : Oper), l[i]? = some o → listed.getD i false = true → ∀ d, o.dst = some d → Φ i (a.tmps.getD d undef) w
  olds : ∀ t, (∀ (i : Nat) (o : Oper), l[i]? = some o → o.dst = some t → listed.getD i false = false) → a.tmps.getD t undef = a0.tmps.getD t undef

theorem getD_put {a : Act} {d t : Nat} {v : Value} (h : d < a.tmps.size) : (a.put (some d) v).tmps.getD t undef = if t = d then v else a.tmps.getD t undef := by
  show (a.tmps.setIfInBounds d v).getD t undef = _
  rw [Array.getD_eq_getD_getElem?, Array.getElem?_setIfInBounds, Array.getD_eq_getD_getElem?]
  by_cases e : d = t
  · subst e; rw [if_pos rfl, if_pos h, if_pos rfl]; rfl
  · rw [if_neg e, if_neg (Ne.symm e)]

theorem setD {listed : Array Bool} {i q : Nat} (h : i < listed.size) : (listed.setIfInBounds i true).getD q false = if q = i then true else listed.getD q false := by
  rw [Array.getD_eq_getD_getElem?, Array.getElem?_setIfInBounds, Array.getD_eq_getD_getElem?]
  by_cases e : i = q
  · subst e; rw [if_pos rfl, if_pos h, if_pos rfl]; rfl
  · rw [if_neg e, if_neg (Ne.symm e)]

/-- One operation has been carried out, in whatever order. -/
theorem At.step (hd : dstsOk l = true) {M : Nat} (hr : roomOk l M = true) (hM : a0.tmps.size = M) (stable : ∀ i v w w', Le N w w' → Φ i v w → Φ i v w')
    {listed : Array Bool} {a : Act} {w w' : World} (h : At l Φ N a0 W0 listed a w) {i : Nat} {o : Oper} (ho : l[i]? = some o) (hdir : ∀ e ∈ o.after, Region.binds .any e = true → listed.getD e.on false = true)
    {v : Value} (hle : Le N w w') (hv : Φ i v w') : At l Φ N a0 W0 (listed.setIfInBounds i true) (a.put o.dst v) w' := by
  have hi : i < l.length := (List.getElem?_eq_some_iff.1 ho).1
  have hil : i < listed.size := by rw [h.shut.size]; exact hi
  have hroom : ∀ d, o.dst = some d → d < a.tmps.size := fun d hd' => by
    rw [h.size, hM]
    unfold roomOk at hr
    rw [List.all_eq_true] at hr
    have := hr o (List.mem_of_getElem? ho)
    rw [hd'] at this
    simpa using this
  have hdist : ∀ (j : Nat) (o' : Oper) (d : Nat), l[j]? = some o' → o.dst = some d → o'.dst = some d → j = i := fun j o' d ho' h1 h2 => by
    unfold dstsOk at hd
    rw [List.all_eq_true] at hd
    have h3 := hd j (by simp; exact (List.getElem?_eq_some_iff.1 ho').1)
    rw [List.all_eq_true] at h3
    have h4 := h3 i (by simpa using hi)
    rw [ho, ho'] at h4
    simp only [Option.bind_some, h1, h2, Bool.or_eq_true, beq_iff_eq] at h4
    rcases h4 with h4 | h4
    · exact h4
    · simp at h4
  refine ⟨h.le.trans hle, ⟨by simp [h.shut.size], fun j hj o' ho' e he hb => ?_⟩, ?_, ?_, fun j o' ho' hj d hd' => ?_, fun t ht => ?_⟩
  · rw [setD hil] at hj ⊢
    by_cases e1 : e.on = i
    · rw [if_pos e1]
    · rw [if_neg e1]
      by_cases e2 : j = i
      · subst e2; rw [ho] at ho'; cases ho'; exact hdir e he hb
      · rw [if_neg e2] at hj; exact h.shut.shut j hj o' ho' e he hb
  · cases hdd : o.dst <;> simp [Act.put, h.defers]
  · cases hdd : o.dst <;> simp [Act.put, h.size]
  · rw [setD hil] at hj
    by_cases e2 : j = i
    · subst e2; rw [ho] at ho'; cases ho'
      rw [hd', getD_put (hroom d hd'), if_pos rfl]; exact hv
    · rw [if_neg e2] at hj
      have hold := stable _ _ _ _ hle (h.slots j o' ho' hj d hd')
      cases hdd : o.dst with
      | none => exact hold
      | some x =>
        rw [getD_put (hroom x hdd), if_neg]
        · exact hold
        · rintro rfl; exact e2 (hdist j o' d ho' hdd hd')
  · have h1 : a.tmps.getD t undef = a0.tmps.getD t undef := h.olds t fun j o' ho' hdst => by
      have := ht j o' ho' hdst
      rw [setD hil] at this
      by_cases e2 : j = i
      · rw [if_pos e2] at this; cases this
      · rwa [if_neg e2] at this
    cases hdd : o.dst with
    | none => exact h1
    | some x =>
      rw [getD_put (hroom x hdd), if_neg]
      · exact h1
      · rintro rfl
        have := ht i o ho hdd
        rw [setD hil, if_pos rfl] at this; cases this
/-- What is known of the slots that operation number i reads. -/
def Env (Φ : Nat → Value → World → Prop) (a0 : Act) (ns : List (Nat × Option Nat)) (a : Act) (w : World) : Prop :=
  ∀ p ∈ ns, match p.2 with | some j => Φ j (a.tmps.getD p.1 undef) w | none => a.tmps.getD p.1 undef = a0.tmps.getD p.1 undef

theorem At.env {A : List Nat} {need : List (List (Nat × Option Nat))} (hA : ancOk l A = true) (hn : needOk l A need = true) {listed : Array Bool} {a : Act} {w : World} (h : At l Φ N a0 W0 listed a w)
    {i : Nat} {o : Oper} (ho : l[i]? = some o) (hun : listed.getD i false = false) (hdir : ∀ e ∈ o.after, Region.binds .any e = true → listed.getD e.on false = true) : Env Φ a0 (need.getD i []) a w := by
  have hi : i < l.length := (List.getElem?_eq_some_iff.1 ho).1
  intro p hp
  unfold needOk at hn
  rw [List.all_eq_true] at hn
  have h1 := hn i (by simpa using hi)
  rw [List.all_eq_true] at h1
  have h2 := h1 p hp
  obtain ⟨t, src⟩ := p
  cases src with
  | some j =>
    simp only [Bool.and_eq_true] at h2 ⊢
    obtain ⟨h3, h4⟩ := h2
    cases hj : l[j]? with
    | none => rw [hj] at h3; simp at h3
    | some o' =>
      rw [hj] at h3
      simp only [Option.map_some, Option.getD_some, beq_iff_eq] at h3
      exact h.slots j o' hj (anc_listed hA h.shut i i (Nat.le_refl _) o ho hdir j (List.getElem?_eq_some_iff.1 hj).1 h4) t h3
  | none =>
    refine h.olds t fun j o' ho' hdst => ?_
    simp only at h2
    rw [List.all_eq_true] at h2
    have h3 := h2 j (by simp; exact (List.getElem?_eq_some_iff.1 ho').1)
    rw [ho'] at h3
    simp only [Option.map_some, Option.getD_some, hdst, beq_self_eq_true, Bool.not_true, Bool.false_or] at h3
    cases hv : listed.getD j false with
    | false => rfl
    | true =>
      have := anc_listed hA h.shut j j (Nat.le_refl _) o' ho' (fun e he hb => h.shut.shut j hv o' ho' e he hb) i hi h3
      rw [hun] at this; cases this

/-- What one operation owes. -/
def Owes (P : Program) (l : List Oper) (Φ : Nat → Value → World → Prop) (N : Nat) (a0 : Act) (W0 : World) (ns : List (Nat × Option Nat)) (i : Nat) (o : Oper) : Prop :=
  ∀ a w, Le N W0 w → Env Φ a0 ns a w →
    if Region.wanted o (yielded l.toArray a.tmps) = true then o.wp P a w (fun a' w' => ∃ v, a' = a.put o.dst v ∧ Le N w w' ∧ Φ i v w') (fun _ _ _ => False) else Φ i undef w

/-- **The region.** -/
theorem wp_region_facts {id : Nat} (A : List Nat) (need : List (List (Nat × Option Nat))) (Φ : Nat → Value → World → Prop) (N M : Nat) (hm : P.follows .mixedOrders = true) (ht : topo l.toArray = true)
    (hA : ancOk l A = true) (hn : needOk l A need = true) (hd : dstsOk l = true) (hr : roomOk l M = true) (hM : a0.tmps.size = M) (stable : ∀ i v w w', Le N w w' → Φ i v w → Φ i v w')
    (hop : ∀ i o, l[i]? = some o → Owes P l Φ N a0 W0 (need.getD i []) i o)
    (hend : ∀ a w, Le N W0 w → a.defers = a0.defers → a.tmps.size = M → (∀ i o d, l[i]? = some o → o.dst = some d → Φ i (a.tmps.getD d undef) w) →
      (∀ t, (∀ o ∈ l, o.dst ≠ some t) → a.tmps.getD t undef = a0.tmps.getD t undef) → Q .normal a w) :
    (Code.region id l.toArray true).wp P Q a0 W0 := by
  refine wp_region_any hm ?_
  have main : ∀ (fuel : Nat) (listed : Array Bool) (a : Act) (w : World), At l Φ N a0 W0 listed a w → ((List.range l.length).filter fun i => !listed.getD i false).length ≤ fuel → wpAny P .any l.toArray Q fuel listed a w := by
    have last : ∀ (listed : Array Bool) (a : Act) (w : World), At l Φ N a0 W0 listed a w → Region.ready .any l.toArray listed = [] → Q .normal a w := fun listed a w h hrd => by
      have hall : ∀ i, i < l.length → listed.getD i false = true := by
        intro i
        induction i using Nat.strongRecOn with
        | ind i ih =>
          intro hi
          cases hv : listed.getD i false with
          | true => rfl
          | false =>
            have hin : i ∈ Region.ready .any l.toArray listed := by
              rw [mem_ready]
              refine ⟨by simpa using hi, ?_, l[i], by simp [hi], fun e he _ => ?_⟩
              · have hsz := h.shut.size
                rw [Array.getD_eq_getD_getElem?, Array.getElem?_eq_getElem (by omega)] at hv ⊢; exact hv
              · unfold topo at ht
                rw [List.all_eq_true] at ht
                have := ht i (by simpa using hi)
                rw [List.getElem?_toArray, List.getElem?_eq_getElem hi] at this
                simp only [Option.map_some, Option.getD_some, Array.all_eq_true', decide_eq_true_eq] at this
                exact ih e.on (this e he) (by have := this e he; omega)
            rw [hrd] at hin; cases hin
      refine hend a w h.le h.defers (h.size.trans hM) (fun i o d ho hdst => h.slots i o ho (hall i (List.getElem?_eq_some_iff.1 ho).1) d hdst) (fun t hto => h.olds t fun i o ho hdst => absurd hdst (hto o (List.mem_of_getElem? ho)))
    intro fuel
    induction fuel with
    | zero =>
      intro listed a w h hc
      have hrd : Region.ready .any l.toArray listed = [] := by
        rw [List.eq_nil_iff_forall_not_mem]
        intro i hi
        obtain ⟨h1, h2, _⟩ := mem_ready.1 hi
        have hin : i ∈ (List.range l.length).filter fun i => !listed.getD i false := by
          rw [List.mem_filter]
          refine ⟨by simpa using h1, ?_⟩
          have hsz := h.shut.size
          have h1' : i < listed.size := by simp at h1; omega
          rw [Array.getD_eq_getD_getElem?, Array.getElem?_eq_getElem h1'] at h2 ⊢
          simp at h2 ⊢; exact h2
        have : 0 < ((List.range l.length).filter fun i => !listed.getD i false).length := List.length_pos_of_mem hin
        omega
      exact ⟨hrd, last listed a w h hrd⟩
    | succ fuel ih =>
      intro listed a w h hc
      refine ⟨last listed a w h, fun i hi => ?_⟩
      obtain ⟨h1, h2, o, ho, hdir⟩ := mem_ready.1 hi
      rw [List.getElem?_toArray] at ho
      have hsz := h.shut.size
      have hil : i < listed.size := by simp at h1; omega
      have hun : listed.getD i false = false := by
        rw [Array.getD_eq_getD_getElem?, Array.getElem?_eq_getElem hil] at h2 ⊢; exact h2
      have hcount : ((List.range l.length).filter fun q => !(listed.setIfInBounds i true).getD q false).length ≤ fuel := by
        have e : ((List.range l.length).filter fun q => !(listed.setIfInBounds i true).getD q false) = ((List.range l.length).filter fun q => !listed.getD q false).filter (fun q => q != i) := by
          rw [List.filter_filter]
          apply List.filter_congr
          intro q _
          rw [setD hil]
          by_cases e : q = i
          · subst e; simp
          · simp [e]
        rw [e]
        have hmem : i ∈ (List.range l.length).filter fun q => !listed.getD q false := by
          rw [List.mem_filter]; exact ⟨by simpa using h1, by simp [hun]⟩
        have : (((List.range l.length).filter fun q => !listed.getD q false).filter (fun q => q != i)).length < ((List.range l.length).filter fun q => !listed.getD q false).length :=
          List.length_filter_lt_length_iff_exists.2 ⟨i, hmem, by simp⟩
        omega
      unfold wpOp
      rw [List.getElem?_toArray, ho]
      have hw := hop i o ho a w h.le (h.env hA hn ho hun hdir)
      by_cases hwant : Region.wanted o (yielded l.toArray a.tmps) = true
      · rw [if_pos hwant] at hw
        simp only [hwant, if_true]
        left
        refine wp_of_false hw ?_
        rintro a' w' ⟨v, rfl, hle, hv⟩
        exact ih _ _ _ (h.step hd hr hM stable ho hdir hle hv) hcount
      · rw [if_neg hwant] at hw
        simp only [hwant]
        exact ih _ _ _ (h.step hd hr hM stable ho hdir (Le.refl _ _) hw) hcount
  refine main _ _ _ _ ⟨Le.drew N W0, ⟨by simp, fun i hi => ?_⟩, rfl, rfl, fun i o ho hi => ?_, fun t _ => rfl⟩ (by simp; exact Nat.le_trans (List.length_filter_le _ _) (by simp))
  · exfalso
    rw [Array.getD_eq_getD_getElem?, Array.getElem?_replicate] at hi
    split at hi <;> simp at hi
  · exfalso
    rw [Array.getD_eq_getD_getElem?, Array.getElem?_replicate] at hi
    split at hi <;> simp at hi
/-- The obligations, one behind the other. -/
def OwesFrom (P : Program) (l : List Oper) (Φ : Nat → Value → World → Prop) (N : Nat) (a0 : Act) (W0 : World) : Nat → List (List (Nat × Option Nat)) → List Oper → Prop
  | _, _, [] => True
  | k, ns, o :: rest => Owes P l Φ N a0 W0 (ns.headD []) k o ∧ OwesFrom P l Φ N a0 W0 (k + 1) ns.tail rest
theorem OwesFrom.all : ∀ (rest : List Oper) (k : Nat) (ns : List (List (Nat × Option Nat))), OwesFrom P l Φ N a0 W0 k ns rest → ∀ (i : Nat) (o : Oper), rest[i]? = some o → Owes P l Φ N a0 W0 (ns.getD i []) (k + i) o
  | [], _, _, _, i, o, ho => by simp at ho
  | x :: rest, k, ns, h, i, o, ho => by
    cases i with
    | zero =>
      simp at ho; subst ho
      have := h.1
      cases ns <;> simpa using this
    | succ i =>
      have := OwesFrom.all rest (k + 1) ns.tail h.2 i o (by simpa using ho)
      rw [show k + (i + 1) = k + 1 + i by omega]
      cases ns <;> simpa using this

/-- The region, its obligations in a row. -/
theorem wp_region_owes {id : Nat} (A : List Nat) (need : List (List (Nat × Option Nat))) (Φ : Nat → Value → World → Prop) (N M : Nat) (hm : P.follows .mixedOrders = true) (ht : topo l.toArray = true)
    (hA : ancOk l A = true) (hn : needOk l A need = true) (hd : dstsOk l = true) (hr : roomOk l M = true) (hM : a0.tmps.size = M) (stable : ∀ i v w w', Le N w w' → Φ i v w → Φ i v w')
    (hop : OwesFrom P l Φ N a0 W0 0 need l)
    (hend : ∀ a w, Le N W0 w → a.defers = a0.defers → a.tmps.size = M → (∀ i o d, l[i]? = some o → o.dst = some d → Φ i (a.tmps.getD d undef) w) →
      (∀ t, (∀ o ∈ l, o.dst ≠ some t) → a.tmps.getD t undef = a0.tmps.getD t undef) → Q .normal a w) :
    (Code.region id l.toArray true).wp P Q a0 W0 :=
  wp_region_facts A need Φ N M hm ht hA hn hd hr hM stable (fun i o ho => by have := OwesFrom.all l 0 need hop i o ho; rwa [Nat.zero_add] at this) hend

theorem wanted_of {l : List Oper} {o : Oper} {a : Act} {j : Nat} {b : Bool} {d : Nat} (hg : o.guard = some (j, b)) (hj : (l[j]?).bind (·.dst) = some d) (h : a.tmps.getD d undef = .bool b) : Region.wanted o (yielded l.toArray a.tmps) = true := by
  unfold Region.wanted yielded
  rw [hg]
  simp only [List.getElem?_toArray, hj, Option.bind_some]
  rw [Array.getD_eq_getD_getElem?] at h
  cases hx : a.tmps[d]? with
  | none => rw [hx] at h; simp [undef] at h
  | some x => rw [hx] at h; simp at h; subst h; simp

theorem wanted_plain {o : Oper} {y : Nat → Option Bool} (hg : o.guard = none) : Region.wanted o y = true := by simp [Region.wanted, hg]
/-- An operation by its run: it yields a value. -/
theorem owe_value {o : Oper} {a : Act} {w w' : World} {v : Value} {i : Nat} (hrun : (execOp a.eval o).run P w = .ok (.value v) w') (hle : Le N w w') (hv : Φ i v w') :
    o.wp P a w (fun a' w' => ∃ v, a' = a.put o.dst v ∧ Le N w w' ∧ Φ i v w') (fun _ _ _ => False) := by
  unfold Oper.wp
  rw [hrun]
  exact ⟨v, rfl, hle, hv⟩
/-- .. it calls a function. -/
theorem owe_call {o : Oper} {a : Act} {w : World} {f : FuncId} {args : Array Value} {i : Nat} (hrun : (execOp a.eval o).run P w = .ok (.enter f args) w)
    (h : Calls P f args w fun e w' => ∃ v, e = .returned v ∧ Le N w w' ∧ Φ i v w') :
    o.wp P a w (fun a' w' => ∃ v, a' = a.put o.dst v ∧ Le N w w' ∧ Φ i v w') (fun _ _ _ => False) := by
  unfold Oper.wp
  rw [hrun]
  refine h.mono ?_
  rintro e w' ⟨v, rfl, hle, hv⟩
  exact ⟨v, rfl, hle, hv⟩
end
end Go.Proofs.Ytgoflpfafkmmgaa
/- The frame of this seat's rows; bytes that come in. -/
namespace Go.Proofs.Ytgoflpfafkmmgaa
open Go.ChangeShapes Go.WideShapes Go.ChangeAt Go.RowKit

theorem own : ownKnob Try.prog.godebug = none := by kernel_rfl
theorem laidOut : laidOutB Try.prog = true := by kernel_rfl
/-- Bytes that come in: none, or such as lie somewhere. -/
def In (w : World) (v : Value) (d : List UInt8) : Prop := (d = [] ∧ ∃ a c, v = .slice a 0 c) ∨ Bytes w v d
theorem In.bytes {w w' : World} {v : Value} {d : List UInt8} (h : In w v d) (k : Below w.heap.size w w') (h0 : 0 < w'.heap.size) : Bytes w' v d := by
  rcases h with ⟨rfl, a, c, rfl⟩ | h
  · exact ⟨a, c, 0, 0, rfl, Nat.zero_le _, fun h => absurd rfl h, fun j hj => absurd hj (by simp), h0⟩
  · exact h.below k
theorem In.slice {w : World} {v : Value} {d : List UInt8} (h : In w v d) : ∃ a c, v = .slice a d.length c := by
  rcases h with ⟨rfl, a, c, rfl⟩ | ⟨a, c, _, _, h, _⟩
  · exact ⟨a, c, rfl⟩
  · exact ⟨a, c, h⟩
/-- Of blocks that come later none holds them. -/
theorem In.ap {w w' : World} {v : Value} {d : List UInt8} (h : In w v d) (k : Below w.heap.size w w') {S : Nat → Prop} (hS : ∀ i, S i → w.heap.size ≤ i) (h1 : ∃ i, i < w'.heap.size ∧ ¬ S i) : BytesAp S w' v d := by
  rcases h with ⟨rfl, a, c, rfl⟩ | h
  · obtain ⟨i, hi, hn⟩ := h1
    exact ⟨a, c, i, 0, rfl, Nat.zero_le _, fun h => absurd rfl h, fun j hj => absurd hj (by simp), hi, hn⟩
  · obtain ⟨a, cap, db, o, e1, e2, e3, e4, e5⟩ := h
    exact ⟨a, cap, db, o, e1, e2, e3, fun j hj => (k.cell (p := ⟨db, o + j, none⟩) e5).trans (e4 j hj), Nat.lt_of_lt_of_le e5 k.size, fun e => by have := hS _ e; omega⟩
theorem spot_none {W : World} {a : Addr} {v : Value} (h : W.cell? a = some v) : a.spot = none := by
  unfold World.cell? at h
  split at h
  · split at h
    · cases h
    · rename_i hh; simpa using hh
  · cases h
theorem bytes_of {H : Type} {enc : TypeId × Value → H} {W : World} {base : Nat} {r : Reach} {v : Value} {d : DataW H} {ps : List MemPlace} (hv : Value.okWide Try.prog W r base 27 v) (h : DataW.Trod enc Try.prog W 0 (fun _ => true) true 27 v d ps) :
    ∃ x : List UInt8, In W v x := by
  obtain ⟨a0, len, cap, rfl⟩ := okWide_slice Try.underlying27 hv
  obtain ⟨fuel, hf⟩ := h
  have hc : Try.prog.cellsOf 5 = 1 := by kernel_rfl
  rcases open_ints Try.underlying27 Try.underlying5 hc hf with ⟨hcs, _⟩ | ⟨a, len', cap', zs, hcs, _, hle, _, hall, _, hcell, hwf⟩
  · simp [Value.cells] at hcs
    obtain ⟨rfl, rfl, rfl⟩ := hcs
    exact ⟨[], .inl ⟨rfl, none, 0, rfl⟩⟩
  · simp [Value.cells] at hcs
    obtain ⟨rfl, rfl, rfl⟩ := hcs
    simp only [if_true] at hall
    have hx : ((zs.take len).map fun z => UInt8.ofNat z.toNat).length = len := by simp; omega
    by_cases h0 : len = 0
    · subst h0
      exact ⟨[], .inl ⟨rfl, some a, cap, rfl⟩⟩
    · have hsp := spot_none (hcell 0 (by omega))
      obtain ⟨b, o, sp⟩ := a
      obtain rfl : sp = none := hsp
      have hlt : b < W.heap.size := block_of_cell (hcell 0 (by omega))
      refine ⟨_, .inr ⟨some ⟨b, o, none⟩, cap, b, o, by rw [hx], by rw [hx]; exact hle, fun _ => rfl, fun j hj => ?_, hlt⟩⟩
      rw [hx] at hj
      have hj' := hcell j (by omega)
      rw [Addr.add_mid] at hj'
      rw [hj']
      have hw := hwf (zs.getD j 0) (by rw [List.getD_eq_getElem?_getD, List.getElem?_eq_getElem (by omega)]; exact List.getElem_mem _)
      have hb := bounds_u8 hw
      have e : ((zs.take len).map fun z => UInt8.ofNat z.toNat)[j]?.getD 0 = UInt8.ofNat (zs.getD j 0).toNat := by
        rw [List.getElem?_map, List.getElem?_take_of_lt hj, List.getD_eq_getElem?_getD, List.getElem?_eq_getElem (by omega)]; rfl
      rw [e]
      refine congrArg (fun z => some (Value.int .u8 z)) ?_
      unfold bv
      rw [UInt8.toNat_ofNat']
      omega
end Go.Proofs.Ytgoflpfafkmmgaa
/- WireNumbers: the law's walk. -/
namespace Go.Proofs.Ytgoflpfafkmmgaa
open Go.RowKit

theorem Bytes.le {N : Nat} {w w' : World} {v : Value} {d : List UInt8} (h : Bytes w v d) (k : Le N w w') : Bytes w' v d := by
  obtain ⟨a, cap, db, o, h1, h2, h3, h4, h5⟩ := h
  exact ⟨a, cap, db, o, h1, h2, h3, fun j hj => (k.cells ⟨db, o + j, none⟩ h5).trans (h4 j hj), Nat.lt_of_lt_of_le h5 k.size⟩
/-- The number that is answered, and the error. -/
def vmv (x : Except Nat (Nat × List UInt8)) : Int := match x with | .error _ => 0 | .ok (n, _) => n
def vec {α : Type} (x : Except Nat α) : Nat := match x with | .error e => e | .ok _ => 0
theorem RAns.num {w w' : World} {r : Nat} {lv : Value} {rest : List UInt8} {at_ : Nat} {x : Except Nat (Nat × List UInt8)} {e : Ending} (h : RAns (.int .i64 0) w w' r lv rest at_ (vN x) e) : e = .returned (.tuple #[.int .i64 (vmv x), .int .i64 (vec x)]) ∧ Ex r w w' := by
  cases x with
  | error ec => exact ⟨h.1, h.2.2⟩
  | ok p => exact ⟨h.1, h.2.choose_spec.2⟩
def atN {α : Type} (l : List UInt8) (at_ : Nat) (x : Except Nat (α × List UInt8)) : Nat := match x with | .error _ => at_ | .ok (_, rest) => l.length - rest.length
theorem refnum_any (a : Option Addr) (c at_ : Nat) (l : List UInt8) (g : Int) (w : World) (hB : Bytes w (.slice a l.length c) l) (hat : at_ ≤ l.length) (hsm : l.length ≤ 10000000000) :
    Calls Try.prog 24 #[.agg #[.slice a l.length c, .int .i64 at_, .int .i64 0], .int .i64 g] w fun e w' => e = .returned (.tuple #[.agg #[.slice a l.length c, .int .i64 ((atN l at_ (bnd g (lnum g (l.drop at_))) : Nat) : Int), .int .i64 ((vec (bnd g (lnum g (l.drop at_))) : Nat) : Int)], .int .i64 (vmv (bnd g (lnum g (l.drop at_)))), .int .i64 ((vec (bnd g (lnum g (l.drop at_))) : Nat) : Int)]) ∧ Below w.heap.size w w' := by
  cases hx : bnd g (lnum g (l.drop at_)) with
  | error ec => exact refnum_err a c at_ l g ec w hB hat hsm hx
  | ok p => obtain ⟨n, rest⟩ := p; exact refnum_ok a c at_ l rest g n w hB hat hsm hx
theorem refnum_any' (a : Option Addr) (c at_ bl : Nat) (l : List UInt8) (hbl : bl = l.length) (g : Int) (w : World) (hB : Bytes w (.slice a bl c) l) (hat : at_ ≤ l.length) (hsm : l.length ≤ 10000000000) :
    Calls Try.prog 24 #[.agg #[.slice a bl c, .int .i64 at_, .int .i64 0], .int .i64 g] w fun e w' => e = .returned (.tuple #[.agg #[.slice a bl c, .int .i64 ((atN l at_ (bnd g (lnum g (l.drop at_))) : Nat) : Int), .int .i64 ((vec (bnd g (lnum g (l.drop at_))) : Nat) : Int)], .int .i64 (vmv (bnd g (lnum g (l.drop at_)))), .int .i64 ((vec (bnd g (lnum g (l.drop at_))) : Nat) : Int)]) ∧ Below w.heap.size w w' := by
  subst hbl; exact refnum_any a c at_ l g w hB hat hsm
theorem slice_head27 (a : Option Addr) (n cap k : Nat) (hk : k ≤ cap) (w : World) :
    (Instr.slice 27 (.slice a n cap) none (some (.int .i64 (k : Int))) none).run Try.prog w = .ok (.slice (if cap = 0 then a else a.map (·.add (0 * 1))) (k - 0) (cap - 0)) w := by
  have he : Try.prog.elem 27 = 5 := by kernel_rfl
  have hu : Try.prog.underlying 27 = some (.slice (Try.prog.elem 27)) := by rw [he]; exact Try.underlying27
  obtain ⟨i0, hi, _, hz1, _⟩ := info_parts' info5
  rw [run_slice_h w 27 a n cap hu .i64 k (by omega) (by omega), he]
  simp [sizeOf, typeInfo, hi, hz1, sliced]
theorem run_sliceAt27 (x : Value) (lo hi mx : Option Value) (w : World) : (Instr.sliceAt 27 x lo hi mx).run Try.prog w = (Instr.slice 27 x lo hi mx).run Try.prog w := by
  have he : Try.prog.elem 27 = 5 := by kernel_rfl
  have hu : Try.prog.underlying 27 = some (.slice (Try.prog.elem 27)) := by rw [he]; exact Try.underlying27
  exact run_sliceAt_slice w 27 x lo hi mx hu
def numbersΦ (d : List UInt8) (s : ByteArray) (ba xa pa : Option Addr) (bl bcap xl xc pl pc nl fv : Nat) (n mv : Int) : Nat → Value → World → Prop
  | 0, v, _ => v = .int .i64 0
  | 1, v, _ => v = .int .i64 0
  | 2, v, _ => v = .bool true
  | 3, v, _ => v = .bool true
  | 4, v, _ => v = .slice ba bl bcap
  | 5, v, _ => v = .slice ba bl bcap
  | 6, v, _ => v = .int .i64 bl
  | 7, v, _ => v = .slice xa xl xc
  | 8, v, _ => v = .int .i64 xl
  | 9, v, _ => v = .int .i64 nl
  | 10, v, _ => v = .slice pa pl pc
  | 11, v, _ => v = .string s
  | 12, v, _ => v = .int .i64 n
  | 13, v, w => Bytes w v d
  | 14, v, _ => v = .string s
  | 15, v, _ => v = .bool true
  | 16, v, _ => v = .bool true
  | 17, v, _ => v = .bool true
  | 18, v, _ => v = .int .i64 mv
  | 19, v, _ => v = .int .i64 mv
  | 20, v, _ => v = .bool true
  | 21, v, _ => v = .bool true
  | 22, v, _ => v = .bool true
  | 23, v, _ => v = .int .i64 fv
  | 24, v, _ => v = .int .i64 fv
  | 25, v, _ => v = .int .i64 fv
  | 26, v, _ => v = .bool true
  | 27, v, _ => v = .bool true
  | 28, v, _ => v = .bool true
  | 29, v, _ => v = .bool true
  | 30, v, _ => v = .bool true
  | 31, v, _ => v = .bool true
  | _, _, _ => False

set_option maxRecDepth 100000 in
set_option maxHeartbeats 4000000 in
theorem numbers_nonneg (n : Nat) (hn : n < 9223372036854775808) (most : Int) (xv : Value) (x : List UInt8) (w : World) (hx : In w xv x) (hlx : x.length ≤ 100) :
    Calls Try.prog 4 #[.int .i64 n, .int .i64 most, xv] w fun e w' => e = .returned (.bool true) ∧ Below w.heap.size w w' := by
  obtain ⟨xa, xc, rfl⟩ := hx.slice
  have hn0 : ¬ (n : Int) < 0 := by omega
  have hl9 := numL_len9 n hn
  have i1 : ¬ (100 : Int) < x.length := by omega
  go_enter Try.func4, Try.ntmps4
  go_wp2_with fail
  refine (wnew_any w).mono ?_
  rintro e w1 ⟨rfl, hB, hW⟩
  have h1 := WrN.new w w1 hB hW
  clear hB hW
  generalize hNw : w.heap.size = N0 at h1
  have HN : Hid (w.heap.size = N0) := hNw
  clear hNw
  go_wp2_with fail
  refine (wnumber_ok N0 _ _ n hn w1 h1.wr).mono ?_
  intro e w2 hl
  obtain ⟨rfl, v2, h2⟩ := h1.laid hl (by simp; omega)
  rw [List.nil_append] at h2
  clear hl h1
  go_wp2_with fail
  refine (all_any N0 _ _ w2 h2.wr).mono ?_
  rintro e w3 ⟨u, rfl, hN3⟩
  obtain ⟨hO3, hn3, hB3⟩ := hN3
  have hz2 := h2.le
  have hz3 := hB3.size
  have h03 : 0 < w3.heap.size := Nat.lt_of_lt_of_le (Nat.lt_of_le_of_lt (Nat.zero_le _) h2.wr.has.lt) hz3
  have hBa : Below N0 w w3 := h2.below.trans (hB3.mono hz2)
  have HX : Hid (Bytes w3 (.slice xa x.length xc) x) := hx.bytes (by rw [HN.out]; exact hBa) h03
  have hu3 : ∀ k, u.ownBlock = some k → N0 ≤ k := fun k hk => Nat.le_trans hz2 (hn3 k hk)
  clear h2 hB3 hn3 hx
  obtain ⟨ua, uc, rfl⟩ := hO3.slice
  go_wp2_with (refine wpList_append_bytes _ rfl _ _ 27 27 rfl info5 Try.underlying27 Try.underlying27 _ _ (numL n) x rfl rfl hO3 HX.out (by omega) ?_; intro vb w4 hO4 hg4 hL4 hnil; clear hnil; obtain ⟨ba, bcap, hvb⟩ := hO4.slice; obtain ⟨bl, hbl⟩ : ∃ k : Nat, k = (numL n ++ x).length := ⟨_, rfl⟩; rw [← hbl] at hvb; have HBL : Hid (bl = (numL n ++ x).length) := hbl; clear hbl; subst hvb)
  have hBb : Below N0 w w4 := Fr.below hBa (grown_fr hg4) (by omega) (fun k hk e => by have := hu3 k e; omega)
  have hz4 := hg4.size
  have hlb : (numL n ++ x).length ≤ 1000 := by simp; omega
  have hb4 : Bytes w4 (.slice ba bl bcap) (numL n ++ x) := hO4.bytes (by omega)
  clear hO3 hu3 hBa HX hg4 hL4
  refine (read_any _ _ w4 hb4 (by omega)).mono ?_
  rintro e w5 ⟨g, lv, rfl, hg, hR, hB5⟩
  have hO5 : Own w5 (.slice ba bl bcap) (numL n ++ x) := hO4.fr (S := fun _ => False) (Fr.of_below hB5) (fun _ _ h => h)
  have hog : (Value.slice ba bl bcap).ownBlock ≠ some g := fun e => by have := hO4.lt' e; omega
  have hBc : Below N0 w w5 := hBb.trans (hB5.mono (by omega))
  have hz5 := hB5.size
  clear hO4 hb4 hB5 hBb
  go_wp2_with fail
  refine (rnumber_any g _ _ 0 most w5 hR (by omega)).mono ?_
  intro e w6 hl
  obtain ⟨rfl, hE6⟩ := hl.num
  have hO6 := hO5.ex hE6 hog
  have hz6 := hE6.size
  have hBd : Below N0 w w6 := Below.ex hBc (by omega) hE6 (by omega)
  have h06 : 0 < w6.heap.size := by omega
  have hrf := refnum_any' ba bcap 0 bl (numL n ++ x) HBL.out most w6 (hO6.bytes h06) (by omega) (by omega)
  rw [List.drop_zero] at hrf
  clear hl hR hO5 hBc hE6 hog hg
  generalize bnd most (lnum most (numL n ++ x)) = xx at *
  generalize vmv xx = mv at *
  generalize vec xx = fv at *
  generalize atN (numL n ++ x) 0 xx = av at *
  go_wp2_with fail
  refine hrf.mono ?_
  rintro e w7 ⟨rfl, hB7⟩
  have hO7 : Own w7 (.slice ba bl bcap) (numL n ++ x) := hO6.fr (S := fun _ => False) (Fr.of_below hB7) (fun _ _ h => h)
  have hBe : Below N0 w w7 := hBd.trans (hB7.mono (by omega))
  have hz7 := hB7.size
  clear hrf hO6 hBd hB7
  go_wp2_with fail
  refine named (p := Code.wp _ _ _ _) ?_
  intro W0 hW0
  have hB0 : Below N0 w W0 := by rw [hW0]; exact hBe.alloc (by omega) _
  have hO0 : Own W0 (.slice ba bl bcap) (numL n ++ x) := by rw [hW0]; exact own_alloc hO7 _
  have hz0 : W0.heap.size = w7.heap.size + 1 := by rw [hW0]; simp
  clear hW0 hBe hO7
  have hap : BytesAp (fun _ => False) W0 (.slice ba bl bcap) (numL n ++ x) := Own.bytesAp hO0 (fun _ _ h => h) (fun _ => ⟨0, by omega, fun h => h⟩)
  have hcap : (numL n ++ x).length ≤ bcap := by obtain ⟨a', c', _, _, he, hc, _⟩ := hap; simp only [Value.slice.injEq] at he; omega
  have hP0 := hap.take (numL n).length (by simp)
  rw [List.take_left] at hP0
  have hP := hP0.bytes
  have hsl := slice_head27 ba bl bcap (numL n).length (by simp at hcap; omega)
  generalize (if bcap = 0 then ba else ba.map (·.add (0 * 1))) = pa at *
  generalize bcap - 0 = pc at *
  generalize (numL n).length - 0 = pl at *
  have hrn := refnumber_any n hn
  have hlen : bl = (numL n).length + x.length := by rw [HBL.out]; simp
  have hsub : IntKind.i64.wrap ((bl : Int) - (x.length : Int)) = ((numL n).length : Int) := by rw [IntKind.wrap_i64]; omega
  clear hlb hcap HBL
  have hwr : IntKind.i64.wrap ((numL n).length : Int) = ((numL n).length : Int) := by rw [IntKind.wrap_i64]; omega
  generalize hdl : (numL n).length = nl at *
  generalize numL n = d at *
  generalize hs : (⟨d.toArray⟩ : ByteArray) = s at *
  generalize x.length = xl at *
  obtain ⟨N, hNe⟩ : ∃ N, N = W0.heap.size := ⟨_, rfl⟩
  have hN : N ≤ W0.heap.size := by omega
  have hNpos : 0 < N := by omega
  clear hap hP0 hO0
  generalize hnn : (n : Int) = nI at *
  refine wp_region_owes (A := [0, 1, 3, 7, 15, 15, 47, 15, 143, 495, 1023, 2047, 15, 4111, 12303, 32767, 65535, 131071, 262143, 262143, 1048575, 2097151, 4194303, 8388607, 16777215, 8388607, 67108863, 134217727, 268435455, 536870911, 1073741823, 2147483647]) (need := [[(8, none)], [(58, some 0)], [(59, some 1)], [(60, some 2)], [(9, none), (61, some 3)], [(9, none), (61, some 3)], [(63, some 5), (61, some 3)], [(2, none), (61, some 3)], [(65, some 7), (61, some 3)], [(64, some 6), (66, some 8), (61, some 3)], [(62, some 4), (67, some 9), (61, some 3)], [(68, some 10), (61, some 3)], [(0, none), (61, some 3)], [(70, some 12), (61, some 3)], [(71, some 13), (61, some 3)], [(69, some 11), (72, some 14), (61, some 3)], [(61, some 3), (73, some 15)], [(74, some 16)], [(11, none), (75, some 17)], [(14, none), (75, some 17)], [(76, some 18), (77, some 19), (75, some 17)], [(75, some 17), (78, some 20)], [(79, some 21)], [(12, none), (80, some 22)], [(81, some 23), (80, some 22)], [(15, none), (80, some 22)], [(82, some 24), (83, some 25), (80, some 22)], [(80, some 22), (84, some 26)], [(85, some 27)], [(86, some 28)], [(86, some 28), (87, some 29)], [(88, some 30)]]) (numbersΦ d s ba xa pa bl bcap xl xc pl pc nl fv nI mv) N 89 (by kernel_rfl) (by kernel_rfl) (by kernel_rfl) (by kernel_rfl) (by kernel_rfl) (by kernel_rfl) rfl ?stable ?hop ?hend
  case stable =>
    intro i v p q hpq h
    unfold numbersΦ at h ⊢
    split at h <;> first | exact h | exact h.le hpq
  case hop =>
    refine ⟨?_, ?_, ?_, ?_, ?_, ?_, ?_, ?_, ?_, ?_, ?_, ?_, ?_, ?_, ?_, ?_, ?_, ?_, ?_, ?_, ?_, ?_, ?_, ?_, ?_, ?_, ?_, ?_, ?_, ?_, ?_, ?_, trivial⟩
    · intro a w hle hE
      have h8 : a.tmps.getD 8 undef = .int .i64 0 := hE (8, none) (by simp)
      rw [if_pos (wanted_plain rfl)]
      refine owe_value (v := .int .i64 0) ?_ (Le.refl _ _) rfl
      go_simp
    · intro a w hle hE
      have h58 : a.tmps.getD 58 undef = .int .i64 0 := hE (58, some 0) (by simp)
      rw [if_pos (wanted_plain rfl)]
      refine owe_call (f := 14) (args := #[.int .i64 0]) (by go_simp) ?_
      refine (num_any _ w).mono ?_
      rintro e w1 ⟨rfl, rfl⟩
      exact ⟨_, rfl, Le.refl _ _, rfl⟩
    · intro a w hle hE
      have h59 : a.tmps.getD 59 undef = .int .i64 0 := hE (59, some 1) (by simp)
      rw [if_pos (wanted_plain rfl)]
      refine owe_value (v := .bool true) ?_ (Le.refl _ _) rfl
      go_simp
    · intro a w hle hE
      have h60 : a.tmps.getD 60 undef = .bool true := hE (60, some 2) (by simp)
      rw [if_pos (wanted_plain rfl)]
      refine owe_value (v := .bool true) ?_ (Le.refl _ _) rfl
      go_simp
    · intro a w hle hE
      have h9 : a.tmps.getD 9 undef = .slice ba bl bcap := hE (9, none) (by simp)
      have h61 : a.tmps.getD 61 undef = .bool true := hE (61, some 3) (by simp)
      rw [if_pos (wanted_of (j := 3) (b := true) (d := 61) rfl rfl h61)]
      refine owe_value (v := .slice ba bl bcap) ?_ (Le.refl _ _) rfl
      go_simp
    · intro a w hle hE
      have h9 : a.tmps.getD 9 undef = .slice ba bl bcap := hE (9, none) (by simp)
      have h61 : a.tmps.getD 61 undef = .bool true := hE (61, some 3) (by simp)
      rw [if_pos (wanted_of (j := 3) (b := true) (d := 61) rfl rfl h61)]
      refine owe_value (v := .slice ba bl bcap) ?_ (Le.refl _ _) rfl
      go_simp
    · intro a w hle hE
      have h63 : a.tmps.getD 63 undef = .slice ba bl bcap := hE (63, some 5) (by simp)
      have h61 : a.tmps.getD 61 undef = .bool true := hE (61, some 3) (by simp)
      rw [if_pos (wanted_of (j := 3) (b := true) (d := 61) rfl rfl h61)]
      refine owe_value (v := .int .i64 bl) ?_ (Le.refl _ _) rfl
      go_simp
    · intro a w hle hE
      have h2 : a.tmps.getD 2 undef = .slice xa xl xc := hE (2, none) (by simp)
      have h61 : a.tmps.getD 61 undef = .bool true := hE (61, some 3) (by simp)
      rw [if_pos (wanted_of (j := 3) (b := true) (d := 61) rfl rfl h61)]
      refine owe_value (v := .slice xa xl xc) ?_ (Le.refl _ _) rfl
      go_simp
    · intro a w hle hE
      have h65 : a.tmps.getD 65 undef = .slice xa xl xc := hE (65, some 7) (by simp)
      have h61 : a.tmps.getD 61 undef = .bool true := hE (61, some 3) (by simp)
      rw [if_pos (wanted_of (j := 3) (b := true) (d := 61) rfl rfl h61)]
      refine owe_value (v := .int .i64 xl) ?_ (Le.refl _ _) rfl
      go_simp
    · intro a w hle hE
      have h64 : a.tmps.getD 64 undef = .int .i64 bl := hE (64, some 6) (by simp)
      have h66 : a.tmps.getD 66 undef = .int .i64 xl := hE (66, some 8) (by simp)
      have h61 : a.tmps.getD 61 undef = .bool true := hE (61, some 3) (by simp)
      rw [if_pos (wanted_of (j := 3) (b := true) (d := 61) rfl rfl h61)]
      refine owe_value (v := .int .i64 nl) ?_ (Le.refl _ _) rfl
      go_simp
      all_goals exact hwr
    · intro a w hle hE
      have h62 : a.tmps.getD 62 undef = .slice ba bl bcap := hE (62, some 4) (by simp)
      have h67 : a.tmps.getD 67 undef = .int .i64 nl := hE (67, some 9) (by simp)
      have h61 : a.tmps.getD 61 undef = .bool true := hE (61, some 3) (by simp)
      rw [if_pos (wanted_of (j := 3) (b := true) (d := 61) rfl rfl h61)]
      refine owe_value (v := .slice pa pl pc) ?_ (Le.refl _ _) rfl
      have e1 : a.eval (.tmp 62) = _ := h62
      have e2 : a.eval (.tmp 67) = _ := h67
      unfold execOp
      simp only [e1, e2, Option.map_none, Option.map_some, run_sliceAt27, hsl, Sem.run_bind, Sem.run_pure, Result.andThen_ok]
    · intro a w hle hE
      have h68 : a.tmps.getD 68 undef = .slice pa pl pc := hE (68, some 10) (by simp)
      have h61 : a.tmps.getD 61 undef = .bool true := hE (61, some 3) (by simp)
      rw [if_pos (wanted_of (j := 3) (b := true) (d := 61) rfl rfl h61)]
      have hcv := bytes_string Try.underlying27 Try.underlying5 Try.underlying9 w _ d (hP.le hle)
      rw [hs] at hcv
      refine owe_value (v := .string s) ?_ (Le.refl _ _) rfl
      have e1 : a.eval (.tmp 68) = _ := h68
      unfold execOp
      simp only [e1, hcv, Sem.run_bind, Sem.run_pure, Result.andThen_ok]
    · intro a w hle hE
      have h0 : a.tmps.getD 0 undef = .int .i64 nI := hE (0, none) (by simp)
      have h61 : a.tmps.getD 61 undef = .bool true := hE (61, some 3) (by simp)
      rw [if_pos (wanted_of (j := 3) (b := true) (d := 61) rfl rfl h61)]
      refine owe_value (v := .int .i64 nI) ?_ (Le.refl _ _) rfl
      go_simp
    · intro a w hle hE
      have h70 : a.tmps.getD 70 undef = .int .i64 nI := hE (70, some 12) (by simp)
      have h61 : a.tmps.getD 61 undef = .bool true := hE (61, some 3) (by simp)
      rw [if_pos (wanted_of (j := 3) (b := true) (d := 61) rfl rfl h61)]
      refine owe_call (f := 25) (args := #[.int .i64 nI]) (by go_simp) ?_
      refine (hrn w).mono ?_
      rintro e w1 ⟨v, rfl, hN1⟩
      exact ⟨_, rfl, Le.of hN1.below (Nat.le_trans hN hle.size), hN1.own.bytes (Nat.lt_of_lt_of_le hNpos (Nat.le_trans hN (Nat.le_trans hle.size hN1.below.size)))⟩
    · intro a w hle hE
      have h71 : Bytes w (a.tmps.getD 71 undef) d := hE (71, some 13) (by simp)
      have h61 : a.tmps.getD 61 undef = .bool true := hE (61, some 3) (by simp)
      rw [if_pos (wanted_of (j := 3) (b := true) (d := 61) rfl rfl h61)]
      have hcv := bytes_string Try.underlying27 Try.underlying5 Try.underlying9 w _ d h71
      rw [hs] at hcv
      refine owe_value (v := .string s) ?_ (Le.refl _ _) rfl
      have e1 : a.eval (.tmp 71) = a.tmps.getD 71 undef := rfl
      unfold execOp
      simp only [e1, hcv, Sem.run_bind, Sem.run_pure, Result.andThen_ok]
    · intro a w hle hE
      have h69 : a.tmps.getD 69 undef = .string s := hE (69, some 11) (by simp)
      have h72 : a.tmps.getD 72 undef = .string s := hE (72, some 14) (by simp)
      have h61 : a.tmps.getD 61 undef = .bool true := hE (61, some 3) (by simp)
      rw [if_pos (wanted_of (j := 3) (b := true) (d := 61) rfl rfl h61)]
      refine owe_value (v := .bool true) ?_ (Le.refl _ _) rfl
      go_simp
    · intro a w hle hE
      have h61 : a.tmps.getD 61 undef = .bool true := hE (61, some 3) (by simp)
      have h73 : a.tmps.getD 73 undef = .bool true := hE (73, some 15) (by simp)
      rw [if_pos (wanted_plain rfl)]
      refine owe_value (v := .bool true) ?_ (Le.refl _ _) rfl
      go_simp
    · intro a w hle hE
      have h74 : a.tmps.getD 74 undef = .bool true := hE (74, some 16) (by simp)
      rw [if_pos (wanted_plain rfl)]
      refine owe_value (v := .bool true) ?_ (Le.refl _ _) rfl
      go_simp
    · intro a w hle hE
      have h11 : a.tmps.getD 11 undef = .int .i64 mv := hE (11, none) (by simp)
      have h75 : a.tmps.getD 75 undef = .bool true := hE (75, some 17) (by simp)
      rw [if_pos (wanted_of (j := 17) (b := true) (d := 75) rfl rfl h75)]
      refine owe_value (v := .int .i64 mv) ?_ (Le.refl _ _) rfl
      go_simp
    · intro a w hle hE
      have h14 : a.tmps.getD 14 undef = .int .i64 mv := hE (14, none) (by simp)
      have h75 : a.tmps.getD 75 undef = .bool true := hE (75, some 17) (by simp)
      rw [if_pos (wanted_of (j := 17) (b := true) (d := 75) rfl rfl h75)]
      refine owe_value (v := .int .i64 mv) ?_ (Le.refl _ _) rfl
      go_simp
    · intro a w hle hE
      have h76 : a.tmps.getD 76 undef = .int .i64 mv := hE (76, some 18) (by simp)
      have h77 : a.tmps.getD 77 undef = .int .i64 mv := hE (77, some 19) (by simp)
      have h75 : a.tmps.getD 75 undef = .bool true := hE (75, some 17) (by simp)
      rw [if_pos (wanted_of (j := 17) (b := true) (d := 75) rfl rfl h75)]
      refine owe_value (v := .bool true) ?_ (Le.refl _ _) rfl
      go_simp
    · intro a w hle hE
      have h75 : a.tmps.getD 75 undef = .bool true := hE (75, some 17) (by simp)
      have h78 : a.tmps.getD 78 undef = .bool true := hE (78, some 20) (by simp)
      rw [if_pos (wanted_plain rfl)]
      refine owe_value (v := .bool true) ?_ (Le.refl _ _) rfl
      go_simp
    · intro a w hle hE
      have h79 : a.tmps.getD 79 undef = .bool true := hE (79, some 21) (by simp)
      rw [if_pos (wanted_plain rfl)]
      refine owe_value (v := .bool true) ?_ (Le.refl _ _) rfl
      go_simp
    · intro a w hle hE
      have h12 : a.tmps.getD 12 undef = .int .i64 fv := hE (12, none) (by simp)
      have h80 : a.tmps.getD 80 undef = .bool true := hE (80, some 22) (by simp)
      rw [if_pos (wanted_of (j := 22) (b := true) (d := 80) rfl rfl h80)]
      refine owe_value (v := .int .i64 fv) ?_ (Le.refl _ _) rfl
      go_simp
    · intro a w hle hE
      have h81 : a.tmps.getD 81 undef = .int .i64 fv := hE (81, some 23) (by simp)
      have h80 : a.tmps.getD 80 undef = .bool true := hE (80, some 22) (by simp)
      rw [if_pos (wanted_of (j := 22) (b := true) (d := 80) rfl rfl h80)]
      refine owe_call (f := 14) (args := #[.int .i64 fv]) (by go_simp) ?_
      refine (num_any _ w).mono ?_
      rintro e w1 ⟨rfl, rfl⟩
      exact ⟨_, rfl, Le.refl _ _, rfl⟩
    · intro a w hle hE
      have h15 : a.tmps.getD 15 undef = .int .i64 fv := hE (15, none) (by simp)
      have h80 : a.tmps.getD 80 undef = .bool true := hE (80, some 22) (by simp)
      rw [if_pos (wanted_of (j := 22) (b := true) (d := 80) rfl rfl h80)]
      refine owe_value (v := .int .i64 fv) ?_ (Le.refl _ _) rfl
      go_simp
    · intro a w hle hE
      have h82 : a.tmps.getD 82 undef = .int .i64 fv := hE (82, some 24) (by simp)
      have h83 : a.tmps.getD 83 undef = .int .i64 fv := hE (83, some 25) (by simp)
      have h80 : a.tmps.getD 80 undef = .bool true := hE (80, some 22) (by simp)
      rw [if_pos (wanted_of (j := 22) (b := true) (d := 80) rfl rfl h80)]
      refine owe_value (v := .bool true) ?_ (Le.refl _ _) rfl
      go_simp
    · intro a w hle hE
      have h80 : a.tmps.getD 80 undef = .bool true := hE (80, some 22) (by simp)
      have h84 : a.tmps.getD 84 undef = .bool true := hE (84, some 26) (by simp)
      rw [if_pos (wanted_plain rfl)]
      refine owe_value (v := .bool true) ?_ (Le.refl _ _) rfl
      go_simp
    · intro a w hle hE
      have h85 : a.tmps.getD 85 undef = .bool true := hE (85, some 27) (by simp)
      rw [if_pos (wanted_plain rfl)]
      refine owe_value (v := .bool true) ?_ (Le.refl _ _) rfl
      go_simp
    · intro a w hle hE
      have h86 : a.tmps.getD 86 undef = .bool true := hE (86, some 28) (by simp)
      rw [if_pos (wanted_of (j := 28) (b := true) (d := 86) rfl rfl h86)]
      refine owe_call (f := 11) (args := #[]) (by go_simp) ?_
      refine (works_any w).mono ?_
      rintro e w1 ⟨rfl, hb⟩
      exact ⟨_, rfl, Le.of hb (Nat.le_trans hN hle.size), rfl⟩
    · intro a w hle hE
      have h86 : a.tmps.getD 86 undef = .bool true := hE (86, some 28) (by simp)
      have h87 : a.tmps.getD 87 undef = .bool true := hE (87, some 29) (by simp)
      rw [if_pos (wanted_plain rfl)]
      refine owe_value (v := .bool true) ?_ (Le.refl _ _) rfl
      go_simp
    · intro a w hle hE
      have h88 : a.tmps.getD 88 undef = .bool true := hE (88, some 30) (by simp)
      rw [if_pos (wanted_plain rfl)]
      refine owe_value (v := .bool true) ?_ (Le.refl _ _) rfl
      go_simp
  case hend =>
    intro a w' hle hdef hsz hall hold
    have h0 : a.tmps.getD 6 undef = .bool true := hall 31 _ 6 rfl rfl
    go_wp2_with fail
    refine bodyPost_ret (results_tmp rfl _ _ _) hdef ?_
    refine ⟨by rw [h0], ?_⟩
    rw [HN.out]
    exact hB0.trans (hle.below.mono (by omega))
set_option maxRecDepth 100000 in
set_option maxHeartbeats 1000000 in
theorem numbers_neg (n : Int) (hn : n < 0) (most : Int) (a : Option Addr) (k c : Nat) (w : World) (hlx : k ≤ 100) :
    Calls Try.prog 4 #[.int .i64 n, .int .i64 most, .slice a k c] w fun e w' => e = .returned (.bool true) ∧ Below w.heap.size w w' := by
  have i1 : ¬ (100 : Int) < k := by omega
  go_enter Try.func4, Try.ntmps4
  go_wp2_with fail
  refine (wnew_any w).mono ?_
  rintro e w1 ⟨rfl, hB, hW⟩
  have c1 := hW.has.cell 1
  simp at c1
  have hz := hB.size
  go_wp2_with (first
    | (go_at_call 16; refine (wnumber_bad _ n hn _ c1).mono ?_; rintro e w' ⟨rfl, hw⟩; obtain rfl := hw.symm; clear hw)
    | (go_at_call 14; refine (num_any _ _).mono ?_; rintro e w' ⟨rfl, hw⟩; obtain rfl := hw.symm; clear hw)
    | fail)
  refine (all_any _ _ _ w1 hW).mono ?_
  rintro e w2 ⟨u, rfl, hN2⟩
  obtain ⟨ua, uc, hu⟩ := hN2.own.slice
  rw [List.length_nil] at hu
  subst hu
  have HB2 : Hid (Below w.heap.size w w2) := hB.trans (hN2.below.mono hz)
  have hz2 := hN2.below.size
  clear hN2
  go_wp2_with (first
    | (go_at_call 11; refine (works_any _).mono ?_; rintro e w3 ⟨rfl, hw3⟩)
    | fail)
  go_ret
  exact ⟨rfl, HB2.out.trans (hw3.mono (by omega))⟩
theorem numbers_long (n most : Int) (a : Option Addr) (k c : Nat) (w : World) (hlx : ¬ k ≤ 100) :
    Calls Try.prog 4 #[.int .i64 n, .int .i64 most, .slice a k c] w fun e w' => e = .returned (.bool true) ∧ Below w.heap.size w w' := by
  have i1 : (100 : Int) < k := by omega
  go_enter Try.func4, Try.ntmps4
  go_wp2_with (first
    | (go_at_call 11; refine (works_any _).mono ?_; rintro e w3 ⟨rfl, hw3⟩)
    | fail)
  go_ret
  exact ⟨rfl, hw3⟩
theorem numbers_walk (n most : Int) (hn : (Lit.int .i64 n).wf = true) (xv : Value) (x : List UInt8) (w : World) (hx : In w xv x) :
    Calls Try.prog 4 #[.int .i64 n, .int .i64 most, xv] w fun e w' => e = .returned (.bool true) ∧ Below w.heap.size w w' := by
  obtain ⟨xa, xc, hxv⟩ := hx.slice
  by_cases hl : x.length ≤ 100
  · by_cases h0 : n < 0
    · rw [hxv]; exact numbers_neg n h0 most xa _ xc w hl
    · obtain ⟨m, rfl⟩ := Int.eq_ofNat_of_zero_le (by omega : 0 ≤ n)
      have hb := bounds_i64 hn
      exact numbers_nonneg m (by omega) most xv x w hx hl
  · rw [hxv]; exact numbers_long n most xa _ xc w hl
end Go.Proofs.Ytgoflpfafkmmgaa
/- The document's answer: a reader's Bytes. -/
namespace Go.Proofs.Ytgoflpfafkmmgaa
open Go.RowKit

theorem slice_mid27 (a : Option Addr) (n cap i j : Nat) (hi : i ≤ j) (hk : j ≤ cap) (w : World) :
    (Instr.slice 27 (.slice a n cap) (some (.int .i64 (i : Int))) (some (.int .i64 (j : Int))) none).run Try.prog w = .ok (.slice (if cap = i then a else a.map (·.add (i * 1))) (j - i) (cap - i)) w := by
  have he : Try.prog.elem 27 = 5 := by kernel_rfl
  have hu : Try.prog.underlying 27 = some (.slice (Try.prog.elem 27)) := by rw [he]; exact Try.underlying27
  obtain ⟨i0, hi', _, hz1, _⟩ := info_parts' info5
  rw [run_slice_lh w 27 a n cap hu .i64 .i64 i j (by omega) (by omega) (by omega), he]
  simp [sizeOf, typeInfo, hi', hz1, sliced]
/-- Bytes in the midst of bytes. -/
theorem BytesAp.mid {S : Nat → Prop} {w : World} {a : Option Addr} {n cap : Nat} {l : List UInt8} (h : BytesAp S w (.slice a n cap) l) (i j : Nat) (hi : i ≤ j) (hj : j ≤ l.length) :
    BytesAp S w (.slice (if cap = i then a else a.map (·.add (i * 1))) (j - i) (cap - i)) ((l.drop i).take (j - i)) := by
  have h1 := h.drop i (by omega)
  obtain ⟨a1, c1, db, o, he, hcap, ha, hin, hlt, hs⟩ := h1
  simp only [Value.slice.injEq] at he
  obtain ⟨e1, e2, e3⟩ := he
  rw [e1]
  refine ⟨a1, cap - i, db, o, by simp; omega, by simp at hcap ⊢; omega, fun hne => ha (by intro e; rw [e] at hne; simp at hne), fun q hq => ?_, hlt, hs⟩
  simp at hq
  rw [hin q (by simp; omega), List.getElem?_take_of_lt (by omega)]
theorem set3_has {w : World} {g t : Nat} {x y z x' y' z' : Value} (h : Has w g #[x, y, z] t) : Has (((w.setCell ⟨g, 0, none⟩ x').setCell ⟨g, 1, none⟩ y').setCell ⟨g, 2, none⟩ z') g #[x', y', z'] t := by
  have := ((h.set 0 x').set 1 y').set 2 z'
  simpa using this
theorem alloc_below {B : Nat} {w w1 : World} (h : Below B w w1) (hB : B ≤ w1.heap.size) (o : Obj) : Below B w (w1.alloc o) := h.alloc hB o
set_option maxRecDepth 10000 in
set_option maxHeartbeats 2000000 in
theorem refbyt_numerr (a : Option Addr) (c at_ bl fl ec : Nat) (g : Int) (w : World) (hec : ec ≠ 0)
    (hc : ∀ W, Below w.heap.size w W → Calls Try.prog 24 #[.agg #[.slice a bl c, .int .i64 at_, .int .i64 fl], .int .i64 g] W fun e w' => e = .returned (.tuple #[.agg #[.slice a bl c, .int .i64 at_, .int .i64 ec], .int .i64 0, .int .i64 ec]) ∧ Below W.heap.size W w') :
    Calls Try.prog 29 #[.agg #[.slice a bl c, .int .i64 at_, .int .i64 fl], .int .i64 g] w fun e w' => e = .returned (.tuple #[.agg #[.slice a bl c, .int .i64 at_, .int .i64 ec], .slice none 0 0, .int .i64 ec]) ∧ Below w.heap.size w w' := by
  have he' : ¬ (ec : Int) = 0 := by omega
  go_enter Try.func29, Try.ntmps29
  go_wp2_with fail
  refine named (p := fun X => Calls _ _ _ X _) ?_
  intro W0 hW0
  have hB0 : Below w.heap.size w W0 := by rw [hW0]; exact alloc2_below _ _ _
  obtain ⟨hA, hC, hz⟩ : Has W0 w.heap.size #[.slice a bl c, .int .i64 at_, .int .i64 fl] 45 ∧ Has W0 (w.heap.size + 1) #[.slice none 0 0, .int .i64 0, .int .i64 0] 45 ∧ W0.heap.size = w.heap.size + 2 := by rw [hW0]; exact alloc2_has
  clear hW0
  refine (hc W0 hB0).mono ?_
  rintro e W1 ⟨rfl, hB1⟩
  have hC1 := hC.below hB1 (by omega)
  have hB : Below w.heap.size w W1 := hB0.trans (hB1.mono (by omega))
  have hz1 := hB1.size
  have s0 := hC1.cell 0
  have s1 := hC1.cell 1
  have s2 := hC1.cell 2
  have f0 := hC1.free 0
  have f1 := hC1.free 1
  have f2 := hC1.free 2
  have n1 : ¬ w.heap.size + 1 = W1.heap.size := by omega
  have n2 : w.heap.size + 1 < W1.heap.size := by omega
  simp at s0 s1 s2
  clear hA hC hc
  go_wp2_with fail
  refine named (p := fun X => bodyPost _ _ _ _ _ X) ?_
  intro Wf hWf
  have hBf : Below w.heap.size w Wf := by rw [hWf]; exact alloc_below (set3_below hB hB.size (by omega) _ _ _) (by simp; omega) _
  have hHf : Has Wf (w.heap.size + 1) #[.slice a bl c, .int .i64 at_, .int .i64 ec] 45 := by rw [hWf]; exact has_old (set3_has hC1)
  clear hWf
  have r0 := hHf.cell 0
  have r1 := hHf.cell 1
  have r2 := hHf.cell 2
  simp at r0 r1 r2
  exact bodyPost_ret (v := .tuple #[.agg #[.slice a bl c, .int .i64 at_, .int .i64 ec], .slice none 0 0, .int .i64 ec]) (by simp [results, Try.results29, go_sem, r0, r1, r2]) rfl ⟨rfl, hBf⟩
set_option maxRecDepth 10000 in
set_option maxHeartbeats 2000000 in
theorem refbyt_ends (a : Option Addr) (c at_ bl q n : Nat) (g : Int) (w : World) (hlt : bl < q + n) (hbl : bl ≤ 10000000000) (hql : q ≤ bl)
    (hc : ∀ W, Below w.heap.size w W → Calls Try.prog 24 #[.agg #[.slice a bl c, .int .i64 at_, .int .i64 0], .int .i64 g] W fun e w' => e = .returned (.tuple #[.agg #[.slice a bl c, .int .i64 q, .int .i64 0], .int .i64 n, .int .i64 0]) ∧ Below W.heap.size W w') :
    Calls Try.prog 29 #[.agg #[.slice a bl c, .int .i64 at_, .int .i64 0], .int .i64 g] w fun e w' => e = .returned (.tuple #[.agg #[.slice a bl c, .int .i64 at_, .int .i64 120], .slice none 0 0, .int .i64 120]) ∧ Below w.heap.size w w' := by
  have i1 : (bl : Int) - q < n := by omega
  go_enter Try.func29, Try.ntmps29
  go_wp2_with fail
  refine named (p := fun X => Calls _ _ _ X _) ?_
  intro W0 hW0
  have hB0 : Below w.heap.size w W0 := by rw [hW0]; exact alloc2_below _ _ _
  obtain ⟨hA, hC, hz⟩ : Has W0 w.heap.size #[.slice a bl c, .int .i64 at_, .int .i64 0] 45 ∧ Has W0 (w.heap.size + 1) #[.slice none 0 0, .int .i64 0, .int .i64 0] 45 ∧ W0.heap.size = w.heap.size + 2 := by rw [hW0]; exact alloc2_has
  clear hW0
  refine (hc W0 hB0).mono ?_
  rintro e W1 ⟨rfl, hB1⟩
  have hA1 := hA.below hB1 (by omega)
  have hC1 := hC.below hB1 (by omega)
  have hB : Below w.heap.size w W1 := hB0.trans (hB1.mono (by omega))
  have hz1 := hB1.size
  have q0 := hA1.cell 0
  have q1 := hA1.cell 1
  have q2 := hA1.cell 2
  have n1 : ¬ w.heap.size = W1.heap.size := by omega
  have n2 : w.heap.size < W1.heap.size := by omega
  simp at q0 q1 q2
  clear hA hC hc
  go_wp2_with fail
  refine named (p := fun X => Calls _ _ _ X _) ?_
  intro W2 hW2
  have hB2 : Below W1.heap.size W1 W2 := by rw [hW2]; exact (Below.refl _ _).alloc (Nat.le_refl _) _
  have hz2 : W2.heap.size = W1.heap.size + 1 := by rw [hW2]; simp
  clear hW2
  refine (fails_any a bl c at_ 0 120 W2).mono ?_
  rintro e W3 ⟨rfl, hB3⟩
  have hC3 := (hC1.below hB2 (by omega)).below hB3 (by omega)
  have hBf : Below w.heap.size w W3 := (hB.trans (hB2.mono (by omega))).trans (hB3.mono (by omega))
  have s0 := hC3.cell 0
  have s1 := hC3.cell 1
  have s2 := hC3.cell 2
  have f0 := hC3.free 0
  have f1 := hC3.free 1
  have f2 := hC3.free 2
  simp at s0 s1 s2
  clear q0 q1 q2 hA1 hC1
  go_wp2_with fail
  exact bodyPost_ret (v := .tuple #[.agg #[.slice a bl c, .int .i64 at_, .int .i64 120], .slice none 0 0, .int .i64 120]) (by simp [results, Try.results29, go_sem, s0, s1, s2]) rfl ⟨rfl, set3_below hBf hBf.size (by omega) _ _ _⟩
set_option maxRecDepth 10000 in
set_option maxHeartbeats 2000000 in
theorem refbyt_ok (a : Option Addr) (c at_ bl q n : Nat) (l : List UInt8) (g : Int) (w : World) (hle : q + n ≤ bl) (hbl : bl ≤ 10000000000) (hbe : bl = l.length) (hB0' : Bytes w (.slice a bl c) l)
    (hc : ∀ W, Below w.heap.size w W → Calls Try.prog 24 #[.agg #[.slice a bl c, .int .i64 at_, .int .i64 0], .int .i64 g] W fun e w' => e = .returned (.tuple #[.agg #[.slice a bl c, .int .i64 q, .int .i64 0], .int .i64 n, .int .i64 0]) ∧ Below W.heap.size W w') :
    Calls Try.prog 29 #[.agg #[.slice a bl c, .int .i64 at_, .int .i64 0], .int .i64 g] w fun e w' => (∃ ya yl yc, e = .returned (.tuple #[.agg #[.slice a bl c, .int .i64 ((q + n : Nat) : Int), .int .i64 0], .slice ya yl yc, .int .i64 0]) ∧ Bytes w' (.slice ya yl yc) ((l.drop q).take n)) ∧ Below w.heap.size w w' := by
  have hap := hB0'.ap (S := fun _ => False) (fun _ _ h => h)
  have hcap : bl ≤ c := by obtain ⟨a', c', _, _, he, hc', _⟩ := hap; simp only [Value.slice.injEq] at he; omega
  have hM := hap.mid q (q + n) (by omega) (by omega)
  have hsl := slice_mid27 a bl c q (q + n) (by omega) (by omega)
  rw [Nat.add_sub_cancel_left] at hM hsl
  have Hc : Hid (q + n ≤ bl ∧ bl ≤ c ∧ bl = l.length) := ⟨hle, hcap, hbe⟩
  obtain ⟨q2, hq2⟩ : ∃ k : Nat, k = q + n := ⟨_, rfl⟩
  have e1 : (q : Int) + n = (q2 : Int) := by omega
  rw [← hq2] at hsl ⊢
  clear hq2 hcap hap
  generalize (if c = q then a else a.map (·.add (q * 1))) = ya at *
  generalize c - q = yc at *
  have HM : Hid (Bytes w (.slice ya n yc) ((l.drop q).take n)) := hM.bytes
  clear hM hB0' hbe
  have i1 : ¬ (bl : Int) - q < n := by omega
  go_enter Try.func29, Try.ntmps29
  go_wp2_with fail
  refine named (p := fun X => Calls _ _ _ X _) ?_
  intro W0 hW0
  have hB0 : Below w.heap.size w W0 := by rw [hW0]; exact alloc2_below _ _ _
  obtain ⟨hA, hC, hz⟩ : Has W0 w.heap.size #[.slice a bl c, .int .i64 at_, .int .i64 0] 45 ∧ Has W0 (w.heap.size + 1) #[.slice none 0 0, .int .i64 0, .int .i64 0] 45 ∧ W0.heap.size = w.heap.size + 2 := by rw [hW0]; exact alloc2_has
  clear hW0
  refine (hc W0 hB0).mono ?_
  rintro e W1 ⟨rfl, hB1⟩
  have hC1 := hC.below hB1 (by omega)
  have hB : Below w.heap.size w W1 := hB0.trans (hB1.mono (by omega))
  have hz1 := hB1.size
  have s0 := hC1.cell 0
  have s1 := hC1.cell 1
  have s2 := hC1.cell 2
  have f0 := hC1.free 0
  have f1 := hC1.free 1
  have f2 := hC1.free 2
  have n1 : ¬ w.heap.size + 1 = W1.heap.size := by omega
  have n2 : w.heap.size + 1 < W1.heap.size := by omega
  simp at s0 s1 s2
  clear hA hC hc
  go_wp2_with fail
  refine named (p := fun X => bodyPost _ _ _ _ _ X) ?_
  intro Wf hWf
  have hBf : Below w.heap.size w Wf := by rw [hWf]; exact alloc_below (set3_below hB hB.size (by omega) _ _ _) (by simp; omega) _
  have hHf : Has Wf (w.heap.size + 1) #[.slice a bl c, .int .i64 (q2 : Int), .int .i64 0] 45 := by rw [hWf]; exact has_old (set3_has hC1)
  clear hWf
  have r0 := hHf.cell 0
  have r1 := hHf.cell 1
  have r2 := hHf.cell 2
  simp at r0 r1 r2
  exact bodyPost_ret (v := .tuple #[.agg #[.slice a bl c, .int .i64 (q2 : Int), .int .i64 0], .slice ya n yc, .int .i64 0]) (by simp [results, Try.results29, go_sem, r0, r1, r2]) rfl ⟨⟨ya, n, yc, rfl, HM.out.below hBf⟩, hBf⟩

def vd (x : Except Nat (List UInt8 × List UInt8)) : List UInt8 := match x with | .error _ => [] | .ok (d, _) => d
/-- What a reader's Bytes answers, by the document. -/
theorem refbyt_any (a : Option Addr) (c at_ bl : Nat) (l : List UInt8) (hbl : bl = l.length) (g : Int) (w : World) (hB : Bytes w (.slice a bl c) l) (hat : at_ ≤ l.length) (hsm : l.length ≤ 10000000000) :
    Calls Try.prog 29 #[.agg #[.slice a bl c, .int .i64 at_, .int .i64 0], .int .i64 g] w fun e w' => (∃ ya yl yc, e = .returned (.tuple #[.agg #[.slice a bl c, .int .i64 ((atN l at_ (bnd g (lbyt g (l.drop at_))) : Nat) : Int), .int .i64 ((vec (bnd g (lbyt g (l.drop at_))) : Nat) : Int)], .slice ya yl yc, .int .i64 ((vec (bnd g (lbyt g (l.drop at_))) : Nat) : Int)]) ∧ Bytes w' (.slice ya yl yc) (vd (bnd g (lbyt g (l.drop at_))))) ∧ Below w.heap.size w w' := by
  have h0 : 0 < w.heap.size := by obtain ⟨_, _, _, _, _, _, _, _, h⟩ := hB; omega
  have hc : ∀ W, Below w.heap.size w W → _ := fun W hW => refnum_any' a c at_ bl l hbl g W (hB.below hW) hat hsm
  have key : bnd g (lbyt g (l.drop at_)) = match bnd g (lnum g (l.drop at_)) with | .error ec => .error ec | .ok (n, rest) => lraw n rest := by
    unfold bnd lbyt
    by_cases hg : g < 0
    · simp only [if_pos hg]
    · simp only [if_neg hg]
      cases lnum g (l.drop at_) with
      | error e => rfl
      | ok p => rfl
  rw [key]
  cases hx : bnd g (lnum g (l.drop at_)) with
  | error ec =>
    rw [hx] at hc
    exact (refbyt_numerr a c at_ bl 0 ec g w (bnd_ne hx (fun _ => lnum_ne)) hc).mono fun e w' ⟨h1, h2⟩ => ⟨⟨none, 0, 0, h1, bytes_nil _ (Nat.lt_of_lt_of_le h0 h2.size)⟩, h2⟩
  | ok p =>
    obtain ⟨n, rest⟩ := p
    rw [hx] at hc
    have hle := lnum_le (bnd_ok hx)
    simp only [List.length_drop] at hle
    have hrest : rest = l.drop (l.length - rest.length) := by
      have h1 := bnd_ok hx
      unfold lnum at h1
      split at h1
      · cases h1
      · rename_i n0 k0 hs
        split at h1
        · cases h1
        · simp only [Except.ok.injEq, Prod.mk.injEq] at h1
          have hk := scan_lt hs
          simp only [List.length_drop] at hk
          rw [← h1.2, List.drop_drop]
          congr 1
          simp; omega
    have hc' : ∀ W, Below w.heap.size w W → Calls Try.prog 24 #[.agg #[.slice a bl c, .int .i64 at_, .int .i64 0], .int .i64 g] W fun e w' => e = .returned (.tuple #[.agg #[.slice a bl c, .int .i64 ((l.length - rest.length : Nat) : Int), .int .i64 0], .int .i64 n, .int .i64 0]) ∧ Below W.heap.size W w' := hc
    show Calls _ _ _ _ fun e w' => (∃ ya yl yc, e = .returned (.tuple #[.agg #[.slice a bl c, .int .i64 ((atN l at_ (lraw n rest) : Nat) : Int), .int .i64 ((vec (lraw n rest) : Nat) : Int)], .slice ya yl yc, .int .i64 ((vec (lraw n rest) : Nat) : Int)]) ∧ Bytes w' (.slice ya yl yc) (vd (lraw n rest))) ∧ Below w.heap.size w w'
    by_cases hr : rest.length < n
    · have e1 : lraw n rest = .error 120 := by unfold lraw; rw [if_pos hr]
      rw [e1]
      exact (refbyt_ends a c at_ bl (l.length - rest.length) n g w (by omega) (by omega) (by omega) hc').mono fun e w' ⟨h1, h2⟩ => ⟨⟨none, 0, 0, h1, bytes_nil _ (Nat.lt_of_lt_of_le h0 h2.size)⟩, h2⟩
    · have e1 : lraw n rest = .ok (rest.take n, rest.drop n) := by unfold lraw; rw [if_neg hr]
      rw [e1]
      refine (refbyt_ok a c at_ bl (l.length - rest.length) n l g w (by omega) (by omega) hbl hB hc').mono fun e w' ⟨⟨ya, yl, yc, h1, h3⟩, h2⟩ => ⟨⟨ya, yl, yc, ?_, ?_⟩, h2⟩
      · rw [h1]
        have e2 : l.length - rest.length + n = l.length - (rest.drop n).length := by simp; omega
        rw [e2]
        rfl
      · rw [← hrest] at h3; exact h3
end Go.Proofs.Ytgoflpfafkmmgaa
/- The document's answer: a reader's Signed, Truth, Raw and End. -/
namespace Go.Proofs.Ytgoflpfafkmmgaa
open Go.RowKit

set_option maxRecDepth 10000 in
set_option maxHeartbeats 1000000 in
theorem refend_any (a : Option Addr) (c at_ fl : Nat) (l : List UInt8) (w : World) (hat : at_ ≤ l.length) :
    Calls Try.prog 35 #[.agg #[.slice a l.length c, .int .i64 at_, .int .i64 fl]] w fun e w' => e = .returned (.int .i64 (endE (l.drop at_) fl)) ∧ Below w.heap.size w w' := by
  by_cases h1 : fl = 0
  · subst h1
    by_cases h2 : at_ < l.length
    · have he : endE (l.drop at_) 0 = 122 := by unfold endE; rw [if_neg (by omega), if_neg (by simp; omega)]
      rw [he]
      have i1 : (at_ : Int) < l.length := by omega
      go_enter Try.func35, Try.ntmps35
      go_wp2_with fail
      go_ret
      exact ⟨rfl, (Below.refl _ _).alloc (Nat.le_refl _) _⟩
    · have he : endE (l.drop at_) 0 = 0 := by unfold endE; rw [if_neg (by omega), if_pos (by simp; omega)]
      rw [he]
      have i1 : ¬ (at_ : Int) < l.length := by omega
      go_enter Try.func35, Try.ntmps35
      go_wp2_with fail
      go_ret
      exact ⟨rfl, (Below.refl _ _).alloc (Nat.le_refl _) _⟩
  · have he : endE (l.drop at_) fl = fl := by unfold endE; rw [if_pos h1]
    rw [he]
    have i1 : ¬ (fl : Int) = 0 := by omega
    go_enter Try.func35, Try.ntmps35
    go_wp2_with fail
    go_ret
    exact ⟨rfl, (Below.refl _ _).alloc (Nat.le_refl _) _⟩
set_option maxRecDepth 10000 in
set_option maxHeartbeats 2000000 in
theorem refsig_numerr (a : Option Addr) (c at_ bl fl ec : Nat) (w : World) (hec : ec ≠ 0)
    (hc : ∀ W, Below w.heap.size w W → Calls Try.prog 24 #[.agg #[.slice a bl c, .int .i64 at_, .int .i64 fl], .int .i64 9223372036854775807] W fun e w' => e = .returned (.tuple #[.agg #[.slice a bl c, .int .i64 at_, .int .i64 ec], .int .i64 0, .int .i64 ec]) ∧ Below W.heap.size W w') :
    Calls Try.prog 57 #[.agg #[.slice a bl c, .int .i64 at_, .int .i64 fl]] w fun e w' => e = .returned (.tuple #[.agg #[.slice a bl c, .int .i64 at_, .int .i64 ec], .int .i64 0, .int .i64 ec]) ∧ Below w.heap.size w w' := by
  have he' : ¬ (ec : Int) = 0 := by omega
  go_enter Try.func57, Try.ntmps57
  go_wp2_with fail
  refine named (p := fun X => Calls _ _ _ X _) ?_
  intro W0 hW0
  have hB0 : Below w.heap.size w W0 := by rw [hW0]; exact alloc2_below _ _ _
  obtain ⟨hA, hC, hz⟩ : Has W0 w.heap.size #[.slice a bl c, .int .i64 at_, .int .i64 fl] 45 ∧ Has W0 (w.heap.size + 1) #[.slice none 0 0, .int .i64 0, .int .i64 0] 45 ∧ W0.heap.size = w.heap.size + 2 := by rw [hW0]; exact alloc2_has
  clear hW0
  refine (hc W0 hB0).mono ?_
  rintro e W1 ⟨rfl, hB1⟩
  have hC1 := hC.below hB1 (by omega)
  have hB : Below w.heap.size w W1 := hB0.trans (hB1.mono (by omega))
  have hz1 := hB1.size
  have s0 := hC1.cell 0
  have s1 := hC1.cell 1
  have s2 := hC1.cell 2
  have f0 := hC1.free 0
  have f1 := hC1.free 1
  have f2 := hC1.free 2
  have n1 : ¬ w.heap.size + 1 = W1.heap.size := by omega
  have n2 : w.heap.size + 1 < W1.heap.size := by omega
  simp at s0 s1 s2
  clear hA hC hc
  go_wp2_with fail
  refine named (p := fun X => bodyPost _ _ _ _ _ X) ?_
  intro Wf hWf
  have hBf : Below w.heap.size w Wf := by rw [hWf]; exact alloc_below (set3_below hB hB.size (by omega) _ _ _) (by simp; omega) _
  have hHf : Has Wf (w.heap.size + 1) #[.slice a bl c, .int .i64 at_, .int .i64 ec] 45 := by rw [hWf]; exact has_old (set3_has hC1)
  clear hWf
  have r0 := hHf.cell 0
  have r1 := hHf.cell 1
  have r2 := hHf.cell 2
  simp at r0 r1 r2
  exact bodyPost_ret (v := .tuple #[.agg #[.slice a bl c, .int .i64 at_, .int .i64 ec], .int .i64 0, .int .i64 ec]) (by simp [results, Try.results57, go_sem, r0, r1, r2]) rfl ⟨rfl, hBf⟩
set_option maxRecDepth 10000 in
set_option maxHeartbeats 2000000 in
theorem refsig_numok (a : Option Addr) (c at_ bl q n : Nat) (w : World) (hn : n ≤ 9223372036854775807)
    (hc : ∀ W, Below w.heap.size w W → Calls Try.prog 24 #[.agg #[.slice a bl c, .int .i64 at_, .int .i64 0], .int .i64 9223372036854775807] W fun e w' => e = .returned (.tuple #[.agg #[.slice a bl c, .int .i64 q, .int .i64 0], .int .i64 n, .int .i64 0]) ∧ Below W.heap.size W w') :
    Calls Try.prog 57 #[.agg #[.slice a bl c, .int .i64 at_, .int .i64 0]] w fun e w' => e = .returned (.tuple #[.agg #[.slice a bl c, .int .i64 q, .int .i64 0], .int .i64 (unf n), .int .i64 0]) ∧ Below w.heap.size w w' := by
  by_cases hodd : n % 2 = 1
  · have hu : unf n = -((n / 2 : Nat) : Int) - 1 := by unfold unf; rw [if_pos hodd]; omega
    have m1 : (n : Int).tmod 2 = 1 := by rw [Int.tmod_eq_emod_of_nonneg (by omega)]; omega
    have m2 : (n : Int).tdiv 2 = ((n / 2 : Nat) : Int) := by rw [Int.tdiv_eq_ediv_of_nonneg (by omega)]; omega
    have hm : n / 2 ≤ 4611686018427387903 := by omega
    generalize n / 2 = m at *
    rw [hu]
    go_enter Try.func57, Try.ntmps57
    go_wp2_with fail
    refine named (p := fun X => Calls _ _ _ X _) ?_
    intro W0 hW0
    have hB0 : Below w.heap.size w W0 := by rw [hW0]; exact alloc2_below _ _ _
    obtain ⟨hA, hC, hz⟩ : Has W0 w.heap.size #[.slice a bl c, .int .i64 at_, .int .i64 0] 45 ∧ Has W0 (w.heap.size + 1) #[.slice none 0 0, .int .i64 0, .int .i64 0] 45 ∧ W0.heap.size = w.heap.size + 2 := by rw [hW0]; exact alloc2_has
    clear hW0
    refine (hc W0 hB0).mono ?_
    rintro e W1 ⟨rfl, hB1⟩
    have hC1 := hC.below hB1 (by omega)
    have hB : Below w.heap.size w W1 := hB0.trans (hB1.mono (by omega))
    have hz1 := hB1.size
    have s0 := hC1.cell 0
    have s1 := hC1.cell 1
    have s2 := hC1.cell 2
    have f0 := hC1.free 0
    have f1 := hC1.free 1
    have f2 := hC1.free 2
    have n1 : ¬ w.heap.size + 1 = W1.heap.size := by omega
    have n2 : w.heap.size + 1 < W1.heap.size := by omega
    simp at s0 s1 s2
    clear hA hC hc
    go_wp2_with fail
    refine named (p := fun X => bodyPost _ _ _ _ _ X) ?_
    intro Wf hWf
    have hBf : Below w.heap.size w Wf := by rw [hWf]; exact alloc_below (set3_below hB hB.size (by omega) _ _ _) (by simp; omega) _
    have hHf : Has Wf (w.heap.size + 1) #[.slice a bl c, .int .i64 q, .int .i64 0] 45 := by rw [hWf]; exact has_old (set3_has hC1)
    clear hWf
    have r0 := hHf.cell 0
    have r1 := hHf.cell 1
    have r2 := hHf.cell 2
    simp at r0 r1 r2
    exact bodyPost_ret (v := .tuple #[.agg #[.slice a bl c, .int .i64 q, .int .i64 0], .int .i64 _, .int .i64 0]) (by simp [results, Try.results57, go_sem, r0, r1, r2]; try rfl) rfl ⟨rfl, hBf⟩
  · have hu : unf n = ((n / 2 : Nat) : Int) := by unfold unf; rw [if_neg hodd]
    have m1 : (n : Int).tmod 2 = 0 := by rw [Int.tmod_eq_emod_of_nonneg (by omega)]; omega
    have m2 : (n : Int).tdiv 2 = ((n / 2 : Nat) : Int) := by rw [Int.tdiv_eq_ediv_of_nonneg (by omega)]; omega
    have hm : n / 2 ≤ 4611686018427387903 := by omega
    generalize n / 2 = m at *
    rw [hu]
    go_enter Try.func57, Try.ntmps57
    go_wp2_with fail
    refine named (p := fun X => Calls _ _ _ X _) ?_
    intro W0 hW0
    have hB0 : Below w.heap.size w W0 := by rw [hW0]; exact alloc2_below _ _ _
    obtain ⟨hA, hC, hz⟩ : Has W0 w.heap.size #[.slice a bl c, .int .i64 at_, .int .i64 0] 45 ∧ Has W0 (w.heap.size + 1) #[.slice none 0 0, .int .i64 0, .int .i64 0] 45 ∧ W0.heap.size = w.heap.size + 2 := by rw [hW0]; exact alloc2_has
    clear hW0
    refine (hc W0 hB0).mono ?_
    rintro e W1 ⟨rfl, hB1⟩
    have hC1 := hC.below hB1 (by omega)
    have hB : Below w.heap.size w W1 := hB0.trans (hB1.mono (by omega))
    have hz1 := hB1.size
    have s0 := hC1.cell 0
    have s1 := hC1.cell 1
    have s2 := hC1.cell 2
    have f0 := hC1.free 0
    have f1 := hC1.free 1
    have f2 := hC1.free 2
    have n1 : ¬ w.heap.size + 1 = W1.heap.size := by omega
    have n2 : w.heap.size + 1 < W1.heap.size := by omega
    simp at s0 s1 s2
    clear hA hC hc
    go_wp2_with fail
    refine named (p := fun X => bodyPost _ _ _ _ _ X) ?_
    intro Wf hWf
    have hBf : Below w.heap.size w Wf := by rw [hWf]; exact alloc_below (set3_below hB hB.size (by omega) _ _ _) (by simp; omega) _
    have hHf : Has Wf (w.heap.size + 1) #[.slice a bl c, .int .i64 q, .int .i64 0] 45 := by rw [hWf]; exact has_old (set3_has hC1)
    clear hWf
    have r0 := hHf.cell 0
    have r1 := hHf.cell 1
    have r2 := hHf.cell 2
    simp at r0 r1 r2
    exact bodyPost_ret (v := .tuple #[.agg #[.slice a bl c, .int .i64 q, .int .i64 0], .int .i64 _, .int .i64 0]) (by simp [results, Try.results57, go_sem, r0, r1, r2]; try rfl) rfl ⟨rfl, hBf⟩
end Go.Proofs.Ytgoflpfafkmmgaa
/- The document's answer: a reader's Truth and Raw. -/
namespace Go.Proofs.Ytgoflpfafkmmgaa
open Go.RowKit

set_option maxHeartbeats 1000000 in
theorem reftru_flaw (a : Option Addr) (n c at_ fl : Nat) (w : World) (hfl : fl ≠ 0) :
    Calls Try.prog 58 #[.agg #[.slice a n c, .int .i64 at_, .int .i64 fl]] w fun e w' => e = .returned (.tuple #[.agg #[.slice a n c, .int .i64 at_, .int .i64 fl], .bool false, .int .i64 fl]) ∧ Below w.heap.size w w' := by
  have h1 : ¬ (fl : Int) = 0 := by omega
  go_enter Try.func58, Try.ntmps58
  go_wp2_with fail
  go_region
  go_wp2_with fail
  exact bodyPost_ret (v := .tuple #[.agg #[.slice a n c, .int .i64 at_, .int .i64 fl], .bool false, .int .i64 fl]) (by simp [results, Try.results58, go_sem]) rfl ⟨rfl, (alloc2_below _ _ _).trans ⟨rfl, rfl, rfl, Nat.le_refl _, fun _ _ => rfl⟩⟩
set_option maxHeartbeats 1000000 in
theorem refraw_flaw (a : Option Addr) (n c at_ fl : Nat) (g : Int) (w : World) (hfl : fl ≠ 0) :
    Calls Try.prog 59 #[.agg #[.slice a n c, .int .i64 at_, .int .i64 fl], .int .i64 g] w fun e w' => e = .returned (.tuple #[.agg #[.slice a n c, .int .i64 at_, .int .i64 fl], .slice none 0 0, .int .i64 fl]) ∧ Below w.heap.size w w' := by
  have h1 : ¬ (fl : Int) = 0 := by omega
  go_enter Try.func59, Try.ntmps59
  go_wp2_with fail
  go_region
  go_wp2_with fail
  exact bodyPost_ret (v := .tuple #[.agg #[.slice a n c, .int .i64 at_, .int .i64 fl], .slice none 0 0, .int .i64 fl]) (by simp [results, Try.results59, go_sem]) rfl ⟨rfl, (alloc2_below _ _ _).trans ⟨rfl, rfl, rfl, Nat.le_refl _, fun _ _ => rfl⟩⟩
set_option maxRecDepth 10000 in
set_option maxHeartbeats 1000000 in
theorem reftru_end (a : Option Addr) (n c at_ : Nat) (w : World) (hat : n ≤ at_) :
    Calls Try.prog 58 #[.agg #[.slice a n c, .int .i64 at_, .int .i64 0]] w fun e w' => e = .returned (.tuple #[.agg #[.slice a n c, .int .i64 at_, .int .i64 120], .bool false, .int .i64 120]) ∧ Below w.heap.size w w' := by
  have i1 : (n : Int) ≤ at_ := by omega
  go_enter Try.func58, Try.ntmps58
  go_wp2_with fail
  refine named (p := fun X => Calls _ _ _ X _) ?_
  intro W0 hW0
  have hB0 : Below w.heap.size w W0 := by rw [hW0]; exact alloc2_below _ _ _
  obtain ⟨_, hC, hz⟩ : Has W0 w.heap.size #[.slice a n c, .int .i64 at_, .int .i64 0] 45 ∧ Has W0 (w.heap.size + 1) #[.slice none 0 0, .int .i64 0, .int .i64 0] 45 ∧ W0.heap.size = w.heap.size + 2 := by rw [hW0]; exact alloc2_has
  clear hW0
  refine (fails_any a n c at_ 0 120 W0).mono ?_
  rintro e W1 ⟨rfl, hB1⟩
  have hC1 := hC.below hB1 (by omega)
  have hBf : Below w.heap.size w W1 := hB0.trans (hB1.mono (by omega))
  have s0 := hC1.cell 0
  have s1 := hC1.cell 1
  have s2 := hC1.cell 2
  have f0 := hC1.free 0
  have f1 := hC1.free 1
  have f2 := hC1.free 2
  simp at s0 s1 s2
  clear hC
  go_wp2_with fail
  exact bodyPost_ret (v := .tuple #[.agg #[.slice a n c, .int .i64 at_, .int .i64 120], .bool false, .int .i64 120]) (by simp [results, Try.results58, go_sem, s0, s1, s2]) rfl ⟨rfl, set3_below hBf hBf.size (by omega) _ _ _⟩
set_option maxRecDepth 10000 in
set_option maxHeartbeats 1000000 in
theorem refraw_neg (a : Option Addr) (n c at_ : Nat) (g : Int) (hg : g < 0) (w : World) :
    Calls Try.prog 59 #[.agg #[.slice a n c, .int .i64 at_, .int .i64 0], .int .i64 g] w fun e w' => e = .returned (.tuple #[.agg #[.slice a n c, .int .i64 at_, .int .i64 2], .slice none 0 0, .int .i64 2]) ∧ Below w.heap.size w w' := by
  go_enter Try.func59, Try.ntmps59
  go_wp2_with fail
  refine named (p := fun X => Calls _ _ _ X _) ?_
  intro W0 hW0
  have hB0 : Below w.heap.size w W0 := by rw [hW0]; exact alloc2_below _ _ _
  obtain ⟨_, hC, hz⟩ : Has W0 w.heap.size #[.slice a n c, .int .i64 at_, .int .i64 0] 45 ∧ Has W0 (w.heap.size + 1) #[.slice none 0 0, .int .i64 0, .int .i64 0] 45 ∧ W0.heap.size = w.heap.size + 2 := by rw [hW0]; exact alloc2_has
  clear hW0
  refine (fails_any a n c at_ 0 2 W0).mono ?_
  rintro e W1 ⟨rfl, hB1⟩
  have hC1 := hC.below hB1 (by omega)
  have hBf : Below w.heap.size w W1 := hB0.trans (hB1.mono (by omega))
  have s0 := hC1.cell 0
  have s1 := hC1.cell 1
  have s2 := hC1.cell 2
  have f0 := hC1.free 0
  have f1 := hC1.free 1
  have f2 := hC1.free 2
  simp at s0 s1 s2
  clear hC
  go_wp2_with fail
  exact bodyPost_ret (v := .tuple #[.agg #[.slice a n c, .int .i64 at_, .int .i64 2], .slice none 0 0, .int .i64 2]) (by simp [results, Try.results59, go_sem, s0, s1, s2]) rfl ⟨rfl, set3_below hBf hBf.size (by omega) _ _ _⟩
set_option maxRecDepth 10000 in
set_option maxHeartbeats 1000000 in
theorem refraw_end (a : Option Addr) (n c at_ : Nat) (g : Int) (hg : ¬ g < 0) (w : World) (hat : at_ ≤ n) (hn : n ≤ 10000000000) (hl : (n : Int) - at_ < g) :
    Calls Try.prog 59 #[.agg #[.slice a n c, .int .i64 at_, .int .i64 0], .int .i64 g] w fun e w' => e = .returned (.tuple #[.agg #[.slice a n c, .int .i64 at_, .int .i64 120], .slice none 0 0, .int .i64 120]) ∧ Below w.heap.size w w' := by
  go_enter Try.func59, Try.ntmps59
  go_wp2_with fail
  refine named (p := fun X => Calls _ _ _ X _) ?_
  intro W0 hW0
  have hB0 : Below w.heap.size w W0 := by rw [hW0]; exact alloc2_below _ _ _
  obtain ⟨_, hC, hz⟩ : Has W0 w.heap.size #[.slice a n c, .int .i64 at_, .int .i64 0] 45 ∧ Has W0 (w.heap.size + 1) #[.slice none 0 0, .int .i64 0, .int .i64 0] 45 ∧ W0.heap.size = w.heap.size + 2 := by rw [hW0]; exact alloc2_has
  clear hW0
  refine (fails_any a n c at_ 0 120 W0).mono ?_
  rintro e W1 ⟨rfl, hB1⟩
  have hC1 := hC.below hB1 (by omega)
  have hBf : Below w.heap.size w W1 := hB0.trans (hB1.mono (by omega))
  have s0 := hC1.cell 0
  have s1 := hC1.cell 1
  have s2 := hC1.cell 2
  have f0 := hC1.free 0
  have f1 := hC1.free 1
  have f2 := hC1.free 2
  simp at s0 s1 s2
  clear hC
  go_wp2_with fail
  exact bodyPost_ret (v := .tuple #[.agg #[.slice a n c, .int .i64 at_, .int .i64 120], .slice none 0 0, .int .i64 120]) (by simp [results, Try.results59, go_sem, s0, s1, s2]) rfl ⟨rfl, set3_below hBf hBf.size (by omega) _ _ _⟩
end Go.Proofs.Ytgoflpfafkmmgaa
/- The document's answer: a reader's Truth and Raw where they take. -/
namespace Go.Proofs.Ytgoflpfafkmmgaa
open Go.RowKit

set_option maxRecDepth 10000 in
set_option maxHeartbeats 1000000 in
theorem reftru_big (a : Option Addr) (c at_ : Nat) (l : List UInt8) (b : UInt8) (w : World) (hB : Bytes w (.slice a l.length c) l) (hb : l[at_]? = some b) (h1 : 1 < b.toNat) :
    Calls Try.prog 58 #[.agg #[.slice a l.length c, .int .i64 at_, .int .i64 0]] w fun e w' => e = .returned (.tuple #[.agg #[.slice a l.length c, .int .i64 at_, .int .i64 121], .bool false, .int .i64 121]) ∧ Below w.heap.size w w' := by
  obtain ⟨a', c', db, o, he, hcap, ha, hin, hlt⟩ := hB
  simp only [Value.slice.injEq] at he
  obtain ⟨rfl, _, rfl⟩ := he
  have hlt' : at_ < l.length := (List.getElem?_eq_some_iff.1 hb).1
  obtain rfl := ha (by intro e; simp [e] at hlt')
  have hcell := hin at_ hlt'
  rw [hb] at hcell
  simp only [Option.getD_some] at hcell
  unfold bc at hcell
  have i1 : ¬ (l.length : Int) ≤ at_ := by omega
  have i2 : (at_ : Int) < l.length := by omega
  have i3 : (1 : Int) < bv b := by unfold bv; omega
  have n1 : ¬ db = w.heap.size := by omega
  have n2 : ¬ db = w.heap.size + 1 := by omega
  clear hin ha hb
  generalize l.length = n at *
  go_enter Try.func58, Try.ntmps58
  go_wp2_with fail
  refine named (p := fun X => Calls _ _ _ X _) ?_
  intro W0 hW0
  have hB0 : Below w.heap.size w W0 := by rw [hW0]; exact alloc2_below _ _ _
  obtain ⟨_, hC, hz⟩ : Has W0 w.heap.size #[.slice (some ⟨db, o, none⟩) n c, .int .i64 at_, .int .i64 0] 45 ∧ Has W0 (w.heap.size + 1) #[.slice none 0 0, .int .i64 0, .int .i64 0] 45 ∧ W0.heap.size = w.heap.size + 2 := by rw [hW0]; exact alloc2_has
  clear hW0
  refine (fails_any _ n c at_ 0 121 W0).mono ?_
  rintro e W1 ⟨rfl, hB1⟩
  have hC1 := hC.below hB1 (by omega)
  have hBf : Below w.heap.size w W1 := hB0.trans (hB1.mono (by omega))
  have s0 := hC1.cell 0
  have s1 := hC1.cell 1
  have s2 := hC1.cell 2
  have f0 := hC1.free 0
  have f1 := hC1.free 1
  have f2 := hC1.free 2
  simp at s0 s1 s2
  clear hC
  go_wp2_with fail
  exact bodyPost_ret (v := .tuple #[.agg #[.slice (some ⟨db, o, none⟩) n c, .int .i64 at_, .int .i64 121], .bool false, .int .i64 121]) (by simp [results, Try.results58, go_sem, s0, s1, s2]) rfl ⟨rfl, set3_below hBf hBf.size (by omega) _ _ _⟩
set_option maxRecDepth 10000 in
set_option maxHeartbeats 1000000 in
theorem reftru_ok (a : Option Addr) (c at_ : Nat) (l : List UInt8) (b : UInt8) (w : World) (hB : Bytes w (.slice a l.length c) l) (hsm : l.length ≤ 10000000000) (hb : l[at_]? = some b) (h1 : ¬ 1 < b.toNat) :
    Calls Try.prog 58 #[.agg #[.slice a l.length c, .int .i64 at_, .int .i64 0]] w fun e w' => e = .returned (.tuple #[.agg #[.slice a l.length c, .int .i64 ((at_ + 1 : Nat) : Int), .int .i64 0], .bool (b.toNat == 1), .int .i64 0]) ∧ Below w.heap.size w w' := by
  obtain ⟨a', c', db, o, he, hcap, ha, hin, hlt⟩ := hB
  simp only [Value.slice.injEq] at he
  obtain ⟨rfl, _, rfl⟩ := he
  have hlt' : at_ < l.length := (List.getElem?_eq_some_iff.1 hb).1
  obtain rfl := ha (by intro e; simp [e] at hlt')
  have hcell := hin at_ hlt'
  rw [hb] at hcell
  simp only [Option.getD_some] at hcell
  unfold bc at hcell
  have i1 : ¬ (l.length : Int) ≤ at_ := by omega
  have i2 : (at_ : Int) < l.length := by omega
  have i3 : ¬ (1 : Int) < bv b := by unfold bv; omega
  have n1 : ¬ db = w.heap.size := by omega
  have n2 : ¬ db = w.heap.size + 1 := by omega
  obtain ⟨q, hq⟩ : ∃ q : Nat, q = at_ + 1 := ⟨_, rfl⟩
  have e1 : (at_ : Int) + 1 = (q : Int) := by omega
  obtain ⟨t, ht⟩ : ∃ t : Bool, t = (b.toNat == 1) := ⟨_, rfl⟩
  have e2 : decide (bv b = 1) = t := by
    rw [ht]; unfold bv
    by_cases h : b.toNat = 1
    · simp [h]
    · have h' : ¬ (b.toNat : Int) = 1 := by omega
      simp only [h', decide_false]
      simp [h]
  rw [← hq, ← ht]
  clear hin ha hb hq ht
  generalize l.length = n at *
  go_enter Try.func58, Try.ntmps58
  go_wp2_with fail
  exact bodyPost_ret (v := .tuple #[.agg #[.slice (some ⟨db, o, none⟩) n c, .int .i64 (q : Int), .int .i64 0], .bool t, .int .i64 0]) (by simp [results, Try.results58, go_sem]; exact e2) rfl ⟨rfl, alloc2_below _ _ _⟩
set_option maxRecDepth 10000 in
set_option maxHeartbeats 2000000 in
theorem refraw_ok (a : Option Addr) (c at_ bl n : Nat) (l : List UInt8) (w : World) (hle : at_ + n ≤ bl) (hbl : bl ≤ 10000000000) (hbe : bl = l.length) (hB0' : Bytes w (.slice a bl c) l) :
    Calls Try.prog 59 #[.agg #[.slice a bl c, .int .i64 at_, .int .i64 0], .int .i64 n] w fun e w' => (∃ ya yl yc, e = .returned (.tuple #[.agg #[.slice a bl c, .int .i64 ((at_ + n : Nat) : Int), .int .i64 0], .slice ya yl yc, .int .i64 0]) ∧ Bytes w' (.slice ya yl yc) ((l.drop at_).take n)) ∧ Below w.heap.size w w' := by
  have hap := hB0'.ap (S := fun _ => False) (fun _ _ h => h)
  have hcap : bl ≤ c := by obtain ⟨a', c', _, _, he, hc', _⟩ := hap; simp only [Value.slice.injEq] at he; omega
  have hM := hap.mid at_ (at_ + n) (by omega) (by omega)
  have hsl := slice_mid27 a bl c at_ (at_ + n) (by omega) (by omega)
  rw [Nat.add_sub_cancel_left] at hM hsl
  have Hc : Hid (at_ + n ≤ bl ∧ bl ≤ c ∧ bl = l.length) := ⟨hle, hcap, hbe⟩
  obtain ⟨q2, hq2⟩ : ∃ k : Nat, k = at_ + n := ⟨_, rfl⟩
  have e1 : (at_ : Int) + n = (q2 : Int) := by omega
  rw [← hq2] at hsl ⊢
  clear hq2 hcap hap
  generalize (if c = at_ then a else a.map (·.add (at_ * 1))) = ya at *
  generalize c - at_ = yc at *
  have HM : Hid (Bytes w (.slice ya n yc) ((l.drop at_).take n)) := hM.bytes
  clear hM hB0' hbe
  have i1 : ¬ (bl : Int) - at_ < n := by omega
  go_enter Try.func59, Try.ntmps59
  go_wp2_with fail
  exact bodyPost_ret (v := .tuple #[.agg #[.slice a bl c, .int .i64 (q2 : Int), .int .i64 0], .slice ya n yc, .int .i64 0]) (by simp [results, Try.results59, go_sem]) rfl ⟨⟨ya, n, yc, rfl, HM.out.below (alloc2_below _ _ _)⟩, alloc2_below _ _ _⟩
end Go.Proofs.Ytgoflpfafkmmgaa
/- The document's answer: a reader's Signed, Truth and Raw, in one form. -/
namespace Go.Proofs.Ytgoflpfafkmmgaa
open Go.RowKit

def vsg (x : Except Nat (Int × List UInt8)) : Int := match x with | .error _ => 0 | .ok (m, _) => m
def vtr (x : Except Nat (Bool × List UInt8)) : Bool := match x with | .error _ => false | .ok (m, _) => m
theorem refsig_any (a : Option Addr) (c at_ bl : Nat) (l : List UInt8) (hbl : bl = l.length) (w : World) (hB : Bytes w (.slice a bl c) l) (hat : at_ ≤ l.length) (hsm : l.length ≤ 10000000000) :
    Calls Try.prog 57 #[.agg #[.slice a bl c, .int .i64 at_, .int .i64 0]] w fun e w' => e = .returned (.tuple #[.agg #[.slice a bl c, .int .i64 ((atN l at_ (lsig (l.drop at_)) : Nat) : Int), .int .i64 ((vec (lsig (l.drop at_)) : Nat) : Int)], .int .i64 (vsg (lsig (l.drop at_))), .int .i64 ((vec (lsig (l.drop at_)) : Nat) : Int)]) ∧ Below w.heap.size w w' := by
  subst hbl
  have hb : ∀ x : Except Nat (Nat × List UInt8), bnd 9223372036854775807 x = x := fun x => by unfold bnd; rw [if_neg (by decide)]
  cases hx : scan 0 0 (l.drop at_) with
  | error ec =>
    have h1 : lsig (l.drop at_) = .error ec := by unfold lsig; rw [hx]
    have h2 : bnd 9223372036854775807 (lnum 9223372036854775807 (l.drop at_)) = .error ec := by rw [hb]; unfold lnum; rw [hx]
    rw [h1]
    exact refsig_numerr a c at_ _ 0 ec w (by have := scan_err _ _ _ _ hx; omega) (fun W hW => refnum_err a c at_ l _ ec W (hB.below hW) hat hsm h2)
  | ok p =>
    obtain ⟨n, k⟩ := p
    have hn := scan_lt hx
    have h1 : lsig (l.drop at_) = .ok (unf n, (l.drop at_).drop k) := by unfold lsig; rw [hx]
    have h2 : bnd 9223372036854775807 (lnum 9223372036854775807 (l.drop at_)) = .ok (n, (l.drop at_).drop k) := by rw [hb]; unfold lnum; rw [hx]; show (if _ then _ else _) = _; rw [if_neg (by omega)]
    rw [h1]
    exact refsig_numok a c at_ _ _ n w (by omega) (fun W hW => refnum_ok a c at_ l _ _ n W (hB.below hW) hat hsm h2)
theorem reftru_any (a : Option Addr) (c at_ bl : Nat) (l : List UInt8) (hbl : bl = l.length) (w : World) (hB : Bytes w (.slice a bl c) l) (hat : at_ ≤ l.length) (hsm : l.length ≤ 10000000000) :
    Calls Try.prog 58 #[.agg #[.slice a bl c, .int .i64 at_, .int .i64 0]] w fun e w' => e = .returned (.tuple #[.agg #[.slice a bl c, .int .i64 ((atN l at_ (ltru (l.drop at_)) : Nat) : Int), .int .i64 ((vec (ltru (l.drop at_)) : Nat) : Int)], .bool (vtr (ltru (l.drop at_))), .int .i64 ((vec (ltru (l.drop at_)) : Nat) : Int)]) ∧ Below w.heap.size w w' := by
  subst hbl
  by_cases h : at_ < l.length
  · have hd := List.drop_eq_getElem_cons h
    have hb : l[at_]? = some l[at_] := List.getElem?_eq_getElem h
    generalize l[at_] = b at *
    rw [hd]
    by_cases h1 : 1 < b.toNat
    · have e : ltru (b :: l.drop (at_ + 1)) = .error 121 := by unfold ltru; simp only [if_pos h1]
      rw [e]
      exact reftru_big a c at_ l b w hB hb h1
    · have e : ltru (b :: l.drop (at_ + 1)) = .ok (b.toNat == 1, l.drop (at_ + 1)) := by unfold ltru; simp only [if_neg h1]
      rw [e]
      have e2 : atN l at_ (.ok (b.toNat == 1, l.drop (at_ + 1))) = at_ + 1 := by unfold atN; simp; omega
      rw [e2]
      exact reftru_ok a c at_ l b w hB hsm hb h1
  · have hd : l.drop at_ = [] := List.drop_of_length_le (by omega)
    rw [hd]
    exact reftru_end a _ c at_ w (by omega)
theorem refraw_any (a : Option Addr) (c at_ bl : Nat) (l : List UInt8) (hbl : bl = l.length) (g : Int) (w : World) (hB : Bytes w (.slice a bl c) l) (hat : at_ ≤ l.length) (hsm : l.length ≤ 10000000000) :
    Calls Try.prog 59 #[.agg #[.slice a bl c, .int .i64 at_, .int .i64 0], .int .i64 g] w fun e w' => (∃ ya yl yc, e = .returned (.tuple #[.agg #[.slice a bl c, .int .i64 ((atN l at_ (bnd g (lraw g.toNat (l.drop at_))) : Nat) : Int), .int .i64 ((vec (bnd g (lraw g.toNat (l.drop at_))) : Nat) : Int)], .slice ya yl yc, .int .i64 ((vec (bnd g (lraw g.toNat (l.drop at_))) : Nat) : Int)]) ∧ Bytes w' (.slice ya yl yc) (vd (bnd g (lraw g.toNat (l.drop at_))))) ∧ Below w.heap.size w w' := by
  have h0 : 0 < w.heap.size := by obtain ⟨_, _, _, _, _, _, _, _, h⟩ := hB; omega
  by_cases hg : g < 0
  · have e : bnd g (lraw g.toNat (l.drop at_)) = .error 2 := by unfold bnd; rw [if_pos hg]
    rw [e]
    exact (refraw_neg a bl c at_ g hg w).mono fun e w' ⟨h1, h2⟩ => ⟨⟨none, 0, 0, h1, bytes_nil _ (Nat.lt_of_lt_of_le h0 h2.size)⟩, h2⟩
  · obtain ⟨n, rfl⟩ := Int.eq_ofNat_of_zero_le (by omega : 0 ≤ g)
    have e : bnd (n : Int) (lraw (n : Int).toNat (l.drop at_)) = lraw n (l.drop at_) := by unfold bnd; rw [if_neg hg, Int.toNat_natCast]
    rw [e]
    by_cases hl : (l.drop at_).length < n
    · have e2 : lraw n (l.drop at_) = .error 120 := by unfold lraw; rw [if_pos hl]
      rw [e2]
      rw [List.length_drop] at hl
      exact (refraw_end a bl c at_ n hg w (by omega) (by omega) (by omega)).mono fun e w' ⟨h1, h2⟩ => ⟨⟨none, 0, 0, h1, bytes_nil _ (Nat.lt_of_lt_of_le h0 h2.size)⟩, h2⟩
    · have e2 : lraw n (l.drop at_) = .ok ((l.drop at_).take n, (l.drop at_).drop n) := by unfold lraw; rw [if_neg hl]
      have e3 : atN l at_ (lraw n (l.drop at_)) = at_ + n := by rw [e2]; rw [List.length_drop] at hl; unfold atN; simp; omega
      rw [e3, e2]
      rw [List.length_drop] at hl
      exact refraw_ok a c at_ bl n l w (by omega) (by omega) hbl hB
end Go.Proofs.Ytgoflpfafkmmgaa
/- Numbers go there and back: plain mathematics. -/
namespace Go.Proofs.Ytgoflpfafkmmgaa
open Go.RowKit

theorem scan_numL (x : List UInt8) : ∀ (f m i acc : Nat), i + f = 9 → m < 2 ^ (7 * f) → (i = 0 ∨ m ≠ 0) → 0 < f → scan i acc (numL m ++ x) = .ok (acc + m * 2 ^ (7 * i), i + (numL m).length)
  | 0, _, _, _, _, _, _, h => by omega
  | f + 1, m, i, acc, hf, hm, hz, _ => by
    by_cases h : m < 128
    · rw [numL_lo m h, List.singleton_append]
      have e : (UInt8.ofNat m).toNat = m := by rw [UInt8.toNat_ofNat']; omega
      rw [scan_ok i acc (UInt8.ofNat m) x (by omega) (by rw [e]; omega), e]
      simp
    · rw [numL_hi m h, List.cons_append]
      have e : (UInt8.ofNat (m % 128 + 128)).toNat = m % 128 + 128 := by rw [UInt8.toNat_ofNat']; omega
      have hf0 : 0 < f := by
        cases f with
        | zero => omega
        | succ f => omega
      rw [scan_go i acc _ _ (by omega) (by omega), scan_numL x f (m / 128) (i + 1) _ (by omega) (by rw [pow7] at hm; omega) (.inr (by omega)) hf0, e]
      have e2 : acc + (m % 128 + 128 - 128) * 2 ^ (7 * i) + m / 128 * 2 ^ (7 * (i + 1)) = acc + m * 2 ^ (7 * i) := by
        rw [pow7]
        generalize 2 ^ (7 * i) = P
        have e3 : m / 128 * (P * 128) = (m / 128 * 128) * P := by rw [Nat.mul_comm P 128, Nat.mul_assoc]
        have e4 : m * P = (m / 128 * 128 + m % 128) * P := by rw [Nat.div_add_mod']
        rw [e3, e4, Nat.add_mul, Nat.add_sub_cancel]
        generalize m / 128 * 128 * P = A
        generalize m % 128 * P = B
        omega
      rw [e2]
      simp; omega
theorem scan_num (x : List UInt8) (m : Nat) (h : m < 9223372036854775808) : scan 0 0 (numL m ++ x) = .ok (m, (numL m).length) := by
  rw [scan_numL x 9 m 0 0 rfl (by omega) (.inl rfl) (by omega)]; simp
theorem unf_fold (n : Int) (h : inS n = true) : unf (foldN n) = n := by
  have hb : -4611686018427387904 ≤ n ∧ n ≤ 4611686018427387903 := by unfold inS at h; simpa using h
  unfold unf foldN
  by_cases h0 : n < 0
  · rw [if_pos h0, if_pos (by omega)]; omega
  · rw [if_neg h0, if_neg (by omega)]; omega
theorem lsig_num (x : List UInt8) (n : Int) (h : inS n = true) : lsig (numL (foldN n) ++ x) = .ok (n, x) := by
  unfold lsig
  rw [scan_num x (foldN n) (foldN_lt n h)]
  simp [unf_fold n h]
end Go.Proofs.Ytgoflpfafkmmgaa
/- What is read is laid as the same bytes: plain mathematics. -/
namespace Go.Proofs.Ytgoflpfafkmmgaa
open Go.RowKit

theorem u8_of_toNat (b : UInt8) (m : Nat) (h : m = b.toNat) : UInt8.ofNat m = b := by subst h; simp
theorem scan_back : ∀ (l : List UInt8) (i acc n k : Nat), scan i acc l = .ok (n, k) → i ≤ 8 → ∃ m, n = acc + m * 2 ^ (7 * i) ∧ i < k ∧ l = numL m ++ l.drop (k - i) ∧ (i = 0 ∨ m ≠ 0)
  | [], _, _, _, _, h, _ => by cases h
  | b :: l, i, acc, n, k, h, hi => by
    have hb := b.toNat_lt
    by_cases h1 : 128 ≤ b.toNat
    · by_cases h2 : i = 8
      · rw [scan_end i acc b l h1 h2] at h; cases h
      · rw [scan_go i acc b l h1 h2] at h
        obtain ⟨m, e1, e2, e3, e4⟩ := scan_back l (i + 1) _ n k h (by omega)
        have hm : m ≠ 0 := by omega
        refine ⟨b.toNat - 128 + 128 * m, ?_, by omega, ?_, .inr (by omega)⟩
        · rw [e1, pow7]
          generalize 2 ^ (7 * i) = P
          have q1 : (b.toNat - 128 + 128 * m) * P = (b.toNat - 128) * P + m * (P * 128) := by
            rw [Nat.add_mul, Nat.mul_comm P 128, ← Nat.mul_assoc m 128 P, Nat.mul_comm m 128]
          rw [q1, Nat.add_assoc]
        · rw [numL_hi _ (by omega), List.cons_append, show (b.toNat - 128 + 128 * m) % 128 + 128 = b.toNat by omega, u8_of_toNat b b.toNat rfl, show (b.toNat - 128 + 128 * m) / 128 = m by omega]
          obtain ⟨q, hq⟩ : ∃ q, k - i = q + 1 := ⟨k - i - 1, by omega⟩
          rw [hq, List.drop_succ_cons]
          have hq2 : k - (i + 1) = q := by omega
          rw [hq2] at e3
          rw [← e3]
    · by_cases h2 : b.toNat = 0 ∧ 0 < i
      · rw [scan_zero i acc b l h2.1 h2.2] at h; cases h
      · rw [scan_ok i acc b l h1 h2] at h
        simp only [Except.ok.injEq, Prod.mk.injEq] at h
        obtain ⟨rfl, rfl⟩ := h
        refine ⟨b.toNat, rfl, by omega, ?_, by omega⟩
        rw [numL_lo _ (by omega), u8_of_toNat b b.toNat rfl, show i + 1 - i = 1 by omega]
        rfl
theorem scan_same {l : List UInt8} {n k : Nat} (h : scan 0 0 l = .ok (n, k)) : l = numL n ++ l.drop k := by
  obtain ⟨m, e1, _, e3, _⟩ := scan_back l 0 0 n k h (by omega)
  simp at e1
  subst e1
  simpa using e3
theorem lnum_same {most : Int} {l rest : List UInt8} {n : Nat} (h : lnum most l = .ok (n, rest)) : l = numL n ++ rest ∧ n < 9223372036854775808 := by
  unfold lnum at h
  split at h
  · cases h
  · rename_i n0 k0 hs
    split at h
    · cases h
    · simp only [Except.ok.injEq, Prod.mk.injEq] at h
      obtain ⟨rfl, rfl⟩ := h
      exact ⟨scan_same hs, (scan_lt hs).1⟩
theorem fold_unf (n : Nat) (h : n < 9223372036854775808) : inS (unf n) = true ∧ foldN (unf n) = n := by
  unfold inS unf foldN
  by_cases h1 : n % 2 = 1
  · rw [if_pos h1]
    refine ⟨by simp; omega, ?_⟩
    rw [if_pos (by omega)]; omega
  · rw [if_neg h1]
    refine ⟨by simp; omega, ?_⟩
    rw [if_neg (by omega)]; omega
theorem lsig_same {l rest : List UInt8} {z : Int} (h : lsig l = .ok (z, rest)) : l = numL (foldN z) ++ rest ∧ inS z = true := by
  unfold lsig at h
  split at h
  · cases h
  · rename_i n0 k0 hs
    simp only [Except.ok.injEq, Prod.mk.injEq] at h
    obtain ⟨rfl, rfl⟩ := h
    obtain ⟨h1, h2⟩ := fold_unf n0 (scan_lt hs).1
    rw [h2]
    exact ⟨scan_same hs, h1⟩
theorem lraw_same {n : Nat} {l d rest : List UInt8} (h : lraw n l = .ok (d, rest)) : l = d ++ rest ∧ d.length = n := by
  unfold lraw at h
  split at h
  · cases h
  · simp only [Except.ok.injEq, Prod.mk.injEq] at h
    obtain ⟨rfl, rfl⟩ := h
    exact ⟨(List.take_append_drop n l).symm, by simp; omega⟩
theorem lbyt_same {most : Int} {l d rest : List UInt8} (h : lbyt most l = .ok (d, rest)) : l = bytL d ++ rest := by
  unfold lbyt at h
  split at h
  · cases h
  · rename_i n0 r0 hs
    obtain ⟨h1, h2⟩ := lraw_same h
    obtain ⟨h3, _⟩ := lnum_same hs
    unfold bytL
    rw [h3, h1, h2, List.append_assoc]
theorem ltru_same {l rest : List UInt8} {b : Bool} (h : ltru l = .ok (b, rest)) : l = [if b then 1 else 0] ++ rest := by
  unfold ltru at h
  split at h
  · cases h
  · rename_i c l'
    split at h
    · cases h
    · rename_i hc
      simp only [Except.ok.injEq, Prod.mk.injEq] at h
      obtain ⟨rfl, rfl⟩ := h
      rw [List.singleton_append]
      congr 1
      have hc' := c.toNat_lt
      by_cases h1 : c.toNat = 1
      · simp [h1]; exact (u8_of_toNat c 1 h1.symm).symm
      · have h0 : c.toNat = 0 := by omega
        simp [h0]; exact (u8_of_toNat c 0 h0.symm).symm
theorem lnum_num (n : Nat) (rest : List UInt8) (h : n < 9223372036854775808) (most : Int) (hm : (n : Int) ≤ most) : lnum most (numL n ++ rest) = .ok (n, rest) := by
  unfold lnum
  rw [scan_num rest n h]
  simp only [if_neg (show ¬ most < (n : Int) by omega), List.drop_left]
theorem lbyt_byt (d rest : List UInt8) (h : d.length < 9223372036854775808) : lbyt (d.length : Int) (bytL d ++ rest) = .ok (d, rest) := by
  unfold lbyt bytL
  rw [List.append_assoc, lnum_num d.length (d ++ rest) h _ (Int.le_refl _)]
  simp only [lraw]
  rw [if_neg (by simp)]
  simp
theorem ltru_tru (b : Bool) (rest : List UInt8) : ltru ([if b then 1 else 0] ++ rest) = .ok (b, rest) := by cases b <;> rfl
end Go.Proofs.Ytgoflpfafkmmgaa
/- Bytes that come in, by a writer's calls. -/
namespace Go.Proofs.Ytgoflpfafkmmgaa
open Go.RowKit

/-- No bytes, or such as lie in no block of S. -/
def InAp (S : Nat → Prop) (w : World) (v : Value) (d : List UInt8) : Prop := (d = [] ∧ ∃ a c, v = .slice a 0 c) ∨ BytesAp S w v d
theorem InAp.slice {S : Nat → Prop} {w : World} {v : Value} {d : List UInt8} (h : InAp S w v d) : ∃ a c, v = .slice a d.length c := by
  rcases h with ⟨rfl, a, c, rfl⟩ | h
  · exact ⟨a, c, rfl⟩
  · exact h.slice
theorem InAp.after {S : Nat → Prop} {w w' : World} {v : Value} {d : List UInt8} (h : InAp S w v d) (k : Below w.heap.size w w') (he : ∃ i, i < w'.heap.size ∧ ¬ S i) : BytesAp S w' v d := by
  rcases h with ⟨rfl, a, c, rfl⟩ | h
  · obtain ⟨i, hi, hn⟩ := he
    exact ⟨a, c, i, 0, rfl, Nat.zero_le _, fun h => absurd rfl h, fun j hj => absurd hj (by simp), hi, hn⟩
  · exact h.fr (S' := fun _ => False) (Fr.of_below k) (fun _ _ h => h.elim)
theorem In.inap {w w' : World} {v : Value} {d : List UInt8} (h : In w v d) (k : Below w.heap.size w w') {S : Nat → Prop} (hS : ∀ i, S i → w.heap.size ≤ i) : InAp S w' v d := by
  rcases h with h | h
  · exact .inl h
  · exact .inr (In.ap (.inr h) k hS (by obtain ⟨_, _, db, _, _, _, _, _, h5⟩ := h; exact ⟨db, Nat.lt_of_lt_of_le h5 k.size, fun e => by have := hS _ e; omega⟩))
theorem New.block {S : Nat → Prop} {w w' : World} {v : Value} {d : List UInt8} (h : New w w' v d) (hd : d ≠ []) (hS : ∀ k, S k → k < w.heap.size) : ∃ i, i < w'.heap.size ∧ ¬ S i := by
  obtain ⟨a, c, db, o, _, _, _, _, h5, h6⟩ := h.ap (S := S) hd hS
  exact ⟨db, h5, h6⟩
set_option maxHeartbeats 400000 in
theorem wbytes_in (p : Nat) (v xv : Value) (bs x : List UInt8) (w : World) (hW : Wr w p v bs) (hx : InAp (WS p v) w xv x) (hsm : x.length ≤ 1000000000) :
    Calls Try.prog 18 #[.pointer (some ⟨p, 0, none⟩), xv] w fun e w' => Laid w w' p v bs (bytL x) e := by
  obtain ⟨xa, xc, hxv⟩ := hx.slice
  have Hx : Hid (InAp (WS p v) w xv x) := hx
  clear hx
  subst hxv
  go_enter Try.func18, Try.ntmps18
  go_wp2_with fail
  refine (numberI_any x.length (by omega) w).mono ?_
  rintro e w1 ⟨u, rfl, hN⟩
  obtain ⟨ua, uc, rfl⟩ := hN.own.slice
  go_wp2_with fail
  have hS : ∀ k, WS p v k → k < w.heap.size := hW.lt
  have hz := hN.below.size
  have hex : ∃ i, i < w1.heap.size ∧ ¬ WS p v i := New.block hN (numL_ne _) hS
  have hW1 : Wr (w1.alloc (.cells #[.slice ua (numL x.length).length uc, .slice xa x.length xc] 27)) p v bs := (hN.wr hW).below ((Below.refl _ _).alloc (Nat.le_refl _) _)
  refine (raw_any p v _ bs [numL x.length, x] _ hW1 (parts2 w1 _ _ (hN.ap (numL_ne _) hS) (Hx.out.after hN.below hex) (fun k hk => Nat.lt_of_lt_of_le (hS k hk) hz)) (two_le x hsm)).mono ?_
  intro e w2 h
  have h' := h.after ((hN.below).alloc hz _)
  clear h
  obtain ⟨r, rfl⟩ := h'.code
  have ef : [numL x.length, x].flatten = bytL x := by simp [bytL]
  rw [ef] at h'
  have H : Hid (Laid w w2 p v bs (bytL x) (.returned (.int .i64 r))) := h'
  clear h'
  go_wp2_with fail
  go_ret
  exact H.out


theorem InAp.below {S : Nat → Prop} {w w' : World} {v : Value} {d : List UInt8} (h : InAp S w v d) (k : Below w.heap.size w w') : InAp S w' v d := by
  rcases h with h | h
  · exact .inl h
  · exact .inr (h.fr (S' := fun _ => False) (Fr.of_below k) (fun _ _ h => h.elim))
theorem InAp.mono {S S' : Nat → Prop} {w : World} {v : Value} {d : List UInt8} (h : InAp S w v d) (hs : ∀ k, k < w.heap.size → S' k → S k) : InAp S' w v d := by
  rcases h with h | h
  · exact .inl h
  · exact .inr (h.mono hs)
theorem Own.inap {S : Nat → Prop} {w : World} {v : Value} {d : List UInt8} (h : Own w v d) (hs : ∀ i, v.ownBlock = some i → ¬ S i) : InAp S w v d := by
  rcases h.2 with ⟨rfl, h0⟩ | ⟨g, cap, cur, rfl, _⟩
  · exact .inl ⟨List.eq_nil_of_length_eq_zero h0, none, 0, rfl⟩
  · exact .inr (h.bytesAp hs (fun e => by cases e))
/-- A reader stands while another block is written. -/
theorem Rd.ex {w w' : World} {r r' : Nat} {lv : Value} {rest : List UInt8} {at_ fl : Nat} (h : Rd w r lv rest at_ fl) (k : Ex r' w w') (hne : r ≠ r') (hi : InAp (· = r') w lv rest) : Rd w' r lv rest at_ fl := by
  refine ⟨h.has.ex k hne, ?_⟩
  rcases hi with ⟨rfl, a0, c0, e0⟩ | hi
  · obtain ⟨a, c, db, o, h1, h2, h3, h4, h5, h6⟩ := h.by_
    exact ⟨a, c, db, o, h1, h2, h3, fun j hj => absurd hj (by simp), Nat.lt_of_lt_of_le h5 k.size, h6⟩
  · obtain ⟨a, c, db, o, h1, h2, h3, h4, h5, h6⟩ := hi
    obtain ⟨a', c', db', o', h1', h2', h3', h4', h5', h6'⟩ := h.by_
    by_cases hr : rest = []
    · subst hr
      exact ⟨a', c', db', o', h1', h2', h3', fun j hj => absurd hj (by simp), Nat.lt_of_lt_of_le h5' k.size, h6'⟩
    · have e1 : (some (⟨db', o', none⟩ : Addr)) = some ⟨db, o, none⟩ := by
        rw [← h3' hr, ← h3 hr]
        rw [h1] at h1'
        simp only [Value.slice.injEq] at h1'
        exact h1'.1.symm
      simp only [Option.some.injEq, Addr.mk.injEq] at e1
      obtain ⟨rfl, rfl, _⟩ := e1
      exact ⟨a', c', db', o', h1', h2', h3', fun j hj => (World.cell?_of_block (w := w) (k.block db' h5' h6)).trans (h4' j hj), Nat.lt_of_lt_of_le h5' k.size, h6'⟩
set_option maxHeartbeats 1000000 in
theorem readx_any (xv : Value) (x : List UInt8) (w : World) (hx : Bytes w xv x) (hsm : x.length ≤ 10000000000) :
    Calls Try.prog 22 #[xv] w fun e w' => ∃ g lv, e = .returned (.pointer (some ⟨g, 0, none⟩)) ∧ w.heap.size ≤ g ∧ Rd w' g lv x 0 0 ∧ Below w.heap.size w w' ∧ InAp (fun k => k < w.heap.size ∨ k = g) w' lv x := by
  have HX : Hid (Bytes w xv x) := hx
  obtain ⟨xa, xc, xb, xo, rfl, _⟩ := hx
  go_enter Try.func22, Try.ntmps22
  go_wp2_with (refine wpList_append_bytes _ rfl _ _ 80 27 rfl info5 Try.underlying80 Try.underlying27 (.slice none 0 0) _ [] x rfl rfl (Own.nil w) HX.out (by simp; omega) ?_; intro v2 w2 hown2 hgr hloc hnil; clear hnil; rw [List.nil_append] at hown2; obtain ⟨a3, c3, hv2⟩ := hown2.slice; subst hv2)
  go_ret
  have hB : Below w.heap.size w w2 := ⟨hgr.os, hgr.tape, hgr.output, hgr.size, fun k hk => hgr.block k hk (by simp [Value.ownBlock])⟩
  have hz := hB.size
  refine ⟨w2.heap.size, _, rfl, hz, ⟨has_new _ _ _ _ rfl, hown2.apNew _ (by omega)⟩, hB.alloc hz _, Own.inap (own_alloc hown2 _) (fun i hi => ?_)⟩
  have h1 := hown2.lt' hi
  rcases hloc i hi with h | h
  · cases h
  · omega
/-- No byte lies in a reader's block. -/
theorem Bytes.notReader {w : World} {v : Value} {d : List UInt8} (h : Bytes w v d) {q : Nat} {lv : Value} {rest : List UInt8} {at_ fl : Nat} (hq : Rd w q lv rest at_ fl) : InAp (· = q) w v d := by
  obtain ⟨a, c, db, o, h1, h2, h3, h4, h5⟩ := h
  by_cases hd : d = []
  · subst hd
    exact .inl ⟨rfl, a, c, h1⟩
  · refine .inr ⟨a, c, db, o, h1, h2, h3, h4, h5, ?_⟩
    rintro rfl
    have hlen : 0 < d.length := List.length_pos_iff.2 hd
    have hc := h4 0 hlen
    rw [Nat.add_zero, hq.has.cell o] at hc
    obtain ⟨la, lc, hl⟩ := hq.by_.slice
    subst hl
    have ho : o < 4 := by
      have := (Array.getElem?_eq_some_iff.1 hc).1
      simpa using this
    obtain rfl | rfl | rfl | rfl : o = 0 ∨ o = 1 ∨ o = 2 ∨ o = 3 := by omega
    all_goals simp [bc] at hc
theorem InAp.ex {w w' : World} {v : Value} {d : List UInt8} {q : Nat} (h : InAp (· = q) w v d) (k : Ex q w w') (h0 : 0 < w'.heap.size) : Bytes w' v d := by
  rcases h with ⟨rfl, a, c, rfl⟩ | h
  · exact ⟨a, c, 0, 0, rfl, Nat.zero_le _, fun h => absurd rfl h, fun j hj => absurd hj (by simp), h0⟩
  · exact (h.fr (Fr.of_ex k) (fun i _ e => e)).bytes
theorem RAnsB.all {w w' : World} {r : Nat} {lv : Value} {l : List UInt8} {x : Except Nat (List UInt8 × List UInt8)} {e : Ending} (h : RAnsB w w' r lv l 0 x e) :
    ∃ v, e = .returned (.tuple #[v, .int .i64 (vec x)]) ∧ Own w' v (vd x) ∧ (∀ k, v.ownBlock = some k → w.heap.size ≤ k) ∧ (∃ lv' rest' fl, Rd w' r lv' rest' (atN l 0 x) fl) ∧ Ex r w w' := by
  cases x with
  | error ec => exact ⟨_, h.1, Own.nil _, (fun k hk => by cases hk), ⟨lv, l, ec, h.2.1⟩, h.2.2⟩
  | ok p =>
    obtain ⟨d, rest'⟩ := p
    obtain ⟨v, h1, ⟨lv', h2, h3⟩, h4, h5⟩ := h
    exact ⟨v, h1, h4, h5, ⟨lv', rest', 0, by rw [Nat.zero_add] at h2; exact h2⟩, h3⟩
theorem RAns.text {w w' : World} {r : Nat} {lv : Value} {l : List UInt8} {x : Except Nat (List UInt8 × List UInt8)} {e : Ending} (h : RAns (.string ⟨#[]⟩) w w' r lv l 0 (vS x) e) :
    e = .returned (.tuple #[.string ⟨(vd x).toArray⟩, .int .i64 (vec x)]) ∧ (∃ lv' rest' fl, Rd w' r lv' rest' (atN l 0 x) fl) ∧ Ex r w w' := by
  cases x with
  | error ec => exact ⟨h.1, ⟨lv, l, ec, h.2.1⟩, h.2.2⟩
  | ok p =>
    obtain ⟨d, rest'⟩ := p
    obtain ⟨h1, lv', h2, h3⟩ := h
    exact ⟨h1, ⟨lv', rest', 0, by rw [Nat.zero_add] at h2; exact h2⟩, h3⟩
end Go.Proofs.Ytgoflpfafkmmgaa
/- Readers in one form, with the flaw that stays. -/
namespace Go.Proofs.Ytgoflpfafkmmgaa
open Go.RowKit

/-- A flaw that stays. -/
def res {α : Type} (fl : Nat) (x : Except Nat α) : Except Nat α := if fl = 0 then x else .error fl
theorem res_zero {α : Type} (x : Except Nat α) : res 0 x = x := rfl
theorem res_flaw {α : Type} {fl : Nat} (h : fl ≠ 0) (x : Except Nat α) : res fl x = .error fl := if_neg h
/-- A reader stands at a place of the bytes. -/
def St (w : World) (r : Nat) (l : List UInt8) (at_ fl : Nat) : Prop := (∃ lv, Rd w r lv (l.drop at_) at_ fl) ∧ at_ ≤ l.length
theorem St.below {w w' : World} {r at_ fl : Nat} {l : List UInt8} (h : St w r l at_ fl) (k : Below w.heap.size w w') : St w' r l at_ fl := ⟨h.1.imp fun _ h => h.below k, h.2⟩
theorem St.lt {w : World} {r at_ fl : Nat} {l : List UInt8} (h : St w r l at_ fl) : r < w.heap.size := h.1.elim fun _ h => h.lt
theorem suf {l out rest : List UInt8} {at_ : Nat} (hat : at_ ≤ l.length) (h : l.drop at_ = out ++ rest) : rest = l.drop (l.length - rest.length) ∧ at_ + ((l.drop at_).length - rest.length) = l.length - rest.length := by
  have hl := congrArg List.length h
  rw [List.length_drop, List.length_append] at hl
  refine ⟨?_, by rw [List.length_drop]; omega⟩
  have e : l.length - rest.length = at_ + out.length := by omega
  rw [e, ← List.drop_drop, h, List.drop_left]
theorem Flaws.st {w w' : World} {r at_ ec : Nat} {lv : Value} {l : List UInt8} (hat : at_ ≤ l.length) (h : Flaws w w' r lv (l.drop at_) at_ ec) : St w' r l at_ ec ∧ Ex r w w' := ⟨⟨⟨lv, h.1⟩, hat⟩, h.2⟩
theorem Took.st {w w' : World} {r at_ : Nat} {l out rest : List UInt8} (hat : at_ ≤ l.length) (hs : l.drop at_ = out ++ rest) (h : Took w w' r rest (at_ + ((l.drop at_).length - rest.length))) : St w' r l (l.length - rest.length) 0 ∧ Ex r w w' := by
  obtain ⟨lv', h1, h2⟩ := h
  obtain ⟨e1, e2⟩ := suf hat hs
  rw [e2] at h1
  refine ⟨⟨⟨lv', ?_⟩, by omega⟩, h2⟩
  rw [← e1]
  exact h1
theorem pnum (r : Nat) (l : List UInt8) (at_ fl : Nat) (g : Int) (w : World) (hS : St w r l at_ fl) (hsm : l.length ≤ 10000000000) :
    Calls Try.prog 23 #[.pointer (some ⟨r, 0, none⟩), .int .i64 g] w fun e w' => e = .returned (.tuple #[.int .i64 (vmv (res fl (bnd g (lnum g (l.drop at_))))), .int .i64 ((vec (res fl (bnd g (lnum g (l.drop at_)))) : Nat) : Int)]) ∧ St w' r l (atN l at_ (res fl (bnd g (lnum g (l.drop at_))))) (vec (res fl (bnd g (lnum g (l.drop at_))))) ∧ Ex r w w' := by
  obtain ⟨⟨lv, hR⟩, hat⟩ := hS
  by_cases hfl : fl = 0
  · subst hfl
    rw [res_zero]
    refine (rnumber_any r lv _ at_ g w hR (by rw [List.length_drop]; omega)).mono ?_
    intro e w' hl
    cases hX : bnd g (lnum g (l.drop at_)) with
    | error ec =>
      rw [hX] at hl
      exact ⟨hl.1, Flaws.st hat hl.2⟩
    | ok q =>
      obtain ⟨m, rest⟩ := q
      have hs := (lnum_same (bnd_ok hX)).1
      rw [hX] at hl
      exact ⟨hl.1, Took.st hat hs hl.2⟩
  · rw [res_flaw hfl]
    exact (rnumber_flaw r lv _ at_ fl g w hR hfl).mono fun e w' ⟨h1, h2⟩ => ⟨h1, ⟨⟨lv, hR.below h2⟩, hat⟩, Ex.below h2⟩
theorem psig (r : Nat) (l : List UInt8) (at_ fl : Nat) (w : World) (hS : St w r l at_ fl) (hsm : l.length ≤ 10000000000) :
    Calls Try.prog 27 #[.pointer (some ⟨r, 0, none⟩)] w fun e w' => e = .returned (.tuple #[.int .i64 (vsg (res fl (lsig (l.drop at_)))), .int .i64 ((vec (res fl (lsig (l.drop at_))) : Nat) : Int)]) ∧ St w' r l (atN l at_ (res fl (lsig (l.drop at_)))) (vec (res fl (lsig (l.drop at_)))) ∧ Ex r w w' := by
  obtain ⟨⟨lv, hR⟩, hat⟩ := hS
  by_cases hfl : fl = 0
  · subst hfl
    rw [res_zero]
    refine (rsigned_any r lv _ at_ w hR (by rw [List.length_drop]; omega)).mono ?_
    intro e w' hl
    cases hX : lsig (l.drop at_) with
    | error ec =>
      rw [hX] at hl
      exact ⟨hl.1, Flaws.st hat hl.2⟩
    | ok q =>
      obtain ⟨m, rest⟩ := q
      have hs := (lsig_same hX).1
      rw [hX] at hl
      exact ⟨hl.1, Took.st hat hs hl.2⟩
  · rw [res_flaw hfl]
    exact (rsigned_flaw r lv _ at_ fl w hR hfl).mono fun e w' ⟨h1, h2⟩ => ⟨h1, ⟨⟨lv, hR.below h2⟩, hat⟩, Ex.below h2⟩
theorem ptru (r : Nat) (l : List UInt8) (at_ fl : Nat) (w : World) (hS : St w r l at_ fl) (hsm : l.length ≤ 10000000000) :
    Calls Try.prog 38 #[.pointer (some ⟨r, 0, none⟩)] w fun e w' => e = .returned (.tuple #[.bool (vtr (res fl (ltru (l.drop at_)))), .int .i64 ((vec (res fl (ltru (l.drop at_))) : Nat) : Int)]) ∧ St w' r l (atN l at_ (res fl (ltru (l.drop at_)))) (vec (res fl (ltru (l.drop at_)))) ∧ Ex r w w' := by
  obtain ⟨⟨lv, hR⟩, hat⟩ := hS
  by_cases hfl : fl = 0
  · subst hfl
    rw [res_zero]
    refine (rtruth_any r lv _ at_ w hR (by rw [List.length_drop]; omega)).mono ?_
    intro e w' hl
    cases hX : ltru (l.drop at_) with
    | error ec =>
      rw [hX] at hl
      exact ⟨hl.1, Flaws.st hat hl.2⟩
    | ok q =>
      obtain ⟨m, rest⟩ := q
      have hs := ltru_same hX
      rw [hX] at hl
      exact ⟨hl.1, Took.st hat hs hl.2⟩
  · rw [res_flaw hfl]
    exact (rtruth_flaw r lv _ at_ fl w hR hfl).mono fun e w' ⟨h1, h2⟩ => ⟨h1, ⟨⟨lv, hR.below h2⟩, hat⟩, Ex.below h2⟩
theorem ptxt (r : Nat) (l : List UInt8) (at_ fl : Nat) (g : Int) (w : World) (hS : St w r l at_ fl) (hsm : l.length ≤ 10000000000) :
    Calls Try.prog 31 #[.pointer (some ⟨r, 0, none⟩), .int .i64 g] w fun e w' => e = .returned (.tuple #[.string ⟨(vd (res fl (bnd g (lbyt g (l.drop at_))))).toArray⟩, .int .i64 ((vec (res fl (bnd g (lbyt g (l.drop at_)))) : Nat) : Int)]) ∧ St w' r l (atN l at_ (res fl (bnd g (lbyt g (l.drop at_))))) (vec (res fl (bnd g (lbyt g (l.drop at_))))) ∧ Ex r w w' := by
  obtain ⟨⟨lv, hR⟩, hat⟩ := hS
  by_cases hfl : fl = 0
  · subst hfl
    rw [res_zero]
    refine (rtext_any r lv _ at_ g w hR (by rw [List.length_drop]; omega)).mono ?_
    intro e w' hl
    cases hX : bnd g (lbyt g (l.drop at_)) with
    | error ec =>
      rw [hX] at hl
      exact ⟨hl.1, Flaws.st hat hl.2⟩
    | ok q =>
      obtain ⟨m, rest⟩ := q
      have hs := lbyt_same (bnd_ok hX)
      rw [hX] at hl
      exact ⟨hl.1, Took.st hat hs hl.2⟩
  · rw [res_flaw hfl]
    exact (rtext_flaw r lv _ at_ fl g w hR hfl).mono fun e w' ⟨h1, h2⟩ => ⟨h1, ⟨⟨lv, hR.below h2⟩, hat⟩, Ex.below h2⟩
theorem pbyt (r : Nat) (l : List UInt8) (at_ fl : Nat) (g : Int) (w : World) (hS : St w r l at_ fl) (hsm : l.length ≤ 10000000000) :
    Calls Try.prog 30 #[.pointer (some ⟨r, 0, none⟩), .int .i64 g] w fun e w' => ∃ v, e = .returned (.tuple #[v, .int .i64 ((vec (res fl (bnd g (lbyt g (l.drop at_)))) : Nat) : Int)]) ∧ Own w' v (vd (res fl (bnd g (lbyt g (l.drop at_))))) ∧ (∀ k, v.ownBlock = some k → w.heap.size ≤ k) ∧ St w' r l (atN l at_ (res fl (bnd g (lbyt g (l.drop at_))))) (vec (res fl (bnd g (lbyt g (l.drop at_))))) ∧ Ex r w w' := by
  obtain ⟨⟨lv, hR⟩, hat⟩ := hS
  by_cases hfl : fl = 0
  · subst hfl
    rw [res_zero]
    refine (rbytes_any r lv _ at_ g w hR (by rw [List.length_drop]; omega)).mono ?_
    intro e w' hl
    cases hX : bnd g (lbyt g (l.drop at_)) with
    | error ec =>
      rw [hX] at hl
      exact ⟨_, hl.1, Own.nil _, (fun k hk => by cases hk), Flaws.st hat hl.2⟩
    | ok q =>
      obtain ⟨m, rest⟩ := q
      have hs := lbyt_same (bnd_ok hX)
      rw [hX] at hl
      obtain ⟨v, h1, h2, h3, h4⟩ := hl
      exact ⟨v, h1, h3, h4, Took.st hat hs h2⟩
  · rw [res_flaw hfl]
    exact (rbytes_flaw r lv _ at_ fl g w hR hfl).mono fun e w' ⟨h1, h2⟩ => ⟨_, h1, Own.nil _, (fun k hk => by cases hk), ⟨⟨lv, hR.below h2⟩, hat⟩, Ex.below h2⟩
theorem praw (r : Nat) (l : List UInt8) (at_ fl : Nat) (g : Int) (w : World) (hS : St w r l at_ fl) (hsm : l.length ≤ 10000000000) :
    Calls Try.prog 60 #[.pointer (some ⟨r, 0, none⟩), .int .i64 g] w fun e w' => ∃ v, e = .returned (.tuple #[v, .int .i64 ((vec (res fl (bnd g (lraw g.toNat (l.drop at_)))) : Nat) : Int)]) ∧ Own w' v (vd (res fl (bnd g (lraw g.toNat (l.drop at_))))) ∧ (∀ k, v.ownBlock = some k → w.heap.size ≤ k) ∧ St w' r l (atN l at_ (res fl (bnd g (lraw g.toNat (l.drop at_))))) (vec (res fl (bnd g (lraw g.toNat (l.drop at_))))) ∧ Ex r w w' := by
  obtain ⟨⟨lv, hR⟩, hat⟩ := hS
  by_cases hfl : fl = 0
  · subst hfl
    rw [res_zero]
    refine (rraw_any r lv _ at_ g w hR (by rw [List.length_drop]; omega)).mono ?_
    intro e w' hl
    cases hX : bnd g (lraw g.toNat (l.drop at_)) with
    | error ec =>
      rw [hX] at hl
      exact ⟨_, hl.1, Own.nil _, (fun k hk => by cases hk), Flaws.st hat hl.2⟩
    | ok q =>
      obtain ⟨m, rest⟩ := q
      have hs := (lraw_same (bnd_ok hX)).1
      rw [hX] at hl
      obtain ⟨v, h1, h2, h3, h4⟩ := hl
      exact ⟨v, h1, h3, h4, Took.st hat hs h2⟩
  · rw [res_flaw hfl]
    exact (rraw_flaw r lv _ at_ fl g w hR hfl).mono fun e w' ⟨h1, h2⟩ => ⟨_, h1, Own.nil _, (fun k hk => by cases hk), ⟨⟨lv, hR.below h2⟩, hat⟩, Ex.below h2⟩
theorem qnum (a : Option Addr) (c at_ fl bl : Nat) (l : List UInt8) (hbl : bl = l.length) (g : Int) (w : World) (hB : Bytes w (.slice a bl c) l) (hat : at_ ≤ l.length) (hsm : l.length ≤ 10000000000) :
    Calls Try.prog 24 #[.agg #[.slice a bl c, .int .i64 at_, .int .i64 fl], .int .i64 g] w fun e w' => e = .returned (.tuple #[.agg #[.slice a bl c, .int .i64 ((atN l at_ (res fl (bnd g (lnum g (l.drop at_)))) : Nat) : Int), .int .i64 ((vec (res fl (bnd g (lnum g (l.drop at_)))) : Nat) : Int)], .int .i64 (vmv (res fl (bnd g (lnum g (l.drop at_))))), .int .i64 ((vec (res fl (bnd g (lnum g (l.drop at_)))) : Nat) : Int)]) ∧ Below w.heap.size w w' := by
  by_cases hfl : fl = 0
  · subst hfl
    rw [res_zero]
    exact refnum_any' a c at_ bl l hbl g w hB hat hsm
  · rw [res_flaw hfl]
    exact refnum_flaw a bl c at_ fl g w hfl
theorem qsig (a : Option Addr) (c at_ fl bl : Nat) (l : List UInt8) (hbl : bl = l.length) (w : World) (hB : Bytes w (.slice a bl c) l) (hat : at_ ≤ l.length) (hsm : l.length ≤ 10000000000) :
    Calls Try.prog 57 #[.agg #[.slice a bl c, .int .i64 at_, .int .i64 fl]] w fun e w' => e = .returned (.tuple #[.agg #[.slice a bl c, .int .i64 ((atN l at_ (res fl (lsig (l.drop at_))) : Nat) : Int), .int .i64 ((vec (res fl (lsig (l.drop at_))) : Nat) : Int)], .int .i64 (vsg (res fl (lsig (l.drop at_)))), .int .i64 ((vec (res fl (lsig (l.drop at_))) : Nat) : Int)]) ∧ Below w.heap.size w w' := by
  by_cases hfl : fl = 0
  · subst hfl
    rw [res_zero]
    exact refsig_any a c at_ bl l hbl w hB hat hsm
  · rw [res_flaw hfl]
    exact (refsig_numerr a c at_ bl fl fl w hfl (fun W _ => refnum_flaw a bl c at_ fl _ W hfl))
theorem qtru (a : Option Addr) (c at_ fl bl : Nat) (l : List UInt8) (hbl : bl = l.length) (w : World) (hB : Bytes w (.slice a bl c) l) (hat : at_ ≤ l.length) (hsm : l.length ≤ 10000000000) :
    Calls Try.prog 58 #[.agg #[.slice a bl c, .int .i64 at_, .int .i64 fl]] w fun e w' => e = .returned (.tuple #[.agg #[.slice a bl c, .int .i64 ((atN l at_ (res fl (ltru (l.drop at_))) : Nat) : Int), .int .i64 ((vec (res fl (ltru (l.drop at_))) : Nat) : Int)], .bool (vtr (res fl (ltru (l.drop at_)))), .int .i64 ((vec (res fl (ltru (l.drop at_))) : Nat) : Int)]) ∧ Below w.heap.size w w' := by
  by_cases hfl : fl = 0
  · subst hfl
    rw [res_zero]
    exact reftru_any a c at_ bl l hbl w hB hat hsm
  · rw [res_flaw hfl]
    exact reftru_flaw a bl c at_ fl w hfl
theorem qbyt (a : Option Addr) (c at_ fl bl : Nat) (l : List UInt8) (hbl : bl = l.length) (g : Int) (w : World) (hB : Bytes w (.slice a bl c) l) (hat : at_ ≤ l.length) (hsm : l.length ≤ 10000000000) :
    Calls Try.prog 29 #[.agg #[.slice a bl c, .int .i64 at_, .int .i64 fl], .int .i64 g] w fun e w' => (∃ ya yl yc, e = .returned (.tuple #[.agg #[.slice a bl c, .int .i64 ((atN l at_ (res fl (bnd g (lbyt g (l.drop at_)))) : Nat) : Int), .int .i64 ((vec (res fl (bnd g (lbyt g (l.drop at_)))) : Nat) : Int)], .slice ya yl yc, .int .i64 ((vec (res fl (bnd g (lbyt g (l.drop at_)))) : Nat) : Int)]) ∧ Bytes w' (.slice ya yl yc) (vd (res fl (bnd g (lbyt g (l.drop at_)))))) ∧ Below w.heap.size w w' := by
  have h0 : 0 < w.heap.size := by obtain ⟨_, _, _, _, _, _, _, _, h⟩ := hB; omega
  by_cases hfl : fl = 0
  · subst hfl
    rw [res_zero]
    exact refbyt_any a c at_ bl l hbl g w hB hat hsm
  · rw [res_flaw hfl]
    exact (refbyt_numerr a c at_ bl fl fl g w hfl (fun W _ => refnum_flaw a bl c at_ fl g W hfl)).mono fun e w' ⟨h1, h2⟩ => ⟨⟨none, 0, 0, h1, bytes_nil _ (Nat.lt_of_lt_of_le h0 h2.size)⟩, h2⟩
theorem qraw (a : Option Addr) (c at_ fl bl : Nat) (l : List UInt8) (hbl : bl = l.length) (g : Int) (w : World) (hB : Bytes w (.slice a bl c) l) (hat : at_ ≤ l.length) (hsm : l.length ≤ 10000000000) :
    Calls Try.prog 59 #[.agg #[.slice a bl c, .int .i64 at_, .int .i64 fl], .int .i64 g] w fun e w' => (∃ ya yl yc, e = .returned (.tuple #[.agg #[.slice a bl c, .int .i64 ((atN l at_ (res fl (bnd g (lraw g.toNat (l.drop at_)))) : Nat) : Int), .int .i64 ((vec (res fl (bnd g (lraw g.toNat (l.drop at_)))) : Nat) : Int)], .slice ya yl yc, .int .i64 ((vec (res fl (bnd g (lraw g.toNat (l.drop at_)))) : Nat) : Int)]) ∧ Bytes w' (.slice ya yl yc) (vd (res fl (bnd g (lraw g.toNat (l.drop at_)))))) ∧ Below w.heap.size w w' := by
  have h0 : 0 < w.heap.size := by obtain ⟨_, _, _, _, _, _, _, _, h⟩ := hB; omega
  by_cases hfl : fl = 0
  · subst hfl
    rw [res_zero]
    exact refraw_any a c at_ bl l hbl g w hB hat hsm
  · rw [res_flaw hfl]
    exact (refraw_flaw a bl c at_ fl g w hfl).mono fun e w' ⟨h1, h2⟩ => ⟨⟨none, 0, 0, h1, bytes_nil _ (Nat.lt_of_lt_of_le h0 h2.size)⟩, h2⟩
end Go.Proofs.Ytgoflpfafkmmgaa
