/- A region that draws its order and writes nothing that was there: each operation is shown once, from what is known of the operations that it waits for; what is known stays known as memory grows. So in every order all of it holds at the end. -/
import Derived.Test.YtcmkjgodgocdfaaDoorR2
namespace Go.Proofs.YtcmkjgodgocdfaaDoor
open Go.RowKit
variable {P : Program}

/-- Below N nothing has turned; no cell that was there has turned, and no row is of another make. -/
structure Le (N : Nat) (w w' : World) : Prop where
  below : Below N w w'
  cells : ∀ a : Addr, a.block < w.heap.size → w'.cell? a = w.cell? a
  shape : ∀ k, k < w.heap.size → w'.shape? k = w.shape? k
theorem Le.refl (N : Nat) (w : World) : Le N w w := ⟨Below.refl _ _, fun _ _ => rfl, fun _ _ => rfl⟩
theorem Le.trans {N : Nat} {x y z : World} (h : Le N x y) (k : Le N y z) : Le N x z :=
  ⟨h.below.trans k.below, fun a ha => (k.cells a (Nat.lt_of_lt_of_le ha h.below.size)).trans (h.cells a ha), fun a ha => (k.shape a (Nat.lt_of_lt_of_le ha h.below.size)).trans (h.shape a ha)⟩
theorem Le.drew (N : Nat) (w : World) : Le N w w.drew := ⟨(Below.refl _ _).drew, fun _ _ => rfl, fun _ _ => rfl⟩
theorem Le.drewN (N : Nat) (w : World) (k : Nat) : Le N w (w.drewN k) := ⟨⟨rfl, rfl, rfl, Nat.le_refl _, fun _ _ => rfl⟩, fun _ _ => rfl, fun _ _ => rfl⟩
theorem Le.of {N : Nat} {w w' : World} (h : Below w.heap.size w w') (hN : N ≤ w.heap.size) : Le N w w' :=
  ⟨h.mono hN, fun a ha => h.cell (p := a) ha, fun k hk => by unfold World.shape?; rw [h.block k hk]⟩
theorem Le.alloc {N : Nat} (w : World) (o : Obj) (hN : N ≤ w.heap.size) : Le N w (w.alloc o) := Le.of ((Below.refl _ _).alloc (Nat.le_refl _) _) hN
theorem Le.size {N : Nat} {w w' : World} (h : Le N w w') : w.heap.size ≤ w'.heap.size := h.below.size
theorem freeze_row {w : World} (a : Addr) (n k : Nat) {c : Array Value} {e : TypeId} {fr : Nat × Nat} (h : w.heap[k]? = some (.cells c e fr)) : ∃ fr', (w.freeze a n).heap[k]? = some (.cells c e fr') := by
  unfold World.freeze
  by_cases hn : n = 0
  · rw [if_pos hn]; exact ⟨_, h⟩
  rw [if_neg hn]
  simp only [Array.getElem?_modify, h]
  by_cases e : a.block = k
  · rw [if_pos e]; obtain ⟨lo, hi⟩ := fr; exact ⟨_, rfl⟩
  · rw [if_neg e]; exact ⟨_, rfl⟩
theorem freeze_other {w : World} (a : Addr) (n k : Nat) (h : ∀ c e fr, w.heap[k]? ≠ some (.cells c e fr)) : (w.freeze a n).heap[k]? = w.heap[k]? := by
  unfold World.freeze
  by_cases hn : n = 0
  · rw [if_pos hn]
  rw [if_neg hn]
  simp only [Array.getElem?_modify]
  by_cases e : a.block = k
  · rw [if_pos e]
    cases hk : w.heap[k]? with
    | none => rfl
    | some o => cases o <;> first | rfl | exact absurd hk (h _ _ _)
  · rw [if_neg e]
theorem Le.freeze {N : Nat} (w : World) (a : Addr) (n : Nat) (ha : N ≤ a.block) : Le N w (w.freeze a n) := by
  refine ⟨⟨by unfold World.freeze; split <;> rfl, by unfold World.freeze; split <;> rfl, by unfold World.freeze; split <;> rfl, by unfold World.freeze; split <;> simp, fun k hk => ?_⟩, fun p _ => ?_, fun k _ => ?_⟩
  · unfold World.freeze
    by_cases hn : n = 0
    · rw [if_pos hn]
    rw [if_neg hn]
    simp only [Array.getElem?_modify]
    rw [if_neg (by omega)]
  · unfold World.cell?
    by_cases h : ∃ c e fr, w.heap[p.block]? = some (.cells c e fr)
    · obtain ⟨c, e, fr, h⟩ := h
      obtain ⟨fr', h'⟩ := freeze_row a n p.block h
      rw [h, h']
    · rw [freeze_other a n p.block (fun c e fr hh => h ⟨c, e, fr, hh⟩)]
  · unfold World.shape?
    by_cases h : ∃ c e fr, w.heap[k]? = some (.cells c e fr)
    · obtain ⟨c, e, fr, h⟩ := h
      obtain ⟨fr', h'⟩ := freeze_row a n k h
      rw [h, h']
    · rw [freeze_other a n k (fun c e fr hh => h ⟨c, e, fr, hh⟩)]

/-- Each bit of a mask is an operation that is waited for, by an edge or by way of one. -/
def ancOk (l : List Oper) (A : List Nat) : Bool := (List.range l.length).all fun i => (List.range l.length).all fun j =>
  !(A.getD i 0).testBit j || (((l[i]?).map (·.after.any fun e => Region.binds .any e && (e.on == j || (decide (e.on < i) && (A.getD e.on 0).testBit j)))).getD false)
/-- Each slot that is listed is the one of an operation that is waited for, or is written by none but such as wait. -/
def needOk (l : List Oper) (A : List Nat) (need : List (List (Nat × Option Nat))) : Bool := (List.range l.length).all fun i => (need.getD i []).all fun p =>
  match p.2 with
  | some j => ((l[j]?).map (·.dst == some p.1)).getD false && (A.getD i 0).testBit j
  | none => (List.range l.length).all fun j => !((l[j]?).map (·.dst == some p.1)).getD false || (A.getD j 0).testBit i
/-- No two operations write one slot. -/
def dstsOk (l : List Oper) : Bool := (List.range l.length).all fun i => (List.range l.length).all fun j => i == j || (match (l[i]?).bind (·.dst), (l[j]?).bind (·.dst) with | some x, some y => x != y | _, _ => true)
def roomOk (l : List Oper) (M : Nat) : Bool := l.all fun o => match o.dst with | some d => decide (d < M) | none => true

structure Shut3 (l : List Oper) (listed : Array Bool) : Prop where
  size : listed.size = l.length
  shut : ∀ i, listed.getD i false = true → ∀ o, l[i]? = some o → ∀ e ∈ o.after, Region.binds .any e = true → listed.getD e.on false = true

theorem anc_listed {l : List Oper} {A : List Nat} (hA : ancOk l A = true) {listed : Array Bool} (hs : Shut3 l listed) : ∀ (k i : Nat), i ≤ k → ∀ o, l[i]? = some o → (∀ e ∈ o.after, Region.binds .any e = true → listed.getD e.on false = true) →
    ∀ j, j < l.length → (A.getD i 0).testBit j = true → listed.getD j false = true := by
  intro k
  induction k with
  | zero =>
    intro i hi o ho hdir j hj hb
    obtain rfl : i = 0 := by omega
    unfold ancOk at hA
    rw [List.all_eq_true] at hA
    have h1 := hA 0 (by simp; exact (List.getElem?_eq_some_iff.1 ho).1)
    rw [List.all_eq_true] at h1
    have h2 := h1 j (by simpa using hj)
    rw [hb, ho] at h2
    simp only [Bool.not_true, Bool.false_or, Option.map_some, Option.getD_some, Array.any_eq_true'] at h2
    obtain ⟨e, he, h3⟩ := h2
    simp only [Bool.and_eq_true, Bool.or_eq_true, beq_iff_eq, decide_eq_true_eq] at h3
    obtain ⟨hbd, h4⟩ := h3
    rcases h4 with rfl | ⟨h5, _⟩
    · exact hdir e he hbd
    · omega
  | succ k ih =>
    intro i hi o ho hdir j hj hb
    have hi0 : i < l.length := (List.getElem?_eq_some_iff.1 ho).1
    unfold ancOk at hA
    have hA' := hA
    rw [List.all_eq_true] at hA
    have h1 := hA i (by simpa using hi0)
    rw [List.all_eq_true] at h1
    have h2 := h1 j (by simpa using hj)
    rw [hb, ho] at h2
    simp only [Bool.not_true, Bool.false_or, Option.map_some, Option.getD_some, Array.any_eq_true'] at h2
    obtain ⟨e, he, h3⟩ := h2
    simp only [Bool.and_eq_true, Bool.or_eq_true, beq_iff_eq, decide_eq_true_eq] at h3
    obtain ⟨hbd, h4⟩ := h3
    rcases h4 with rfl | ⟨h5, h6⟩
    · exact hdir e he hbd
    · have hl := hdir e he hbd
      have he0 : e.on < l.length := by omega
      exact ih e.on (by omega) l[e.on] (List.getElem?_eq_getElem he0) (fun e' he' hb' => hs.shut e.on hl _ (List.getElem?_eq_getElem he0) e' he' hb') j hj h6

theorem wp_of_false {o : Oper} {a : Act} {w : World} {K K' : Act → World → Prop} {Q : Exit → Act → World → Prop} (h : o.wp P a w K (fun _ _ _ => False)) (hk : ∀ a w, K a w → K' a w) : o.wp P a w K' Q := by
  unfold Oper.wp at *
  generalize (execOp a.eval o).run P w = r at *
  cases r with
  | ok x w' =>
    cases x <;> simp only [Oper.upon] at h ⊢
    case value => exact hk _ _ h
    case skip => exact hk _ _ h
    case defer => exact hk _ _ h
    case enter =>
      refine h.mono fun e w'' he => ?_
      cases e with
      | returned v => exact hk _ _ he
      | panicked c => exact he.elim
      | outgrown => obtain ⟨_, _, hf⟩ := he; exact hf.elim
    case row => exact h.mono fun v w'' he => hk _ _ he
  | halt x w' =>
    cases x <;> simp only [Oper.upon] at h ⊢

section
variable {l : List Oper} {Φ : Nat → Value → World → Prop} {N : Nat} {a0 : Act} {W0 : World} {Q : Exit → Act → World → Prop}

structure At (l : List Oper) (Φ : Nat → Value → World → Prop) (N : Nat) (a0 : Act) (W0 : World) (listed : Array Bool) (a : Act) (w : World) : Prop where
  le : Le N W0 w
  shut : Shut3 l listed
  defers : a.defers = a0.defers
  size : a.tmps.size = a0.tmps.size
  slots : ∀ (i : Nat) (o : Oper), l[i]? = some o → listed.getD i false = true → ∀ d, o.dst = some d → Φ i (a.tmps.getD d undef) w
  olds : ∀ t, (∀ (i : Nat) (o : Oper), l[i]? = some o → o.dst = some t → listed.getD i false = false) → a.tmps.getD t undef = a0.tmps.getD t undef

theorem getD_put {a : Act} {d t : Nat} {v : Value} (h : d < a.tmps.size) : (a.put (some d) v).tmps.getD t undef = if t = d then v else a.tmps.getD t undef := by
  show (a.tmps.setIfInBounds d v).getD t undef = _
  rw [Array.getD_eq_getD_getElem?, Array.getElem?_setIfInBounds, Array.getD_eq_getD_getElem?]
  by_cases e : d = t
  · subst e; rw [if_pos rfl, if_pos h, if_pos rfl]; rfl
  · rw [if_neg e, if_neg (Ne.symm e)]

theorem setD {listed : Array Bool} {i q : Nat} (h : i < listed.size) : (listed.setIfInBounds i true).getD q false = if q = i then true else listed.getD q false := by
  rw [Array.getD_eq_getD_getElem?, Array.getElem?_setIfInBounds, Array.getD_eq_getD_getElem?]
  by_cases e : i = q
  · subst e; rw [if_pos rfl, if_pos h, if_pos rfl]; rfl
  · rw [if_neg e, if_neg (Ne.symm e)]

/-- One operation has been carried out, in whatever order. -/
theorem At.step (hd : dstsOk l = true) {M : Nat} (hr : roomOk l M = true) (hM : a0.tmps.size = M) (stable : ∀ i v w w', Le N w w' → Φ i v w → Φ i v w')
    {listed : Array Bool} {a : Act} {w w' : World} (h : At l Φ N a0 W0 listed a w) {i : Nat} {o : Oper} (ho : l[i]? = some o) (hdir : ∀ e ∈ o.after, Region.binds .any e = true → listed.getD e.on false = true)
    {v : Value} (hle : Le N w w') (hv : Φ i v w') : At l Φ N a0 W0 (listed.setIfInBounds i true) (a.put o.dst v) w' := by
  have hi : i < l.length := (List.getElem?_eq_some_iff.1 ho).1
  have hil : i < listed.size := by rw [h.shut.size]; exact hi
  have hroom : ∀ d, o.dst = some d → d < a.tmps.size := fun d hd' => by
    rw [h.size, hM]
    unfold roomOk at hr
    rw [List.all_eq_true] at hr
    have := hr o (List.mem_of_getElem? ho)
    rw [hd'] at this
    simpa using this
  have hdist : ∀ (j : Nat) (o' : Oper) (d : Nat), l[j]? = some o' → o.dst = some d → o'.dst = some d → j = i := fun j o' d ho' h1 h2 => by
    unfold dstsOk at hd
    rw [List.all_eq_true] at hd
    have h3 := hd j (by simp; exact (List.getElem?_eq_some_iff.1 ho').1)
    rw [List.all_eq_true] at h3
    have h4 := h3 i (by simpa using hi)
    rw [ho, ho'] at h4
    simp only [Option.bind_some, h1, h2, Bool.or_eq_true, beq_iff_eq] at h4
    rcases h4 with h4 | h4
    · exact h4
    · simp at h4
  refine ⟨h.le.trans hle, ⟨by simp [h.shut.size], fun j hj o' ho' e he hb => ?_⟩, ?_, ?_, fun j o' ho' hj d hd' => ?_, fun t ht => ?_⟩
  · rw [setD hil] at hj ⊢
    by_cases e1 : e.on = i
    · rw [if_pos e1]
    · rw [if_neg e1]
      by_cases e2 : j = i
      · subst e2; rw [ho] at ho'; cases ho'; exact hdir e he hb
      · rw [if_neg e2] at hj; exact h.shut.shut j hj o' ho' e he hb
  · cases hdd : o.dst <;> simp [Act.put, h.defers]
  · cases hdd : o.dst <;> simp [Act.put, h.size]
  · rw [setD hil] at hj
    by_cases e2 : j = i
    · subst e2; rw [ho] at ho'; cases ho'
      rw [hd', getD_put (hroom d hd'), if_pos rfl]; exact hv
    · rw [if_neg e2] at hj
      have hold := stable _ _ _ _ hle (h.slots j o' ho' hj d hd')
      cases hdd : o.dst with
      | none => exact hold
      | some x =>
        rw [getD_put (hroom x hdd), if_neg]
        · exact hold
        · rintro rfl; exact e2 (hdist j o' d ho' hdd hd')
  · have h1 : a.tmps.getD t undef = a0.tmps.getD t undef := h.olds t fun j o' ho' hdst => by
      have := ht j o' ho' hdst
      rw [setD hil] at this
      by_cases e2 : j = i
      · rw [if_pos e2] at this; cases this
      · rwa [if_neg e2] at this
    cases hdd : o.dst with
    | none => exact h1
    | some x =>
      rw [getD_put (hroom x hdd), if_neg]
      · exact h1
      · rintro rfl
        have := ht i o ho hdd
        rw [setD hil, if_pos rfl] at this; cases this
/-- What is known of the slots that operation number i reads. -/
def Env (Φ : Nat → Value → World → Prop) (a0 : Act) (ns : List (Nat × Option Nat)) (a : Act) (w : World) : Prop :=
  ∀ p ∈ ns, match p.2 with | some j => Φ j (a.tmps.getD p.1 undef) w | none => a.tmps.getD p.1 undef = a0.tmps.getD p.1 undef

theorem At.env {A : List Nat} {need : List (List (Nat × Option Nat))} (hA : ancOk l A = true) (hn : needOk l A need = true) {listed : Array Bool} {a : Act} {w : World} (h : At l Φ N a0 W0 listed a w)
    {i : Nat} {o : Oper} (ho : l[i]? = some o) (hun : listed.getD i false = false) (hdir : ∀ e ∈ o.after, Region.binds .any e = true → listed.getD e.on false = true) : Env Φ a0 (need.getD i []) a w := by
  have hi : i < l.length := (List.getElem?_eq_some_iff.1 ho).1
  intro p hp
  unfold needOk at hn
  rw [List.all_eq_true] at hn
  have h1 := hn i (by simpa using hi)
  rw [List.all_eq_true] at h1
  have h2 := h1 p hp
  obtain ⟨t, src⟩ := p
  cases src with
  | some j =>
    simp only [Bool.and_eq_true] at h2 ⊢
    obtain ⟨h3, h4⟩ := h2
    cases hj : l[j]? with
    | none => rw [hj] at h3; simp at h3
    | some o' =>
      rw [hj] at h3
      simp only [Option.map_some, Option.getD_some, beq_iff_eq] at h3
      exact h.slots j o' hj (anc_listed hA h.shut i i (Nat.le_refl _) o ho hdir j (List.getElem?_eq_some_iff.1 hj).1 h4) t h3
  | none =>
    refine h.olds t fun j o' ho' hdst => ?_
    simp only at h2
    rw [List.all_eq_true] at h2
    have h3 := h2 j (by simp; exact (List.getElem?_eq_some_iff.1 ho').1)
    rw [ho'] at h3
    simp only [Option.map_some, Option.getD_some, hdst, beq_self_eq_true, Bool.not_true, Bool.false_or] at h3
    cases hv : listed.getD j false with
    | false => rfl
    | true =>
      have := anc_listed hA h.shut j j (Nat.le_refl _) o' ho' (fun e he hb => h.shut.shut j hv o' ho' e he hb) i hi h3
      rw [hun] at this; cases this

/-- What one operation owes. -/
def Owes (P : Program) (l : List Oper) (Φ : Nat → Value → World → Prop) (N : Nat) (a0 : Act) (W0 : World) (ns : List (Nat × Option Nat)) (i : Nat) (o : Oper) : Prop :=
  ∀ a w, Le N W0 w → Env Φ a0 ns a w →
    if Region.wanted o (yielded l.toArray a.tmps) = true then o.wp P a w (fun a' w' => ∃ v, a' = a.put o.dst v ∧ Le N w w' ∧ Φ i v w') (fun _ _ _ => False) else Φ i undef w

/-- **The region.** -/
theorem wp_region_facts {id : Nat} (A : List Nat) (need : List (List (Nat × Option Nat))) (Φ : Nat → Value → World → Prop) (N M : Nat) (hm : P.follows .mixedOrders = true) (ht : topo l.toArray = true)
    (hA : ancOk l A = true) (hn : needOk l A need = true) (hd : dstsOk l = true) (hr : roomOk l M = true) (hM : a0.tmps.size = M) (stable : ∀ i v w w', Le N w w' → Φ i v w → Φ i v w')
    (hop : ∀ i o, l[i]? = some o → Owes P l Φ N a0 W0 (need.getD i []) i o)
    (hend : ∀ a w, Le N W0 w → a.defers = a0.defers → a.tmps.size = M → (∀ i o d, l[i]? = some o → o.dst = some d → Φ i (a.tmps.getD d undef) w) →
      (∀ t, (∀ o ∈ l, o.dst ≠ some t) → a.tmps.getD t undef = a0.tmps.getD t undef) → Q .normal a w) :
    (Code.region id l.toArray true).wp P Q a0 W0 := by
  refine wp_region_any hm ?_
  have main : ∀ (fuel : Nat) (listed : Array Bool) (a : Act) (w : World), At l Φ N a0 W0 listed a w → ((List.range l.length).filter fun i => !listed.getD i false).length ≤ fuel → wpAny P .any l.toArray Q fuel listed a w := by
    have last : ∀ (listed : Array Bool) (a : Act) (w : World), At l Φ N a0 W0 listed a w → Region.ready .any l.toArray listed = [] → Q .normal a w := fun listed a w h hrd => by
      have hall : ∀ i, i < l.length → listed.getD i false = true := by
        intro i
        induction i using Nat.strongRecOn with
        | ind i ih =>
          intro hi
          cases hv : listed.getD i false with
          | true => rfl
          | false =>
            have hin : i ∈ Region.ready .any l.toArray listed := by
              rw [mem_ready]
              refine ⟨by simpa using hi, ?_, l[i], by simp [hi], fun e he _ => ?_⟩
              · have hsz := h.shut.size
                rw [Array.getD_eq_getD_getElem?, Array.getElem?_eq_getElem (by omega)] at hv ⊢; exact hv
              · unfold topo at ht
                rw [List.all_eq_true] at ht
                have := ht i (by simpa using hi)
                rw [List.getElem?_toArray, List.getElem?_eq_getElem hi] at this
                simp only [Option.map_some, Option.getD_some, Array.all_eq_true', decide_eq_true_eq] at this
                exact ih e.on (this e he) (by have := this e he; omega)
            rw [hrd] at hin; cases hin
      refine hend a w h.le h.defers (h.size.trans hM) (fun i o d ho hdst => h.slots i o ho (hall i (List.getElem?_eq_some_iff.1 ho).1) d hdst) (fun t hto => h.olds t fun i o ho hdst => absurd hdst (hto o (List.mem_of_getElem? ho)))
    intro fuel
    induction fuel with
    | zero =>
      intro listed a w h hc
      have hrd : Region.ready .any l.toArray listed = [] := by
        rw [List.eq_nil_iff_forall_not_mem]
        intro i hi
        obtain ⟨h1, h2, _⟩ := mem_ready.1 hi
        have hin : i ∈ (List.range l.length).filter fun i => !listed.getD i false := by
          rw [List.mem_filter]
          refine ⟨by simpa using h1, ?_⟩
          have hsz := h.shut.size
          have h1' : i < listed.size := by simp at h1; omega
          rw [Array.getD_eq_getD_getElem?, Array.getElem?_eq_getElem h1'] at h2 ⊢
          simp at h2 ⊢; exact h2
        have : 0 < ((List.range l.length).filter fun i => !listed.getD i false).length := List.length_pos_of_mem hin
        omega
      exact ⟨hrd, last listed a w h hrd⟩
    | succ fuel ih =>
      intro listed a w h hc
      refine ⟨last listed a w h, fun i hi => ?_⟩
      obtain ⟨h1, h2, o, ho, hdir⟩ := mem_ready.1 hi
      rw [List.getElem?_toArray] at ho
      have hsz := h.shut.size
      have hil : i < listed.size := by simp at h1; omega
      have hun : listed.getD i false = false := by
        rw [Array.getD_eq_getD_getElem?, Array.getElem?_eq_getElem hil] at h2 ⊢; exact h2
      have hcount : ((List.range l.length).filter fun q => !(listed.setIfInBounds i true).getD q false).length ≤ fuel := by
        have e : ((List.range l.length).filter fun q => !(listed.setIfInBounds i true).getD q false) = ((List.range l.length).filter fun q => !listed.getD q false).filter (fun q => q != i) := by
          rw [List.filter_filter]
          apply List.filter_congr
          intro q _
          rw [setD hil]
          by_cases e : q = i
          · subst e; simp
          · simp [e]
        rw [e]
        have hmem : i ∈ (List.range l.length).filter fun q => !listed.getD q false := by
          rw [List.mem_filter]; exact ⟨by simpa using h1, by simp [hun]⟩
        have : (((List.range l.length).filter fun q => !listed.getD q false).filter (fun q => q != i)).length < ((List.range l.length).filter fun q => !listed.getD q false).length :=
          List.length_filter_lt_length_iff_exists.2 ⟨i, hmem, by simp⟩
        omega
      unfold wpOp
      rw [List.getElem?_toArray, ho]
      have hw := hop i o ho a w h.le (h.env hA hn ho hun hdir)
      by_cases hwant : Region.wanted o (yielded l.toArray a.tmps) = true
      · rw [if_pos hwant] at hw
        simp only [hwant, if_true]
        left
        refine wp_of_false hw ?_
        rintro a' w' ⟨v, rfl, hle, hv⟩
        exact ih _ _ _ (h.step hd hr hM stable ho hdir hle hv) hcount
      · rw [if_neg hwant] at hw
        simp only [hwant]
        exact ih _ _ _ (h.step hd hr hM stable ho hdir (Le.refl _ _) hw) hcount
  refine main _ _ _ _ ⟨Le.drew N W0, ⟨by simp, fun i hi => ?_⟩, rfl, rfl, fun i o ho hi => ?_, fun t _ => rfl⟩ (by simp; exact Nat.le_trans (List.length_filter_le _ _) (by simp))
  · exfalso
    rw [Array.getD_eq_getD_getElem?, Array.getElem?_replicate] at hi
    split at hi <;> simp at hi
  · exfalso
    rw [Array.getD_eq_getD_getElem?, Array.getElem?_replicate] at hi
    split at hi <;> simp at hi
/-- The obligations, one behind the other. -/
def OwesFrom (P : Program) (l : List Oper) (Φ : Nat → Value → World → Prop) (N : Nat) (a0 : Act) (W0 : World) : Nat → List (List (Nat × Option Nat)) → List Oper → Prop
  | _, _, [] => True
  | k, ns, o :: rest => Owes P l Φ N a0 W0 (ns.headD []) k o ∧ OwesFrom P l Φ N a0 W0 (k + 1) ns.tail rest
theorem OwesFrom.all : ∀ (rest : List Oper) (k : Nat) (ns : List (List (Nat × Option Nat))), OwesFrom P l Φ N a0 W0 k ns rest → ∀ (i : Nat) (o : Oper), rest[i]? = some o → Owes P l Φ N a0 W0 (ns.getD i []) (k + i) o
  | [], _, _, _, i, o, ho => by simp at ho
  | x :: rest, k, ns, h, i, o, ho => by
    cases i with
    | zero =>
      simp at ho; subst ho
      have := h.1
      cases ns <;> simpa using this
    | succ i =>
      have := OwesFrom.all rest (k + 1) ns.tail h.2 i o (by simpa using ho)
      rw [show k + (i + 1) = k + 1 + i by omega]
      cases ns <;> simpa using this

/-- The region, its obligations in a row. -/
theorem wp_region_owes {id : Nat} (A : List Nat) (need : List (List (Nat × Option Nat))) (Φ : Nat → Value → World → Prop) (N M : Nat) (hm : P.follows .mixedOrders = true) (ht : topo l.toArray = true)
    (hA : ancOk l A = true) (hn : needOk l A need = true) (hd : dstsOk l = true) (hr : roomOk l M = true) (hM : a0.tmps.size = M) (stable : ∀ i v w w', Le N w w' → Φ i v w → Φ i v w')
    (hop : OwesFrom P l Φ N a0 W0 0 need l)
    (hend : ∀ a w, Le N W0 w → a.defers = a0.defers → a.tmps.size = M → (∀ i o d, l[i]? = some o → o.dst = some d → Φ i (a.tmps.getD d undef) w) →
      (∀ t, (∀ o ∈ l, o.dst ≠ some t) → a.tmps.getD t undef = a0.tmps.getD t undef) → Q .normal a w) :
    (Code.region id l.toArray true).wp P Q a0 W0 :=
  wp_region_facts A need Φ N M hm ht hA hn hd hr hM stable (fun i o ho => by have := OwesFrom.all l 0 need hop i o ho; rwa [Nat.zero_add] at this) hend

theorem wanted_of {l : List Oper} {o : Oper} {a : Act} {j : Nat} {b : Bool} {d : Nat} (hg : o.guard = some (j, b)) (hj : (l[j]?).bind (·.dst) = some d) (h : a.tmps.getD d undef = .bool b) : Region.wanted o (yielded l.toArray a.tmps) = true := by
  unfold Region.wanted yielded
  rw [hg]
  simp only [List.getElem?_toArray, hj, Option.bind_some]
  rw [Array.getD_eq_getD_getElem?] at h
  cases hx : a.tmps[d]? with
  | none => rw [hx] at h; simp [undef] at h
  | some x => rw [hx] at h; simp at h; subst h; simp

theorem wanted_plain {o : Oper} {y : Nat → Option Bool} (hg : o.guard = none) : Region.wanted o y = true := by simp [Region.wanted, hg]
/-- An operation by its run: it yields a value. -/
theorem owe_value {o : Oper} {a : Act} {w w' : World} {v : Value} {i : Nat} (hrun : (execOp a.eval o).run P w = .ok (.value v) w') (hle : Le N w w') (hv : Φ i v w') :
    o.wp P a w (fun a' w' => ∃ v, a' = a.put o.dst v ∧ Le N w w' ∧ Φ i v w') (fun _ _ _ => False) := by
  unfold Oper.wp
  rw [hrun]
  exact ⟨v, rfl, hle, hv⟩
/-- .. it calls a function. -/
theorem owe_call {o : Oper} {a : Act} {w : World} {f : FuncId} {args : Array Value} {i : Nat} (hrun : (execOp a.eval o).run P w = .ok (.enter f args) w)
    (h : Calls P f args w fun e w' => ∃ v, e = .returned v ∧ Le N w w' ∧ Φ i v w') :
    o.wp P a w (fun a' w' => ∃ v, a' = a.put o.dst v ∧ Le N w w' ∧ Φ i v w') (fun _ _ _ => False) := by
  unfold Oper.wp
  rw [hrun]
  refine h.mono ?_
  rintro e w' ⟨v, rfl, hle, hv⟩
  exact ⟨v, rfl, hle, hv⟩
end
end Go.Proofs.YtcmkjgodgocdfaaDoor
