/- A region that draws its order, whose operations but the last only read: in every order the last one comes last, and the others are as if in the order of the text. In a round of a range over a function, too. -/
import Derived.Test.YtoalchlokcphkaaDoorR1
import Derived.Deep.Quiet
import Derived.OrdersIn
namespace Go.Proofs.YtoalchlokcphkaaDoor
open Go.RowKit
variable {n : Nat} {P : Program}

theorem wpIn_of_quiet {o : Oper} {l : Nat} {a : Act} {C : World → Prop} {K : Act → Prop} {K' : Act → World → Prop} {Q : Exit → Act → World → Prop} {w : World} (hd : ∀ c, o.op ≠ .defer c) (hw : C w)
    (h : ∀ a w', C w' → K a → K' a w') (hh : o.quiet P a C K) : o.wpIn (Fence.wide.inRound l) n P a w K' Q := by
  obtain ⟨v, h1, h2⟩ := hh
  have h3 := h1 w hw
  unfold Oper.quietAt at h3
  unfold Oper.wpIn
  refine ⟨fun _ _ => trivial, ?_⟩
  rw [Oper.semAt_plain (Fence.wide.inRound l) _ o hd]
  generalize (execOp a.eval o).run P w = r at *
  cases r with
  | ok x w' =>
    cases x <;> simp only [Oper.quietUpon, Oper.uponIn] at h3 ⊢
    case value u => obtain ⟨rfl, rfl⟩ := h3; exact h _ _ hw h2
    case skip => obtain ⟨rfl, rfl⟩ := h3; exact h _ _ hw h2
    case enter f args =>
      obtain ⟨rfl, h3⟩ := h3
      refine ⟨fun e => (by cases e), CallsIn.inRound l (callsIn_wide.2 (h3.mono ?_))⟩
      rintro e w'' ⟨rfl, hc⟩
      exact h _ _ hc h2
  | halt x w' => exact h3.elim

/-- Each operation ahead of the last has one behind it that waits for it. -/
def covers (ops : Array Oper) : Bool := (List.range (ops.size - 1)).all fun i => (List.range ops.size).any fun j => decide (i < j) && (((ops[j]?).map (·.after.any fun e => Region.binds .any e && e.on == i)).getD false)
/-- No operation is guarded, defers or selects. -/
def plainOps (ops : Array Oper) : Bool := ops.all fun o => o.guard.isNone && (match o.op with | .defer _ => false | .select _ _ => false | _ => true)

structure Shut (ops : Array Oper) (L : Nat) (listed : Array Bool) : Prop where
  size : listed.size = L
  shut : ∀ i, listed.getD i false = true → ∀ o, ops[i]? = some o → ∀ e ∈ o.after, Region.binds .any e = true → e.on < L → listed.getD e.on false = true

theorem getD_push (l : Array Bool) (i : Nat) (d : Bool) (h : i ≠ l.size) : (l.push false).getD i d = l.getD i d := by
  simp only [Array.getD_eq_getD_getElem?, Array.getElem?_push, if_neg h]

theorem listed_all {ops : Array Oper} {L : Nat} (hL : ops.size = L + 1) (hc : covers ops = true) {listed : Array Bool} (hs : Shut ops L listed)
    (hlast : ∀ o, ops[L]? = some o → ∀ e ∈ o.after, Region.binds .any e = true → e.on < L → listed.getD e.on false = true) : ∀ k i, L - i ≤ k → i < L → listed.getD i false = true := by
  have hcov : ∀ i, i < L → ∃ j, j ≤ L ∧ i < j ∧ ∃ o, ops[j]? = some o ∧ ∃ e ∈ o.after, Region.binds .any e = true ∧ e.on = i := fun i hi => by
    unfold covers at hc
    rw [List.all_eq_true] at hc
    have := hc i (by simp; omega)
    rw [List.any_eq_true] at this
    obtain ⟨j, hj, hb⟩ := this
    simp only [Bool.and_eq_true, decide_eq_true_eq] at hb
    obtain ⟨hij, hb⟩ := hb
    cases ho : ops[j]? with
    | none => rw [ho] at hb; simp at hb
    | some o =>
      rw [ho] at hb
      simp only [Option.map_some, Option.getD_some, Array.any_eq_true'] at hb
      obtain ⟨e, he, hb⟩ := hb
      simp only [Bool.and_eq_true, beq_iff_eq] at hb
      exact ⟨j, by simp at hj; omega, hij, o, ho, e, he, hb⟩
  intro k
  induction k with
  | zero => intro i h1 h2; omega
  | succ k ih =>
    intro i h1 h2
    obtain ⟨j, hj, hij, o, ho, e, he, hb, rfl⟩ := hcov i h2
    by_cases hjL : j = L
    · subst hjL; exact hlast o ho e he hb h2
    · exact hs.shut j (ih j (by omega) (by omega)) o ho e he hb h2

/-- Every operation waits for earlier ones alone. -/
def topo (ops : Array Oper) : Bool := (List.range ops.size).all fun i => ((ops[i]?).map (·.after.all fun e => decide (e.on < i))).getD true

theorem getD_push_false (l : Array Bool) (i : Nat) : (l.push false).getD i false = l.getD i false := by
  by_cases h : i = l.size
  · subst h; simp
  · exact getD_push l i false h

theorem mem_ready {ops : Array Oper} {listed : Array Bool} {i : Nat} : i ∈ Region.ready .any ops listed ↔ i < ops.size ∧ listed.getD i true = false ∧ ∃ o, ops[i]? = some o ∧ ∀ e ∈ o.after, Region.binds .any e = true → listed.getD e.on false = true := by
  unfold Region.ready
  rw [List.mem_filter, List.mem_range, Bool.and_eq_true, Bool.not_eq_true']
  constructor
  · rintro ⟨h1, h2, h3⟩
    refine ⟨h1, h2, ?_⟩
    cases ho : ops[i]? with
    | none => rw [ho] at h3; simp at h3
    | some o =>
      rw [ho] at h3
      refine ⟨o, rfl, fun e he hb => ?_⟩
      simp only [Option.map_some, Option.getD_some, Array.all_eq_true'] at h3
      have := h3 e he
      rw [hb] at this; simpa using this
  · rintro ⟨h1, h2, o, ho, h3⟩
    refine ⟨h1, h2, ?_⟩
    rw [ho]
    simp only [Option.map_some, Option.getD_some, Array.all_eq_true']
    intro e he
    cases hb : Region.binds .any e with
    | false => rfl
    | true => simpa using h3 e he hb

section
variable {l L : Nat} {ops : Array Oper} {C : World → Prop} {Qf : Act → Prop} {Q : Exit → Act → World → Prop}

theorem ready_pop (hL : ops.size = L + 1) {listed : Array Bool} (hs : listed.size = L) {i : Nat} (hi : i < L) : i ∈ Region.ready .any ops (listed.push false) ↔ i ∈ Region.ready .any ops.pop listed := by
  rw [mem_ready, mem_ready]
  have e : ops.pop[i]? = ops[i]? := by rw [Array.getElem?_pop, if_pos (by omega)]
  rw [e, getD_push listed i true (by omega)]
  simp only [getD_push_false, Array.size_pop, hL]
  constructor
  · rintro ⟨_, r⟩; exact ⟨by omega, r⟩
  · rintro ⟨_, r⟩; exact ⟨by omega, r⟩

theorem all_of_none (hL : ops.size = L + 1) (ht : topo ops = true) {listed : Array Bool} (hs : listed.size = L) (hr : Region.ready .any ops.pop listed = []) : ∀ i, i < L → listed.getD i false = true := by
  intro i
  induction i using Nat.strongRecOn with
  | ind i ih =>
    intro hi
    cases hv : listed.getD i false with
    | true => rfl
    | false =>
      have hin : i ∈ Region.ready .any ops.pop listed := by
        rw [mem_ready]
        have ho : ops.pop[i]? = some ops[i] := by rw [Array.getElem?_pop, if_pos (by omega), Array.getElem?_eq_getElem (by omega)]
        refine ⟨by simp; omega, ?_, ops[i], ho, fun e he _ => ?_⟩
        · rw [Array.getD_eq_getD_getElem?, Array.getElem?_eq_getElem (by omega)] at hv ⊢; exact hv
        · unfold topo at ht
          rw [List.all_eq_true] at ht
          have := ht i (by simp; omega)
          rw [Array.getElem?_eq_getElem (by omega)] at this
          simp only [Option.map_some, Option.getD_some, Array.all_eq_true', decide_eq_true_eq] at this
          have := this e he
          exact ih e.on this (by omega)
      rw [hr] at hin; cases hin

theorem ready_none_of_all {listed : Array Bool} (hs : listed.size = ops.size) (h : ∀ i, i < ops.size → listed.getD i false = true) : Region.ready .any ops listed = [] := by
  rw [List.eq_nil_iff_forall_not_mem]
  intro i hi
  rw [mem_ready] at hi
  have := h i hi.1
  have h2 := hi.2.1
  rw [Array.getD_eq_getD_getElem?, Array.getElem?_eq_getElem (by omega)] at this h2
  simp at this h2
  rw [this] at h2; cases h2

theorem wpAnyIn_last (hL : ops.size = L + 1) (hc : covers ops = true) (ht : topo ops = true) (hp : plainOps ops = true)
    (hfin : ∀ a w, C w → Qf a → wpOpIn (Fence.wide.inRound l) n P ops Q L (fun a' w' => Q .normal a' w') a w) :
    ∀ (fuel : Nat) (listed : Array Bool) (a : Act) (w : World), C w → Shut ops L listed → wpAnyQ P .any ops.pop C Qf fuel listed a → wpAnyIn (Fence.wide.inRound l) n P .any ops Q (fuel + 1) (listed.push false) a w := by
  have plain : ∀ (i : Nat) (o : Oper), ops[i]? = some o → o.guard = none ∧ ∀ c, o.op ≠ .defer c := fun i o ho => by
    unfold plainOps at hp
    rw [Array.all_eq_true'] at hp
    have := hp o (Array.mem_of_getElem? ho)
    simp only [Bool.and_eq_true, Option.isNone_iff_eq_none] at this
    refine ⟨this.1, fun c hc => ?_⟩
    rw [hc] at this; simp at this
  have last : ∀ fuel listed a w, C w → Shut ops L listed → Region.ready .any ops.pop listed = [] → Qf a → wpAnyIn (Fence.wide.inRound l) n P .any ops Q (fuel + 1) (listed.push false) a w := fun fuel listed a w hw hs hr hq => by
    have hall := all_of_none hL ht hs.size hr
    have hrd : ∀ i, i ∈ Region.ready .any ops (listed.push false) → i = L := fun i hi => by
      have h1 := (mem_ready.1 hi).1
      by_cases h : i < L
      · rw [ready_pop hL hs.size h, hr] at hi; cases hi
      · omega
    have hLr : L ∈ Region.ready .any ops (listed.push false) := by
      rw [mem_ready]
      refine ⟨by omega, ?_, ops[L], by rw [Array.getElem?_eq_getElem (by omega)], fun e he _ => ?_⟩
      · have := hs.size; subst this; simp
      · unfold topo at ht
        rw [List.all_eq_true] at ht
        have := ht L (by simp; omega)
        rw [Array.getElem?_eq_getElem (by omega)] at this
        simp only [Option.map_some, Option.getD_some, Array.all_eq_true', decide_eq_true_eq] at this
        rw [getD_push_false]
        exact hall _ (this e he)
    refine ⟨fun h0 => (by rw [h0] at hLr; cases hLr), fun i hi => ?_⟩
    obtain rfl := hrd i hi
    refine wpOpIn_mono (fun a' w' hq' => wpAnyIn_done ?_ hq' _) (hfin a w hw hq)
    refine ready_none_of_all (by simp [hs.size, hL]) (fun j hj => ?_)
    have hsz := hs.size
    by_cases e : j = i
    · subst e; simp [Array.getD_eq_getD_getElem?, hsz]
    · have := hall j (by omega)
      rw [Array.getD_eq_getD_getElem?, Array.getElem?_setIfInBounds, if_neg (Ne.symm e), Array.getElem?_push, if_neg (by omega), ← Array.getD_eq_getD_getElem?]
      exact this
  intro fuel
  induction fuel with
  | zero => intro listed a w hw hs h; exact last 0 listed a w hw hs h.1 h.2
  | succ fuel ih =>
    intro listed a w hw hs h
    by_cases hr : Region.ready .any ops.pop listed = []
    · exact last _ listed a w hw hs hr (h.1 hr)
    · have hnL : L ∉ Region.ready .any ops (listed.push false) := fun hi => hr (by
        obtain ⟨_, _, o, ho, hdep⟩ := mem_ready.1 hi
        have hall := listed_all hL hc hs (fun o' ho' e he hb _ => by
          rw [ho] at ho'; cases ho'
          have := hdep e he hb
          rwa [getD_push_false] at this)
        refine ready_none_of_all (by simp [hs.size, hL]) (fun i hi => ?_)
        simp [hL] at hi
        exact hall L i (by omega) hi)
      refine ⟨fun h0 => ?_, fun i hi => ?_⟩
      · exfalso
        obtain ⟨i, hi⟩ := List.exists_mem_of_ne_nil _ hr
        have hiL : i < L := by have := (mem_ready.1 hi).1; simp at this; omega
        rw [← ready_pop hL hs.size hiL, h0] at hi; cases hi
      · have hiL : i < L := by
          have h1 := (mem_ready.1 hi).1
          have h2 : i ≠ L := fun e => hnL (e ▸ hi)
          omega
        have hi' := (ready_pop hL hs.size hiL).1 hi
        obtain ⟨_, hun, o, ho, hdep⟩ := mem_ready.1 hi'
        have ho2 : ops[i]? = some o := by rw [← ho, Array.getElem?_pop, if_pos (by omega)]
        have hq := h.2 i hi'
        unfold qOp at hq
        rw [ho] at hq
        obtain ⟨hg, hd⟩ := plain i o ho2
        have hwant : ∀ (os : Array Oper), Region.wanted o (yielded os a.tmps) = true := fun os => by simp [Region.wanted, hg]
        simp only [hwant, if_true] at hq
        unfold wpOpIn
        rw [ho2]
        simp only [hwant, if_true]
        refine wpIn_of_quiet hd hw (fun a' w' hw' hk => ?_) hq
        rw [show (listed.push false).setIfInBounds i true = (listed.setIfInBounds i true).push false by
          apply Array.ext_getElem?
          intro j
          have hsz := hs.size
          simp only [Array.getElem?_setIfInBounds, Array.getElem?_push, Array.size_push, Array.size_setIfInBounds]
          by_cases e : i = j
          · subst e; simp [show i < listed.size by omega, show ¬ i = listed.size by omega, show i < listed.size + 1 by omega]
          · simp [e]]
        refine ih _ a' w' hw' ⟨by simp [hs.size], fun j hj o' ho' e he hb hlt => ?_⟩ hk
        have hsz := hs.size
        have key : ∀ q, (listed.setIfInBounds i true).getD q false = if q = i then true else listed.getD q false := fun q => by
          rw [Array.getD_eq_getD_getElem?, Array.getElem?_setIfInBounds]
          by_cases e : i = q
          · subst e; simp [show i < listed.size by omega]
          · rw [if_neg e, if_neg (Ne.symm e), Array.getD_eq_getD_getElem?]
        rw [key] at hj ⊢
        by_cases eq : e.on = i
        · rw [if_pos eq]
        · rw [if_neg eq]
          by_cases ej : j = i
          · subst ej; rw [ho2] at ho'; cases ho'; exact hdep e he hb
          · rw [if_neg ej] at hj; exact hs.shut j hj o' ho' e he hb hlt

/-- **The region, in a round.** -/
theorem wpIn_region_last {id : Nat} {a : Act} {w : World} {rs : List Oper} {o : Oper} (hm : P.follows .mixedOrders = true) (hB : Region.lexB .any rs.toArray = true)
    (hc : covers (rs ++ [o]).toArray = true) (ht : topo (rs ++ [o]).toArray = true) (hp : plainOps (rs ++ [o]).toArray = true)
    (h : wpQuiet P rs.toArray (fun w' => ∃ k, w' = w.drewN k) (fun a' => ∀ k, wpOpIn (Fence.wide.inRound l) n P (rs ++ [o]).toArray Q rs.length (fun a' w' => Q .normal a' w') a' (w.drewN k)) rs a) :
    (Code.region id (rs ++ [o]).toArray true).wpIn (Fence.wide.inRound l) n P Q a w := by
  refine wpIn_region_any hm ?_
  simp only [Region.lexB, Bool.and_eq_true] at hB
  have hq := wpAnyQ_lex (P := P) (C := fun w' => ∃ k, w' = w.drewN k) (md := .any) hB.1 rs 0 (Array.replicate rs.length false) a (by simp) (by simpa using hB.2) h
  have := wpAnyIn_last (l := l) (n := n) (P := P) (L := rs.length) (ops := (rs ++ [o]).toArray) (Q := Q) (C := fun w' => ∃ k, w' = w.drewN k) (Qf := fun a' => ∀ k, wpOpIn (Fence.wide.inRound l) n P (rs ++ [o]).toArray Q rs.length (fun a' w' => Q .normal a' w') a' (w.drewN k))
    (by simp) hc ht hp (fun a w' hw hq => by obtain ⟨k, rfl⟩ := hw; exact hq k) rs.length (Array.replicate rs.length false) a (w.drewN 1) ⟨1, rfl⟩
    ⟨by simp, fun i hi => by
      exfalso
      rw [Array.getD_eq_getD_getElem?, Array.getElem?_replicate] at hi
      split at hi <;> simp at hi⟩ (by simpa using hq)
  have e : (Array.replicate rs.length false).push false = Array.replicate (rs ++ [o]).toArray.size false := by simp [Array.replicate_succ]
  rw [e] at this
  have hs : (rs ++ [o]).toArray.size = rs.length + 1 := by simp
  rw [hs]
  rw [hs] at this
  exact this
/-- The same of a list that is written out. -/
theorem wpIn_region_last_lit {id : Nat} {a : Act} {w : World} {ls : List Oper} (hne : ls ≠ []) (hm : P.follows .mixedOrders = true) (hB : Region.lexB .any ls.dropLast.toArray = true)
    (hc : covers ls.toArray = true) (ht : topo ls.toArray = true) (hp : plainOps ls.toArray = true)
    (h : wpQuiet P ls.dropLast.toArray (fun w' => ∃ k, w' = w.drewN k) (fun a' => ∀ k, wpOpIn (Fence.wide.inRound l) n P ls.toArray Q (ls.length - 1) (fun a' w' => Q .normal a' w') a' (w.drewN k)) ls.dropLast a) :
    (Code.region id ls.toArray true).wpIn (Fence.wide.inRound l) n P Q a w := by
  have e := List.dropLast_concat_getLast hne
  have hl : ls.dropLast.length = ls.length - 1 := by simp
  have := wpIn_region_last (l := l) (n := n) (P := P) (Q := Q) (id := id) (a := a) (w := w) (rs := ls.dropLast) (o := ls.getLast hne) hm hB (by rw [e]; exact hc) (by rw [e]; exact ht) (by rw [e]; exact hp) (by rw [e, hl]; exact h)
  rwa [e] at this
/-- A whole row is loaded, quietly. -/
theorem wpQuiet_load_row {C : World → Prop} {Q : Act → Prop} {a : Act} {o : Oper} {rest : List Oper} (hgd : o.guard = none) (ty : TypeId) (x : Operand) (ho : o.op = .load ty x) (ad : Addr) (hx : a.eval x = .pointer (some ad)) (cs : Array Value)
    (hrun : ∀ w, C w → (Instr.loadAt ty (.pointer (some ad))).run P w = .ok (.agg cs) w) (h : wpQuiet P ops C Q rest (a.put o.dst (.agg cs))) : wpQuiet P ops C Q (o :: rest) a := by
  refine wpQuiet_step fun K hK => ?_
  have hw : Region.wanted o (yielded ops a.tmps) = true := by simp [Region.wanted, hgd]
  rw [if_pos hw]
  refine ⟨.agg cs, fun w hw => ?_, hK _ h⟩
  unfold Oper.quietAt execOp
  simp only [ho, hx, hrun w hw, Sem.run_bind, Sem.run_pure, Result.andThen_ok]
  exact ⟨rfl, rfl⟩
end
end Go.Proofs.YtoalchlokcphkaaDoor
