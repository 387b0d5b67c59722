/- Texts put together, in build order: M3, M2, P2, D1, D2, P1, IL2, P5, D3, D4, P3, P4. -/
import Derived.Test.YtodkehpldlmgaaaDoorZq1
import Derived.Defers
import Derived.Recover
import Derived.Deep.Cut
import Derived.Test.YtodkehpldlmgaaaDoorZq5
import Derived.Test.YtodkehpldlmgaaaDoorZq3
import Derived.Test.YtodkehpldlmgaaaDoorZq2
/- What was given up by, told; what is deferred. -/
namespace Go.Proofs.YtodkehpldlmgaaaDoor
open Go.RowKit

/-- The error of what was given up by. -/
def Wrong.errno : Wrong → Int
  | .unset => 161
  | .zero => 162
  | .beyond => 163
def Wrong.ty : Wrong → Nat
  | .unset => 92
  | .zero => 93
  | .beyond => 94
theorem Wrong.entry_eq (x : Wrong) : x.entry = [{ v := .iface x.ty (.agg #[]), recovered := false }] := by cases x <;> rfl
def astrayE : List PanicEntry := [{ v := .iface 95 (.agg #[]), recovered := false }]
set_option maxRecDepth 100000 in
set_option maxHeartbeats 1000000 in
theorem told_nil (w : World) : Calls Tryd.prog 27 #[.nilIface] w fun e w' => e = .returned (.int .i64 0) ∧ w = w' := by
  go_enter Tryd.func27, Tryd.ntmps27
  go_wp2
  go_ret
  exact ⟨rfl, rfl⟩
set_option maxRecDepth 100000 in
set_option maxHeartbeats 1000000 in
theorem told_wrong (x : Wrong) (w : World) : Calls Tryd.prog 27 #[.iface x.ty (.agg #[])] w fun e w' => e = .returned (.int .i64 x.errno) ∧ w = w' := by
  cases x
  · show Calls Tryd.prog 27 #[.iface 92 (.agg #[])] w fun e w' => e = .returned (.int .i64 161) ∧ w = w'
    have ha92 : ∀ w, (Instr.typeAssert (.iface 92 (.agg #[])) 20 92 true).run Tryd.prog w = .ok (.tuple #[.agg #[], .bool true]) w := fun _ => by kernel_rfl
    go_enter Tryd.func27, Tryd.ntmps27
    go_wp2
    go_ret
    exact ⟨rfl, rfl⟩
  · show Calls Tryd.prog 27 #[.iface 93 (.agg #[])] w fun e w' => e = .returned (.int .i64 162) ∧ w = w'
    have ha92 : ∀ w, (Instr.typeAssert (.iface 93 (.agg #[])) 20 92 true).run Tryd.prog w = .ok (.tuple #[.agg #[], .bool false]) w := fun _ => by kernel_rfl
    have ha93 : ∀ w, (Instr.typeAssert (.iface 93 (.agg #[])) 20 93 true).run Tryd.prog w = .ok (.tuple #[.agg #[], .bool true]) w := fun _ => by kernel_rfl
    go_enter Tryd.func27, Tryd.ntmps27
    go_wp2
    go_ret
    exact ⟨rfl, rfl⟩
  · show Calls Tryd.prog 27 #[.iface 94 (.agg #[])] w fun e w' => e = .returned (.int .i64 163) ∧ w = w'
    have ha92 : ∀ w, (Instr.typeAssert (.iface 94 (.agg #[])) 20 92 true).run Tryd.prog w = .ok (.tuple #[.agg #[], .bool false]) w := fun _ => by kernel_rfl
    have ha93 : ∀ w, (Instr.typeAssert (.iface 94 (.agg #[])) 20 93 true).run Tryd.prog w = .ok (.tuple #[.agg #[], .bool false]) w := fun _ => by kernel_rfl
    have ha94 : ∀ w, (Instr.typeAssert (.iface 94 (.agg #[])) 20 94 true).run Tryd.prog w = .ok (.tuple #[.agg #[], .bool true]) w := fun _ => by kernel_rfl
    go_enter Tryd.func27, Tryd.ntmps27
    go_wp2
    go_ret
    exact ⟨rfl, rfl⟩
set_option maxRecDepth 100000 in
set_option maxHeartbeats 1000000 in
theorem told_astray (w : World) : Calls Tryd.prog 27 #[.iface 95 (.agg #[])] w fun e w' => e = .returned (.int .i64 164) ∧ w = w' := by
  have ha92 : ∀ w, (Instr.typeAssert (.iface 95 (.agg #[])) 20 92 true).run Tryd.prog w = .ok (.tuple #[.agg #[], .bool false]) w := fun _ => by kernel_rfl
  have ha93 : ∀ w, (Instr.typeAssert (.iface 95 (.agg #[])) 20 93 true).run Tryd.prog w = .ok (.tuple #[.agg #[], .bool false]) w := fun _ => by kernel_rfl
  have ha94 : ∀ w, (Instr.typeAssert (.iface 95 (.agg #[])) 20 94 true).run Tryd.prog w = .ok (.tuple #[.agg #[], .bool false]) w := fun _ => by kernel_rfl
  have ha95 : ∀ w, (Instr.typeAssert (.iface 95 (.agg #[])) 20 95 true).run Tryd.prog w = .ok (.tuple #[.agg #[], .bool true]) w := fun _ => by kernel_rfl
  go_enter Tryd.func27, Tryd.ntmps27
  go_wp2
  go_ret
  exact ⟨rfl, rfl⟩
theorem catch_panic (p : Addr) (x T : Int) (u : TypeId) (pv : Value) (w : World) (hc : w.cell? p = some (.int .i64 x)) (hz : w.frozen? p = false)
    (ht : ∀ w, Calls Tryd.prog 27 #[.iface u pv] w fun e w' => e = .returned (.int .i64 T) ∧ w = w') :
    CallsD Tryd.prog 32 #[.pointer (some p)] (.panicking ({ v := .iface u pv, recovered := false } :: [])) w fun e u' w' =>
      e = .returned (.tuple #[]) ∧ u' = .panicking ({ v := .iface u pv, recovered := true } :: []) ∧ w' = w.setCell p (.int .i64 T) := by
  refine callsD_of_wpS Tryd.func32 rfl fun c₀ cs hu => ?_
  apply wpS_region
  simp [wpOpsS, go_sem, recoverD, hu, Tryd.ntmps32]
  refine (ht w).mono ?_
  rintro e w' ⟨rfl, rfl⟩
  simp [go_sem, hc, hz, bodyPostS, results, Tryd.results32]
theorem catch_idle (p : Addr) (x : Int) (w : World) (hc : w.cell? p = some (.int .i64 x)) (hz : w.frozen? p = false) :
    CallsD Tryd.prog 32 #[.pointer (some p)] .returning w fun e u' w' => e = .returned (.tuple #[]) ∧ u' = .returning ∧ w' = w.setCell p (.int .i64 0) := by
  refine callsD_of_wpS Tryd.func32 rfl fun c₀ cs hu => ?_
  apply wpS_region
  simp [wpOpsS, go_sem, recoverD, hu, Tryd.ntmps32]
  refine (told_nil w).mono ?_
  rintro e w' ⟨rfl, rfl⟩
  cases c₀
  simp_all [go_sem, bodyPostS, results, Tryd.results32]
theorem catch_panicK (p : Addr) (x T : Int) (u : TypeId) (pv : Value) (w : World) (hc : w.cell? p = some (.int .i64 x)) (hz : w.frozen? p = false)
    (ht : ∀ w, Calls Tryd.prog 27 #[.iface u pv] w fun e w' => e = .returned (.int .i64 T) ∧ w = w') :
    CallsD Tryd.prog 26 #[.pointer (some p)] (.panicking ({ v := .iface u pv, recovered := false } :: [])) w fun e u' w' =>
      e = .returned (.tuple #[]) ∧ u' = .panicking ({ v := .iface u pv, recovered := true } :: []) ∧ w' = w.setCell p (.int .i64 T) := by
  refine callsD_of_wpS Tryd.func26 rfl fun c₀ cs hu => ?_
  apply wpS_region
  simp [wpOpsS, go_sem, recoverD, hu, Tryd.ntmps26]
  refine (ht w).mono ?_
  rintro e w' ⟨rfl, rfl⟩
  simp [go_sem, hc, hz, bodyPostS, results, Tryd.results26]
theorem catch_idleK (p : Addr) (x : Int) (w : World) (hc : w.cell? p = some (.int .i64 x)) (hz : w.frozen? p = false) :
    CallsD Tryd.prog 26 #[.pointer (some p)] .returning w fun e u' w' => e = .returned (.tuple #[]) ∧ u' = .returning ∧ w' = w.setCell p (.int .i64 0) := by
  refine callsD_of_wpS Tryd.func26 rfl fun c₀ cs hu => ?_
  apply wpS_region
  simp [wpOpsS, go_sem, recoverD, hu, Tryd.ntmps26]
  refine (told_nil w).mono ?_
  rintro e w' ⟨rfl, rfl⟩
  cases c₀
  simp_all [go_sem, bodyPostS, results, Tryd.results26]
end Go.Proofs.YtodkehpldlmgaaaDoor
/- The table is made. -/
namespace Go.Proofs.YtodkehpldlmgaaaDoor
open Go.RowKit

set_option maxHeartbeats 1000000 in
theorem set_mk (G : Nat) (w : World) :
    Calls Tryd.prog 44 #[fnV G] w fun e w' => ∃ b, e = .returned (.func (.func 75) #[] #[.pointer (some ⟨b, 0, none⟩)]) ∧ Has w' b #[fnV G] 103 ∧ Below w.heap.size w w' := by
  have HN : Hid (Has (w.alloc (.cells #[.func (.func G) #[] #[]] 103)) w.heap.size #[fnV G] 103) := has_new _ _ _ _ rfl
  unfold fnV
  go_enter Tryd.func44, Tryd.ntmps44
  go_wp2
  go_ret
  exact ⟨_, rfl, HN.out, (Below.refl _ _).alloc (Nat.le_refl _) _⟩
set_option maxHeartbeats 1000000 in
theorem fold_mk (F G : Nat) (w : World) :
    Calls Tryd.prog 47 #[fnV F, fnV G] w fun e w' => ∃ bf bg, e = .returned (.func (.func 79) #[] #[.pointer (some ⟨bg, 0, none⟩), .pointer (some ⟨bf, 0, none⟩)]) ∧ Has w' bf #[fnV F] 105 ∧ Has w' bg #[fnV G] 103 ∧ Below w.heap.size w w' := by
  have H1 : Hid (Has ((w.alloc (.cells #[.func (.func F) #[] #[]] 105)).alloc (.cells #[.func (.func G) #[] #[]] 103)) w.heap.size #[fnV F] 105) := has_old (has_new _ _ _ _ rfl)
  have H2 : Hid (Has ((w.alloc (.cells #[.func (.func F) #[] #[]] 105)).alloc (.cells #[.func (.func G) #[] #[]] 103)) (w.heap.size + 1) #[fnV G] 103) := has_new _ _ _ _ (by simp)
  unfold fnV
  go_enter Tryd.func47, Tryd.ntmps47
  go_wp2
  go_ret
  exact ⟨_, _, rfl, H1.out, H2.out, ((Below.refl _ _).alloc (Nat.le_refl _) _).alloc (by simp) _⟩
theorem MS.start (w : World) : MS w w.heap.size 0 (w.alloc (.map #[] 0)) :=
  ⟨⟨[], rfl, by rw [alloc_get, if_pos rfl]; rfl, fun j v h => by simp at h⟩, (Below.refl _ _).alloc (Nat.le_refl _) _, Nat.le_refl _⟩
set_option maxRecDepth 100000 in
set_option maxHeartbeats 4000000 in
theorem ops_any (w : World) :
    Calls Tryd.prog 33 #[] w fun e w' => ∃ mb, e = .returned (.map (some mb)) ∧ MS w mb 24 w' := by
  have hmm : ∀ w, (Instr.makeMap 79 none).run Tryd.prog w = .ok (.map (some w.heap.size)) (w.alloc (.map #[] 0)) := fun _ => rfl
  have hM := MS.start w
  obtain ⟨mb, hmb⟩ : ∃ mb, mb = w.heap.size := ⟨_, rfl⟩
  rw [← hmb] at hM
  have HB : Hid (w.heap.size = mb) := hmb.symm
  clear hmb
  go_enter Tryd.func33, Tryd.ntmps33
  go_wp2_with fail
  rw [HB.out]
  clear hmm HB
  refine named (p := fun X => Calls _ _ _ X _) ?_
  intro W0 hW0
  rw [← hW0] at hM
  clear hW0
  refine (set_mk 45 W0).mono ?_
  rintro e X1 ⟨b, rfl, hb, hB⟩
  obtain ⟨W1, hp, hM'⟩ := (hM.grow hB).put _ (.set 1 45 b rfl hb) 1 rfl (by decide)
  clear hM hB hb
  have hM := hM'
  clear hM'
  go_wp2_with fail
  clear hp
  refine (set_mk 46 W1).mono ?_
  rintro e X2 ⟨b, rfl, hb, hB⟩
  obtain ⟨W2, hp, hM'⟩ := (hM.grow hB).put _ (.set 2 46 b rfl hb) 2 rfl (by decide)
  clear hM hB hb
  have hM := hM'
  clear hM'
  go_wp2_with fail
  clear hp
  refine (fold_mk 48 45 W2).mono ?_
  rintro e X3 ⟨bf, bg, rfl, hf, hg, hB⟩
  obtain ⟨W3, hp, hM'⟩ := (hM.grow hB).put _ (.fold 3 48 45 bf bg rfl hf hg) 3 rfl (by decide)
  clear hM hB hf hg
  have hM := hM'
  clear hM'
  go_wp2_with fail
  clear hp
  refine (fold_mk 48 46 W3).mono ?_
  rintro e X4 ⟨bf, bg, rfl, hf, hg, hB⟩
  obtain ⟨W4, hp, hM'⟩ := (hM.grow hB).put _ (.fold 4 48 46 bf bg rfl hf hg) 4 rfl (by decide)
  clear hM hB hf hg
  have hM := hM'
  clear hM'
  go_wp2_with fail
  clear hp
  refine (fold_mk 49 46 W4).mono ?_
  rintro e X5 ⟨bf, bg, rfl, hf, hg, hB⟩
  obtain ⟨W5, hp, hM'⟩ := (hM.grow hB).put _ (.fold 5 49 46 bf bg rfl hf hg) 5 rfl (by decide)
  clear hM hB hf hg
  have hM := hM'
  clear hM'
  go_wp2_with fail
  clear hp
  refine (fold_mk 50 45 W5).mono ?_
  rintro e X6 ⟨bf, bg, rfl, hf, hg, hB⟩
  obtain ⟨W6, hp, hM'⟩ := (hM.grow hB).put _ (.fold 6 50 45 bf bg rfl hf hg) 6 rfl (by decide)
  clear hM hB hf hg
  have hM := hM'
  clear hM'
  go_wp2_with fail
  clear hp
  refine (fold_mk 50 46 W6).mono ?_
  rintro e X7 ⟨bf, bg, rfl, hf, hg, hB⟩
  obtain ⟨W7, hp, hM'⟩ := (hM.grow hB).put _ (.fold 7 50 46 bf bg rfl hf hg) 7 rfl (by decide)
  clear hM hB hf hg
  have hM := hM'
  clear hM'
  go_wp2_with fail
  clear hp
  refine (fold_mk 51 45 W7).mono ?_
  rintro e X8 ⟨bf, bg, rfl, hf, hg, hB⟩
  obtain ⟨W8, hp, hM'⟩ := (hM.grow hB).put _ (.fold 8 51 45 bf bg rfl hf hg) 8 rfl (by decide)
  clear hM hB hf hg
  have hM := hM'
  clear hM'
  go_wp2_with fail
  clear hp
  refine (fold_mk 51 46 W8).mono ?_
  rintro e X9 ⟨bf, bg, rfl, hf, hg, hB⟩
  obtain ⟨W9, hp, hM'⟩ := (hM.grow hB).put _ (.fold 9 51 46 bf bg rfl hf hg) 9 rfl (by decide)
  clear hM hB hf hg
  have hM := hM'
  clear hM'
  go_wp2_with fail
  clear hp
  refine (fold_mk 52 46 W9).mono ?_
  rintro e X10 ⟨bf, bg, rfl, hf, hg, hB⟩
  obtain ⟨W10, hp, hM'⟩ := (hM.grow hB).put _ (.fold 10 52 46 bf bg rfl hf hg) 10 rfl (by decide)
  clear hM hB hf hg
  have hM := hM'
  clear hM'
  go_wp2_with fail
  clear hp
  refine (fold_mk 53 46 W10).mono ?_
  rintro e X11 ⟨bf, bg, rfl, hf, hg, hB⟩
  obtain ⟨W11, hp, hM'⟩ := (hM.grow hB).put _ (.fold 11 53 46 bf bg rfl hf hg) 11 rfl (by decide)
  clear hM hB hf hg
  have hM := hM'
  clear hM'
  go_wp2_with fail
  clear hp
  refine (fold_mk 50 54 W11).mono ?_
  rintro e X12 ⟨bf, bg, rfl, hf, hg, hB⟩
  obtain ⟨W12, hp, hM'⟩ := (hM.grow hB).put _ (.fold 12 50 54 bf bg rfl hf hg) 12 rfl (by decide)
  clear hM hB hf hg
  have hM := hM'
  clear hM'
  go_wp2_with fail
  clear hp
  refine (fold_mk 55 54 W12).mono ?_
  rintro e X13 ⟨bf, bg, rfl, hf, hg, hB⟩
  obtain ⟨W13, hp, hM'⟩ := (hM.grow hB).put _ (.fold 13 55 54 bf bg rfl hf hg) 13 rfl (by decide)
  clear hM hB hf hg
  have hM := hM'
  clear hM'
  go_wp2_with fail
  clear hp
  refine (fold_mk 55 46 W13).mono ?_
  rintro e X14 ⟨bf, bg, rfl, hf, hg, hB⟩
  obtain ⟨W14, hp, hM'⟩ := (hM.grow hB).put _ (.fold 14 55 46 bf bg rfl hf hg) 14 rfl (by decide)
  clear hM hB hf hg
  have hM := hM'
  clear hM'
  go_wp2_with fail
  clear hp
  refine (fold_mk 56 46 W14).mono ?_
  rintro e X15 ⟨bf, bg, rfl, hf, hg, hB⟩
  obtain ⟨W15, hp, hM'⟩ := (hM.grow hB).put _ (.fold 15 56 46 bf bg rfl hf hg) 15 rfl (by decide)
  clear hM hB hf hg
  have hM := hM'
  clear hM'
  obtain ⟨W16, hp16, hM16⟩ := hM.put _ (.fn 16 (by decide)) 16 rfl (by decide)
  obtain ⟨W17, hp17, hM17⟩ := hM16.put _ (.fn 17 (by decide)) 17 rfl (by decide)
  obtain ⟨W18, hp18, hM18⟩ := hM17.put _ (.fn 18 (by decide)) 18 rfl (by decide)
  obtain ⟨W19, hp19, hM19⟩ := hM18.put _ (.fn 19 (by decide)) 19 rfl (by decide)
  obtain ⟨W20, hp20, hM20⟩ := hM19.put _ (.fn 20 (by decide)) 20 rfl (by decide)
  obtain ⟨W21, hp21, hM21⟩ := hM20.put _ (.fn 21 (by decide)) 21 rfl (by decide)
  obtain ⟨W22, hp22, hM22⟩ := hM21.put _ (.fn 22 (by decide)) 22 rfl (by decide)
  obtain ⟨W23, hp23, hM23⟩ := hM22.put _ (.fn 23 (by decide)) 23 rfl (by decide)
  obtain ⟨W24, hp24, hM24⟩ := hM23.put _ (.fn 24 (by decide)) 24 rfl (by decide)
  unfold fnV at hp16 hp17 hp18 hp19 hp20 hp21 hp22 hp23 hp24
  have HM : Hid (MS w mb 24 W24) := hM24
  clear hM hM16 hM17 hM18 hM19 hM20 hM21 hM22 hM23 hM24
  go_wp2_with fail
  go_ret
  exact ⟨mb, rfl, HM.out⟩
end Go.Proofs.YtodkehpldlmgaaaDoor
/- A step is put together; what stands at an Op is looked up, in any order. -/
namespace Go.Proofs.YtodkehpldlmgaaaDoor
open Go.RowKit

theorem wpList_load_row_if {P : Program} {ops : Array Oper} {rest : List Oper} {o : Oper} {a : Act} {w : World} {Q : Exit → Act → World → Prop} (hw : Region.wanted o (yielded ops a.tmps) = true) (ty : TypeId) (x : Operand) (ho : o.op = .load ty x)
    (g : Nat) (hx : a.eval x = .pointer (some ⟨g, 0, none⟩)) (t : TypeId) (cs : Array Value) (fr : Nat × Nat) (d : TypeDesc) (hg : w.heap[g]? = some (.cells cs t fr))
    (hu : P.underlying ty = some d) (hd : (match d with | .struct _ | .array _ _ => true | _ => false) = true) (hi : (P.info? ty).map (·.size) = some cs.size)
    (h : wpList P ops Q rest (a.put o.dst (.agg cs)) w) : wpList P ops Q (o :: rest) a w := by
  unfold wpList
  rw [if_pos hw]
  exact .inl (wp_load_row ty x ho g hx t cs fr d hg hu hd hi h)
theorem Ph2.keepMid {j k i : Nat} {S : (Nat → Bool) → (Nat → Value) → World → Prop} {T U : (Nat → Value) → World → Prop} {l : Nat → Bool} {vs : Nat → Value} {v : Value} {X' : World} (hj : l j = true) (hk : l k = false) (h1 : j ≠ i) (h2 : k ≠ i) (h : T (upd vs i v) X') : Ph2 j k S T U (upd l i true) (upd vs i v) X' :=
  ⟨(fun h => by rw [upd_other _ _ h1, hj] at h; cases h), fun _ _ => h, (fun h => by rw [upd_other _ _ h2, hk] at h; cases h)⟩
theorem run_callv {o : Oper} {ρ : Operand → Value} {X : World} (f x : Operand) (ty : TypeId) (ho : o.op = .call { callee := .value f, args := #[x], argTypes := #[ty] }) (F : Nat) (cap : Array Value) (v : Value) (hf : ρ f = .func (.func F) #[] cap) (hx : ρ x = v)
    (he : ∀ args X, (callFunc F args).run Tryd.prog X = .ok (.enter F args) X) : (execOp ρ o).run Tryd.prog X = .ok (.enter F (#[v] ++ cap)) X := by
  unfold execOp
  simp [ho, resolve, hf, hx, invoke, Deferred.ofValue, he]
theorem build_step (i : Ins) (c : Int) (k : Kn) (W : World) : (Instr.build 82 #[(0, .agg i.a), (1, .int .i64 c), (2, .agg k.a)]).run Tryd.prog W = .ok (.agg (stA i c k)) W := by kernel_rfl
theorem MS.base {w w' W : World} {mb m : Nat} (h : MS w mb m W) (k : Below w'.heap.size w' w) : MS w' mb m W :=
  ⟨h.ex, k.trans (h.below.mono k.size), Nat.le_trans k.size h.le⟩
/-- Ahead of the stores: the table, once it is made, and what stands in it. -/
structure OpS (W : World) (n : Nat) (l : Nat → Bool) (vs : Nat → Value) (X : World) : Prop where
  below : Below W.heap.size W X
  tab : l 0 = true → ∃ mb, vs 0 = .map (some mb) ∧ MS W mb 24 X
  fn : l 3 = true → IsMake X n (vs 3)
theorem OpS.size {W : World} {n : Nat} {l : Nat → Bool} {vs : Nat → Value} {X : World} (h : OpS W n l vs X) : W.heap.size ≤ X.heap.size := h.below.size
theorem OpS.start {W X : World} {n : Nat} {vs : Nat → Value} (h : Below W.heap.size W X) : OpS W n (fun _ => false) vs X := ⟨h, (fun h => by cases h), (fun h => by cases h)⟩
theorem OpS.grow {W X X' : World} {n : Nat} {l : Nat → Bool} {vs : Nat → Value} (h : OpS W n l vs X) (k : Below X.heap.size X X') {q : Nat} (h0 : 0 ≠ q) (h3 : 3 ≠ q) (v : Value) : OpS W n (upd l q true) (upd vs q v) X' := by
  refine ⟨h.below.trans (k.mono h.below.size), fun h1 => ?_, fun h1 => ?_⟩
  · rw [upd_other _ _ h0] at h1 ⊢
    obtain ⟨mb, e, hm⟩ := h.tab h1
    exact ⟨mb, e, hm.grow k⟩
  · rw [upd_other _ _ h3] at h1 ⊢
    exact (h.fn h1).grow k
theorem OpS.mk0 {W X X' : World} {n mb : Nat} {l : Nat → Bool} {vs : Nat → Value} (h : OpS W n l vs X) (hm : MS X mb 24 X') : OpS W n (upd l 0 true) (upd vs 0 (.map (some mb))) X' := by
  refine ⟨h.below.trans (hm.below.mono h.below.size), fun _ => ⟨mb, upd_same _ _ _, hm.base h.below⟩, fun h1 => ?_⟩
  rw [upd_other _ _ (by decide)] at h1 ⊢
  exact (h.fn h1).grow hm.below
theorem OpS.mk3 {W X : World} {n : Nat} {l : Nat → Bool} {vs : Nat → Value} {v : Value} (h : OpS W n l vs X) (hv : IsMake X n v) : OpS W n (upd l 3 true) (upd vs 3 v) X := by
  refine ⟨h.below, fun h1 => ?_, fun _ => by rw [upd_same]; exact hv⟩
  rw [upd_other _ _ (by decide)] at h1 ⊢
  exact h.tab h1
end Go.Proofs.YtodkehpldlmgaaaDoor
/- All ways: what the walk of them needs. -/
namespace Go.Proofs.YtodkehpldlmgaaaDoor
open Go.RowKit

theorem run_alloc97 (X : World) : (Instr.alloc 97 true (.tuple #[])).run Tryd.prog X = .ok (.pointer (some ⟨X.heap.size, 0, none⟩)) (X.alloc (.cells zWays 97)) := by
  obtain ⟨i0, hi, hz, hs⟩ : ∃ i, Tryd.prog.info? 97 = some i ∧ i.zero = some (.agg zWays) ∧ i.size = 7936 := by
    have h := info97
    cases hi : Tryd.prog.info? 97 with
    | none => rw [hi] at h; cases h
    | some i =>
      rw [hi] at h
      simp only [Option.map_some, Option.some.injEq, Prod.mk.injEq] at h
      exact ⟨i, rfl, h.1, h.2⟩
  generalize zWays = Z at *
  have hw : (zeroValue 97).run Tryd.prog X = .ok (.agg Z) X := by
    unfold zeroValue
    simp [typeInfo, hi, hz, go_sem]
  simp [Instr.alloc, hw, newVar, newRow, go_sem]
/-- A way is led on, or there is none. -/
theorem lead_any (k : Kn) (wb tn : Nat) (to : Int) (ws : Nat → Kn) (w : World) (h : k.come = true → to = (tn : Int) ∧ tn < 256) (hW : WaysAt w wb ws) (h1 : ∀ j, KnR (ws j)) (h2 : KnR k) :
    Calls Tryd.prog 40 #[.pointer (some ⟨wb, 0, none⟩), .int .i64 to, .agg k.a] w fun e w' => e = .returned (.tuple #[]) ∧ WaysAt w' wb (leadW ws tn k) ∧ Ex wb w w' := by
  cases hc : k.come with
  | false =>
    refine (lead_no k wb to w hc).mono ?_
    rintro e w' ⟨rfl, hB⟩
    refine ⟨rfl, ?_, Ex.below hB⟩
    unfold leadW
    rw [if_neg (by rw [hc]; decide)]
    exact hW.below hB
  | true =>
    obtain ⟨rfl, ht⟩ := h hc
    refine (lead_yes k wb tn ws w hc ht hW (h1 tn).ok h2.ok).mono ?_
    rintro e w' ⟨rfl, g1, g2⟩
    refine ⟨rfl, ?_, g2⟩
    unfold leadW
    rw [if_pos hc]
    exact g1
theorem WaysAt.cells {X : World} {wb : Nat} {ws : Nat → Kn} (h : WaysAt X wb ws) : ∃ cs, Has X wb cs 97 := by
  obtain ⟨cs, h1, _⟩ := h.has
  exact ⟨cs, h1⟩
theorem has_apart {X : World} {a b s t : Nat} {cs ds : Array Value} (h : Has X a cs s) (k : Has X b ds t) (hne : s ≠ t) : a ≠ b := fun e => by
  subst e
  have := h.symm.trans k
  simp only [Option.some.injEq, Obj.cells.injEq] at this
  exact hne this.2.1
theorem IsMake.exW {W W' : World} {n wb : Nat} {v : Value} {cs : Array Value} (h : IsMake W n v) (hw : Has W wb cs 97) (k : Ex wb W W') : IsMake W' n v := by
  cases h with
  | set G b h hb => exact .set n G b h (hb.ex k (has_apart hb hw (by decide)))
  | fold F G bf bg h hf hg => exact .fold n F G bf bg h (hf.ex k (has_apart hf hw (by decide))) (hg.ex k (has_apart hg hw (by decide)))
  | fn h => exact .fn n h
theorem MS.exW {w W W' : World} {mb m wb : Nat} {cs : Array Value} (h : MS w mb m W) (hw : Has W wb cs 97) (hb : w.heap.size ≤ wb) (k : Ex wb W W') : MS w mb m W' := by
  obtain ⟨⟨vs, h1, h2, h3⟩, h4, h5⟩ := h
  have hne : mb ≠ wb := fun e => by
    subst e
    have := h2.symm.trans hw
    simp at this
  exact ⟨⟨vs, h1, (k.block mb (Array.getElem?_eq_some_iff.1 h2).1 hne).trans h2, fun j v hj => (h3 j v hj).exW hw k⟩, Below.ex h4 h4.size k hb, h5⟩
/-- What stands in the table at an Op, wherever memory has only grown. -/
theorem MS.fixed {w W : World} {mb : Nat} (h : MS w mb 24 W) (n : Nat) (h1 : 1 ≤ n) (h2 : n ≤ 24) : ∃ v, IsMake W n v ∧ ∀ X, Below W.heap.size W X → (Instr.lookup 79 (.map (some mb)) (.int .i64 (n : Int)) false).run Tryd.prog X = .ok v X := by
  obtain ⟨⟨vs, g1, g2, g3⟩, _, _⟩ := h
  obtain ⟨j, rfl⟩ : ∃ j, n = j + 1 := ⟨n - 1, by omega⟩
  have hj : vs[j]? = some vs[j] := List.getElem?_eq_getElem (by omega)
  refine ⟨vs[j], g3 j _ hj, fun X hX => look79 ((hX.block mb (Array.getElem?_eq_some_iff.1 g2).1).trans g2) _ (WalkArith.wf_i64 (by omega)) _ (0 + j) ?_⟩
  have := find_some vs 0 0 j _ hj
  rw [Nat.zero_add] at this
  simpa using this
/-- What becomes of all ways. -/
def aheadP (r : Except (Option Wrong) (Nat → Kn)) (n : Nat) (w : World) (e : Ending) (w' : World) : Prop :=
  (match r with
    | .ok ws => ∃ v, e = .returned v ∧ KnS w' v n ws
    | .error (some x) => e = .panicked x.entry
    | .error none => e = .panicked astrayE) ∧ Below w.heap.size w w'
theorem ahead_step {n : Nat} {c : Int} {l : List Ins} {k : Nat} {i : Ins} {ws : Nat → Kn} (hi : l[k]? = some i) : aheadE n c (l.drop k) k ws = (match turnE n c k i ws with
    | .error x => .error x
    | .ok ws' => aheadE n c (l.drop (k + 1)) (k + 1) ws') := by
  have hk := (List.getElem?_eq_some_iff.1 hi).1
  have e : l.drop k = i :: l.drop (k + 1) := by
    rw [List.drop_eq_getElem_cons hk, (List.getElem?_eq_some_iff.1 hi).2]
  rw [e]
  rfl
end Go.Proofs.YtodkehpldlmgaaaDoor
/- All ways through a program. -/
namespace Go.Proofs.YtodkehpldlmgaaaDoor
open Go.RowKit

set_option maxRecDepth 1000000 in
theorem zc97 : Tryd.zeroCells97 = zWays := by kernel_rfl
/-- The world at the loop of all ways. -/
structure AW (w : World) (c : Int) (sv : Value) (mb : Nat) (ws : Nat → Kn) (X : World) : Prop where
  box : Has X w.heap.size #[.int .i64 c, sv] 24
  ways : WaysAt X (w.heap.size + 1) ws
  tab : MS w mb 24 X
  below : Below w.heap.size w X
theorem AW.grow {w : World} {c : Int} {sv : Value} {mb : Nat} {ws : Nat → Kn} {X X' : World} (h : AW w c sv mb ws X) (k : Below X.heap.size X X') : AW w c sv mb ws X' :=
  ⟨h.box.below k h.box.lt, h.ways.below k, h.tab.grow k, h.below.trans (k.mono h.below.size)⟩
theorem AW.lead {w : World} {c : Int} {sv : Value} {mb : Nat} {ws ws' : Nat → Kn} {X X' : World} (h : AW w c sv mb ws X) (h1 : WaysAt X' (w.heap.size + 1) ws') (h2 : Ex (w.heap.size + 1) X X') : AW w c sv mb ws' X' := by
  obtain ⟨cs, hc⟩ := h.ways.cells
  exact ⟨h.box.ex h2 (by omega), h1, h.tab.exW hc (by omega) h2, Below.ex h.below h.below.size h2 (by omega)⟩
set_option maxRecDepth 10000 in
set_option maxHeartbeats 4000000 in
theorem ahead_any (c : Int) (sv : Value) (pl : List Ins) (w : World) (hP : Prg w sv pl) (hl1 : 1 ≤ pl.length) (hl : pl.length ≤ 256) (hm : ∀ i, i ∈ pl → MayI i) :
    Calls Tryd.prog 28 #[.agg #[.int .i64 c, sv]] w fun e w' => aheadP (aheadE pl.length c pl 0 startW) pl.length w e w' := by
  obtain ⟨a, cap, b, o, rfl, ha, hI, hb⟩ := hP
  obtain ⟨W1, hW1⟩ : ∃ W1, W1 = (w.alloc (.cells #[.int .i64 c, .slice a pl.length cap] 24)).alloc (.cells Tryd.zeroCells97 97) := ⟨_, rfl⟩
  have hbox : Has W1 w.heap.size #[.int .i64 c, .slice a pl.length cap] 24 := by rw [hW1]; exact has_old (has_new _ _ _ _ rfl)
  have hz : WaysAt W1 (w.heap.size + 1) (fun _ => noK) := by rw [hW1, zc97]; exact WaysAt.zero (has_new _ _ _ _ (by simp))
  have hB1 : Below w.heap.size w W1 := by rw [hW1]; exact ((Below.refl _ _).alloc (Nat.le_refl _) _).alloc (by simp) _
  go_enter Tryd.func28, Tryd.ntmps28
  go_upto_region 2 with fail
  rw [← hW1]
  clear hW1
  have hl0 := lead_any comeK (w.heap.size + 1) 0 0 (fun _ => noK) W1 (fun _ => ⟨rfl, by decide⟩) hz (fun _ => noK_right) comeK_right
  rw [startW_lead] at hl0
  have ek : comeK.a = #[.bool true, .bool false, .int .u32 0, .int .u32 0, .bool false, .int .u32 0, .int .u32 0, .bool false, .int .u32 0, .int .u32 0, .bool false, .int .u32 0, .int .u32 0, .bool false, .int .u32 0, .int .u32 0, .bool false, .int .u32 0, .int .u32 0, .bool false, .int .u32 0, .int .u32 0, .bool false, .int .u32 0, .int .u32 0, .bool false, .int .u32 0, .int .u32 0, .bool false, .int .u32 0, .int .u32 0] := by kernel_rfl
  rw [ek] at hl0
  clear ek hz
  go_upto_region 3 with (go_at_call 40; refine hl0.mono ?_; rintro e W2 ⟨rfl, hw2, hE2⟩; clear hl0)
  have hbox2 := hbox.ex hE2 (by omega)
  have hB2 : Below w.heap.size w W2 := Below.ex hB1 hB1.size hE2 (by omega)
  clear hbox hB1 hE2
  go_upto_region 4 with (go_at_call 33; refine (ops_any W2).mono ?_; rintro e W3 ⟨mb, rfl, hms⟩)
  have hAW : AW w c (.slice a pl.length cap) mb startW W3 := ⟨hbox2.below hms.below hbox2.lt, hw2.below hms.below, hms.base hB2, hB2.trans (hms.below.mono hB2.size)⟩
  clear hbox2 hw2 hms hB2
  have c1 := hAW.box.cell 1
  go_upto_region 5 with fail
  have HR0 : Hid (∀ j, KnR (startW j)) := startW_right
  clear c1
  go_loopw [15] (fun i wr => ∃ (k : Nat) (ws : Nat → Kn), k ≤ pl.length ∧ i = .int .i64 k ∧ AW w c (.slice a pl.length cap) mb ws wr ∧ Hid (aheadE pl.length c pl 0 startW = aheadE pl.length c (pl.drop k) k ws) ∧ Hid (∀ j, KnR (ws j))) (fun i _ => pl.length - (intOf i).toNat)
  case atStart => exact ⟨0, startW, Nat.zero_le _, rfl, hAW, rfl, HR0⟩
  case round =>
    obtain ⟨k, ws, hk, rfl, hA, HE, HR⟩ := hrel
    clear hAW HR0
    have hwb : WaysAt wr (w.heap.size + 1) ws := hA.ways
    have c1 := hA.box.cell 1
    by_cases hlt : k < pl.length
    · have hne : pl ≠ [] := fun e => by rw [e] at hlt; simp at hlt
      obtain rfl := ha hne
      have hi : Hid (pl[k]? = some pl[k]) := List.getElem?_eq_getElem hlt
      have hIr := hI.below hA.below hb
      have d0 := hIr.op k _ hi.out
      have d1 := hIr.dst k _ hi.out
      have d2 := hIr.src k _ hi.out
      have d3 := hIr.off k _ hi.out
      have d4 := hIr.imm k _ hi.out
      clear hIr
      have hlt' : (k : Int) < pl.length := by omega
      have hk256 : (k : Int) < 256 := by omega
      obtain ⟨i, hi'⟩ : ∃ i, i = pl[k] := ⟨_, rfl⟩
      have hmi : Hid (MayI i) := hm i (by rw [hi']; exact List.getElem_mem hlt)
      rw [← hi'] at d0 d1 d2 d3 d4 hi
      clear hi'
      have d5 : wr.cell? ⟨w.heap.size + 1, k * 31, none⟩ = some (.bool (ws k).come) := hwb.at_ k (by omega) 0 _ rfl
      go_upto_region 7 with fail
      clear d0 d1 d2 d3 d4 d5
      refine named2 (p := fun X => Code.wp _ _ _ _ X) ?_
      intro W4 hW4
      have h6 : Has W4 wr.heap.size i.a 38 := by rw [hW4]; exact has_new _ _ _ _ rfl
      have hA4 : AW w c (.slice (some ⟨b, o, none⟩) pl.length cap) mb ws W4 := by rw [hW4]; exact hA.grow ((Below.refl _ _).alloc (Nat.le_refl _) _)
      clear hW4 hA hwb c1
      have H6 : Hid (Has W4 wr.heap.size i.a 38) := h6
      generalize wr.heap.size = bi at *
      have d5 : W4.cell? ⟨w.heap.size + 1, k * 31, none⟩ = some (.bool (ws k).come) := hA4.ways.at_ k (by omega) 0 _ rfl
      cases hco : (ws k).come with
      | false =>
        rw [hco] at d5
        have hte : Hid (turnE pl.length c k i ws = .ok ws) := by show _ = _; unfold turnE; rw [if_pos hco]
        have hst := ahead_step (n := pl.length) (c := c) (ws := ws) hi.out
        rw [hte.out] at hst
        have HE2 : Hid (aheadE pl.length c pl 0 startW = aheadE pl.length c (pl.drop (k + 1)) (k + 1) ws) := HE.out.trans hst
        clear hst hte hco HE
        go_wp2
        go_roundw
        case rel => exact ⟨k + 1, ws, by omega, by simp, hA4, HE2, HR⟩
        case measure => simp [intOf]; omega
      | true =>
        rw [hco] at d5
        go_upto_region 8 with fail
        clear d5
        have hB4 := hA4.below
        obtain ⟨n, hop⟩ : ∃ n : Nat, i.op = (n : Int) := ⟨i.op.toNat, by have := hmi.out.1.1; omega⟩
        have h24 : 1 ≤ n ∧ n ≤ 24 := by have := hmi.out.1.1; omega
        obtain ⟨v, hv, hlk⟩ := hA4.tab.fixed n h24.1 h24.2
        have hmk : ∀ X, Below W4.heap.size W4 X → MakeOk i c (ws k) v X := fun X hX => make_any i c (ws k) v X n hop hmi.out (HR.out k) (hv.grow hX)
        have HOP : Hid (i.op = (n : Int)) := hop
        have HA4 : Hid (AW w c (.slice (some ⟨b, o, none⟩) pl.length cap) mb ws W4) := hA4
        clear h24 hv hop hA4 h6
        cases hout : outI i c (ws k) with
        | error x =>
          have HTE : Hid (aheadE pl.length c pl 0 startW = .error (some x)) := by
            show _ = _
            rw [HE.out, ahead_step hi.out]
            unfold turnE
            rw [if_neg (by rw [hco]; decide), hout]
          have HO : Hid (outI i c (ws k) = .error x) := hout
          clear hout HE hco
          refine wp_region_inv (Φ := fun l vs X => Vals (fun q => match q with | 0 => some (.map (some mb)) | 1 => some (.pointer (some ⟨bi, 0, none⟩)) | 2 => some (.int .i64 (n : Int)) | 3 => some (v) | 4 => some (.agg i.a) | 5 => some (.pointer (some ⟨w.heap.size, 0, none⟩)) | 6 => some (.int .i64 c) | 7 => some (.int .i64 (k : Int)) | 8 => some (.pointer (some ⟨w.heap.size + 1, k * 31, none⟩)) | 9 => some (.agg (ws k).a) | 10 => some (.agg (stA i c (ws k))) | _ => none) l vs ∧ Ph2 17 18 (Two W4.heap.size 43 noK.a W4 15 16) (fun vs X => Both W4.heap.size 43 noK.a noK.a W4 (vs 15) (vs 16) X) (fun vs X => Both W4.heap.size 43 noK.a noK.a W4 (vs 15) (vs 16) X) l vs X ∧ l 11 = false) (PQ := fun q X => q = x.entry ∧ Below W4.heap.size W4 X)
            (by kernel_rfl) (by kernel_rfl) (by kernel_rfl) (by kernel_rfl) ⟨Vals.none _ _, Ph2.start (Two.start ((Below.refl _ _).drew) (Nat.le_refl _)), rfl⟩ ?hop ?hend (fun c2 a2 X hq hp => ⟨hq, by rw [hp.1, HTE.out]; exact ⟨rfl, hB4.trans (hp.2.mono hB4.size)⟩⟩)
          case hop =>
            refine ⟨?_, ?_, ?_, ?_, ?_, ?_, ?_, ?_, ?_, ?_, ?_, ?_, ?_, ?_, ?_, ?_, ?_, ?_, ?_, trivial⟩
            · intro l vs X A hA ⟨hV, hS, hN11⟩ hl hd hcl
              have hj := notYet (k := 17) hcl (by kernel_rfl) hl
              have hk := notYet (k := 18) hcl (by kernel_rfl) hl
              have hX := hS.1 hj
              have hB := hX.below
              have a4 := eval_old hA 4 (by kernel_rfl) rfl
              refine show_value (v := .map (some mb)) (X' := X) ?_ ⟨hV.upd (fun _ h => Option.some.inj h), Ph2.keep hj hk (by decide) (by decide) (hX.grow (Below.refl _ _) (by decide) (by decide) _), (upd_other _ _ (by decide)).trans hN11⟩
              generalize A.eval = ρ at *
              clear hA hl hd hcl hV hS
              go_simp
            · intro l vs X A hA ⟨hV, hS, hN11⟩ hl hd hcl
              have hj := notYet (k := 17) hcl (by kernel_rfl) hl
              have hk := notYet (k := 18) hcl (by kernel_rfl) hl
              have hX := hS.1 hj
              have hB := hX.below
              have a6 := eval_old hA 6 (by kernel_rfl) rfl
              refine show_value (v := .pointer (some ⟨bi, 0, none⟩)) (X' := X) ?_ ⟨hV.upd (fun _ h => Option.some.inj h), Ph2.keep hj hk (by decide) (by decide) (hX.grow (Below.refl _ _) (by decide) (by decide) _), (upd_other _ _ (by decide)).trans hN11⟩
              generalize A.eval = ρ at *
              clear hA hl hd hcl hV hS
              go_simp
            · intro l vs X A hA ⟨hV, hS, hN11⟩ hl hd hcl
              have hj := notYet (k := 17) hcl (by kernel_rfl) hl
              have hk := notYet (k := 18) hcl (by kernel_rfl) hl
              have hX := hS.1 hj
              have hB := hX.below
              have a27 := eval_new hA 27 1 (by kernel_rfl) (by kernel_rfl) (by kernel_rfl) (hd 1 (by kernel_rfl)) (hV 1 _ (hd 1 (by kernel_rfl)) rfl)
              have cc := show X.cell? ⟨bi, 0, none⟩ = some (.int .i64 (n : Int)) by rw [← HOP.out]; exact (H6.out.below hB H6.out.lt).cell 0
              refine show_value (v := .int .i64 (n : Int)) (X' := X) ?_ ⟨hV.upd (fun _ h => Option.some.inj h), Ph2.keep hj hk (by decide) (by decide) (hX.grow (Below.refl _ _) (by decide) (by decide) _), (upd_other _ _ (by decide)).trans hN11⟩
              generalize A.eval = ρ at *
              clear hA hl hd hcl hV hS hX hB
              go_simp
            · intro l vs X A hA ⟨hV, hS, hN11⟩ hl hd hcl
              have hj := notYet (k := 17) hcl (by kernel_rfl) hl
              have hk := notYet (k := 18) hcl (by kernel_rfl) hl
              have hX := hS.1 hj
              have hB := hX.below
              have a26 := eval_new hA 26 0 (by kernel_rfl) (by kernel_rfl) (by kernel_rfl) (hd 0 (by kernel_rfl)) (hV 0 _ (hd 0 (by kernel_rfl)) rfl)
              have a28 := eval_new hA 28 2 (by kernel_rfl) (by kernel_rfl) (by kernel_rfl) (hd 2 (by kernel_rfl)) (hV 2 _ (hd 2 (by kernel_rfl)) rfl)
              have hlx := hlk X hB
              refine show_value (v := v) (X' := X) ?_ ⟨hV.upd (fun _ h => Option.some.inj h), Ph2.keep hj hk (by decide) (by decide) (hX.grow (Below.refl _ _) (by decide) (by decide) _), (upd_other _ _ (by decide)).trans hN11⟩
              generalize A.eval = ρ at *
              clear hA hl hd hcl hV hS hX hB
              go_simp
            · intro l vs X A hA ⟨hV, hS, hN11⟩ hl hd hcl
              have hj := notYet (k := 17) hcl (by kernel_rfl) hl
              have hk := notYet (k := 18) hcl (by kernel_rfl) hl
              have hX := hS.1 hj
              have hB := hX.below
              have a6 := eval_old hA 6 (by kernel_rfl) rfl
              refine show_value (v := .agg i.a) (X' := X) (run_ld 38 _ rfl _ a6 (ld_row (l := i.cells) (has_whole (H6.out.below hB H6.out.lt)) (by kernel_rfl))) ⟨hV.upd (fun _ h => Option.some.inj h), Ph2.keep hj hk (by decide) (by decide) (hX.grow (Below.refl _ _) (by decide) (by decide) _), (upd_other _ _ (by decide)).trans hN11⟩
            · intro l vs X A hA ⟨hV, hS, hN11⟩ hl hd hcl
              have hj := notYet (k := 17) hcl (by kernel_rfl) hl
              have hk := notYet (k := 18) hcl (by kernel_rfl) hl
              have hX := hS.1 hj
              have hB := hX.below
              have a1 := eval_old hA 1 (by kernel_rfl) rfl
              refine show_value (v := .pointer (some ⟨w.heap.size, 0, none⟩)) (X' := X) ?_ ⟨hV.upd (fun _ h => Option.some.inj h), Ph2.keep hj hk (by decide) (by decide) (hX.grow (Below.refl _ _) (by decide) (by decide) _), (upd_other _ _ (by decide)).trans hN11⟩
              generalize A.eval = ρ at *
              clear hA hl hd hcl hV hS
              go_simp
            · intro l vs X A hA ⟨hV, hS, hN11⟩ hl hd hcl
              have hj := notYet (k := 17) hcl (by kernel_rfl) hl
              have hk := notYet (k := 18) hcl (by kernel_rfl) hl
              have hX := hS.1 hj
              have hB := hX.below
              have a31 := eval_new hA 31 5 (by kernel_rfl) (by kernel_rfl) (by kernel_rfl) (hd 5 (by kernel_rfl)) (hV 5 _ (hd 5 (by kernel_rfl)) rfl)
              have cc := (HA4.out.box.below hB HA4.out.box.lt).cell 0
              refine show_value (v := .int .i64 c) (X' := X) ?_ ⟨hV.upd (fun _ h => Option.some.inj h), Ph2.keep hj hk (by decide) (by decide) (hX.grow (Below.refl _ _) (by decide) (by decide) _), (upd_other _ _ (by decide)).trans hN11⟩
              generalize A.eval = ρ at *
              clear hA hl hd hcl hV hS hX hB
              go_simp
            · intro l vs X A hA ⟨hV, hS, hN11⟩ hl hd hcl
              have hj := notYet (k := 17) hcl (by kernel_rfl) hl
              have hk := notYet (k := 18) hcl (by kernel_rfl) hl
              have hX := hS.1 hj
              have hB := hX.below
              have a5 := eval_old hA 5 (by kernel_rfl) rfl
              refine show_value (v := .int .i64 (k : Int)) (X' := X) ?_ ⟨hV.upd (fun _ h => Option.some.inj h), Ph2.keep hj hk (by decide) (by decide) (hX.grow (Below.refl _ _) (by decide) (by decide) _), (upd_other _ _ (by decide)).trans hN11⟩
              generalize A.eval = ρ at *
              clear hA hl hd hcl hV hS
              go_simp
            · intro l vs X A hA ⟨hV, hS, hN11⟩ hl hd hcl
              have hj := notYet (k := 17) hcl (by kernel_rfl) hl
              have hk := notYet (k := 18) hcl (by kernel_rfl) hl
              have hX := hS.1 hj
              have hB := hX.below
              have a3 := eval_old hA 3 (by kernel_rfl) rfl
              have a33 := eval_new hA 33 7 (by kernel_rfl) (by kernel_rfl) (by kernel_rfl) (hd 7 (by kernel_rfl)) (hV 7 _ (hd 7 (by kernel_rfl)) rfl)
              refine show_value (v := .pointer (some ⟨w.heap.size + 1, k * 31, none⟩)) (X' := X) ?_ ⟨hV.upd (fun _ h => Option.some.inj h), Ph2.keep hj hk (by decide) (by decide) (hX.grow (Below.refl _ _) (by decide) (by decide) _), (upd_other _ _ (by decide)).trans hN11⟩
              generalize A.eval = ρ at *
              clear hA hl hd hcl hV hS
              go_simp
            · intro l vs X A hA ⟨hV, hS, hN11⟩ hl hd hcl
              have hj := notYet (k := 17) hcl (by kernel_rfl) hl
              have hk := notYet (k := 18) hcl (by kernel_rfl) hl
              have hX := hS.1 hj
              have hB := hX.below
              have a34 := eval_new hA 34 8 (by kernel_rfl) (by kernel_rfl) (by kernel_rfl) (hd 8 (by kernel_rfl)) (hV 8 _ (hd 8 (by kernel_rfl)) rfl)
              refine show_value (v := .agg (ws k).a) (X' := X) (run_ld 43 _ rfl _ a34 (ld_row (l := (ws k).cells) ((HA4.out.ways.below hB).at_ k (by omega)) (by kernel_rfl))) ⟨hV.upd (fun _ h => Option.some.inj h), Ph2.keep hj hk (by decide) (by decide) (hX.grow (Below.refl _ _) (by decide) (by decide) _), (upd_other _ _ (by decide)).trans hN11⟩
            · intro l vs X A hA ⟨hV, hS, hN11⟩ hl hd hcl
              have hj := notYet (k := 17) hcl (by kernel_rfl) hl
              have hk := notYet (k := 18) hcl (by kernel_rfl) hl
              have hX := hS.1 hj
              have hB := hX.below
              have a30 := eval_new hA 30 4 (by kernel_rfl) (by kernel_rfl) (by kernel_rfl) (hd 4 (by kernel_rfl)) (hV 4 _ (hd 4 (by kernel_rfl)) rfl)
              have a32 := eval_new hA 32 6 (by kernel_rfl) (by kernel_rfl) (by kernel_rfl) (hd 6 (by kernel_rfl)) (hV 6 _ (hd 6 (by kernel_rfl)) rfl)
              have a35 := eval_new hA 35 9 (by kernel_rfl) (by kernel_rfl) (by kernel_rfl) (hd 9 (by kernel_rfl)) (hV 9 _ (hd 9 (by kernel_rfl)) rfl)
              have hbs := build_step i c (ws k) X
              refine show_value (v := .agg (stA i c (ws k))) (X' := X) ?_ ⟨hV.upd (fun _ h => Option.some.inj h), Ph2.keep hj hk (by decide) (by decide) (hX.grow (Below.refl _ _) (by decide) (by decide) _), (upd_other _ _ (by decide)).trans hN11⟩
              generalize A.eval = ρ at *
              clear hA hl hd hcl hV hS hX hB
              generalize stA i c (ws k) = sa at *
              generalize i.a = ia at *
              generalize (ws k).a = ka at *
              unfold execOp
              simp only [List.map_toArray, List.map_cons, List.map_nil, a30, a32, a35, Sem.run_bind, hbs, Result.andThen_ok, Sem.run_pure]
            · intro l vs X A hA ⟨hV, hS, hN11⟩ hl hd hcl
              have hj := notYet (k := 17) hcl (by kernel_rfl) hl
              have hk := notYet (k := 18) hcl (by kernel_rfl) hl
              have hX := hS.1 hj
              have hB := hX.below
              have a29 := eval_new hA 29 3 (by kernel_rfl) (by kernel_rfl) (by kernel_rfl) (hd 3 (by kernel_rfl)) (hV 3 _ (hd 3 (by kernel_rfl)) rfl)
              have a36 := eval_new hA 36 10 (by kernel_rfl) (by kernel_rfl) (by kernel_rfl) (hd 10 (by kernel_rfl)) (hV 10 _ (hd 10 (by kernel_rfl)) rfl)
              obtain ⟨F, cp, hfv, hent, hcall⟩ := hmk X hB
              rw [hfv] at a29
              rw [HO.out] at hcall
              refine show_call ?_ hcall ?_
              · have hr := fun o ho => run_callv (o := o) (ρ := A.eval) (X := X) (.tmp 29) (.tmp 36) 82 ho F cp (.agg (stA i c (ws k))) a29 a36 hent
                exact hr _ rfl
              rintro e X' ⟨he, hB1⟩
              exact .inr ⟨x.entry, he, rfl, hB.trans (hB1.mono hX.size)⟩
            · intro l vs X A hA ⟨hV, hS, hN11⟩ hl hd hcl
              exact absurd (hd 11 (by kernel_rfl)) (by rw [hN11]; decide)
            · intro l vs X A hA ⟨hV, hS, hN11⟩ hl hd hcl
              exact absurd (hcl 12 11 (by kernel_rfl) (hd 12 (by kernel_rfl))) (by rw [hN11]; decide)
            · intro l vs X A hA ⟨hV, hS, hN11⟩ hl hd hcl
              exact absurd (hcl 12 11 (by kernel_rfl) (hd 12 (by kernel_rfl))) (by rw [hN11]; decide)
            · intro l vs X A hA ⟨hV, hS, hN11⟩ hl hd hcl
              have hj := notYet (k := 17) hcl (by kernel_rfl) hl
              have hk := notYet (k := 18) hcl (by kernel_rfl) hl
              have hX := hS.1 hj
              have hB := hX.below
              refine show_value (v := .pointer (some ⟨X.heap.size, 0, none⟩)) (X' := X.alloc (.cells noK.a 43)) ?_ ⟨hV.upd (fun _ h => by cases h), Ph2.keep hj hk (by decide) (by decide) (hX.mkFst (by decide)), (upd_other _ _ (by decide)).trans hN11⟩
              generalize A.eval = ρ at *
              clear hA hl hd hcl hV hS
              rfl
            · intro l vs X A hA ⟨hV, hS, hN11⟩ hl hd hcl
              have hj := notYet (k := 17) hcl (by kernel_rfl) hl
              have hk := notYet (k := 18) hcl (by kernel_rfl) hl
              have hX := hS.1 hj
              have hB := hX.below
              refine show_value (v := .pointer (some ⟨X.heap.size, 0, none⟩)) (X' := X.alloc (.cells noK.a 43)) ?_ ⟨hV.upd (fun _ h => by cases h), Ph2.keep hj hk (by decide) (by decide) (hX.mkSnd (by decide)), (upd_other _ _ (by decide)).trans hN11⟩
              generalize A.eval = ρ at *
              clear hA hl hd hcl hV hS
              rfl
            · intro l vs X A hA ⟨hV, hS, hN11⟩ hl hd hcl
              exact absurd (hd 11 (by kernel_rfl)) (by rw [hN11]; decide)
            · intro l vs X A hA ⟨hV, hS, hN11⟩ hl hd hcl
              exact absurd (hd 11 (by kernel_rfl)) (by rw [hN11]; decide)
          case hend =>
            intro l vs X hl ⟨hV, hS, hN11⟩
            exact absurd (hl 11 (by decide)) (by rw [hN11]; decide)
        | ok p =>
          obtain ⟨n2, j2⟩ := p
          have HO : Hid (outI i c (ws k) = .ok (n2, j2)) := hout
          have HCO : Hid ((ws k).come = true) := hco
          clear hout hco
          refine wp_region_inv (Φ := fun l vs X => Vals (fun q => match q with | 0 => some (.map (some mb)) | 1 => some (.pointer (some ⟨bi, 0, none⟩)) | 2 => some (.int .i64 (n : Int)) | 3 => some (v) | 4 => some (.agg i.a) | 5 => some (.pointer (some ⟨w.heap.size, 0, none⟩)) | 6 => some (.int .i64 c) | 7 => some (.int .i64 (k : Int)) | 8 => some (.pointer (some ⟨w.heap.size + 1, k * 31, none⟩)) | 9 => some (.agg (ws k).a) | 10 => some (.agg (stA i c (ws k))) | 11 => some (.tuple #[.agg n2.a, .agg j2.a]) | 12 => some (.tuple #[.agg n2.a, .agg j2.a]) | 13 => some (.agg n2.a) | 14 => some (.agg j2.a) | _ => none) l vs ∧ Ph2 17 18 (Two W4.heap.size 43 noK.a W4 15 16) (fun vs X => Both W4.heap.size 43 n2.a noK.a W4 (vs 15) (vs 16) X) (fun vs X => Both W4.heap.size 43 n2.a j2.a W4 (vs 15) (vs 16) X) l vs X) (PQ := fun _ _ => False)
            (by kernel_rfl) (by kernel_rfl) (by kernel_rfl) (by kernel_rfl) ⟨Vals.none _ _, Ph2.start (Two.start ((Below.refl _ _).drew) (Nat.le_refl _))⟩ ?hop ?hend (fun _ _ _ _ h => h.elim)
          case hop =>
            refine ⟨?_, ?_, ?_, ?_, ?_, ?_, ?_, ?_, ?_, ?_, ?_, ?_, ?_, ?_, ?_, ?_, ?_, ?_, ?_, trivial⟩
            · intro l vs X A hA ⟨hV, hS⟩ hl hd hcl
              have hj := notYet (k := 17) hcl (by kernel_rfl) hl
              have hk := notYet (k := 18) hcl (by kernel_rfl) hl
              have hX := hS.1 hj
              have hB := hX.below
              have a4 := eval_old hA 4 (by kernel_rfl) rfl
              refine show_value (v := .map (some mb)) (X' := X) ?_ ⟨hV.upd (fun _ h => Option.some.inj h), Ph2.keep hj hk (by decide) (by decide) (hX.grow (Below.refl _ _) (by decide) (by decide) _)⟩
              generalize A.eval = ρ at *
              clear hA hl hd hcl hV hS
              go_simp
            · intro l vs X A hA ⟨hV, hS⟩ hl hd hcl
              have hj := notYet (k := 17) hcl (by kernel_rfl) hl
              have hk := notYet (k := 18) hcl (by kernel_rfl) hl
              have hX := hS.1 hj
              have hB := hX.below
              have a6 := eval_old hA 6 (by kernel_rfl) rfl
              refine show_value (v := .pointer (some ⟨bi, 0, none⟩)) (X' := X) ?_ ⟨hV.upd (fun _ h => Option.some.inj h), Ph2.keep hj hk (by decide) (by decide) (hX.grow (Below.refl _ _) (by decide) (by decide) _)⟩
              generalize A.eval = ρ at *
              clear hA hl hd hcl hV hS
              go_simp
            · intro l vs X A hA ⟨hV, hS⟩ hl hd hcl
              have hj := notYet (k := 17) hcl (by kernel_rfl) hl
              have hk := notYet (k := 18) hcl (by kernel_rfl) hl
              have hX := hS.1 hj
              have hB := hX.below
              have a27 := eval_new hA 27 1 (by kernel_rfl) (by kernel_rfl) (by kernel_rfl) (hd 1 (by kernel_rfl)) (hV 1 _ (hd 1 (by kernel_rfl)) rfl)
              have cc := show X.cell? ⟨bi, 0, none⟩ = some (.int .i64 (n : Int)) by rw [← HOP.out]; exact (H6.out.below hB H6.out.lt).cell 0
              refine show_value (v := .int .i64 (n : Int)) (X' := X) ?_ ⟨hV.upd (fun _ h => Option.some.inj h), Ph2.keep hj hk (by decide) (by decide) (hX.grow (Below.refl _ _) (by decide) (by decide) _)⟩
              generalize A.eval = ρ at *
              clear hA hl hd hcl hV hS hX hB
              go_simp
            · intro l vs X A hA ⟨hV, hS⟩ hl hd hcl
              have hj := notYet (k := 17) hcl (by kernel_rfl) hl
              have hk := notYet (k := 18) hcl (by kernel_rfl) hl
              have hX := hS.1 hj
              have hB := hX.below
              have a26 := eval_new hA 26 0 (by kernel_rfl) (by kernel_rfl) (by kernel_rfl) (hd 0 (by kernel_rfl)) (hV 0 _ (hd 0 (by kernel_rfl)) rfl)
              have a28 := eval_new hA 28 2 (by kernel_rfl) (by kernel_rfl) (by kernel_rfl) (hd 2 (by kernel_rfl)) (hV 2 _ (hd 2 (by kernel_rfl)) rfl)
              have hlx := hlk X hB
              refine show_value (v := v) (X' := X) ?_ ⟨hV.upd (fun _ h => Option.some.inj h), Ph2.keep hj hk (by decide) (by decide) (hX.grow (Below.refl _ _) (by decide) (by decide) _)⟩
              generalize A.eval = ρ at *
              clear hA hl hd hcl hV hS hX hB
              go_simp
            · intro l vs X A hA ⟨hV, hS⟩ hl hd hcl
              have hj := notYet (k := 17) hcl (by kernel_rfl) hl
              have hk := notYet (k := 18) hcl (by kernel_rfl) hl
              have hX := hS.1 hj
              have hB := hX.below
              have a6 := eval_old hA 6 (by kernel_rfl) rfl
              refine show_value (v := .agg i.a) (X' := X) (run_ld 38 _ rfl _ a6 (ld_row (l := i.cells) (has_whole (H6.out.below hB H6.out.lt)) (by kernel_rfl))) ⟨hV.upd (fun _ h => Option.some.inj h), Ph2.keep hj hk (by decide) (by decide) (hX.grow (Below.refl _ _) (by decide) (by decide) _)⟩
            · intro l vs X A hA ⟨hV, hS⟩ hl hd hcl
              have hj := notYet (k := 17) hcl (by kernel_rfl) hl
              have hk := notYet (k := 18) hcl (by kernel_rfl) hl
              have hX := hS.1 hj
              have hB := hX.below
              have a1 := eval_old hA 1 (by kernel_rfl) rfl
              refine show_value (v := .pointer (some ⟨w.heap.size, 0, none⟩)) (X' := X) ?_ ⟨hV.upd (fun _ h => Option.some.inj h), Ph2.keep hj hk (by decide) (by decide) (hX.grow (Below.refl _ _) (by decide) (by decide) _)⟩
              generalize A.eval = ρ at *
              clear hA hl hd hcl hV hS
              go_simp
            · intro l vs X A hA ⟨hV, hS⟩ hl hd hcl
              have hj := notYet (k := 17) hcl (by kernel_rfl) hl
              have hk := notYet (k := 18) hcl (by kernel_rfl) hl
              have hX := hS.1 hj
              have hB := hX.below
              have a31 := eval_new hA 31 5 (by kernel_rfl) (by kernel_rfl) (by kernel_rfl) (hd 5 (by kernel_rfl)) (hV 5 _ (hd 5 (by kernel_rfl)) rfl)
              have cc := (HA4.out.box.below hB HA4.out.box.lt).cell 0
              refine show_value (v := .int .i64 c) (X' := X) ?_ ⟨hV.upd (fun _ h => Option.some.inj h), Ph2.keep hj hk (by decide) (by decide) (hX.grow (Below.refl _ _) (by decide) (by decide) _)⟩
              generalize A.eval = ρ at *
              clear hA hl hd hcl hV hS hX hB
              go_simp
            · intro l vs X A hA ⟨hV, hS⟩ hl hd hcl
              have hj := notYet (k := 17) hcl (by kernel_rfl) hl
              have hk := notYet (k := 18) hcl (by kernel_rfl) hl
              have hX := hS.1 hj
              have hB := hX.below
              have a5 := eval_old hA 5 (by kernel_rfl) rfl
              refine show_value (v := .int .i64 (k : Int)) (X' := X) ?_ ⟨hV.upd (fun _ h => Option.some.inj h), Ph2.keep hj hk (by decide) (by decide) (hX.grow (Below.refl _ _) (by decide) (by decide) _)⟩
              generalize A.eval = ρ at *
              clear hA hl hd hcl hV hS
              go_simp
            · intro l vs X A hA ⟨hV, hS⟩ hl hd hcl
              have hj := notYet (k := 17) hcl (by kernel_rfl) hl
              have hk := notYet (k := 18) hcl (by kernel_rfl) hl
              have hX := hS.1 hj
              have hB := hX.below
              have a3 := eval_old hA 3 (by kernel_rfl) rfl
              have a33 := eval_new hA 33 7 (by kernel_rfl) (by kernel_rfl) (by kernel_rfl) (hd 7 (by kernel_rfl)) (hV 7 _ (hd 7 (by kernel_rfl)) rfl)
              refine show_value (v := .pointer (some ⟨w.heap.size + 1, k * 31, none⟩)) (X' := X) ?_ ⟨hV.upd (fun _ h => Option.some.inj h), Ph2.keep hj hk (by decide) (by decide) (hX.grow (Below.refl _ _) (by decide) (by decide) _)⟩
              generalize A.eval = ρ at *
              clear hA hl hd hcl hV hS
              go_simp
            · intro l vs X A hA ⟨hV, hS⟩ hl hd hcl
              have hj := notYet (k := 17) hcl (by kernel_rfl) hl
              have hk := notYet (k := 18) hcl (by kernel_rfl) hl
              have hX := hS.1 hj
              have hB := hX.below
              have a34 := eval_new hA 34 8 (by kernel_rfl) (by kernel_rfl) (by kernel_rfl) (hd 8 (by kernel_rfl)) (hV 8 _ (hd 8 (by kernel_rfl)) rfl)
              refine show_value (v := .agg (ws k).a) (X' := X) (run_ld 43 _ rfl _ a34 (ld_row (l := (ws k).cells) ((HA4.out.ways.below hB).at_ k (by omega)) (by kernel_rfl))) ⟨hV.upd (fun _ h => Option.some.inj h), Ph2.keep hj hk (by decide) (by decide) (hX.grow (Below.refl _ _) (by decide) (by decide) _)⟩
            · intro l vs X A hA ⟨hV, hS⟩ hl hd hcl
              have hj := notYet (k := 17) hcl (by kernel_rfl) hl
              have hk := notYet (k := 18) hcl (by kernel_rfl) hl
              have hX := hS.1 hj
              have hB := hX.below
              have a30 := eval_new hA 30 4 (by kernel_rfl) (by kernel_rfl) (by kernel_rfl) (hd 4 (by kernel_rfl)) (hV 4 _ (hd 4 (by kernel_rfl)) rfl)
              have a32 := eval_new hA 32 6 (by kernel_rfl) (by kernel_rfl) (by kernel_rfl) (hd 6 (by kernel_rfl)) (hV 6 _ (hd 6 (by kernel_rfl)) rfl)
              have a35 := eval_new hA 35 9 (by kernel_rfl) (by kernel_rfl) (by kernel_rfl) (hd 9 (by kernel_rfl)) (hV 9 _ (hd 9 (by kernel_rfl)) rfl)
              have hbs := build_step i c (ws k) X
              refine show_value (v := .agg (stA i c (ws k))) (X' := X) ?_ ⟨hV.upd (fun _ h => Option.some.inj h), Ph2.keep hj hk (by decide) (by decide) (hX.grow (Below.refl _ _) (by decide) (by decide) _)⟩
              generalize A.eval = ρ at *
              clear hA hl hd hcl hV hS hX hB
              generalize stA i c (ws k) = sa at *
              generalize i.a = ia at *
              generalize (ws k).a = ka at *
              unfold execOp
              simp only [List.map_toArray, List.map_cons, List.map_nil, a30, a32, a35, Sem.run_bind, hbs, Result.andThen_ok, Sem.run_pure]
            · intro l vs X A hA ⟨hV, hS⟩ hl hd hcl
              have hj := notYet (k := 17) hcl (by kernel_rfl) hl
              have hk := notYet (k := 18) hcl (by kernel_rfl) hl
              have hX := hS.1 hj
              have hB := hX.below
              have a29 := eval_new hA 29 3 (by kernel_rfl) (by kernel_rfl) (by kernel_rfl) (hd 3 (by kernel_rfl)) (hV 3 _ (hd 3 (by kernel_rfl)) rfl)
              have a36 := eval_new hA 36 10 (by kernel_rfl) (by kernel_rfl) (by kernel_rfl) (hd 10 (by kernel_rfl)) (hV 10 _ (hd 10 (by kernel_rfl)) rfl)
              obtain ⟨F, cp, hfv, hent, hcall⟩ := hmk X hB
              rw [hfv] at a29
              rw [HO.out] at hcall
              refine show_call ?_ hcall ?_
              · have hr := fun o ho => run_callv (o := o) (ρ := A.eval) (X := X) (.tmp 29) (.tmp 36) 82 ho F cp (.agg (stA i c (ws k))) a29 a36 hent
                exact hr _ rfl
              rintro e X' ⟨he, hB1⟩
              exact .inl ⟨.tuple #[.agg n2.a, .agg j2.a], he, hV.upd (fun _ h => Option.some.inj h), Ph2.keep hj hk (by decide) (by decide) (hX.grow hB1 (by decide) (by decide) _)⟩
            · intro l vs X A hA ⟨hV, hS⟩ hl hd hcl
              have hj := notYet (k := 17) hcl (by kernel_rfl) hl
              have hk := notYet (k := 18) hcl (by kernel_rfl) hl
              have hX := hS.1 hj
              have hB := hX.below
              have a37 := eval_new hA 37 11 (by kernel_rfl) (by kernel_rfl) (by kernel_rfl) (hd 11 (by kernel_rfl)) (hV 11 _ (hd 11 (by kernel_rfl)) rfl)
              refine show_value (v := .tuple #[.agg n2.a, .agg j2.a]) (X' := X) ?_ ⟨hV.upd (fun _ h => Option.some.inj h), Ph2.keep hj hk (by decide) (by decide) (hX.grow (Below.refl _ _) (by decide) (by decide) _)⟩
              generalize A.eval = ρ at *
              clear hA hl hd hcl hV hS
              go_simp
            · intro l vs X A hA ⟨hV, hS⟩ hl hd hcl
              have hj := notYet (k := 17) hcl (by kernel_rfl) hl
              have hk := notYet (k := 18) hcl (by kernel_rfl) hl
              have hX := hS.1 hj
              have hB := hX.below
              have a25 := eval_new hA 25 12 (by kernel_rfl) (by kernel_rfl) (by kernel_rfl) (hd 12 (by kernel_rfl)) (hV 12 _ (hd 12 (by kernel_rfl)) rfl)
              refine show_value (v := .agg n2.a) (X' := X) ?_ ⟨hV.upd (fun _ h => Option.some.inj h), Ph2.keep hj hk (by decide) (by decide) (hX.grow (Below.refl _ _) (by decide) (by decide) _)⟩
              generalize A.eval = ρ at *
              clear hA hl hd hcl hV hS
              go_simp
            · intro l vs X A hA ⟨hV, hS⟩ hl hd hcl
              have hk := notYet (k := 18) hcl (by kernel_rfl) hl
              have a25 := eval_new hA 25 12 (by kernel_rfl) (by kernel_rfl) (by kernel_rfl) (hd 12 (by kernel_rfl)) (hV 12 _ (hd 12 (by kernel_rfl)) rfl)
              cases hj : l 17 with
              | true =>
                have hX := hS.2.1 hj hk
                exact show_value (v := .agg j2.a) (X' := X) (by generalize A.eval = ρ at *; clear hA hl hd hcl hV hS; go_simp) ⟨hV.upd (fun _ h => Option.some.inj h), Ph2.keepMid hj hk (by decide) (by decide) hX⟩
              | false =>
                have hX := hS.1 hj
                have hB := hX.below
                exact show_value (v := .agg j2.a) (X' := X) (by generalize A.eval = ρ at *; clear hA hl hd hcl hV hS; go_simp) ⟨hV.upd (fun _ h => Option.some.inj h), Ph2.keep hj hk (by decide) (by decide) (hX.grow (Below.refl _ _) (by decide) (by decide) _)⟩
            · intro l vs X A hA ⟨hV, hS⟩ hl hd hcl
              have hj := notYet (k := 17) hcl (by kernel_rfl) hl
              have hk := notYet (k := 18) hcl (by kernel_rfl) hl
              have hX := hS.1 hj
              have hB := hX.below
              refine show_value (v := .pointer (some ⟨X.heap.size, 0, none⟩)) (X' := X.alloc (.cells noK.a 43)) ?_ ⟨hV.upd (fun _ h => by cases h), Ph2.keep hj hk (by decide) (by decide) (hX.mkFst (by decide))⟩
              generalize A.eval = ρ at *
              clear hA hl hd hcl hV hS
              rfl
            · intro l vs X A hA ⟨hV, hS⟩ hl hd hcl
              have hj := notYet (k := 17) hcl (by kernel_rfl) hl
              have hk := notYet (k := 18) hcl (by kernel_rfl) hl
              have hX := hS.1 hj
              have hB := hX.below
              refine show_value (v := .pointer (some ⟨X.heap.size, 0, none⟩)) (X' := X.alloc (.cells noK.a 43)) ?_ ⟨hV.upd (fun _ h => by cases h), Ph2.keep hj hk (by decide) (by decide) (hX.mkSnd (by decide))⟩
              generalize A.eval = ρ at *
              clear hA hl hd hcl hV hS
              rfl
            · intro l vs X A hA ⟨hV, hS⟩ hl hd hcl
              have hk := notYet (k := 18) hcl (by kernel_rfl) hl
              have hX := hS.1 hl
              have a7 := eval_new hA 7 15 (by kernel_rfl) (by kernel_rfl) (by kernel_rfl) (hd 15 (by kernel_rfl)) (rfl : vs 15 = vs 15)
              have a38 := eval_new hA 38 13 (by kernel_rfl) (by kernel_rfl) (by kernel_rfl) (hd 13 (by kernel_rfl)) (hV 13 _ (hd 13 (by kernel_rfl)) rfl)
              obtain ⟨b, hb, hH, hT⟩ := (hX.both (hd 15 (by kernel_rfl)) (hd 16 (by kernel_rfl))).setFst (x' := n2.a)
              rw [hb] at a7
              refine show_skip (run_st_row 43 _ _ rfl b _ _ _ a7 a38 hH (by kernel_rfl) (by kernel_rfl) (Kn.a_one _)) ⟨hV.upd (fun _ h => by cases h), Ph2.mid hk (by decide) ?_⟩
              exact hT
            · intro l vs X A hA ⟨hV, hS⟩ hl hd hcl
              have hX := hS.2.1 (hd 17 (by kernel_rfl)) hl
              have a8 := eval_new hA 8 16 (by kernel_rfl) (by kernel_rfl) (by kernel_rfl) (hd 16 (by kernel_rfl)) (rfl : vs 16 = vs 16)
              have a39 := eval_new hA 39 14 (by kernel_rfl) (by kernel_rfl) (by kernel_rfl) (hd 14 (by kernel_rfl)) (hV 14 _ (hd 14 (by kernel_rfl)) rfl)
              obtain ⟨b, hb, hH, hT⟩ := hX.setSnd (y' := j2.a)
              rw [hb] at a8
              refine show_skip (run_st_row 43 _ _ rfl b _ _ _ a8 a39 hH (by kernel_rfl) (by kernel_rfl) (Kn.a_one _)) ⟨hV.upd (fun _ h => by cases h), Ph2.last (hd 17 (by kernel_rfl)) ?_⟩
              exact hT
          case hend =>
            intro l vs X hl ⟨hV, hS⟩
            have hX := hS.2.2 (hl 18 (by decide))
            have v0 := hV 0 _ (hl 0 (by decide)) rfl
            have v1 := hV 1 _ (hl 1 (by decide)) rfl
            have v2 := hV 2 _ (hl 2 (by decide)) rfl
            have v3 := hV 3 _ (hl 3 (by decide)) rfl
            have v4 := hV 4 _ (hl 4 (by decide)) rfl
            have v5 := hV 5 _ (hl 5 (by decide)) rfl
            have v6 := hV 6 _ (hl 6 (by decide)) rfl
            have v7 := hV 7 _ (hl 7 (by decide)) rfl
            have v8 := hV 8 _ (hl 8 (by decide)) rfl
            have v9 := hV 9 _ (hl 9 (by decide)) rfl
            have v10 := hV 10 _ (hl 10 (by decide)) rfl
            have v11 := hV 11 _ (hl 11 (by decide)) rfl
            have v12 := hV 12 _ (hl 12 (by decide)) rfl
            have v13 := hV 13 _ (hl 13 (by decide)) rfl
            have v14 := hV 14 _ (hl 14 (by decide)) rfl
            clear hV hS hl
            obtain ⟨b6, b7, u6, u7, g6, g7, hne, hb6, hb7, hB9⟩ := hX
            simp only [canonL, if_true, v0, v1, v2, v3, v4, v5, v6, v7, v8, v9, v10, v11, v12, v13, v14, u6, u7]
            clear v0 v1 v2 v3 v4 v5 v6 v7 v8 v9 v10 v11 v12 v13 v14 u6 u7
            go_simp
            obtain ⟨W5, hren⟩ : ∃ Z, Z = X := ⟨_, rfl⟩
            subst hren
            have hA5 := HA4.out.grow hB9
            have h65 := H6.out.below hB9 H6.out.lt
            clear hlk hmk HA4 H6 HOP hB4 hB9
            have hoff : -32768 ≤ i.off ∧ i.off ≤ 32767 := by have := hmi.out.1.1; have := hmi.out.1.2.2.2.1; omega
            have hri : 0 ≤ reachI i ∧ reachI i ≤ 256 := by
              have := hmi.out.1.1; have := hmi.out.1.2.2.2.1
              unfold reachI
              split
              · omega
              · split <;> omega
            have hrc : ∀ X, Calls Tryd.prog 41 #[.agg i.a] X fun e w' => e = .returned (.int .i64 (reachI i)) ∧ Below X.heap.size X w' := fun X => reach_any i X hoff.1 hoff.2
            obtain ⟨ri, hre⟩ : ∃ ri, ri = reachI i := ⟨_, rfl⟩
            have HRE : Hid (ri = reachI i) := hre
            rw [← hre] at hri hrc
            clear hre
            have ew : IntKind.i64.wrap ((k : Int) + ri) = (k : Int) + ri := by rw [IntKind.wrap_i64]; omega
            obtain ⟨tb, htb⟩ : ∃ tb, tb = decide ((pl.length : Int) ≤ (k : Int) + ri) := ⟨_, rfl⟩
            have HTB : Hid (tb = decide ((pl.length : Int) ≤ (k : Int) + ri)) := htb
            clear htb
            go_upto_region 9 with fail
            refine wp_region_inv (Φ := fun l vs X => Vals (fun q => match q with | 0 => some (.int .i64 (k : Int)) | 1 => some (.agg i.a) | 2 => some (.int .i64 ri) | 3 => some (.int .i64 ((k : Int) + ri)) | 4 => some (.pointer (some ⟨w.heap.size, 1, none⟩)) | 5 => some (.slice (some ⟨b, o, none⟩) pl.length cap) | 6 => some (.int .i64 (pl.length : Int)) | 7 => some (.bool tb) | _ => none) l vs ∧ Below W5.heap.size W5 X) (PQ := fun _ _ => False)
              (by kernel_rfl) (by kernel_rfl) (by kernel_rfl) (by kernel_rfl) ⟨Vals.none _ _, ((Below.refl _ _).drew)⟩ ?hop ?hend (fun _ _ _ _ h => h.elim)
            case hop =>
              refine ⟨?_, ?_, ?_, ?_, ?_, ?_, ?_, ?_, trivial⟩
              · intro l vs X A hA ⟨hV, hS⟩ hl hd hcl
                have hX := hS
                have hB := hX
                have a5 := eval_old hA 5 (by kernel_rfl) rfl
                refine show_value (v := .int .i64 (k : Int)) (X' := X) ?_ ⟨hV.upd (fun _ h => Option.some.inj h), (hX)⟩
                generalize A.eval = ρ at *
                clear hA hl hd hcl hV hS
                go_simp
              · intro l vs X A hA ⟨hV, hS⟩ hl hd hcl
                have hX := hS
                have hB := hX
                have a6 := eval_old hA 6 (by kernel_rfl) rfl
                refine show_value (v := .agg i.a) (X' := X) (run_ld 38 _ rfl _ a6 (ld_row (l := i.cells) (has_whole (h65.below hB h65.lt)) (by kernel_rfl))) ⟨hV.upd (fun _ h => Option.some.inj h), (hX)⟩
              · intro l vs X A hA ⟨hV, hS⟩ hl hd hcl
                have hX := hS
                have hB := hX
                have a41 := eval_new hA 41 1 (by kernel_rfl) (by kernel_rfl) (by kernel_rfl) (hd 1 (by kernel_rfl)) (hV 1 _ (hd 1 (by kernel_rfl)) rfl)
                have aF0 : A.eval (.func 41) = .func (.func 41) #[] #[] := rfl
                refine show_call (f := 41) (args := #[.agg i.a]) ?_ (hrc X) ?_
                · generalize A.eval = ρ at *
                  clear hA hl hd hcl hV hS
                  go_simp
                · rintro e X' ⟨rfl, hB1⟩
                  exact .inl ⟨_, rfl, hV.upd (fun _ h => Option.some.inj h), (hX.trans (hB1.mono hX.size))⟩
              · intro l vs X A hA ⟨hV, hS⟩ hl hd hcl
                have hX := hS
                have hB := hX
                have a40 := eval_new hA 40 0 (by kernel_rfl) (by kernel_rfl) (by kernel_rfl) (hd 0 (by kernel_rfl)) (hV 0 _ (hd 0 (by kernel_rfl)) rfl)
                have a42 := eval_new hA 42 2 (by kernel_rfl) (by kernel_rfl) (by kernel_rfl) (hd 2 (by kernel_rfl)) (hV 2 _ (hd 2 (by kernel_rfl)) rfl)
                refine show_value (v := .int .i64 ((k : Int) + ri)) (X' := X) ?_ ⟨hV.upd (fun _ h => Option.some.inj h), (hX)⟩
                generalize A.eval = ρ at *
                clear hA hl hd hcl hV hS
                go_simp
              · intro l vs X A hA ⟨hV, hS⟩ hl hd hcl
                have hX := hS
                have hB := hX
                have a1 := eval_old hA 1 (by kernel_rfl) rfl
                refine show_value (v := .pointer (some ⟨w.heap.size, 1, none⟩)) (X' := X) ?_ ⟨hV.upd (fun _ h => Option.some.inj h), (hX)⟩
                generalize A.eval = ρ at *
                clear hA hl hd hcl hV hS
                go_simp
              · intro l vs X A hA ⟨hV, hS⟩ hl hd hcl
                have hX := hS
                have hB := hX
                have a44 := eval_new hA 44 4 (by kernel_rfl) (by kernel_rfl) (by kernel_rfl) (hd 4 (by kernel_rfl)) (hV 4 _ (hd 4 (by kernel_rfl)) rfl)
                have cc := (hA5.box.below hB hA5.box.lt).cell 1
                refine show_value (v := .slice (some ⟨b, o, none⟩) pl.length cap) (X' := X) ?_ ⟨hV.upd (fun _ h => Option.some.inj h), (hX)⟩
                generalize A.eval = ρ at *
                clear hA hl hd hcl hV hS hX hB
                go_simp
              · intro l vs X A hA ⟨hV, hS⟩ hl hd hcl
                have hX := hS
                have hB := hX
                have a45 := eval_new hA 45 5 (by kernel_rfl) (by kernel_rfl) (by kernel_rfl) (hd 5 (by kernel_rfl)) (hV 5 _ (hd 5 (by kernel_rfl)) rfl)
                refine show_value (v := .int .i64 (pl.length : Int)) (X' := X) ?_ ⟨hV.upd (fun _ h => Option.some.inj h), (hX)⟩
                generalize A.eval = ρ at *
                clear hA hl hd hcl hV hS
                go_simp
              · intro l vs X A hA ⟨hV, hS⟩ hl hd hcl
                have hX := hS
                have hB := hX
                have a43 := eval_new hA 43 3 (by kernel_rfl) (by kernel_rfl) (by kernel_rfl) (hd 3 (by kernel_rfl)) (hV 3 _ (hd 3 (by kernel_rfl)) rfl)
                have a46 := eval_new hA 46 6 (by kernel_rfl) (by kernel_rfl) (by kernel_rfl) (hd 6 (by kernel_rfl)) (hV 6 _ (hd 6 (by kernel_rfl)) rfl)
                refine show_value (v := .bool tb) (X' := X) ?_ ⟨hV.upd (fun _ h => Option.some.inj h), (hX)⟩
                have htb := HTB.out
                generalize A.eval = ρ at *
                clear hA hl hd hcl hV hS hX hB
                go_simp
            case hend =>
              intro l vs X hl ⟨hV, hS⟩
              have hX := hS
              have v0 := hV 0 _ (hl 0 (by decide)) rfl
              have v1 := hV 1 _ (hl 1 (by decide)) rfl
              have v2 := hV 2 _ (hl 2 (by decide)) rfl
              have v3 := hV 3 _ (hl 3 (by decide)) rfl
              have v4 := hV 4 _ (hl 4 (by decide)) rfl
              have v5 := hV 5 _ (hl 5 (by decide)) rfl
              have v6 := hV 6 _ (hl 6 (by decide)) rfl
              have v7 := hV 7 _ (hl 7 (by decide)) rfl
              clear hV hS hl
              simp only [canonL, if_true, v0, v1, v2, v3, v4, v5, v6, v7]
              clear v0 v1 v2 v3 v4 v5 v6 v7
              go_simp
              have hA6 := hA5.grow hX
              have h66 := h65.below hX h65.lt
              have e66 := hb6.below hX hb6.lt
              have e77 := hb7.below hX hb7.lt
              clear hA5 h65 hb6 hb7 g6 g7 hne hX hrc ew
              obtain ⟨W6, hren⟩ : ∃ Z, Z = X := ⟨_, rfl⟩
              subst hren
              cases tb with
              | true =>
                have hge : (pl.length : Int) ≤ (k : Int) + reachI i := by rw [← HRE.out]; exact of_decide_eq_true HTB.out.symm
                have HTE : Hid (aheadE pl.length c pl 0 startW = .error none) := by
                  show _ = _
                  rw [HE.out, ahead_step hi.out]
                  unfold turnE
                  rw [if_neg (by rw [HCO.out]; decide), HO.out]
                  simp only
                  rw [if_pos hge]
                clear HE hge
                go_wp2_with fail
                exact ⟨rfl, by rw [HTE.out]; exact ⟨rfl, hA6.below⟩⟩
              | false =>
                have hnge : ¬ (pl.length : Int) ≤ (k : Int) + reachI i := by rw [← HRE.out]; exact of_decide_eq_false HTB.out.symm
                have HTE : Hid (aheadE pl.length c pl 0 startW = aheadE pl.length c (pl.drop (k + 1)) (k + 1) (leadW (leadW ws (k + 1) n2) (k + 1 + i.off.toNat) j2)) := by
                  show _ = _
                  rw [HE.out, ahead_step hi.out]
                  unfold turnE
                  rw [if_neg (by rw [HCO.out]; decide), HO.out]
                  simp only
                  rw [if_neg hnge]
                obtain ⟨hn2, hj2⟩ := outI_right hmi.out (HR.out k) HO.out
                have hgo1 : n2.come = true → (k : Int) + 1 = ((k + 1 : Nat) : Int) ∧ k + 1 < 256 := fun hc => by
                  have := reach_next hmi.out HO.out hc
                  omega
                have hgo2 : j2.come = true → (k : Int) + 1 + i.off = ((k + 1 + i.off.toNat : Nat) : Int) ∧ k + 1 + i.off.toNat < 256 := fun hc => by
                  have := reach_jump hmi.out HO.out hc
                  omega
                have hR1 := leadW_right HR.out (k + 1) hn2
                have HR2 : Hid (∀ j, KnR (leadW (leadW ws (k + 1) n2) (k + 1 + i.off.toNat) j2 j)) := leadW_right hR1 _ hj2
                have ew1 : wrap64 ((k : Int) + 1) = (k : Int) + 1 := by simp only [wrap64]; omega
                have ew2 : wrap64 ((k : Int) + 1 + i.off) = (k : Int) + 1 + i.off := by simp only [wrap64]; omega
                have HKL : Hid (k + 1 ≤ pl.length) := hlt
                have hl1 := lead_any n2 (w.heap.size + 1) (k + 1) ((k : Int) + 1) ws W6 hgo1 hA6.ways HR.out hn2
                have HL2 : Hid (∀ W ws2, WaysAt W (w.heap.size + 1) ws2 → (∀ j, KnR (ws2 j)) → Calls Tryd.prog 40 #[.pointer (some ⟨w.heap.size + 1, 0, none⟩), .int .i64 ((k : Int) + 1 + i.off), .agg j2.a] W fun e w' => e = .returned (.tuple #[]) ∧ WaysAt w' (w.heap.size + 1) (leadW ws2 (k + 1 + i.off.toNat) j2) ∧ Ex (w.heap.size + 1) W w') := fun W ws2 h1 h2 => lead_any j2 (w.heap.size + 1) (k + 1 + i.off.toNat) _ ws2 W hgo2 h1 h2 hj2
                have HR1 : Hid (∀ j, KnR (leadW ws (k + 1) n2 j)) := hR1
                clear HE hnge HTB HRE hgo1 hgo2 hR1 hn2 hj2 HO hri
                obtain ⟨wcs, hwc⟩ := hA6.ways.cells
                have ne7 := has_apart e77 hwc (by decide)
                have nei := has_apart h66 hwc (by decide)
                clear hwc
                go_upto_region 12 with (first | refine wpList_load_row_if rfl 43 _ rfl b6 rfl 43 n2.a (0, 0) _ e66 Tryd.underlying43 rfl (by kernel_rfl) ?_ | (go_at_call 40; refine hl1.mono ?_; rintro e W7 ⟨rfl, hw7, hE7⟩; clear hl1))
                have hA7 := hA6.lead hw7 hE7
                have h67 := h66.ex hE7 nei
                have e78 := e77.ex hE7 ne7
                clear hA6 h66 e77 hw7 hE7 e66
                have hl2 := HL2.out W7 _ hA7.ways HR1.out
                have c3 : W7.cell? ⟨bi, 3, none⟩ = some (.int .i64 i.off) := h67.cell 3
                clear HL2
                go_wp2_with (first | refine wpList_load_row_if rfl 43 _ rfl b7 rfl 43 j2.a (0, 0) _ e78 Tryd.underlying43 rfl (by kernel_rfl) ?_ | (go_at_call 40; refine hl2.mono ?_; rintro e W8 ⟨rfl, hw8, hE8⟩; clear hl2))
                go_roundw
                case rel => exact ⟨k + 1, _, HKL.out, by simp, hA7.lead hw8 hE8, HTE, HR2⟩
                case measure => simp [intOf]; omega
    · obtain rfl : k = pl.length := by omega
      have HF : Hid (aheadE pl.length c pl 0 startW = .ok ws) := by
        show _ = _
        rw [HE.out, List.drop_length]
        rfl
      obtain rfl := ha (fun e => by rw [e] at hl1; simp at hl1)
      have hnlt : ¬ (pl.length : Int) < pl.length := by omega
      have h256 : (pl.length : Int) ≤ 256 := by omega
      have hcl := fun cap => clone_any (w.heap.size + 1) pl.length cap ws wr hwb hl1 hl
      have HB : Hid (Below w.heap.size w wr) := hA.below
      clear hA hwb HE HR
      go_wp2_with (go_at_call 42; refine (hcl _).mono ?_; rintro e W9 ⟨v, rfl, hkv, hB9⟩)
      go_ret
      rw [HF.out]
      exact ⟨⟨v, rfl, hkv⟩, HB.out.trans (hB9.mono HB.out.size)⟩
end Go.Proofs.YtodkehpldlmgaaaDoor
/- Behind. -/
namespace Go.Proofs.YtodkehpldlmgaaaDoor
open Go.RowKit

/-- The world in which Behind begins. -/
structure BW (w : World) (i : Ins) (k : Kn) (n j : Kn) (e : Int) (X : World) : Prop where
  ins : Has X w.heap.size i.a 38
  kn : Has X (w.heap.size + 1) k.a 43
  n : Has X (w.heap.size + 2) n.a 43
  j : Has X (w.heap.size + 3) j.a 43
  e : Has X (w.heap.size + 4) #[.int .i64 e] 27
  below : Below w.heap.size w X
theorem BW.grow {w : World} {i : Ins} {k n j : Kn} {e : Int} {X X' : World} (h : BW w i k n j e X) (g : Below X.heap.size X X') : BW w i k n j e X' :=
  ⟨h.ins.below g h.ins.lt, h.kn.below g h.kn.lt, h.n.below g h.n.lt, h.j.below g h.j.lt, h.e.below g h.e.lt, h.below.trans (g.mono h.below.size)⟩
theorem BW.setN {w : World} {i : Ins} {k n j : Kn} {e : Int} {X : World} (h : BW w i k n j e X) (n' : Kn) : BW w i k n' j e (X.setRow (w.heap.size + 2) n'.a) :=
  ⟨h.ins.ex (setRow_ex _ _ _) (by omega), h.kn.ex (setRow_ex _ _ _) (by omega), setRow_has h.n _, h.j.ex (setRow_ex _ _ _) (by omega), h.e.ex (setRow_ex _ _ _) (by omega), setRow_below h.below (by omega) _⟩
theorem BW.setJ {w : World} {i : Ins} {k n j : Kn} {e : Int} {X : World} (h : BW w i k n j e X) (j' : Kn) : BW w i k n j' e (X.setRow (w.heap.size + 3) j'.a) :=
  ⟨h.ins.ex (setRow_ex _ _ _) (by omega), h.kn.ex (setRow_ex _ _ _) (by omega), h.n.ex (setRow_ex _ _ _) (by omega), setRow_has h.j _, h.e.ex (setRow_ex _ _ _) (by omega), setRow_below h.below (by omega) _⟩
theorem BW.setE {w : World} {i : Ins} {k n j : Kn} {e : Int} {X : World} (h : BW w i k n j e X) (e' : Int) : BW w i k n j e' (X.setCell ⟨w.heap.size + 4, 0, none⟩ (.int .i64 e')) :=
  ⟨h.ins.ex (Ex.set _ _ _ _) (by omega), h.kn.ex (Ex.set _ _ _ _) (by omega), h.n.ex (Ex.set _ _ _ _) (by omega), h.j.ex (Ex.set _ _ _ _) (by omega), h.e.set 0 _, Below.ex h.below h.below.size (Ex.set _ _ _ _) (by omega)⟩
theorem results_three {fn : Func} {p q r : Tmp} (h : fn.results = #[.cell p 43, .cell q 43, .cell r 27]) (tmps : Array Value) (w : World) (g g' g2 : Nat) (a b : Kn) {e : Int}
    (hp : tmps.getD p undef = .pointer (some ⟨g, 0, none⟩)) (hq : tmps.getD q undef = .pointer (some ⟨g', 0, none⟩)) (hr : tmps.getD r undef = .pointer (some ⟨g2, 0, none⟩)) (hg : Has w g a.a 43) (hg' : Has w g' b.a 43) (hg2 : Has w g2 #[.int .i64 e] 27) :
    (results fn tmps).run Tryd.prog w = .ok (.tuple #[.agg a.a, .agg b.a, .int .i64 e]) w := by
  have hp' : tmps[p]?.getD undef = .pointer (some ⟨g, 0, none⟩) := by simpa using hp
  have hq' : tmps[q]?.getD undef = .pointer (some ⟨g', 0, none⟩) := by simpa using hq
  have hr' : tmps[r]?.getD undef = .pointer (some ⟨g2, 0, none⟩) := by simpa using hr
  have c : w.cell? ⟨g2, 0, none⟩ = some (.int .i64 e) := hg2.cell 0
  have hl : (loadVar 27 ⟨g2, 0, none⟩).run Tryd.prog w = .ok (.int .i64 e) w := by simp [go_sem, c]
  simp [results, h, hp', hq', hr', asAddr, run_loadVar_row w g 43 43 a.a (0, 0) _ hg Tryd.underlying43 rfl (by kernel_rfl), run_loadVar_row w g' 43 43 b.a (0, 0) _ hg' Tryd.underlying43 rfl (by kernel_rfl), hl]
theorem prg_one {W : World} {b : Nat} {i : Ins} (h : Has W b i.a 38) : Prg W (.slice (some ⟨b, 0, none⟩) 1 1) [i] := by
  refine ⟨_, 1, b, 0, rfl, fun _ => rfl, ?_, h.lt⟩
  have key : ∀ (q : Nat) (j : Ins), [i][q]? = some j → q = 0 ∧ j = i := fun q j hq => by
    cases q with
    | zero => exact ⟨rfl, by simpa using hq.symm⟩
    | succ q => simp at hq
  refine ⟨fun q j hq => ?_, fun q j hq => ?_, fun q j hq => ?_, fun q j hq => ?_, fun q j hq => ?_⟩ <;> obtain ⟨rfl, rfl⟩ := key q j hq
  · exact h.cell 0
  · exact h.cell 1
  · exact h.cell 2
  · exact h.cell 3
  · exact h.cell 4
set_option maxRecDepth 10000 in
set_option maxHeartbeats 2000000 in
theorem behind_bad (i : Ins) (c : Int) (k : Kn) (w : World) (hG : Glob w) (hE : chkE c [i] ≠ 0) :
    Calls Tryd.prog 17 #[.agg i.a, .int .i64 c, .agg k.a] w fun e w' => e = .returned (.tuple #[.agg noK.a, .agg noK.a, .int .i64 2]) ∧ Below w.heap.size w w' := by
  obtain ⟨W0, hW0⟩ : ∃ W0, W0 = ((((w.alloc (.cells i.a 38)).alloc (.cells k.a 43)).alloc (.cells noK.a 43)).alloc (.cells noK.a 43)).alloc (.cells #[.int .i64 0] 27) := ⟨_, rfl⟩
  have hBW : BW w i k noK noK 0 W0 := by
    rw [hW0]
    exact ⟨has_old (has_old (has_old (has_old (has_new _ _ _ _ rfl)))), has_old (has_old (has_old (has_new _ _ _ _ (by simp)))), has_old (has_old (has_new _ _ _ _ (by simp))), has_old (has_new _ _ _ _ (by simp)), has_new _ _ _ _ (by simp),
      (((((Below.refl _ _).alloc (Nat.le_refl _) _).alloc (by simp) _).alloc (by simp <;> omega) _).alloc (by simp <;> omega) _).alloc (by simp <;> omega) _⟩
  go_enter_defers Tryd.func17, Tryd.ntmps17
  go_upto_region 1 with fail
  refine named2 (p := fun X => Code.wp _ _ _ _ X) ?_
  intro W9 hW9
  have hW : W0 = W9 := hW0.trans hW9.symm
  subst hW
  clear hW9 hW0
  have hz := hBW.e.lt
  have hii := hBW.ins
  go_upto_region 2 with (refine wpList_load_row rfl 38 _ rfl w.heap.size rfl 38 #[.int .i64 i.op, .int .i64 i.dst, .int .i64 i.src, .int .i64 i.off, .int .u32 (i.imm : Int)] (0, 0) _ hii Tryd.underlying38 rfl (by kernel_rfl) ?_)
  refine named2 (p := fun X => Code.wp _ _ _ _ X) ?_
  intro W1 hW1
  have hii1 : Has W1 W0.heap.size i.a 38 := by rw [hW1]; exact has_old (has_new _ _ _ _ rfl)
  have h9 : Has W1 (W0.heap.size + 1) #[.int .i64 c, .slice (some ⟨W0.heap.size, 0, none⟩) 1 1] 24 := by rw [hW1]; exact has_new _ _ _ _ (by simp)
  have hB1 : Below W0.heap.size W0 W1 := by rw [hW1]; exact ((Below.refl _ _).alloc (Nat.le_refl _) _).alloc (by simp) _
  have hBW1 := hBW.grow hB1
  have hP : Prg W1 (.slice (some ⟨W0.heap.size, 0, none⟩) 1 1) [i] := prg_one hii1
  have hG1 : Glob W1 := hG.below (hBW.below.trans (hB1.mono hBW.below.size)) hG.size
  have hck := check_any c _ [i] W1 hP hG1 (by simp)
  clear hW1 hii1 hP hG1 hii hz hBW hB1
  generalize chkE c [i] = E at *
  have hE' : (E != 0) = true := by simpa using hE
  have c0 := h9.cell 0
  have c1 := h9.cell 1
  go_upto_region 3 with (go_at_call 25; refine hck.mono ?_; rintro e W2 ⟨rfl, hB2⟩; clear hck c0 c1)
  have hBW2 := hBW1.grow hB2
  clear hBW1 hB2 h9
  have hn := hBW2.n
  have hj := (hBW2.setN noK).j
  have he := ((hBW2.setN noK).setJ noK).e.cell 0
  have hf := ((hBW2.setN noK).setJ noK).e.free 0
  have HF : Hid (BW w i k noK noK 2 (((W2.setRow (w.heap.size + 2) noK.a).setRow (w.heap.size + 3) noK.a).setCell ⟨w.heap.size + 4, 0, none⟩ (.int .i64 2))) := ((hBW2.setN noK).setJ noK).setE 2
  go_wp2_with (first | refine wpList_store_row rfl 43 _ _ rfl (w.heap.size + 2) noK.a rfl rfl 43 noK.a hn (by kernel_rfl) (by kernel_rfl) (Kn.a_one _) ?_ | refine wpList_store_row rfl 43 _ _ rfl (w.heap.size + 3) noK.a rfl rfl 43 noK.a hj (by kernel_rfl) (by kernel_rfl) (Kn.a_one _) ?_)
  generalize ((W2.setRow (w.heap.size + 2) noK.a).setRow (w.heap.size + 3) noK.a).setCell ⟨w.heap.size + 4, 0, none⟩ (.int .i64 2) = W3 at *
  exact ⟨_, results_three rfl _ _ _ _ _ _ _ rfl rfl rfl HF.out.n HF.out.j HF.out.e, rfl, HF.out.below⟩
end Go.Proofs.YtodkehpldlmgaaaDoor
/- The law of regions by an invariant, where what is given up by is caught: the slots are told. -/
namespace Go.Proofs.YtodkehpldlmgaaaDoor
open Go.RowKit
variable {P : Program}

theorem wp_region_inv2 {id : Nat} {ops : Array Oper} {a0 : Act} {W0 : World} {Q : Exit → Act → World → Prop} (Φ : (Nat → Bool) → (Nat → Value) → World → Prop) (PQ : List PanicEntry → World → Prop) (hm : P.follows .mixedOrders = true)
    (ht : topoL ops = true) (hp : plainL ops = true) (hd : dstsApart ops.toList = true)
    (h0 : Φ (fun _ => false) (fun _ => undef) W0.drew)
    (hop : ShownAll P ops.toList a0 Φ PQ 0 ops.toList)
    (hend : ∀ l vs X, (∀ i, i < ops.size → l i = true) → Φ l vs X → Q .normal (canonL ops.toList 0 (fun _ => true) vs a0) X)
    (hpan : ∀ c l vs X, PQ c X → Q (.panic c) (canonL ops.toList 0 l vs a0) X) :
    (Code.region id ops true).wp P Q a0 W0 := by
  refine wp_region_any hm ?_
  have hsz0 : ops.toList.length = ops.size := by simp
  have main : ∀ (fuel : Nat) (listed : Array Bool) (vs : Nat → Value) (w : World), listed.size = ops.size → Closed ops listed → Φ (lis listed) vs w → ((List.range ops.size).filter fun i => !lis listed i).length ≤ fuel → wpAny P .any ops Q fuel listed (canonL ops.toList 0 (lis listed) vs a0) w := by
    have last : ∀ (listed : Array Bool) (vs : Nat → Value) (w : World), listed.size = ops.size → Φ (lis listed) vs w → Region.ready .any ops listed = [] → Q .normal (canonL ops.toList 0 (lis listed) vs a0) w := fun listed vs w hsz h hrd => by
      have hall : ∀ i, i < ops.size → lis listed i = true := by
        intro i
        induction i using Nat.strongRecOn with
        | ind i ih =>
          intro hi
          cases hv : lis listed i with
          | true => rfl
          | false =>
            have hin : i ∈ Region.ready .any ops listed := by
              rw [mem_ready]
              refine ⟨?_, ops[i], by simp [hi], fun e he hb => ?_⟩
              · unfold lis at hv
                rw [Array.getD_eq_getD_getElem?, Array.getElem?_eq_getElem (by omega)] at hv ⊢; exact hv
              · unfold topoL at ht
                rw [List.all_eq_true] at ht
                have := ht i (by simpa using hi)
                rw [Array.getElem?_eq_getElem hi] at this
                simp only [Option.map_some, Option.getD_some, List.all_eq_true, decide_eq_true_eq] at this
                have := this e.on (by unfold depsOf; rw [List.mem_map]; exact ⟨e, by rw [List.mem_filter]; exact ⟨by simpa using he, hb⟩, rfl⟩)
                exact ih e.on this (by omega)
            rw [hrd] at hin; cases hin
      have e : canonL ops.toList 0 (lis listed) vs a0 = canonL ops.toList 0 (fun _ => true) vs a0 := by
        have key : ∀ (os : List Oper) (k : Nat) (a : Act), (∀ j, k ≤ j → j < k + os.length → lis listed j = true) → canonL os k (lis listed) vs a = canonL os k (fun _ => true) vs a := by
          intro os
          induction os with
          | nil => intro k a _; rfl
          | cons o os ih =>
            intro k a h
            simp only [canonL]
            rw [h k (Nat.le_refl _) (by simp), ih (k + 1) _ (fun j hj hlt => h j (by omega) (by simp; omega))]
            simp
        exact key _ _ _ (fun j _ hj => hall j (by simpa using hj))
      rw [e]
      exact hend _ vs w hall h
    intro fuel
    induction fuel with
    | zero =>
      intro listed vs w hsz hcl h hc
      have hrd : Region.ready .any ops listed = [] := by
        rw [List.eq_nil_iff_forall_not_mem]
        intro i hi
        obtain ⟨h2, o, ho, _⟩ := mem_ready.1 hi
        have h1 := (Array.getElem?_eq_some_iff.1 ho).1
        have hin : i ∈ (List.range ops.size).filter fun i => !lis listed i := by
          rw [List.mem_filter]
          refine ⟨by simpa using h1, ?_⟩
          unfold lis
          rw [Array.getD_eq_getD_getElem?, Array.getElem?_eq_getElem (by omega)] at h2 ⊢
          simp at h2 ⊢; exact h2
        have : 0 < ((List.range ops.size).filter fun i => !lis listed i).length := List.length_pos_of_mem hin
        omega
      exact ⟨hrd, last listed vs w hsz h hrd⟩
    | succ fuel ih =>
      intro listed vs w hsz hcl h hc
      refine ⟨last listed vs w hsz h, fun i hi => ?_⟩
      obtain ⟨h2, o, ho, hdir⟩ := mem_ready.1 hi
      have h1 := (Array.getElem?_eq_some_iff.1 ho).1
      have hil : i < listed.size := by omega
      have hun : lis listed i = false := by
        unfold lis
        rw [Array.getD_eq_getD_getElem?, Array.getElem?_eq_getElem hil] at h2 ⊢; exact h2
      have hcount : ((List.range ops.size).filter fun q => !lis (listed.setIfInBounds i true) q).length ≤ fuel := by
        have e : ((List.range ops.size).filter fun q => !lis (listed.setIfInBounds i true) q) = ((List.range ops.size).filter fun q => !lis listed q).filter (fun q => q != i) := by
          rw [List.filter_filter, lis_set hil]
          apply List.filter_congr
          intro q _
          by_cases e : q = i
          · subst e; simp [upd]
          · simp [upd, e]
        rw [e]
        have hmem : i ∈ (List.range ops.size).filter fun q => !lis listed q := by
          rw [List.mem_filter]; exact ⟨by simpa using h1, by simp [hun]⟩
        have : (((List.range ops.size).filter fun q => !lis listed q).filter (fun q => q != i)).length < ((List.range ops.size).filter fun q => !lis listed q).length :=
          List.length_filter_lt_length_iff_exists.2 ⟨i, hmem, by simp⟩
        omega
      have hol : ops.toList[i]? = some o := by simpa using ho
      have hguard : o.guard = none := by
        unfold plainL at hp
        rw [List.all_eq_true] at hp
        have := hp o (List.mem_of_getElem? hol)
        simpa using this
      unfold wpOp
      rw [ho]
      simp only []
      rw [if_pos (by simp [Region.wanted, hguard])]
      left
      have hs := ShownAll.at _ _ hop i o hol
      rw [Nat.zero_add] at hs
      refine wp_both (hs (lis listed) vs w _ rfl h hun (fun j hj => ?_) (fun k j hr hk => by rw [Array.toArray_toList] at hr; exact reach_of hcl hr hk)) ?_ (fun c X => hpan c _ _ X)
      · unfold depsOf at hj
        rw [List.contains_iff_mem, List.mem_map] at hj
        obtain ⟨e, he, rfl⟩ := hj
        rw [List.mem_filter] at he
        exact hdir e (by simpa using he.1) he.2
      · rintro a' w' ⟨v, rfl, hΦ⟩
        have := canonL_step ops.toList 0 i o (lis listed) vs v a0 hd hol (by rw [Nat.zero_add]; exact hun)
        rw [Nat.zero_add] at this
        rw [← this, ← lis_set hil]
        exact ih _ _ _ (by simpa using hsz) (closed_step hcl ho hdir) (by rw [lis_set hil]; exact hΦ) hcount
  have e0 : lis (Array.replicate ops.size false) = fun _ => false := by
    funext j
    unfold lis
    rw [Array.getD_eq_getD_getElem?, Array.getElem?_replicate]
    split <;> rfl
  have e1 : a0 = canonL ops.toList 0 (lis (Array.replicate ops.size false)) (fun _ => undef) a0 := by
    rw [e0]
    have key : ∀ (os : List Oper) (k : Nat) (a : Act), a = canonL os k (fun _ => false) (fun _ => undef) a := by
      intro os
      induction os with
      | nil => intro k a; rfl
      | cons o os ih => intro k a; exact ih (k + 1) a
    exact key _ _ _
  have hc0 : Closed ops (Array.replicate ops.size false) := by
    intro m om _ hl
    have h9 : lis (Array.replicate ops.size false) m = false := by rw [e0]
    have h8 : lis (Array.replicate ops.size false) m = true := hl
    rw [h9] at h8
    cases h8
  have := main ops.size (Array.replicate ops.size false) (fun _ => undef) W0.drew (by simp) hc0 (by rw [e0]; exact h0) (Nat.le_trans (List.length_filter_le _ _) (by simp))
  rw [← e1] at this
  exact this
end Go.Proofs.YtodkehpldlmgaaaDoor
/- Behind an instruction that is given up. -/
namespace Go.Proofs.YtodkehpldlmgaaaDoor
open Go.RowKit

theorem named3 {p : Act → Prop} {A : Act} (h : ∀ B, B = A → p B) : p A := h A rfl
set_option maxRecDepth 10000 in
set_option maxHeartbeats 4000000 in
theorem behind_no (i : Ins) (c : Int) (k : Kn) (x : Wrong) (w : World) (hG : Glob w) (hE : chkE c [i] = 0) (hkb : knB k = true) (hc : k.come = true) (hm : MayI i) (hK : KnR k) (n : Nat) (hop : i.op = (n : Int)) (ho : outI i c k = .error x) :
    Calls Tryd.prog 17 #[.agg i.a, .int .i64 c, .agg k.a] w fun e w' => e = .returned (.tuple #[.agg (noK).a, .agg (noK).a, .int .i64 x.errno]) ∧ Below w.heap.size w w' := by
  have hmk : ∀ (v : Value) (X : World), IsMake X n v → MakeOk i c k v X := fun v X hv => make_any i c k v X n hop hm hK hv
  have HN : Hid (1 ≤ n ∧ n ≤ 24) := by
    show _ ∧ _
    have := hm.1.1
    omega
  have HOP : Hid (i.op = (n : Int)) := hop
  have HO : Hid (outI i c k = .error x) := ho
  clear hm hK hop ho
  obtain ⟨W0, hW0⟩ : ∃ W0, W0 = ((((w.alloc (.cells i.a 38)).alloc (.cells k.a 43)).alloc (.cells noK.a 43)).alloc (.cells noK.a 43)).alloc (.cells #[.int .i64 0] 27) := ⟨_, rfl⟩
  have hBW : BW w i k noK noK 0 W0 := by
    rw [hW0]
    exact ⟨has_old (has_old (has_old (has_old (has_new _ _ _ _ rfl)))), has_old (has_old (has_old (has_new _ _ _ _ (by simp)))), has_old (has_old (has_new _ _ _ _ (by simp))), has_old (has_new _ _ _ _ (by simp)), has_new _ _ _ _ (by simp),
      (((((Below.refl _ _).alloc (Nat.le_refl _) _).alloc (by simp) _).alloc (by simp <;> omega) _).alloc (by simp <;> omega) _).alloc (by simp <;> omega) _⟩
  go_enter_defers Tryd.func17, Tryd.ntmps17
  go_upto_region 1 with fail
  refine named2 (p := fun X => Code.wp _ _ _ _ X) ?_
  intro W9 hW9
  have hW : W0 = W9 := hW0.trans hW9.symm
  subst hW
  clear hW9 hW0
  have hz := hBW.e.lt
  have hii := hBW.ins
  go_upto_region 2 with (refine wpList_load_row rfl 38 _ rfl w.heap.size rfl 38 #[.int .i64 i.op, .int .i64 i.dst, .int .i64 i.src, .int .i64 i.off, .int .u32 (i.imm : Int)] (0, 0) _ hii Tryd.underlying38 rfl (by kernel_rfl) ?_)
  refine named2 (p := fun X => Code.wp _ _ _ _ X) ?_
  intro W1 hW1
  have hii1 : Has W1 W0.heap.size i.a 38 := by rw [hW1]; exact has_old (has_new _ _ _ _ rfl)
  have h9 : Has W1 (W0.heap.size + 1) #[.int .i64 c, .slice (some ⟨W0.heap.size, 0, none⟩) 1 1] 24 := by rw [hW1]; exact has_new _ _ _ _ (by simp)
  have hB1 : Below W0.heap.size W0 W1 := by rw [hW1]; exact ((Below.refl _ _).alloc (Nat.le_refl _) _).alloc (by simp) _
  have hBW1 := hBW.grow hB1
  have hP : Prg W1 (.slice (some ⟨W0.heap.size, 0, none⟩) 1 1) [i] := prg_one hii1
  have hG1 : Glob W1 := hG.below (hBW.below.trans (hB1.mono hBW.below.size)) hG.size
  have hck := check_any c _ [i] W1 hP hG1 (by simp)
  rw [hE] at hck
  have hkn1 := hBW1.kn
  clear hW1 hii1 hP hG1 hii hz hBW hB1 hE hG
  have c0 := h9.cell 0
  have c1 := h9.cell 1
  have hmb := mayBe_any k
  rw [hkb] at hmb
  clear hkb
  go_upto_region 4 with (first | (go_at_call 25; refine hck.mono ?_; rintro e W2 ⟨rfl, hB2⟩; clear hck c0 c1; have hkn2 := hkn1.below hB2 hkn1.lt) | refine wpList_load_row_if rfl 43 _ rfl (w.heap.size + 1) rfl 43 k.a (0, 0) _ hkn2 Tryd.underlying43 rfl (by kernel_rfl) ?_ | (go_at_call 31; refine (hmb _).mono ?_; rintro e W3 ⟨rfl, hB3⟩; clear hmb))
  have hBW3 := (hBW1.grow hB2).grow hB3
  clear hBW1 hB2 hB3 h9 hkn1 hkn2
  have ck : W3.cell? ⟨w.heap.size + 1, 0, none⟩ = some (.bool k.come) := hBW3.kn.cell 0
  rw [hc] at ck
  have hmf : ∀ (fn : Fn) (first cap : Array Value) (w : World), (Instr.makeFunc fn first cap).run Tryd.prog w = .ok (.func fn first cap) w := fun _ _ _ _ => rfl
  go_upto_region 7 with fail
  clear ck hmf hc
  refine wp_region_inv2 (Φ := fun l vs X => Vals (fun q => match q with | 1 => some (.pointer (some ⟨w.heap.size, 0, none⟩)) | 2 => some (.int .i64 (n : Int)) | 4 => some (.agg i.a) | 5 => some (.int .i64 c) | 6 => some (.agg k.a) | 7 => some (.agg (stA i c k)) | _ => none) l vs ∧ Ph2 12 13 (OpS W3 n) (fun _ X => BW w i k noK noK 0 X) (fun _ X => BW w i k noK noK 0 X) l vs X ∧ l 8 = false) (PQ := fun q X => q = x.entry ∧ BW w i k noK noK 0 X)
    (by kernel_rfl) (by kernel_rfl) (by kernel_rfl) (by kernel_rfl) ⟨Vals.none _ _, Ph2.start (OpS.start (Below.refl _ _).drew), rfl⟩ ?hop ?hend ?hpan
  case hop =>
    refine ⟨?_, ?_, ?_, ?_, ?_, ?_, ?_, ?_, ?_, ?_, ?_, ?_, ?_, ?_, trivial⟩
    · intro l vs X A hA ⟨hV, hS, hN8⟩ hl hd hcl
      have hj := notYet (k := 12) hcl (by kernel_rfl) hl
      have hk := notYet (k := 13) hcl (by kernel_rfl) hl
      have hX := hS.1 hj
      have hB := hX.below
      have aF0 : A.eval (.func 33) = .func (.func 33) #[] #[] := rfl
      refine show_call (f := 33) (args := #[]) ?_ (ops_any X) ?_
      · generalize A.eval = ρ at *
        clear hA hl hd hcl hV hS
        go_simp
      · rintro e X' ⟨mb, rfl, hms⟩
        exact .inl ⟨_, rfl, hV.upd (fun _ h => by cases h), Ph2.keep hj hk (by decide) (by decide) (hX.mk0 hms), (upd_other _ _ (by decide)).trans hN8⟩
    · intro l vs X A hA ⟨hV, hS, hN8⟩ hl hd hcl
      have hj := notYet (k := 12) hcl (by kernel_rfl) hl
      have hk := notYet (k := 13) hcl (by kernel_rfl) hl
      have hX := hS.1 hj
      have hB := hX.below
      have a3 := eval_old hA 3 (by kernel_rfl) rfl
      refine show_value (v := .pointer (some ⟨w.heap.size, 0, none⟩)) (X' := X) ?_ ⟨hV.upd (fun _ h => Option.some.inj h), Ph2.keep hj hk (by decide) (by decide) (hX.grow (Below.refl _ _) (by decide) (by decide) _), (upd_other _ _ (by decide)).trans hN8⟩
      generalize A.eval = ρ at *
      clear hA hl hd hcl hV hS
      go_simp
    · intro l vs X A hA ⟨hV, hS, hN8⟩ hl hd hcl
      have hj := notYet (k := 12) hcl (by kernel_rfl) hl
      have hk := notYet (k := 13) hcl (by kernel_rfl) hl
      have hX := hS.1 hj
      have hB := hX.below
      have a32 := eval_new hA 32 1 (by kernel_rfl) (by kernel_rfl) (by kernel_rfl) (hd 1 (by kernel_rfl)) (hV 1 _ (hd 1 (by kernel_rfl)) rfl)
      have cc : X.cell? ⟨w.heap.size, 0, none⟩ = some (.int .i64 (n : Int)) := by rw [← HOP.out]; exact (hBW3.ins.below hB hBW3.ins.lt).cell 0
      refine show_value (v := .int .i64 (n : Int)) (X' := X) ?_ ⟨hV.upd (fun _ h => Option.some.inj h), Ph2.keep hj hk (by decide) (by decide) (hX.grow (Below.refl _ _) (by decide) (by decide) _), (upd_other _ _ (by decide)).trans hN8⟩
      generalize A.eval = ρ at *
      clear hA hl hd hcl hV hS hX hB
      go_simp
    · intro l vs X A hA ⟨hV, hS, hN8⟩ hl hd hcl
      have hj := notYet (k := 12) hcl (by kernel_rfl) hl
      have hk := notYet (k := 13) hcl (by kernel_rfl) hl
      have hX := hS.1 hj
      have hB := hX.below
      have a31 := eval_new hA 31 0 (by kernel_rfl) (by kernel_rfl) (by kernel_rfl) (hd 0 (by kernel_rfl)) (rfl : vs 0 = vs 0)
      have a33 := eval_new hA 33 2 (by kernel_rfl) (by kernel_rfl) (by kernel_rfl) (hd 2 (by kernel_rfl)) (hV 2 _ (hd 2 (by kernel_rfl)) rfl)
      obtain ⟨mb, e31, hms⟩ := hX.tab (hd 0 (by kernel_rfl))
      rw [e31] at a31
      obtain ⟨v, hv, hlk⟩ := hms.table.at_ n HN.out.1 HN.out.2
      refine show_value (v := v) (X' := X) ?_ ⟨hV.upd (fun _ h => by cases h), Ph2.keep hj hk (by decide) (by decide) (hX.mk3 hv), (upd_other _ _ (by decide)).trans hN8⟩
      generalize A.eval = ρ at *
      clear hA hl hd hcl hV hS hX hB hms hv e31
      go_simp
    · intro l vs X A hA ⟨hV, hS, hN8⟩ hl hd hcl
      have hj := notYet (k := 12) hcl (by kernel_rfl) hl
      have hk := notYet (k := 13) hcl (by kernel_rfl) hl
      have hX := hS.1 hj
      have hB := hX.below
      have a3 := eval_old hA 3 (by kernel_rfl) rfl
      refine show_value (v := .agg i.a) (X' := X) (run_ld 38 _ rfl _ a3 (ld_row (l := i.cells) (has_whole (hBW3.grow hB).ins) (by kernel_rfl))) ⟨hV.upd (fun _ h => Option.some.inj h), Ph2.keep hj hk (by decide) (by decide) (hX.grow (Below.refl _ _) (by decide) (by decide) _), (upd_other _ _ (by decide)).trans hN8⟩
    · intro l vs X A hA ⟨hV, hS, hN8⟩ hl hd hcl
      have hj := notYet (k := 12) hcl (by kernel_rfl) hl
      have hk := notYet (k := 13) hcl (by kernel_rfl) hl
      have hX := hS.1 hj
      have hB := hX.below
      have a1 := eval_old hA 1 (by kernel_rfl) rfl
      refine show_value (v := .int .i64 c) (X' := X) ?_ ⟨hV.upd (fun _ h => Option.some.inj h), Ph2.keep hj hk (by decide) (by decide) (hX.grow (Below.refl _ _) (by decide) (by decide) _), (upd_other _ _ (by decide)).trans hN8⟩
      generalize A.eval = ρ at *
      clear hA hl hd hcl hV hS
      go_simp
    · intro l vs X A hA ⟨hV, hS, hN8⟩ hl hd hcl
      have hj := notYet (k := 12) hcl (by kernel_rfl) hl
      have hk := notYet (k := 13) hcl (by kernel_rfl) hl
      have hX := hS.1 hj
      have hB := hX.below
      have a5 := eval_old hA 5 (by kernel_rfl) rfl
      refine show_value (v := .agg k.a) (X' := X) (run_ld 43 _ rfl _ a5 (ld_row (l := k.cells) (has_whole (hBW3.grow hB).kn) (by kernel_rfl))) ⟨hV.upd (fun _ h => Option.some.inj h), Ph2.keep hj hk (by decide) (by decide) (hX.grow (Below.refl _ _) (by decide) (by decide) _), (upd_other _ _ (by decide)).trans hN8⟩
    · intro l vs X A hA ⟨hV, hS, hN8⟩ hl hd hcl
      have hj := notYet (k := 12) hcl (by kernel_rfl) hl
      have hk := notYet (k := 13) hcl (by kernel_rfl) hl
      have hX := hS.1 hj
      have hB := hX.below
      have a35 := eval_new hA 35 4 (by kernel_rfl) (by kernel_rfl) (by kernel_rfl) (hd 4 (by kernel_rfl)) (hV 4 _ (hd 4 (by kernel_rfl)) rfl)
      have a36 := eval_new hA 36 5 (by kernel_rfl) (by kernel_rfl) (by kernel_rfl) (hd 5 (by kernel_rfl)) (hV 5 _ (hd 5 (by kernel_rfl)) rfl)
      have a37 := eval_new hA 37 6 (by kernel_rfl) (by kernel_rfl) (by kernel_rfl) (hd 6 (by kernel_rfl)) (hV 6 _ (hd 6 (by kernel_rfl)) rfl)
      have hbs := build_step i c k X
      refine show_value (v := .agg (stA i c k)) (X' := X) ?_ ⟨hV.upd (fun _ h => Option.some.inj h), Ph2.keep hj hk (by decide) (by decide) (hX.grow (Below.refl _ _) (by decide) (by decide) _), (upd_other _ _ (by decide)).trans hN8⟩
      generalize A.eval = ρ at *
      clear hA hl hd hcl hV hS hX hB
      generalize stA i c k = sa at *
      generalize i.a = ia at *
      generalize k.a = ka at *
      unfold execOp
      simp only [List.map_toArray, List.map_cons, List.map_nil, a35, a36, a37, Sem.run_bind, hbs, Result.andThen_ok, Sem.run_pure]
    · intro l vs X A hA ⟨hV, hS, hN8⟩ hl hd hcl
      have hj := notYet (k := 12) hcl (by kernel_rfl) hl
      have hk := notYet (k := 13) hcl (by kernel_rfl) hl
      have hX := hS.1 hj
      have hB := hX.below
      have a34 := eval_new hA 34 3 (by kernel_rfl) (by kernel_rfl) (by kernel_rfl) (hd 3 (by kernel_rfl)) (rfl : vs 3 = vs 3)
      have a38 := eval_new hA 38 7 (by kernel_rfl) (by kernel_rfl) (by kernel_rfl) (hd 7 (by kernel_rfl)) (hV 7 _ (hd 7 (by kernel_rfl)) rfl)
      obtain ⟨F, cap, hv, hent, hcall⟩ := hmk _ X (hX.fn (hd 3 (by kernel_rfl)))
      rw [hv] at a34
      rw [HO.out] at hcall
      refine show_call ?_ hcall ?_
      · have hr := fun o ho => run_callv (o := o) (ρ := A.eval) (X := X) (.tmp 34) (.tmp 38) 82 ho F cap (.agg (stA i c k)) a34 a38 hent
        exact hr _ rfl
      rintro e X' ⟨he, hB1⟩
      exact .inr ⟨x.entry, he, rfl, hBW3.grow (hB.trans (hB1.mono hX.size))⟩
    · intro l vs X A hA ⟨hV, hS, hN8⟩ hl hd hcl
      exact absurd (hd 8 (by kernel_rfl)) (by rw [hN8]; decide)
    · intro l vs X A hA ⟨hV, hS, hN8⟩ hl hd hcl
      exact absurd (hcl 9 8 (by kernel_rfl) (hd 9 (by kernel_rfl))) (by rw [hN8]; decide)
    · intro l vs X A hA ⟨hV, hS, hN8⟩ hl hd hcl
      exact absurd (hcl 9 8 (by kernel_rfl) (hd 9 (by kernel_rfl))) (by rw [hN8]; decide)
    · intro l vs X A hA ⟨hV, hS, hN8⟩ hl hd hcl
      exact absurd (hd 8 (by kernel_rfl)) (by rw [hN8]; decide)
    · intro l vs X A hA ⟨hV, hS, hN8⟩ hl hd hcl
      exact absurd (hd 8 (by kernel_rfl)) (by rw [hN8]; decide)
  case hend =>
    intro l vs X hl ⟨hV, hS, hN8⟩
    exact absurd (hl 8 (by decide)) (by rw [hN8]; decide)
  case hpan =>
    rintro q l vs X ⟨rfl, hb⟩
    rw [Wrong.entry_eq]
    refine named3 (p := fun A => Exit.then _ _ _ A X) ?_
    intro A hA
    have d6 : A.eval (.tmp 6) = .pointer (some ⟨w.heap.size + 2, 0, none⟩) := eval_old hA 6 (by kernel_rfl) rfl
    have d7 : A.eval (.tmp 7) = .pointer (some ⟨w.heap.size + 3, 0, none⟩) := eval_old hA 7 (by kernel_rfl) rfl
    have d8 : A.eval (.tmp 8) = .pointer (some ⟨w.heap.size + 4, 0, none⟩) := eval_old hA 8 (by kernel_rfl) rfl
    have dd := (congrArg Act.defers hA).trans (canonL_defers _ _ _ _ _)
    clear hA
    obtain ⟨tm, df⟩ := A
    simp only at dd
    subst dd
    have ht : ∀ w, Calls Tryd.prog 27 #[.iface x.ty (.agg #[])] w fun e w' => e = .returned (.int .i64 x.errno) ∧ w = w' := told_wrong x
    refine leaves_cons (f := 32) (args := #[.pointer (some ⟨w.heap.size + 4, 0, none⟩)]) (by simp) (by simp [go_sem]) ?_
    refine (catch_panic ⟨w.heap.size + 4, 0, none⟩ 0 x.errno x.ty (.agg #[]) _ (hb.e.cell 0) (hb.e.free 0) ht).mono ?_
    rintro e u' w'' ⟨rfl, rfl, rfl⟩
    have hF := hb.setE x.errno
    exact ⟨_, results_three rfl tm _ _ _ _ _ _ d6 d7 d8 hF.n hF.j hF.e, rfl, hF.below⟩
end Go.Proofs.YtodkehpldlmgaaaDoor
/- Known: what is known ahead of each instruction, or why the extension may not run. -/
namespace Go.Proofs.YtodkehpldlmgaaaDoor
open Go.RowKit

/-- The error of an extension. -/
def knownE (c : Int) (l : List Ins) : Int :=
  if chkE c l ≠ 0 then chkE c l else if l = [] then 160 else match aheadE l.length c l 0 startW with
    | .ok _ => 0
    | .error (some x) => x.errno
    | .error none => 164
theorem results_known {fn : Func} {p q : Tmp} (h : fn.results = #[.tmp p, .cell q 27]) (tmps : Array Value) (w : World) (g : Nat) {e : Int} {v : Value}
    (hp : tmps.getD p undef = v) (hq : tmps.getD q undef = .pointer (some ⟨g, 0, none⟩)) (hg : Has w g #[.int .i64 e] 27) :
    (results fn tmps).run Tryd.prog w = .ok (.tuple #[v, .int .i64 e]) w := by
  have hp' : tmps[p]?.getD undef = v := by simpa using hp
  have hq' : tmps[q]?.getD undef = .pointer (some ⟨g, 0, none⟩) := by simpa using hq
  have c : w.cell? ⟨g, 0, none⟩ = some (.int .i64 e) := hg.cell 0
  have hl : (loadVar 27 ⟨g, 0, none⟩).run Tryd.prog w = .ok (.int .i64 e) w := by simp [go_sem, c]
  simp [results, h, hp', hq', asAddr, hl]
/-- The world of Known behind its first lines. -/
structure NW (w : World) (c : Int) (sv : Value) (e : Int) (X : World) : Prop where
  box : Has X w.heap.size #[.int .i64 c, sv] 24
  e : Has X (w.heap.size + 1) #[.int .i64 e] 27
  below : Below w.heap.size w X
theorem NW.grow {w : World} {c : Int} {sv : Value} {e : Int} {X X' : World} (h : NW w c sv e X) (k : Below X.heap.size X X') : NW w c sv e X' :=
  ⟨h.box.below k h.box.lt, h.e.below k h.e.lt, h.below.trans (k.mono h.below.size)⟩
theorem NW.set {w : World} {c : Int} {sv : Value} {e : Int} {X : World} (h : NW w c sv e X) (e' : Int) : NW w c sv e' (X.setCell ⟨w.heap.size + 1, 0, none⟩ (.int .i64 e')) :=
  ⟨h.box.ex (Ex.set _ _ _ _) (by omega), h.e.set 0 _, Below.ex h.below h.below.size (Ex.set _ _ _ _) (by omega)⟩
theorem KnS.exW {X X' : World} {v : Value} {n b : Nat} {ks : Nat → Kn} {z : Int} (h : KnS X v n ks) (hn : 1 ≤ n) (hc : X.cell? ⟨b, 0, none⟩ = some (.int .i64 z)) (k : Ex b X X') : KnS X' v n ks := by
  obtain ⟨g, cap, h1, h2, h3, h4⟩ := h
  have hne : g ≠ b := fun e => by
    subst e
    have := h4 0 hn 0 (.bool (ks 0).come) rfl
    rw [show (0 * 31 + 0 : Nat) = 0 from rfl, hc] at this
    cases this
  exact ⟨g, cap, h1, h2, Nat.lt_of_lt_of_le h3 k.size, fun j hj => range_eq (h4 j hj) (k.block g h3 hne)⟩
def wrongE : Option Wrong → Int
  | some x => x.errno
  | none => 164
theorem chk_len {c : Int} {l : List Ins} (h : chkE c l = 0) : l.length ≤ 256 := by
  unfold chkE at h
  split at h
  · cases h
  · split at h
    · split at h
      · cases h
      · omega
    · cases h
theorem chk_ctx {c : Int} {l : List Ins} (h : chkE c l = 0) : 0 ≤ c ∧ c ≤ 256 := by
  unfold chkE at h
  split at h
  · cases h
  · omega
theorem chk_may {c : Int} {l : List Ins} (h : chkE c l = 0) {i : Ins} (hi : i ∈ l) (hu : i.imm < 4294967296) : MayI i := by
  have hall : l.all Ins.may = true := by
    unfold chkE at h
    split at h
    · cases h
    · split at h
      · assumption
      · cases h
  exact ⟨mayB_iff.1 (List.all_eq_true.1 hall i hi), hu⟩
set_option maxRecDepth 10000 in
set_option maxHeartbeats 4000000 in
theorem known_bad (c : Int) (sv : Value) (l : List Ins) (w : World) (hG : Glob w) (hP : Prg w sv l) (hl : l.length ≤ 1000000000) (E : Int) (hEE : chkE c l = E) (hE : E ≠ 0) :
    Calls Tryd.prog 13 #[.agg #[.int .i64 c, sv]] w fun e w' => e = .returned (.tuple #[.slice none 0 0, .int .i64 E]) ∧ Below w.heap.size w w' := by
  obtain ⟨W0, hW0⟩ : ∃ W0, W0 = (w.alloc (.cells #[.int .i64 c, sv] 24)).alloc (.cells #[.int .i64 0] 27) := ⟨_, rfl⟩
  have hN : NW w c sv 0 W0 := by
    rw [hW0]
    exact ⟨has_old (has_new _ _ _ _ rfl), has_new _ _ _ _ (by simp), ((Below.refl _ _).alloc (Nat.le_refl _) _).alloc (by simp) _⟩
  go_enter_defers Tryd.func13, Tryd.ntmps13
  go_upto_region 1 with fail
  refine named2 (p := fun X => Code.wp _ _ _ _ X) ?_
  intro W9 hW9
  have hW : W0 = W9 := hW0.trans hW9.symm
  subst hW
  clear hW9 hW0
  have hck := check_any c sv l W0 (hP.below (hN.below)) (hG.below hN.below hG.size) hl
  have hb0 := hN.box
  have c0 := hb0.cell 0
  have c1 := hb0.cell 1
  rw [hEE] at hck
  have HE : Hid (E ≠ 0) := hE
  clear hP hG hl hE hEE
  go_upto_region 2 with (go_at_call 25; refine hck.mono ?_; rintro e W1 ⟨rfl, hB1⟩; clear hck c0 c1; have hN1 := hN.grow hB1; have g0 := hN1.e.cell 0; have f0 := hN1.e.free 0)
  have hN2 := hN1.set E
  clear hN hN1 hb0 hB1 g0 f0
  generalize W1.setCell ⟨w.heap.size + 1, 0, none⟩ (.int .i64 E) = W2 at *
  have hE' : (E != 0) = true := by simpa using HE.out
  have g0 : W2.cell? ⟨w.heap.size + 1, 0, none⟩ = some (.int .i64 E) := hN2.e.cell 0
  go_wp2_with fail
  clear g0 hE' HE
  refine wp_region_inv (Φ := fun l vs X => Vals (fun q => match q with | 0 => some (.int .i64 E) | 1 => some (.slice none 0 0) | _ => none) l vs ∧ Pre1 2 (Below W2.heap.size W2) (NW w c sv E) l X) (PQ := fun _ _ => False)
    (by kernel_rfl) (by kernel_rfl) (by kernel_rfl) (by kernel_rfl) ⟨Vals.none _ _, Pre1.start ((Below.refl _ _).drew)⟩ ?hop ?hend (fun _ _ _ _ h => h.elim)
  case hop =>
    refine ⟨?_, ?_, ?_, trivial⟩
    · intro l vs X A hA ⟨hV, hS⟩ hl hd hcl
      have hk := notYet (k := 2) hcl (by kernel_rfl) hl
      have hX := hS.1 hk
      have hB := hX
      have a3 := eval_old hA 3 (by kernel_rfl) rfl
      have cc : X.cell? ⟨w.heap.size + 1, 0, none⟩ = some (.int .i64 E) := (hN2.grow hB).e.cell 0
      refine show_value (v := .int .i64 E) (X' := X) ?_ ⟨hV.upd (fun _ h => Option.some.inj h), Pre1.keep hk (by decide) (hX)⟩
      generalize A.eval = ρ at *
      clear hA hl hd hcl hV hS hX hB
      go_simp
    · intro l vs X A hA ⟨hV, hS⟩ hl hd hcl
      have hk := notYet (k := 2) hcl (by kernel_rfl) hl
      have hX := hS.1 hk
      have hB := hX
      have aC0 : A.eval (.const (.slice none 0 0)) = (.slice none 0 0) := rfl
      refine show_value (v := .slice none 0 0) (X' := X) ?_ ⟨hV.upd (fun _ h => Option.some.inj h), Pre1.keep hk (by decide) (hX)⟩
      generalize A.eval = ρ at *
      clear hA hl hd hcl hV hS
      go_simp
    · intro l vs X A hA ⟨hV, hS⟩ hl hd hcl
      have hX := hS.1 hl
      have hB := hX
      have a3 := eval_old hA 3 (by kernel_rfl) rfl
      have a8 := eval_new hA 8 0 (by kernel_rfl) (by kernel_rfl) (by kernel_rfl) (hd 0 (by kernel_rfl)) (hV 0 _ (hd 0 (by kernel_rfl)) rfl)
      have hg := hN2.grow hB
      have cc : X.cell? ⟨w.heap.size + 1, 0, none⟩ = some (.int .i64 E) := hg.e.cell 0
      have ff : X.frozen? ⟨w.heap.size + 1, 0, none⟩ = false := hg.e.free 0
      refine show_skip (X' := X.setCell ⟨w.heap.size + 1, 0, none⟩ (.int .i64 E)) ?_ ⟨hV.upd (fun _ h => by cases h), Pre1.last (hg.set E)⟩
      generalize A.eval = ρ at *
      clear hA hl hd hcl hV hS hX hB
      go_simp
  case hend =>
    intro l vs X hl ⟨hV, hS⟩
    have hX := hS.2 (hl 2 (by decide))
    have v0 := hV 0 _ (hl 0 (by decide)) rfl
    have v1 := hV 1 _ (hl 1 (by decide)) rfl
    clear hV hS hl
    simp only [canonL, if_true, v0, v1]
    clear v0 v1
    go_simp
    go_wp2_with fail
    refine ⟨.tuple #[.slice none 0 0, .int .i64 E], ?_, rfl, hX.below⟩
    exact results_known rfl _ _ (w.heap.size + 1) rfl rfl hX.e
set_option maxRecDepth 10000 in
set_option maxHeartbeats 4000000 in
theorem known_empty (c : Int) (sv : Value) (l : List Ins) (w : World) (hG : Glob w) (hP : Prg w sv l) (hl : l.length ≤ 1000000000) (hE : chkE c l = 0) (hl0 : l = []) :
    Calls Tryd.prog 13 #[.agg #[.int .i64 c, sv]] w fun e w' => e = .returned (.tuple #[.slice none 0 0, .int .i64 160]) ∧ Below w.heap.size w w' := by
  obtain ⟨W0, hW0⟩ : ∃ W0, W0 = (w.alloc (.cells #[.int .i64 c, sv] 24)).alloc (.cells #[.int .i64 0] 27) := ⟨_, rfl⟩
  have hN : NW w c sv 0 W0 := by
    rw [hW0]
    exact ⟨has_old (has_new _ _ _ _ rfl), has_new _ _ _ _ (by simp), ((Below.refl _ _).alloc (Nat.le_refl _) _).alloc (by simp) _⟩
  go_enter_defers Tryd.func13, Tryd.ntmps13
  go_upto_region 1 with fail
  refine named2 (p := fun X => Code.wp _ _ _ _ X) ?_
  intro W9 hW9
  have hW : W0 = W9 := hW0.trans hW9.symm
  subst hW
  clear hW9 hW0
  have hck := check_any c sv l W0 (hP.below (hN.below)) (hG.below hN.below hG.size) hl
  have hb0 := hN.box
  have c0 := hb0.cell 0
  have c1 := hb0.cell 1
  obtain ⟨a, cap, b, o, rfl, ha, hI, hb⟩ := hP
  subst hl0
  clear ha hI hb hG hl
  rw [hE] at hck
  clear hE
  go_upto_region 2 with (go_at_call 25; refine hck.mono ?_; rintro e W1 ⟨rfl, hB1⟩; clear hck c0 c1; have hN1 := hN.grow hB1; have g0 := hN1.e.cell 0; have f0 := hN1.e.free 0)
  have hN2 := hN1.set 0
  clear hN hN1 hb0 g0 f0 hB1
  generalize W1.setCell ⟨w.heap.size + 1, 0, none⟩ (.int .i64 0) = W2 at *
  have g0 : W2.cell? ⟨w.heap.size + 1, 0, none⟩ = some (.int .i64 0) := hN2.e.cell 0
  have f0 := hN2.e.free 0
  have c0 : W2.cell? ⟨w.heap.size, 0, none⟩ = some (.int .i64 c) := hN2.box.cell 0
  have c1 : W2.cell? ⟨w.heap.size, 1, none⟩ = some (.slice a 0 cap) := hN2.box.cell 1
  have HF : Hid (NW w c (.slice a 0 cap) 160 (W2.setCell ⟨w.heap.size + 1, 0, none⟩ (.int .i64 160))) := hN2.set 160
  clear hN2
  go_wp2_with fail
  have hF := HF.out
  refine ⟨.tuple #[.slice none 0 0, .int .i64 160], ?_, rfl, hF.below⟩
  exact results_known rfl _ _ (w.heap.size + 1) rfl rfl hF.e
set_option maxRecDepth 10000 in
set_option maxHeartbeats 4000000 in
theorem known_ok (c : Int) (sv : Value) (l : List Ins) (w : World) (hG : Glob w) (hP : Prg w sv l) (hl : l.length ≤ 1000000000) (hu : ∀ i, i ∈ l → i.imm < 4294967296) (hE : chkE c l = 0) (hl0 : l ≠ []) (ws : Nat → Kn) (hAE : aheadE l.length c l 0 startW = .ok ws) :
    Calls Tryd.prog 13 #[.agg #[.int .i64 c, sv]] w fun e w' => ∃ v, e = .returned (.tuple #[v, .int .i64 0]) ∧ KnS w' v l.length ws ∧ Below w.heap.size w w' := by
  obtain ⟨W0, hW0⟩ : ∃ W0, W0 = (w.alloc (.cells #[.int .i64 c, sv] 24)).alloc (.cells #[.int .i64 0] 27) := ⟨_, rfl⟩
  have hN : NW w c sv 0 W0 := by
    rw [hW0]
    exact ⟨has_old (has_new _ _ _ _ rfl), has_new _ _ _ _ (by simp), ((Below.refl _ _).alloc (Nat.le_refl _) _).alloc (by simp) _⟩
  go_enter_defers Tryd.func13, Tryd.ntmps13
  go_upto_region 1 with fail
  refine named2 (p := fun X => Code.wp _ _ _ _ X) ?_
  intro W9 hW9
  have hW : W0 = W9 := hW0.trans hW9.symm
  subst hW
  clear hW9 hW0
  have hck := check_any c sv l W0 (hP.below (hN.below)) (hG.below hN.below hG.size) hl
  have hb0 := hN.box
  have c0 := hb0.cell 0
  have c1 := hb0.cell 1
  have hP2 : ∀ X, Below w.heap.size w X → Prg X sv l := fun X hX => hP.below hX
  obtain ⟨a, cap, b, o, rfl, ha, hI, hb⟩ := hP
  have hmi : ∀ i, i ∈ l → MayI i := fun i hi => chk_may hE hi (hu i hi)
  have h256 := chk_len hE
  have hl1 : 1 ≤ l.length := by
    cases l with
    | nil => exact absurd rfl hl0
    | cons i r => simp
  clear ha hI hb hl
  rw [hE] at hck
  clear hE
  go_upto_region 2 with (go_at_call 25; refine hck.mono ?_; rintro e W1 ⟨rfl, hB1⟩; clear hck c0 c1; have hN1 := hN.grow hB1; have g0 := hN1.e.cell 0; have f0 := hN1.e.free 0)
  have hN2 := hN1.set 0
  clear hN hN1 hb0 g0 f0 hB1
  generalize W1.setCell ⟨w.heap.size + 1, 0, none⟩ (.int .i64 0) = W2 at *
  have g0 : W2.cell? ⟨w.heap.size + 1, 0, none⟩ = some (.int .i64 0) := hN2.e.cell 0
  have f0 := hN2.e.free 0
  have c0 : W2.cell? ⟨w.heap.size, 0, none⟩ = some (.int .i64 c) := hN2.box.cell 0
  have c1 : W2.cell? ⟨w.heap.size, 1, none⟩ = some (.slice a l.length cap) := hN2.box.cell 1
  have hla : ((l.length : Int) == 0) = false := by simp; omega
  have hmf : ∀ (fn : Fn) (first cap : Array Value) (w : World), (Instr.makeFunc fn first cap).run Tryd.prog w = .ok (.func fn first cap) w := fun _ _ _ _ => rfl
  have hah := ahead_any c (.slice a l.length cap) l W2 (hP2 W2 hN2.below) hl1 h256 hmi
  rw [hAE] at hah
  have hl2 : Hid (1 ≤ l.length) := hl1
  clear hP2 hl1 hmi h256 hu hl0 hAE hG
  go_wp2_with (go_at_call 28; refine hah.mono ?_; rintro e W3 ⟨⟨v, rfl, hkv⟩, hB3⟩; clear hah; have hN3 := hN2.grow hB3; have q0 := hN3.e.cell 0; have r0 := hN3.e.free 0)
  have hN4 := hN3.set 0
  have q1 : W3.cell? ⟨w.heap.size + 1, 0, none⟩ = some (.int .i64 0) := hN3.e.cell 0
  clear q0 r0 hN3
  refine leaves_cons (f := 26) (args := #[.pointer (some ⟨w.heap.size + 1, 0, none⟩)]) (by simp) (by simp [go_sem]) ?_
  refine (catch_idleK ⟨w.heap.size + 1, 0, none⟩ 0 _ (hN4.e.cell 0) (hN4.e.free 0)).mono ?_
  rintro e u' w'' ⟨rfl, rfl, rfl⟩
  have hF := hN4.set 0
  have hkw : KnS ((W3.setCell ⟨w.heap.size + 1, 0, none⟩ (.int .i64 0)).setCell ⟨w.heap.size + 1, 0, none⟩ (.int .i64 0)) v l.length ws := (hkv.exW hl2.out q1 (Ex.set _ _ _ _)).exW hl2.out (hN4.e.cell 0) (Ex.set _ _ _ _)
  exact ⟨_, results_known (v := v) rfl _ _ (w.heap.size + 1) rfl rfl hF.e, v, rfl, hkw, hF.below⟩
set_option maxRecDepth 10000 in
set_option maxHeartbeats 4000000 in
theorem known_no (c : Int) (sv : Value) (l : List Ins) (w : World) (hG : Glob w) (hP : Prg w sv l) (hl : l.length ≤ 1000000000) (hu : ∀ i, i ∈ l → i.imm < 4294967296) (hE : chkE c l = 0) (hl0 : l ≠ []) (x : Wrong) (hAE : aheadE l.length c l 0 startW = .error (some x)) :
    Calls Tryd.prog 13 #[.agg #[.int .i64 c, sv]] w fun e w' => e = .returned (.tuple #[.slice none 0 0, .int .i64 (x.errno)]) ∧ Below w.heap.size w w' := by
  obtain ⟨W0, hW0⟩ : ∃ W0, W0 = (w.alloc (.cells #[.int .i64 c, sv] 24)).alloc (.cells #[.int .i64 0] 27) := ⟨_, rfl⟩
  have hN : NW w c sv 0 W0 := by
    rw [hW0]
    exact ⟨has_old (has_new _ _ _ _ rfl), has_new _ _ _ _ (by simp), ((Below.refl _ _).alloc (Nat.le_refl _) _).alloc (by simp) _⟩
  go_enter_defers Tryd.func13, Tryd.ntmps13
  go_upto_region 1 with fail
  refine named2 (p := fun X => Code.wp _ _ _ _ X) ?_
  intro W9 hW9
  have hW : W0 = W9 := hW0.trans hW9.symm
  subst hW
  clear hW9 hW0
  have hck := check_any c sv l W0 (hP.below (hN.below)) (hG.below hN.below hG.size) hl
  have hb0 := hN.box
  have c0 := hb0.cell 0
  have c1 := hb0.cell 1
  have hP2 : ∀ X, Below w.heap.size w X → Prg X sv l := fun X hX => hP.below hX
  obtain ⟨a, cap, b, o, rfl, ha, hI, hb⟩ := hP
  have hmi : ∀ i, i ∈ l → MayI i := fun i hi => chk_may hE hi (hu i hi)
  have h256 := chk_len hE
  have hl1 : 1 ≤ l.length := by
    cases l with
    | nil => exact absurd rfl hl0
    | cons i r => simp
  clear ha hI hb hl
  rw [hE] at hck
  clear hE
  go_upto_region 2 with (go_at_call 25; refine hck.mono ?_; rintro e W1 ⟨rfl, hB1⟩; clear hck c0 c1; have hN1 := hN.grow hB1; have g0 := hN1.e.cell 0; have f0 := hN1.e.free 0)
  have hN2 := hN1.set 0
  clear hN hN1 hb0 g0 f0 hB1
  generalize W1.setCell ⟨w.heap.size + 1, 0, none⟩ (.int .i64 0) = W2 at *
  have g0 : W2.cell? ⟨w.heap.size + 1, 0, none⟩ = some (.int .i64 0) := hN2.e.cell 0
  have f0 := hN2.e.free 0
  have c0 : W2.cell? ⟨w.heap.size, 0, none⟩ = some (.int .i64 c) := hN2.box.cell 0
  have c1 : W2.cell? ⟨w.heap.size, 1, none⟩ = some (.slice a l.length cap) := hN2.box.cell 1
  have hla : ((l.length : Int) == 0) = false := by simp; omega
  have hmf : ∀ (fn : Fn) (first cap : Array Value) (w : World), (Instr.makeFunc fn first cap).run Tryd.prog w = .ok (.func fn first cap) w := fun _ _ _ _ => rfl
  have hah := ahead_any c (.slice a l.length cap) l W2 (hP2 W2 hN2.below) hl1 h256 hmi
  rw [hAE] at hah
  have hl2 : Hid (1 ≤ l.length) := hl1
  clear hP2 hl1 hmi h256 hu hl0 hAE hG
  have ht : ∀ w, Calls Tryd.prog 27 #[.iface x.ty (.agg #[])] w fun e w' => e = .returned (.int .i64 (x.errno)) ∧ w = w' := told_wrong x
  go_wp2_with (go_at_call 28; refine hah.mono ?_; rintro e W3 ⟨rfl, hB3⟩; clear hah)
  have hN3 := hN2.grow hB3
  rw [Wrong.entry_eq]
  refine leaves_cons (f := 26) (args := #[.pointer (some ⟨w.heap.size + 1, 0, none⟩)]) (by simp) (by simp [go_sem]) ?_
  refine (catch_panicK ⟨w.heap.size + 1, 0, none⟩ 0 (x.errno) x.ty (.agg #[]) _ (hN3.e.cell 0) (hN3.e.free 0) ht).mono ?_
  rintro e u' w'' ⟨rfl, rfl, rfl⟩
  have hF := hN3.set (x.errno)
  exact ⟨_, results_known (v := .slice none 0 0) rfl _ _ (w.heap.size + 1) rfl rfl hF.e, rfl, hF.below⟩
set_option maxRecDepth 10000 in
set_option maxHeartbeats 4000000 in
theorem known_astray (c : Int) (sv : Value) (l : List Ins) (w : World) (hG : Glob w) (hP : Prg w sv l) (hl : l.length ≤ 1000000000) (hu : ∀ i, i ∈ l → i.imm < 4294967296) (hE : chkE c l = 0) (hl0 : l ≠ []) (hAE : aheadE l.length c l 0 startW = .error (none)) :
    Calls Tryd.prog 13 #[.agg #[.int .i64 c, sv]] w fun e w' => e = .returned (.tuple #[.slice none 0 0, .int .i64 (164)]) ∧ Below w.heap.size w w' := by
  obtain ⟨W0, hW0⟩ : ∃ W0, W0 = (w.alloc (.cells #[.int .i64 c, sv] 24)).alloc (.cells #[.int .i64 0] 27) := ⟨_, rfl⟩
  have hN : NW w c sv 0 W0 := by
    rw [hW0]
    exact ⟨has_old (has_new _ _ _ _ rfl), has_new _ _ _ _ (by simp), ((Below.refl _ _).alloc (Nat.le_refl _) _).alloc (by simp) _⟩
  go_enter_defers Tryd.func13, Tryd.ntmps13
  go_upto_region 1 with fail
  refine named2 (p := fun X => Code.wp _ _ _ _ X) ?_
  intro W9 hW9
  have hW : W0 = W9 := hW0.trans hW9.symm
  subst hW
  clear hW9 hW0
  have hck := check_any c sv l W0 (hP.below (hN.below)) (hG.below hN.below hG.size) hl
  have hb0 := hN.box
  have c0 := hb0.cell 0
  have c1 := hb0.cell 1
  have hP2 : ∀ X, Below w.heap.size w X → Prg X sv l := fun X hX => hP.below hX
  obtain ⟨a, cap, b, o, rfl, ha, hI, hb⟩ := hP
  have hmi : ∀ i, i ∈ l → MayI i := fun i hi => chk_may hE hi (hu i hi)
  have h256 := chk_len hE
  have hl1 : 1 ≤ l.length := by
    cases l with
    | nil => exact absurd rfl hl0
    | cons i r => simp
  clear ha hI hb hl
  rw [hE] at hck
  clear hE
  go_upto_region 2 with (go_at_call 25; refine hck.mono ?_; rintro e W1 ⟨rfl, hB1⟩; clear hck c0 c1; have hN1 := hN.grow hB1; have g0 := hN1.e.cell 0; have f0 := hN1.e.free 0)
  have hN2 := hN1.set 0
  clear hN hN1 hb0 g0 f0 hB1
  generalize W1.setCell ⟨w.heap.size + 1, 0, none⟩ (.int .i64 0) = W2 at *
  have g0 : W2.cell? ⟨w.heap.size + 1, 0, none⟩ = some (.int .i64 0) := hN2.e.cell 0
  have f0 := hN2.e.free 0
  have c0 : W2.cell? ⟨w.heap.size, 0, none⟩ = some (.int .i64 c) := hN2.box.cell 0
  have c1 : W2.cell? ⟨w.heap.size, 1, none⟩ = some (.slice a l.length cap) := hN2.box.cell 1
  have hla : ((l.length : Int) == 0) = false := by simp; omega
  have hmf : ∀ (fn : Fn) (first cap : Array Value) (w : World), (Instr.makeFunc fn first cap).run Tryd.prog w = .ok (.func fn first cap) w := fun _ _ _ _ => rfl
  have hah := ahead_any c (.slice a l.length cap) l W2 (hP2 W2 hN2.below) hl1 h256 hmi
  rw [hAE] at hah
  have hl2 : Hid (1 ≤ l.length) := hl1
  clear hP2 hl1 hmi h256 hu hl0 hAE hG
  have ht : ∀ w, Calls Tryd.prog 27 #[.iface 95 (.agg #[])] w fun e w' => e = .returned (.int .i64 (164)) ∧ w = w' := told_astray
  go_wp2_with (go_at_call 28; refine hah.mono ?_; rintro e W3 ⟨rfl, hB3⟩; clear hah)
  have hN3 := hN2.grow hB3
  refine leaves_cons (f := 26) (args := #[.pointer (some ⟨w.heap.size + 1, 0, none⟩)]) (by simp) (by simp [go_sem]) ?_
  refine (catch_panicK ⟨w.heap.size + 1, 0, none⟩ 0 (164) 95 (.agg #[]) _ (hN3.e.cell 0) (hN3.e.free 0) ht).mono ?_
  rintro e u' w'' ⟨rfl, rfl, rfl⟩
  have hF := hN3.set (164)
  exact ⟨_, results_known (v := .slice none 0 0) rfl _ _ (w.heap.size + 1) rfl rfl hF.e, rfl, hF.below⟩
theorem knownE_bad {c : Int} {l : List Ins} (h : chkE c l ≠ 0) : knownE c l = chkE c l := by unfold knownE; rw [if_pos h]
theorem knownE_empty {c : Int} {l : List Ins} (h : chkE c l = 0) (h0 : l = []) : knownE c l = 160 := by unfold knownE; rw [if_neg (by rw [h]; decide), if_pos h0]
theorem knownE_ok {c : Int} {l : List Ins} (h : chkE c l = 0) (h0 : l ≠ []) {ws : Nat → Kn} (ha : aheadE l.length c l 0 startW = .ok ws) : knownE c l = 0 := by unfold knownE; rw [if_neg (by rw [h]; decide), if_neg h0, ha]
theorem knownE_no {c : Int} {l : List Ins} (h : chkE c l = 0) (h0 : l ≠ []) {x : Option Wrong} (ha : aheadE l.length c l 0 startW = .error x) : knownE c l = wrongE x := by
  unfold knownE
  rw [if_neg (by rw [h]; decide), if_neg h0, ha]
  cases x <;> rfl
theorem wrongE_ne (x : Option Wrong) : wrongE x ≠ 0 := by
  cases x with
  | none => decide
  | some x => cases x <;> decide
/-- What Known answers. -/
theorem known_any (c : Int) (sv : Value) (l : List Ins) (w : World) (hG : Glob w) (hP : Prg w sv l) (hl : l.length ≤ 1000000000) (hu : ∀ i, i ∈ l → i.imm < 4294967296) :
    Calls Tryd.prog 13 #[.agg #[.int .i64 c, sv]] w fun e w' => ∃ v, e = .returned (.tuple #[v, .int .i64 (knownE c l)]) ∧ (knownE c l = 0 → ∃ ws, aheadE l.length c l 0 startW = .ok ws ∧ KnS w' v l.length ws) ∧ (knownE c l ≠ 0 → v = .slice none 0 0) ∧ Below w.heap.size w w' := by
  by_cases hE : chkE c l = 0
  · by_cases h0 : l = []
    · refine (known_empty c sv l w hG hP hl hE h0).mono ?_
      rintro e w' ⟨rfl, hB⟩
      have hk := knownE_empty hE h0
      exact ⟨_, by rw [hk], (fun h => by rw [hk] at h; cases h), fun _ => rfl, hB⟩
    · cases ha : aheadE l.length c l 0 startW with
      | ok ws =>
        refine (known_ok c sv l w hG hP hl hu hE h0 ws ha).mono ?_
        rintro e w' ⟨v, rfl, hv, hB⟩
        have hk := knownE_ok hE h0 ha
        exact ⟨v, by rw [hk], fun _ => ⟨ws, rfl, hv⟩, (fun h => absurd hk h), hB⟩
      | error x =>
        have hk := knownE_no hE h0 ha
        have hn := wrongE_ne x
        cases x with
        | some x =>
          refine (known_no c sv l w hG hP hl hu hE h0 x ha).mono ?_
          rintro e w' ⟨rfl, hB⟩
          exact ⟨_, by rw [hk]; rfl, (fun h => absurd (hk.symm.trans h) hn), fun _ => rfl, hB⟩
        | none =>
          refine (known_astray c sv l w hG hP hl hu hE h0 ha).mono ?_
          rintro e w' ⟨rfl, hB⟩
          exact ⟨_, by rw [hk]; rfl, (fun h => absurd (hk.symm.trans h) hn), fun _ => rfl, hB⟩
  · refine (known_bad c sv l w hG hP hl _ rfl hE).mono ?_
    rintro e w' ⟨rfl, hB⟩
    have hk := knownE_bad hE
    exact ⟨_, by rw [hk], (fun h => absurd (hk.symm.trans h) hE), fun _ => rfl, hB⟩
set_option maxRecDepth 10000 in
set_option maxHeartbeats 1000000 in
theorem checkp_any (c : Int) (sv : Value) (l : List Ins) (w : World) (hG : Glob w) (hP : Prg w sv l) (hl : l.length ≤ 1000000000) (hu : ∀ i, i ∈ l → i.imm < 4294967296) :
    Calls Tryd.prog 15 #[.agg #[.int .i64 c, sv]] w fun e w' => e = .returned (.int .i64 (knownE c l)) ∧ Below w.heap.size w w' := by
  have h1 : Has (w.alloc (.cells #[.int .i64 c, sv] 24)) w.heap.size #[.int .i64 c, sv] 24 := has_new _ _ _ _ rfl
  have hB0 : Below w.heap.size w (w.alloc (.cells #[.int .i64 c, sv] 24)) := (Below.refl _ _).alloc (Nat.le_refl _) _
  have hk := known_any c sv l _ (hG.below hB0 hG.size) (hP.below hB0) hl hu
  generalize knownE c l = E at *
  have HB : Hid (Below w.heap.size w (w.alloc (.cells #[.int .i64 c, sv] 24))) := hB0
  have c0 := h1.cell 0
  have c1 := h1.cell 1
  clear hP hG hl hu hB0
  go_enter Tryd.func15, Tryd.ntmps15
  go_wp2_with (go_at_call 13; refine hk.mono ?_; rintro e W1 ⟨v, rfl, hv1, hv2, hB1⟩; clear hk hv1 hv2)
  go_ret
  exact ⟨rfl, HB.out.trans (hB1.mono HB.out.size)⟩
end Go.Proofs.YtodkehpldlmgaaaDoor
/- An extension that may run, one that may not. -/
namespace Go.Proofs.YtodkehpldlmgaaaDoor
open Go.RowKit

/-- The cells of instructions. -/
def insCells (l : List Ins) : List Value := (l.map Ins.cells).flatten
theorem insCells_at : ∀ (l : List Ins) (k j : Nat) (i : Ins), l[k]? = some i → j < 5 → (insCells l)[k * 5 + j]? = i.cells[j]? := by
  intro l
  induction l with
  | nil => intro k j i h; simp at h
  | cons x l ih =>
    intro k j i h hj
    have e : insCells (x :: l) = x.cells ++ insCells l := by simp [insCells]
    have hl : x.cells.length = 5 := rfl
    rw [e]
    cases k with
    | zero =>
      obtain rfl : x = i := by simpa using h
      rw [List.getElem?_append_left (by omega)]; congr 1; omega
    | succ k =>
      rw [List.getElem?_append_right (by omega), ← ih k j i (by simpa using h) hj]
      congr 1; omega
theorem insAt_has {w : World} {b : Nat} {l : List Ins} {cs : Array Value} {t : Nat} (hh : Has w b cs t) (hc : cs = (insCells l).toArray) : InsAt w b 0 l := by
  subst hc
  have key : ∀ k j i v, l[k]? = some i → j < 5 → i.cells[j]? = some v → w.cell? ⟨b, 0 + k * 5 + j, none⟩ = some v := fun k j i v h hj hv => by
    rw [hh.cell, Nat.zero_add, List.getElem?_toArray, insCells_at l k j i h hj, hv]
  exact ⟨fun k i h => key k 0 i _ h (by decide) rfl, fun k i h => key k 1 i _ h (by decide) rfl, fun k i h => key k 2 i _ h (by decide) rfl, fun k i h => key k 3 i _ h (by decide) rfl, fun k i h => key k 4 i _ h (by decide) rfl⟩
theorem prg_has {w : World} {b : Nat} {l : List Ins} {cs : Array Value} {t : Nat} (hh : Has w b cs t) (hc : cs = (insCells l).toArray) (n : Nat) (hn : n = l.length) : Prg w (.slice (some ⟨b, 0, none⟩) n n) l := by
  subst hn
  exact ⟨_, _, b, 0, rfl, fun _ => rfl, insAt_has hh hc, hh.lt⟩
def knownP : List Ins := [⟨23, 0, 0, 0, 0⟩, ⟨21, 0, 0, 1, 4⟩, ⟨1, 0, 0, 0, 0⟩, ⟨16, 0, 0, 0, 0⟩, ⟨24, 0, 0, 0, 0⟩]
def knownQ : List Ins := [⟨24, 0, 0, 0, 0⟩]
set_option maxRecDepth 100000 in
theorem knownP_is : knownE 4 knownP = 0 := by kernel_rfl
set_option maxRecDepth 100000 in
theorem knownQ_is : knownE 0 knownQ = 161 := by kernel_rfl
theorem knownP_imm : ∀ i, i ∈ knownP → i.imm < 4294967296 := by decide
theorem knownQ_imm : ∀ i, i ∈ knownQ → i.imm < 4294967296 := by decide
set_option maxRecDepth 10000 in
set_option maxHeartbeats 1000000 in
theorem knownl_any (w : World) (hG : Glob w) : Calls Tryd.prog 12 #[] w fun e w' => e = .returned (.bool true) ∧ Below w.heap.size w w' := by
  obtain ⟨W0, hW0⟩ : ∃ W0, W0 = (((w.alloc (.cells #[.int .i64 23, .int .i64 0, .int .i64 0, .int .i64 0, .int .u32 0, .int .i64 21, .int .i64 0, .int .i64 0, .int .i64 1, .int .u32 4, .int .i64 1, .int .i64 0, .int .i64 0, .int .i64 0, .int .u32 0, .int .i64 16, .int .i64 0, .int .i64 0, .int .i64 0, .int .u32 0, .int .i64 24, .int .i64 0, .int .i64 0, .int .i64 0, .int .u32 0] 38)).alloc (.cells #[.int .i64 4, .slice (some ⟨w.heap.size, 0, none⟩) 5 5] 24)).alloc (.cells #[.int .i64 24, .int .i64 0, .int .i64 0, .int .i64 0, .int .u32 0] 38)).alloc (.cells #[.int .i64 0, .slice (some ⟨w.heap.size + 2, 0, none⟩) 1 1] 24) := ⟨_, rfl⟩
  have h0 : Has W0 w.heap.size #[.int .i64 23, .int .i64 0, .int .i64 0, .int .i64 0, .int .u32 0, .int .i64 21, .int .i64 0, .int .i64 0, .int .i64 1, .int .u32 4, .int .i64 1, .int .i64 0, .int .i64 0, .int .i64 0, .int .u32 0, .int .i64 16, .int .i64 0, .int .i64 0, .int .i64 0, .int .u32 0, .int .i64 24, .int .i64 0, .int .i64 0, .int .i64 0, .int .u32 0] 38 := by rw [hW0]; exact has_old (has_old (has_old (has_new _ _ _ _ rfl)))
  have h1 : Has W0 (w.heap.size + 1) #[.int .i64 4, .slice (some ⟨w.heap.size, 0, none⟩) 5 5] 24 := by rw [hW0]; exact has_old (has_old (has_new _ _ _ _ (by simp)))
  have h2 : Has W0 (w.heap.size + 2) #[.int .i64 24, .int .i64 0, .int .i64 0, .int .i64 0, .int .u32 0] 38 := by rw [hW0]; exact has_old (has_new _ _ _ _ (by simp))
  have h3 : Has W0 (w.heap.size + 3) #[.int .i64 0, .slice (some ⟨w.heap.size + 2, 0, none⟩) 1 1] 24 := by rw [hW0]; exact has_new _ _ _ _ (by simp)
  have hB0 : Below w.heap.size w W0 := by rw [hW0]; exact ((((Below.refl _ _).alloc (Nat.le_refl _) _).alloc (by simp) _).alloc (by simp; omega) _).alloc (by simp; omega) _
  have hG0 := hG.below hB0 hG.size
  have hP : Prg W0 (.slice (some ⟨w.heap.size, 0, none⟩) 5 5) knownP := prg_has h0 (by kernel_rfl) 5 rfl
  have hQ : Prg W0 (.slice (some ⟨w.heap.size + 2, 0, none⟩) 1 1) knownQ := prg_has h2 (by kernel_rfl) 1 rfl
  have k1 := checkp_any 4 _ knownP W0 hG0 hP (by decide) knownP_imm
  have K2 : Hid (∀ X, Below W0.heap.size W0 X → Calls Tryd.prog 15 #[.agg #[.int .i64 0, .slice (some ⟨w.heap.size + 2, 0, none⟩) 1 1]] X fun e w' => e = .returned (.int .i64 161) ∧ Below X.heap.size X w') := fun X hX => by
    have := checkp_any 0 _ knownQ X (hG0.below hX hG0.size) (hQ.below hX) (by decide) knownQ_imm
    rw [knownQ_is] at this
    exact this
  rw [knownP_is] at k1
  clear hP hQ hG0 hG h0 h2
  go_enter Tryd.func12, Tryd.ntmps12
  go_upto_region 3 with fail
  refine named2 (p := fun X => Code.wp _ _ _ _ X) ?_
  intro W9 hW9
  have hW : W0 = W9 := hW0.trans hW9.symm
  subst hW
  clear hW9 hW0
  have c0 := h1.cell 0
  have c1 := h1.cell 1
  go_wp2_with (first | (go_at_call 15; refine k1.mono ?_; rintro e W1 ⟨rfl, hB1⟩; clear k1 c0 c1; have k2 := K2.out W1 hB1; have h4 := h3.below hB1 h3.lt; have c0 := h4.cell 0; have c1 := h4.cell 1) | (go_at_call 15; refine k2.mono ?_; rintro e W2 ⟨rfl, hB2⟩; clear k2))
  go_ret
  exact ⟨rfl, (hB0.trans (hB1.mono hB0.size)).trans (hB2.mono (Nat.le_trans hB0.size hB1.size))⟩
end Go.Proofs.YtodkehpldlmgaaaDoor
/- Behind, of what may be. -/
namespace Go.Proofs.YtodkehpldlmgaaaDoor
open Go.RowKit

set_option maxRecDepth 10000 in
set_option maxHeartbeats 4000000 in
theorem behind_kn (i : Ins) (c : Int) (k : Kn) (w : World) (hG : Glob w) (hE : chkE c [i] = 0) (hkb : knB k = false) :
    Calls Tryd.prog 17 #[.agg i.a, .int .i64 c, .agg k.a] w fun e w' => e = .returned (.tuple #[.agg (noK).a, .agg (noK).a, .int .i64 2]) ∧ Below w.heap.size w w' := by
  obtain ⟨W0, hW0⟩ : ∃ W0, W0 = ((((w.alloc (.cells i.a 38)).alloc (.cells k.a 43)).alloc (.cells noK.a 43)).alloc (.cells noK.a 43)).alloc (.cells #[.int .i64 0] 27) := ⟨_, rfl⟩
  have hBW : BW w i k noK noK 0 W0 := by
    rw [hW0]
    exact ⟨has_old (has_old (has_old (has_old (has_new _ _ _ _ rfl)))), has_old (has_old (has_old (has_new _ _ _ _ (by simp)))), has_old (has_old (has_new _ _ _ _ (by simp))), has_old (has_new _ _ _ _ (by simp)), has_new _ _ _ _ (by simp),
      (((((Below.refl _ _).alloc (Nat.le_refl _) _).alloc (by simp) _).alloc (by simp <;> omega) _).alloc (by simp <;> omega) _).alloc (by simp <;> omega) _⟩
  go_enter_defers Tryd.func17, Tryd.ntmps17
  go_upto_region 1 with fail
  refine named2 (p := fun X => Code.wp _ _ _ _ X) ?_
  intro W9 hW9
  have hW : W0 = W9 := hW0.trans hW9.symm
  subst hW
  clear hW9 hW0
  have hz := hBW.e.lt
  have hii := hBW.ins
  go_upto_region 2 with (refine wpList_load_row rfl 38 _ rfl w.heap.size rfl 38 #[.int .i64 i.op, .int .i64 i.dst, .int .i64 i.src, .int .i64 i.off, .int .u32 (i.imm : Int)] (0, 0) _ hii Tryd.underlying38 rfl (by kernel_rfl) ?_)
  refine named2 (p := fun X => Code.wp _ _ _ _ X) ?_
  intro W1 hW1
  have hii1 : Has W1 W0.heap.size i.a 38 := by rw [hW1]; exact has_old (has_new _ _ _ _ rfl)
  have h9 : Has W1 (W0.heap.size + 1) #[.int .i64 c, .slice (some ⟨W0.heap.size, 0, none⟩) 1 1] 24 := by rw [hW1]; exact has_new _ _ _ _ (by simp)
  have hB1 : Below W0.heap.size W0 W1 := by rw [hW1]; exact ((Below.refl _ _).alloc (Nat.le_refl _) _).alloc (by simp) _
  have hBW1 := hBW.grow hB1
  have hP : Prg W1 (.slice (some ⟨W0.heap.size, 0, none⟩) 1 1) [i] := prg_one hii1
  have hG1 : Glob W1 := hG.below (hBW.below.trans (hB1.mono hBW.below.size)) hG.size
  have hck := check_any c _ [i] W1 hP hG1 (by simp)
  rw [hE] at hck
  have hkn1 := hBW1.kn
  clear hW1 hii1 hP hG1 hii hz hBW hB1 hE hG
  have c0 := h9.cell 0
  have c1 := h9.cell 1
  have hmb := mayBe_any k
  rw [hkb] at hmb
  clear hkb
  go_upto_region 3 with (first | (go_at_call 25; refine hck.mono ?_; rintro e W2 ⟨rfl, hB2⟩; clear hck c0 c1; have hkn2 := hkn1.below hB2 hkn1.lt) | refine wpList_load_row_if rfl 43 _ rfl (w.heap.size + 1) rfl 43 k.a (0, 0) _ hkn2 Tryd.underlying43 rfl (by kernel_rfl) ?_ | (go_at_call 31; refine (hmb _).mono ?_; rintro e W3 ⟨rfl, hB3⟩; clear hmb))
  have hBW3 := (hBW1.grow hB2).grow hB3
  clear hBW1 hB2 hB3 h9 hkn1 hkn2
  have hn := hBW3.n
  have hj := (hBW3.setN noK).j
  have he := ((hBW3.setN noK).setJ noK).e.cell 0
  have hf := ((hBW3.setN noK).setJ noK).e.free 0
  have HF : Hid (BW w i k noK noK 2 (((W3.setRow (w.heap.size + 2) noK.a).setRow (w.heap.size + 3) noK.a).setCell ⟨w.heap.size + 4, 0, none⟩ (.int .i64 2))) := ((hBW3.setN noK).setJ noK).setE 2
  go_wp2_with (first | refine wpList_store_row rfl 43 _ _ rfl (w.heap.size + 2) noK.a rfl rfl 43 noK.a hn (by kernel_rfl) (by kernel_rfl) (Kn.a_one _) ?_ | refine wpList_store_row rfl 43 _ _ rfl (w.heap.size + 3) noK.a rfl rfl 43 noK.a hj (by kernel_rfl) (by kernel_rfl) (Kn.a_one _) ?_)
  generalize ((W3.setRow (w.heap.size + 2) noK.a).setRow (w.heap.size + 3) noK.a).setCell ⟨w.heap.size + 4, 0, none⟩ (.int .i64 2) = W4 at *
  exact ⟨_, results_three rfl _ _ _ _ _ _ _ rfl rfl rfl HF.out.n HF.out.j HF.out.e, rfl, HF.out.below⟩
set_option maxRecDepth 10000 in
set_option maxHeartbeats 4000000 in
theorem behind_nc (i : Ins) (c : Int) (k : Kn) (w : World) (hG : Glob w) (hE : chkE c [i] = 0) (hkb : knB k = true) (hc : k.come = false) :
    Calls Tryd.prog 17 #[.agg i.a, .int .i64 c, .agg k.a] w fun e w' => e = .returned (.tuple #[.agg (noK).a, .agg (noK).a, .int .i64 0]) ∧ Below w.heap.size w w' := by
  obtain ⟨W0, hW0⟩ : ∃ W0, W0 = ((((w.alloc (.cells i.a 38)).alloc (.cells k.a 43)).alloc (.cells noK.a 43)).alloc (.cells noK.a 43)).alloc (.cells #[.int .i64 0] 27) := ⟨_, rfl⟩
  have hBW : BW w i k noK noK 0 W0 := by
    rw [hW0]
    exact ⟨has_old (has_old (has_old (has_old (has_new _ _ _ _ rfl)))), has_old (has_old (has_old (has_new _ _ _ _ (by simp)))), has_old (has_old (has_new _ _ _ _ (by simp))), has_old (has_new _ _ _ _ (by simp)), has_new _ _ _ _ (by simp),
      (((((Below.refl _ _).alloc (Nat.le_refl _) _).alloc (by simp) _).alloc (by simp <;> omega) _).alloc (by simp <;> omega) _).alloc (by simp <;> omega) _⟩
  go_enter_defers Tryd.func17, Tryd.ntmps17
  go_upto_region 1 with fail
  refine named2 (p := fun X => Code.wp _ _ _ _ X) ?_
  intro W9 hW9
  have hW : W0 = W9 := hW0.trans hW9.symm
  subst hW
  clear hW9 hW0
  have hz := hBW.e.lt
  have hii := hBW.ins
  go_upto_region 2 with (refine wpList_load_row rfl 38 _ rfl w.heap.size rfl 38 #[.int .i64 i.op, .int .i64 i.dst, .int .i64 i.src, .int .i64 i.off, .int .u32 (i.imm : Int)] (0, 0) _ hii Tryd.underlying38 rfl (by kernel_rfl) ?_)
  refine named2 (p := fun X => Code.wp _ _ _ _ X) ?_
  intro W1 hW1
  have hii1 : Has W1 W0.heap.size i.a 38 := by rw [hW1]; exact has_old (has_new _ _ _ _ rfl)
  have h9 : Has W1 (W0.heap.size + 1) #[.int .i64 c, .slice (some ⟨W0.heap.size, 0, none⟩) 1 1] 24 := by rw [hW1]; exact has_new _ _ _ _ (by simp)
  have hB1 : Below W0.heap.size W0 W1 := by rw [hW1]; exact ((Below.refl _ _).alloc (Nat.le_refl _) _).alloc (by simp) _
  have hBW1 := hBW.grow hB1
  have hP : Prg W1 (.slice (some ⟨W0.heap.size, 0, none⟩) 1 1) [i] := prg_one hii1
  have hG1 : Glob W1 := hG.below (hBW.below.trans (hB1.mono hBW.below.size)) hG.size
  have hck := check_any c _ [i] W1 hP hG1 (by simp)
  rw [hE] at hck
  have hkn1 := hBW1.kn
  clear hW1 hii1 hP hG1 hii hz hBW hB1 hE hG
  have c0 := h9.cell 0
  have c1 := h9.cell 1
  have hmb := mayBe_any k
  rw [hkb] at hmb
  clear hkb
  go_upto_region 4 with (first | (go_at_call 25; refine hck.mono ?_; rintro e W2 ⟨rfl, hB2⟩; clear hck c0 c1; have hkn2 := hkn1.below hB2 hkn1.lt) | refine wpList_load_row_if rfl 43 _ rfl (w.heap.size + 1) rfl 43 k.a (0, 0) _ hkn2 Tryd.underlying43 rfl (by kernel_rfl) ?_ | (go_at_call 31; refine (hmb _).mono ?_; rintro e W3 ⟨rfl, hB3⟩; clear hmb))
  have hBW3 := (hBW1.grow hB2).grow hB3
  clear hBW1 hB2 hB3 h9 hkn1 hkn2
  have ck : W3.cell? ⟨w.heap.size + 1, 0, none⟩ = some (.bool k.come) := hBW3.kn.cell 0
  rw [hc] at ck
  go_upto_region 5 with fail
  clear ck
  have hn := hBW3.n
  have hj := (hBW3.setN noK).j
  have he := ((hBW3.setN noK).setJ noK).e.cell 0
  have hf := ((hBW3.setN noK).setJ noK).e.free 0
  have HF : Hid (BW w i k noK noK 0 (((W3.setRow (w.heap.size + 2) noK.a).setRow (w.heap.size + 3) noK.a).setCell ⟨w.heap.size + 4, 0, none⟩ (.int .i64 0))) := ((hBW3.setN noK).setJ noK).setE 0
  go_wp2_with (first | refine wpList_store_row rfl 43 _ _ rfl (w.heap.size + 2) noK.a rfl rfl 43 noK.a hn (by kernel_rfl) (by kernel_rfl) (Kn.a_one _) ?_ | refine wpList_store_row rfl 43 _ _ rfl (w.heap.size + 3) noK.a rfl rfl 43 noK.a hj (by kernel_rfl) (by kernel_rfl) (Kn.a_one _) ?_)
  generalize ((W3.setRow (w.heap.size + 2) noK.a).setRow (w.heap.size + 3) noK.a).setCell ⟨w.heap.size + 4, 0, none⟩ (.int .i64 0) = W4 at *
  exact ⟨_, results_three rfl _ _ _ _ _ _ _ rfl rfl rfl HF.out.n HF.out.j HF.out.e, rfl, HF.out.below⟩
end Go.Proofs.YtodkehpldlmgaaaDoor
/- Behind an instruction that is come to. -/
namespace Go.Proofs.YtodkehpldlmgaaaDoor
open Go.RowKit

set_option maxRecDepth 10000 in
set_option maxHeartbeats 4000000 in
theorem behind_ok (i : Ins) (c : Int) (k : Kn) (n2 j2 : Kn) (w : World) (hG : Glob w) (hE : chkE c [i] = 0) (hkb : knB k = true) (hc : k.come = true) (hm : MayI i) (hK : KnR k) (n : Nat) (hop : i.op = (n : Int)) (ho : outI i c k = .ok (n2, j2)) :
    Calls Tryd.prog 17 #[.agg i.a, .int .i64 c, .agg k.a] w fun e w' => e = .returned (.tuple #[.agg (n2).a, .agg (j2).a, .int .i64 0]) ∧ Below w.heap.size w w' := by
  have hmk : ∀ (v : Value) (X : World), IsMake X n v → MakeOk i c k v X := fun v X hv => make_any i c k v X n hop hm hK hv
  have HN : Hid (1 ≤ n ∧ n ≤ 24) := by
    show _ ∧ _
    have := hm.1.1
    omega
  have HOP : Hid (i.op = (n : Int)) := hop
  have HO : Hid (outI i c k = .ok (n2, j2)) := ho
  clear hm hK hop ho
  obtain ⟨W0, hW0⟩ : ∃ W0, W0 = ((((w.alloc (.cells i.a 38)).alloc (.cells k.a 43)).alloc (.cells noK.a 43)).alloc (.cells noK.a 43)).alloc (.cells #[.int .i64 0] 27) := ⟨_, rfl⟩
  have hBW : BW w i k noK noK 0 W0 := by
    rw [hW0]
    exact ⟨has_old (has_old (has_old (has_old (has_new _ _ _ _ rfl)))), has_old (has_old (has_old (has_new _ _ _ _ (by simp)))), has_old (has_old (has_new _ _ _ _ (by simp))), has_old (has_new _ _ _ _ (by simp)), has_new _ _ _ _ (by simp),
      (((((Below.refl _ _).alloc (Nat.le_refl _) _).alloc (by simp) _).alloc (by simp <;> omega) _).alloc (by simp <;> omega) _).alloc (by simp <;> omega) _⟩
  go_enter_defers Tryd.func17, Tryd.ntmps17
  go_upto_region 1 with fail
  refine named2 (p := fun X => Code.wp _ _ _ _ X) ?_
  intro W9 hW9
  have hW : W0 = W9 := hW0.trans hW9.symm
  subst hW
  clear hW9 hW0
  have hz := hBW.e.lt
  have hii := hBW.ins
  go_upto_region 2 with (refine wpList_load_row rfl 38 _ rfl w.heap.size rfl 38 #[.int .i64 i.op, .int .i64 i.dst, .int .i64 i.src, .int .i64 i.off, .int .u32 (i.imm : Int)] (0, 0) _ hii Tryd.underlying38 rfl (by kernel_rfl) ?_)
  refine named2 (p := fun X => Code.wp _ _ _ _ X) ?_
  intro W1 hW1
  have hii1 : Has W1 W0.heap.size i.a 38 := by rw [hW1]; exact has_old (has_new _ _ _ _ rfl)
  have h9 : Has W1 (W0.heap.size + 1) #[.int .i64 c, .slice (some ⟨W0.heap.size, 0, none⟩) 1 1] 24 := by rw [hW1]; exact has_new _ _ _ _ (by simp)
  have hB1 : Below W0.heap.size W0 W1 := by rw [hW1]; exact ((Below.refl _ _).alloc (Nat.le_refl _) _).alloc (by simp) _
  have hBW1 := hBW.grow hB1
  have hP : Prg W1 (.slice (some ⟨W0.heap.size, 0, none⟩) 1 1) [i] := prg_one hii1
  have hG1 : Glob W1 := hG.below (hBW.below.trans (hB1.mono hBW.below.size)) hG.size
  have hck := check_any c _ [i] W1 hP hG1 (by simp)
  rw [hE] at hck
  have hkn1 := hBW1.kn
  clear hW1 hii1 hP hG1 hii hz hBW hB1 hE hG
  have c0 := h9.cell 0
  have c1 := h9.cell 1
  have hmb := mayBe_any k
  rw [hkb] at hmb
  clear hkb
  go_upto_region 4 with (first | (go_at_call 25; refine hck.mono ?_; rintro e W2 ⟨rfl, hB2⟩; clear hck c0 c1; have hkn2 := hkn1.below hB2 hkn1.lt) | refine wpList_load_row_if rfl 43 _ rfl (w.heap.size + 1) rfl 43 k.a (0, 0) _ hkn2 Tryd.underlying43 rfl (by kernel_rfl) ?_ | (go_at_call 31; refine (hmb _).mono ?_; rintro e W3 ⟨rfl, hB3⟩; clear hmb))
  have hBW3 := (hBW1.grow hB2).grow hB3
  clear hBW1 hB2 hB3 h9 hkn1 hkn2
  have ck : W3.cell? ⟨w.heap.size + 1, 0, none⟩ = some (.bool k.come) := hBW3.kn.cell 0
  rw [hc] at ck
  have hmf : ∀ (fn : Fn) (first cap : Array Value) (w : World), (Instr.makeFunc fn first cap).run Tryd.prog w = .ok (.func fn first cap) w := fun _ _ _ _ => rfl
  go_upto_region 7 with fail
  clear ck hmf hc
  refine wp_region_inv (Φ := fun l vs X => Vals (fun q => match q with | 1 => some (.pointer (some ⟨w.heap.size, 0, none⟩)) | 2 => some (.int .i64 (n : Int)) | 4 => some (.agg i.a) | 5 => some (.int .i64 c) | 6 => some (.agg k.a) | 7 => some (.agg (stA i c k)) | 8 => some (.tuple #[.agg n2.a, .agg j2.a]) | 9 => some (.tuple #[.agg n2.a, .agg j2.a]) | 10 => some (.agg n2.a) | 11 => some (.agg j2.a) | _ => none) l vs ∧ Ph2 12 13 (OpS W3 n) (fun _ X => BW w i k n2 noK 0 X) (fun _ X => BW w i k n2 j2 0 X) l vs X) (PQ := fun _ _ => False)
    (by kernel_rfl) (by kernel_rfl) (by kernel_rfl) (by kernel_rfl) ⟨Vals.none _ _, Ph2.start (OpS.start (Below.refl _ _).drew)⟩ ?hop ?hend (fun _ _ _ _ h => h.elim)
  case hop =>
    refine ⟨?_, ?_, ?_, ?_, ?_, ?_, ?_, ?_, ?_, ?_, ?_, ?_, ?_, ?_, trivial⟩
    · intro l vs X A hA ⟨hV, hS⟩ hl hd hcl
      have hj := notYet (k := 12) hcl (by kernel_rfl) hl
      have hk := notYet (k := 13) hcl (by kernel_rfl) hl
      have hX := hS.1 hj
      have hB := hX.below
      have aF0 : A.eval (.func 33) = .func (.func 33) #[] #[] := rfl
      refine show_call (f := 33) (args := #[]) ?_ (ops_any X) ?_
      · generalize A.eval = ρ at *
        clear hA hl hd hcl hV hS
        go_simp
      · rintro e X' ⟨mb, rfl, hms⟩
        exact .inl ⟨_, rfl, hV.upd (fun _ h => by cases h), Ph2.keep hj hk (by decide) (by decide) (hX.mk0 hms)⟩
    · intro l vs X A hA ⟨hV, hS⟩ hl hd hcl
      have hj := notYet (k := 12) hcl (by kernel_rfl) hl
      have hk := notYet (k := 13) hcl (by kernel_rfl) hl
      have hX := hS.1 hj
      have hB := hX.below
      have a3 := eval_old hA 3 (by kernel_rfl) rfl
      refine show_value (v := .pointer (some ⟨w.heap.size, 0, none⟩)) (X' := X) ?_ ⟨hV.upd (fun _ h => Option.some.inj h), Ph2.keep hj hk (by decide) (by decide) (hX.grow (Below.refl _ _) (by decide) (by decide) _)⟩
      generalize A.eval = ρ at *
      clear hA hl hd hcl hV hS
      go_simp
    · intro l vs X A hA ⟨hV, hS⟩ hl hd hcl
      have hj := notYet (k := 12) hcl (by kernel_rfl) hl
      have hk := notYet (k := 13) hcl (by kernel_rfl) hl
      have hX := hS.1 hj
      have hB := hX.below
      have a32 := eval_new hA 32 1 (by kernel_rfl) (by kernel_rfl) (by kernel_rfl) (hd 1 (by kernel_rfl)) (hV 1 _ (hd 1 (by kernel_rfl)) rfl)
      have cc : X.cell? ⟨w.heap.size, 0, none⟩ = some (.int .i64 (n : Int)) := by rw [← HOP.out]; exact (hBW3.ins.below hB hBW3.ins.lt).cell 0
      refine show_value (v := .int .i64 (n : Int)) (X' := X) ?_ ⟨hV.upd (fun _ h => Option.some.inj h), Ph2.keep hj hk (by decide) (by decide) (hX.grow (Below.refl _ _) (by decide) (by decide) _)⟩
      generalize A.eval = ρ at *
      clear hA hl hd hcl hV hS hX hB
      go_simp
    · intro l vs X A hA ⟨hV, hS⟩ hl hd hcl
      have hj := notYet (k := 12) hcl (by kernel_rfl) hl
      have hk := notYet (k := 13) hcl (by kernel_rfl) hl
      have hX := hS.1 hj
      have hB := hX.below
      have a31 := eval_new hA 31 0 (by kernel_rfl) (by kernel_rfl) (by kernel_rfl) (hd 0 (by kernel_rfl)) (rfl : vs 0 = vs 0)
      have a33 := eval_new hA 33 2 (by kernel_rfl) (by kernel_rfl) (by kernel_rfl) (hd 2 (by kernel_rfl)) (hV 2 _ (hd 2 (by kernel_rfl)) rfl)
      obtain ⟨mb, e31, hms⟩ := hX.tab (hd 0 (by kernel_rfl))
      rw [e31] at a31
      obtain ⟨v, hv, hlk⟩ := hms.table.at_ n HN.out.1 HN.out.2
      refine show_value (v := v) (X' := X) ?_ ⟨hV.upd (fun _ h => by cases h), Ph2.keep hj hk (by decide) (by decide) (hX.mk3 hv)⟩
      generalize A.eval = ρ at *
      clear hA hl hd hcl hV hS hX hB hms hv e31
      go_simp
    · intro l vs X A hA ⟨hV, hS⟩ hl hd hcl
      have hj := notYet (k := 12) hcl (by kernel_rfl) hl
      have hk := notYet (k := 13) hcl (by kernel_rfl) hl
      have hX := hS.1 hj
      have hB := hX.below
      have a3 := eval_old hA 3 (by kernel_rfl) rfl
      refine show_value (v := .agg i.a) (X' := X) (run_ld 38 _ rfl _ a3 (ld_row (l := i.cells) (has_whole (hBW3.grow hB).ins) (by kernel_rfl))) ⟨hV.upd (fun _ h => Option.some.inj h), Ph2.keep hj hk (by decide) (by decide) (hX.grow (Below.refl _ _) (by decide) (by decide) _)⟩
    · intro l vs X A hA ⟨hV, hS⟩ hl hd hcl
      have hj := notYet (k := 12) hcl (by kernel_rfl) hl
      have hk := notYet (k := 13) hcl (by kernel_rfl) hl
      have hX := hS.1 hj
      have hB := hX.below
      have a1 := eval_old hA 1 (by kernel_rfl) rfl
      refine show_value (v := .int .i64 c) (X' := X) ?_ ⟨hV.upd (fun _ h => Option.some.inj h), Ph2.keep hj hk (by decide) (by decide) (hX.grow (Below.refl _ _) (by decide) (by decide) _)⟩
      generalize A.eval = ρ at *
      clear hA hl hd hcl hV hS
      go_simp
    · intro l vs X A hA ⟨hV, hS⟩ hl hd hcl
      have hj := notYet (k := 12) hcl (by kernel_rfl) hl
      have hk := notYet (k := 13) hcl (by kernel_rfl) hl
      have hX := hS.1 hj
      have hB := hX.below
      have a5 := eval_old hA 5 (by kernel_rfl) rfl
      refine show_value (v := .agg k.a) (X' := X) (run_ld 43 _ rfl _ a5 (ld_row (l := k.cells) (has_whole (hBW3.grow hB).kn) (by kernel_rfl))) ⟨hV.upd (fun _ h => Option.some.inj h), Ph2.keep hj hk (by decide) (by decide) (hX.grow (Below.refl _ _) (by decide) (by decide) _)⟩
    · intro l vs X A hA ⟨hV, hS⟩ hl hd hcl
      have hj := notYet (k := 12) hcl (by kernel_rfl) hl
      have hk := notYet (k := 13) hcl (by kernel_rfl) hl
      have hX := hS.1 hj
      have hB := hX.below
      have a35 := eval_new hA 35 4 (by kernel_rfl) (by kernel_rfl) (by kernel_rfl) (hd 4 (by kernel_rfl)) (hV 4 _ (hd 4 (by kernel_rfl)) rfl)
      have a36 := eval_new hA 36 5 (by kernel_rfl) (by kernel_rfl) (by kernel_rfl) (hd 5 (by kernel_rfl)) (hV 5 _ (hd 5 (by kernel_rfl)) rfl)
      have a37 := eval_new hA 37 6 (by kernel_rfl) (by kernel_rfl) (by kernel_rfl) (hd 6 (by kernel_rfl)) (hV 6 _ (hd 6 (by kernel_rfl)) rfl)
      have hbs := build_step i c k X
      refine show_value (v := .agg (stA i c k)) (X' := X) ?_ ⟨hV.upd (fun _ h => Option.some.inj h), Ph2.keep hj hk (by decide) (by decide) (hX.grow (Below.refl _ _) (by decide) (by decide) _)⟩
      generalize A.eval = ρ at *
      clear hA hl hd hcl hV hS hX hB
      generalize stA i c k = sa at *
      generalize i.a = ia at *
      generalize k.a = ka at *
      unfold execOp
      simp only [List.map_toArray, List.map_cons, List.map_nil, a35, a36, a37, Sem.run_bind, hbs, Result.andThen_ok, Sem.run_pure]
    · intro l vs X A hA ⟨hV, hS⟩ hl hd hcl
      have hj := notYet (k := 12) hcl (by kernel_rfl) hl
      have hk := notYet (k := 13) hcl (by kernel_rfl) hl
      have hX := hS.1 hj
      have hB := hX.below
      have a34 := eval_new hA 34 3 (by kernel_rfl) (by kernel_rfl) (by kernel_rfl) (hd 3 (by kernel_rfl)) (rfl : vs 3 = vs 3)
      have a38 := eval_new hA 38 7 (by kernel_rfl) (by kernel_rfl) (by kernel_rfl) (hd 7 (by kernel_rfl)) (hV 7 _ (hd 7 (by kernel_rfl)) rfl)
      obtain ⟨F, cap, hv, hent, hcall⟩ := hmk _ X (hX.fn (hd 3 (by kernel_rfl)))
      rw [hv] at a34
      rw [HO.out] at hcall
      refine show_call ?_ hcall ?_
      · have hr := fun o ho => run_callv (o := o) (ρ := A.eval) (X := X) (.tmp 34) (.tmp 38) 82 ho F cap (.agg (stA i c k)) a34 a38 hent
        exact hr _ rfl
      rintro e X' ⟨he, hB1⟩
      exact .inl ⟨.tuple #[.agg n2.a, .agg j2.a], he, hV.upd (fun _ h => Option.some.inj h), Ph2.keep hj hk (by decide) (by decide) (hX.grow hB1 (by decide) (by decide) _)⟩
    · intro l vs X A hA ⟨hV, hS⟩ hl hd hcl
      have hj := notYet (k := 12) hcl (by kernel_rfl) hl
      have hk := notYet (k := 13) hcl (by kernel_rfl) hl
      have hX := hS.1 hj
      have hB := hX.below
      have a39 := eval_new hA 39 8 (by kernel_rfl) (by kernel_rfl) (by kernel_rfl) (hd 8 (by kernel_rfl)) (hV 8 _ (hd 8 (by kernel_rfl)) rfl)
      refine show_value (v := .tuple #[.agg n2.a, .agg j2.a]) (X' := X) ?_ ⟨hV.upd (fun _ h => Option.some.inj h), Ph2.keep hj hk (by decide) (by decide) (hX.grow (Below.refl _ _) (by decide) (by decide) _)⟩
      generalize A.eval = ρ at *
      clear hA hl hd hcl hV hS
      go_simp
    · intro l vs X A hA ⟨hV, hS⟩ hl hd hcl
      have hj := notYet (k := 12) hcl (by kernel_rfl) hl
      have hk := notYet (k := 13) hcl (by kernel_rfl) hl
      have hX := hS.1 hj
      have hB := hX.below
      have a30 := eval_new hA 30 9 (by kernel_rfl) (by kernel_rfl) (by kernel_rfl) (hd 9 (by kernel_rfl)) (hV 9 _ (hd 9 (by kernel_rfl)) rfl)
      refine show_value (v := .agg n2.a) (X' := X) ?_ ⟨hV.upd (fun _ h => Option.some.inj h), Ph2.keep hj hk (by decide) (by decide) (hX.grow (Below.refl _ _) (by decide) (by decide) _)⟩
      generalize A.eval = ρ at *
      clear hA hl hd hcl hV hS
      go_simp
    · intro l vs X A hA ⟨hV, hS⟩ hl hd hcl
      have hk := notYet (k := 13) hcl (by kernel_rfl) hl
      have a30 := eval_new hA 30 9 (by kernel_rfl) (by kernel_rfl) (by kernel_rfl) (hd 9 (by kernel_rfl)) (hV 9 _ (hd 9 (by kernel_rfl)) rfl)
      cases hj : l 12 with
      | true =>
        have hX := hS.2.1 hj hk
        exact show_value (v := .agg j2.a) (X' := X) (by generalize A.eval = ρ at *; clear hA hl hd hcl hV hS hX; go_simp) ⟨hV.upd (fun _ h => Option.some.inj h), Ph2.keepMid hj hk (by decide) (by decide) hX⟩
      | false =>
        have hX := hS.1 hj
        exact show_value (v := .agg j2.a) (X' := X) (by generalize A.eval = ρ at *; clear hA hl hd hcl hV hS hX; go_simp) ⟨hV.upd (fun _ h => Option.some.inj h), Ph2.keep hj hk (by decide) (by decide) (hX.grow (Below.refl _ _) (by decide) (by decide) _)⟩
    · intro l vs X A hA ⟨hV, hS⟩ hl hd hcl
      have hk := notYet (k := 13) hcl (by kernel_rfl) hl
      have hX := hS.1 hl
      have a6 := eval_old hA 6 (by kernel_rfl) rfl
      have a40 := eval_new hA 40 10 (by kernel_rfl) (by kernel_rfl) (by kernel_rfl) (hd 10 (by kernel_rfl)) (hV 10 _ (hd 10 (by kernel_rfl)) rfl)
      have hB := hX.below
      have hg := hBW3.grow hB
      refine show_skip (X' := X.setRow (w.heap.size + 2) n2.a) (run_st_row 43 _ _ rfl (w.heap.size + 2) _ _ _ a6 a40 hg.n (by kernel_rfl) (by kernel_rfl) (Kn.a_one _)) ⟨hV.upd (fun _ h => by cases h), Ph2.mid hk (by decide) (hg.setN _)⟩
    · intro l vs X A hA ⟨hV, hS⟩ hl hd hcl
      have hX := hS.2.1 (hd 12 (by kernel_rfl)) hl
      have a7 := eval_old hA 7 (by kernel_rfl) rfl
      have a41 := eval_new hA 41 11 (by kernel_rfl) (by kernel_rfl) (by kernel_rfl) (hd 11 (by kernel_rfl)) (hV 11 _ (hd 11 (by kernel_rfl)) rfl)
      refine show_skip (X' := X.setRow (w.heap.size + 3) j2.a) (run_st_row 43 _ _ rfl (w.heap.size + 3) _ _ _ a7 a41 hX.j (by kernel_rfl) (by kernel_rfl) (Kn.a_one _)) ⟨hV.upd (fun _ h => by cases h), Ph2.last (hd 12 (by kernel_rfl)) (hX.setJ _)⟩
  case hend =>
    intro l vs X hl ⟨hV, hS⟩
    have hX := hS.2.2 (hl 13 (by decide))
    have v1 := hV 1 _ (hl 1 (by decide)) rfl
    have v2 := hV 2 _ (hl 2 (by decide)) rfl
    have v4 := hV 4 _ (hl 4 (by decide)) rfl
    have v5 := hV 5 _ (hl 5 (by decide)) rfl
    have v6 := hV 6 _ (hl 6 (by decide)) rfl
    have v7 := hV 7 _ (hl 7 (by decide)) rfl
    have v8 := hV 8 _ (hl 8 (by decide)) rfl
    have v9 := hV 9 _ (hl 9 (by decide)) rfl
    have v10 := hV 10 _ (hl 10 (by decide)) rfl
    have v11 := hV 11 _ (hl 11 (by decide)) rfl
    clear hV hS hl
    simp only [canonL, if_true, v1, v2, v4, v5, v6, v7, v8, v9, v10, v11]
    clear v1 v2 v4 v5 v6 v7 v8 v9 v10 v11
    go_simp
    generalize vs 0 = u0
    generalize vs 3 = u3
    have hBW4 := hX
    obtain ⟨W4, hren⟩ : ∃ Z, Z = X := ⟨_, rfl⟩
    subst hren
    clear hX hBW3 hmk
    go_upto_region 8 with fail
    refine wp_region_inv (Φ := fun l vs X => Vals (fun q => match q with | 0 => some (.agg n2.a) | 1 => some (.agg j2.a) | _ => none) l vs ∧ BW w i k n2 j2 0 X) (PQ := fun _ _ => False)
      (by kernel_rfl) (by kernel_rfl) (by kernel_rfl) (by kernel_rfl) ⟨Vals.none _ _, hBW4.grow (Below.refl _ _).drew⟩ ?hop ?hend (fun _ _ _ _ h => h.elim)
    case hop =>
      refine ⟨?_, ?_, ?_, ?_, ?_, trivial⟩
      · intro l vs X A hA ⟨hV, hS⟩ hl hd hcl
        have hX := hS
        have hB := hX
        have a6 := eval_old hA 6 (by kernel_rfl) rfl
        refine show_value (v := .agg n2.a) (X' := X) (run_ld 43 _ rfl _ a6 (ld_row (l := n2.cells) (has_whole hX.n) (by kernel_rfl))) ⟨hV.upd (fun _ h => Option.some.inj h), (hX)⟩
      · intro l vs X A hA ⟨hV, hS⟩ hl hd hcl
        have hX := hS
        have hB := hX
        have a7 := eval_old hA 7 (by kernel_rfl) rfl
        refine show_value (v := .agg j2.a) (X' := X) (run_ld 43 _ rfl _ a7 (ld_row (l := j2.cells) (has_whole hX.j) (by kernel_rfl))) ⟨hV.upd (fun _ h => Option.some.inj h), (hX)⟩
      · intro l vs X A hA ⟨hV, hS⟩ hl hd hcl
        have hX := hS
        have hB := hX
        have a6 := eval_old hA 6 (by kernel_rfl) rfl
        have a42 := eval_new hA 42 0 (by kernel_rfl) (by kernel_rfl) (by kernel_rfl) (hd 0 (by kernel_rfl)) (hV 0 _ (hd 0 (by kernel_rfl)) rfl)
        exact show_skip (X' := X.setRow (w.heap.size + 2) n2.a) (run_st_row 43 _ _ rfl (w.heap.size + 2) _ _ _ a6 a42 hX.n (by kernel_rfl) (by kernel_rfl) (Kn.a_one _)) ⟨hV.upd (fun _ h => by cases h), hX.setN n2⟩
      · intro l vs X A hA ⟨hV, hS⟩ hl hd hcl
        have hX := hS
        have hB := hX
        have a7 := eval_old hA 7 (by kernel_rfl) rfl
        have a43 := eval_new hA 43 1 (by kernel_rfl) (by kernel_rfl) (by kernel_rfl) (hd 1 (by kernel_rfl)) (hV 1 _ (hd 1 (by kernel_rfl)) rfl)
        exact show_skip (X' := X.setRow (w.heap.size + 3) j2.a) (run_st_row 43 _ _ rfl (w.heap.size + 3) _ _ _ a7 a43 hX.j (by kernel_rfl) (by kernel_rfl) (Kn.a_one _)) ⟨hV.upd (fun _ h => by cases h), hX.setJ j2⟩
      · intro l vs X A hA ⟨hV, hS⟩ hl hd hcl
        have hX := hS
        have hB := hX
        have a8 := eval_old hA 8 (by kernel_rfl) rfl
        have aC0 : A.eval (.const (.int .i64 0)) = (.int .i64 0) := rfl
        have c8 : X.cell? ⟨w.heap.size + 4, 0, none⟩ = some (.int .i64 0) := hX.e.cell 0
        have f8 : X.frozen? ⟨w.heap.size + 4, 0, none⟩ = false := hX.e.free 0
        refine show_skip (X' := X.setCell ⟨w.heap.size + 4, 0, none⟩ (.int .i64 0)) ?_ ⟨hV.upd (fun _ h => by cases h), hX.setE 0⟩
        generalize A.eval = ρ at *
        clear hA hl hd hcl hV hS hX hB
        go_simp
    case hend =>
      intro l vs X hl ⟨hV, hS⟩
      have hX := hS
      have v0 := hV 0 _ (hl 0 (by decide)) rfl
      have v1 := hV 1 _ (hl 1 (by decide)) rfl
      clear hV hS hl
      simp only [canonL, if_true, v0, v1]
      clear v0 v1
      go_simp
      have hBX := hX
      clear hBW4 hX
      go_wp2_with fail
      refine leaves_cons (f := 32) (args := #[.pointer (some ⟨w.heap.size + 4, 0, none⟩)]) (by simp) (by simp [go_sem]) ?_
      refine (catch_idle ⟨w.heap.size + 4, 0, none⟩ 0 _ (hBX.e.cell 0) (hBX.e.free 0)).mono ?_
      rintro e u' w'' ⟨rfl, rfl, rfl⟩
      have hF := hBX.setE 0
      exact ⟨_, results_three rfl _ _ _ _ _ _ _ rfl rfl rfl hF.n hF.j hF.e, rfl, hF.below⟩
end Go.Proofs.YtodkehpldlmgaaaDoor
