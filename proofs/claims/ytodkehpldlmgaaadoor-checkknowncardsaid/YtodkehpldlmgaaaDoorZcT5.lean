/- The document's Known: its rows, and the regions of a turn. -/
import Derived.Test.YtodkehpldlmgaaaDoorZcT4
import Derived.Test.YtodkehpldlmgaaaDoorZcK6
namespace Go.Proofs.YtodkehpldlmgaaaDoor
open Go.RowKit

theorem set_come {k : Kn} {d : Nat} {r : Rg} : (k.set d r).come = k.come := rfl
theorem fold_next {k n j : Kn} {d : Nat} {o : Except Wrong Rg} {F : Rg → Rg → Except Wrong Rg} (e : foldE k d o F = .ok (n, j)) : n.come = k.come := by
  unfold foldE at e
  obtain ⟨r, _, e⟩ := bind_inv e
  obtain ⟨q, _, e⟩ := bind_inv e
  obtain ⟨m, _, e⟩ := bind_inv e
  cases e
  rfl
theorem call_come (k : Kn) : ∀ q, (callK k q).come = k.come
  | 0 => rfl
  | q + 1 => call_come k q
theorem out_come {i : Ins} {c : Int} {k n j : Kn} (e : outI i c k = .ok (n, j)) (hk : k.come = true) (h : 1 ≤ i.op.toNat ∧ i.op.toNat ≤ 18 ∨ i.op.toNat = 23) : n.come = true := by
  have key : i.op.toNat = 1 ∨ i.op.toNat = 2 ∨ i.op.toNat = 16 ∨ i.op.toNat = 17 ∨ i.op.toNat = 18 ∨ i.op.toNat = 23 ∨ i.op.toNat = 3 ∨ i.op.toNat = 4 ∨ i.op.toNat = 5 ∨ i.op.toNat = 6 ∨ i.op.toNat = 7 ∨ i.op.toNat = 8 ∨ i.op.toNat = 9 ∨ i.op.toNat = 10 ∨ i.op.toNat = 11 ∨ i.op.toNat = 12 ∨ i.op.toNat = 13 ∨ i.op.toNat = 14 ∨ i.op.toNat = 15 := by omega
  clear h
  unfold outI at e
  rcases key with h | h | h | h | h | h | h | h | h | h | h | h | h | h | h | h | h | h | h <;> rw [h] at e <;> simp only at e
  · cases e; exact hk
  · obtain ⟨r, _, e⟩ := bind_inv e
    cases e; exact hk
  · obtain ⟨r, _, e⟩ := bind_inv e
    split at e
    · cases e; exact hk
    · cases e
  · obtain ⟨r, _, e⟩ := bind_inv e
    split at e
    · cases e; exact hk
    · cases e
  · obtain ⟨r, _, e⟩ := bind_inv e
    obtain ⟨q, _, e⟩ := bind_inv e
    split at e
    · cases e; exact hk
    · cases e
  · cases e; exact (call_come k 5).trans hk
  all_goals exact (fold_next e).trans hk
/-- Rows of what is known, of one's own. -/
structure OW (X : World) (g n : Nat) (ws : Nat → Kn) : Prop where
  has : ∃ cs, Has X g cs 43 ∧ cs.size = n * 31
  at_ : ∀ j, j < n → X.rangeAt g (j * 31) (ws j).cells
theorem OW.lt {X : World} {g n : Nat} {ws : Nat → Kn} (h : OW X g n ws) : g < X.heap.size := by
  obtain ⟨cs, h1, _⟩ := h.has; exact h1.lt
theorem OW.below {X X' : World} {g n : Nat} {ws : Nat → Kn} (h : OW X g n ws) (k : Below X.heap.size X X') : OW X' g n ws := by
  obtain ⟨⟨cs, h1, h2⟩, h3⟩ := h
  exact ⟨⟨cs, h1.below k h1.lt, h2⟩, fun j hj => range_eq (h3 j hj) (k.block g h1.lt)⟩
theorem OW.ex {X X' : World} {g n c : Nat} {ws : Nat → Kn} (h : OW X g n ws) (k : Ex c X X') (hc : g ≠ c) : OW X' g n ws := by
  obtain ⟨⟨cs, h1, h2⟩, h3⟩ := h
  exact ⟨⟨cs, h1.ex k hc, h2⟩, fun j hj => range_eq (h3 j hj) (k.block g h1.lt hc)⟩
theorem OW.set {X : World} {g n : Nat} {ws : Nat → Kn} (h : OW X g n ws) (to : Nat) (hto : to < n) (k : Kn) : OW (X.setCells g (to * 31) k.cells) g n (upd ws to k) ∧ Ex g X (X.setCells g (to * 31) k.cells) := by
  obtain ⟨⟨cs, h1, h2⟩, h3⟩ := h
  obtain ⟨cs', g1, g2, g3⟩ := has_setCells k.cells (to * 31) X cs h1
  refine ⟨⟨⟨cs', g1, by omega⟩, fun j hj => ?_⟩, g3⟩
  by_cases e : j = to
  · subst e
    rw [upd_same]
    exact World.rangeAt_setCells_same X g (j * 31) k.cells (there_of h1 (by rw [h2, k.cells_len]; omega))
  · rw [upd_other _ _ e]
    exact World.rangeAt_setCells_apart (h3 j hj) g (to * 31) k.cells (by rw [k.cells_len, (ws j).cells_len]; omega)
theorem made_at (n j q : Nat) (hj : j < n) (hq : q < noK.cells.length) : (madeCells noK.a (n * 31))[j * 31 + q]? = noK.cells[q]? := by
  have hq' : q < 31 := hq
  have hl : j * 31 + q < n * 31 := by omega
  have hm : (j * 31 + q) % 31 = q := by omega
  unfold madeCells
  rw [Array.getElem?_map, Array.getElem?_range, if_pos hl]
  show some (noK.a[(j * 31 + q) % 31]!) = _
  rw [hm]
  obtain ⟨v, hv⟩ : ∃ v, noK.cells[q]? = some v := ⟨noK.cells[q], List.getElem?_eq_getElem hq⟩
  have h2 : noK.a[q]? = some v := by unfold Kn.a; rw [List.getElem?_toArray]; exact hv
  rw [hv, Array.getElem!_eq_getD, Array.getD_eq_getD_getElem?, h2]
  rfl
theorem OW.made {X : World} {g n : Nat} (h : Has X g (madeCells noK.a (n * 31)) 43) : OW X g n (fun _ => noK) :=
  ⟨⟨_, h, size_madeCells _ _⟩, fun j hj => has_range h _ _ fun q hq => made_at n j q hj hq⟩
theorem OW.first {X : World} {g n : Nat} (h : OW X g n (fun _ => noK)) (hn : 1 ≤ n) : OW (X.setCell ⟨g, 0, none⟩ (.bool true)) g n startW ∧ Ex g X (X.setCell ⟨g, 0, none⟩ (.bool true)) := by
  obtain ⟨⟨cs, h1, h2⟩, h3⟩ := h
  refine ⟨⟨⟨_, h1.set 0 (.bool true), by simp [h2]⟩, fun j hj => ?_⟩, Ex.set _ _ _ _⟩
  intro q v hv
  rw [(h1.set 0 (.bool true)).cell]
  by_cases e : j * 31 + q = 0
  · obtain rfl : j = 0 := by omega
    obtain rfl : q = 0 := by omega
    have hv' : some (Value.bool true) = some v := hv
    rw [← hv', Array.getElem?_setIfInBounds, if_pos (by omega), if_pos (by omega)]
  · rw [Array.getElem?_setIfInBounds, if_neg (by omega)]
    have hw : noK.cells[q]? = some v := by
      rw [← hv]
      by_cases e0 : j = 0
      · subst e0
        obtain ⟨r, rfl⟩ : ∃ r, q = r + 1 := ⟨q - 1, by omega⟩
        rfl
      · show _ = (upd (fun _ => noK) 0 comeK j).cells[q]?
        rw [upd_other _ _ e0]
    have := h3 j hj q v hw
    rw [h1.cell] at this
    exact this
/-- The world of the document's Known. -/
structure KB (w : World) (c : Int) (sv : Value) (g n : Nat) (ws : Nat → Kn) (X : World) : Prop where
  box : Has X w.heap.size #[.int .i64 c, sv] 24
  out : OW X g n ws
  lg : w.heap.size < g
  below : Below w.heap.size w X
section
variable {w X X' : World} {c : Int} {sv : Value} {g n : Nat} {ws : Nat → Kn}
theorem KB.grow (h : KB w c sv g n ws X) (k : Below X.heap.size X X') : KB w c sv g n ws X' :=
  ⟨h.box.below k h.box.lt, h.out.below k, h.lg, h.below.trans (k.mono h.below.size)⟩
theorem KB.set (h : KB w c sv g n ws X) (to : Nat) (hto : to < n) (k : Kn) : KB w c sv g n (upd ws to k) (X.setCells g (to * 31) k.cells) ∧ Ex g X (X.setCells g (to * 31) k.cells) :=
  have s := h.out.set to hto k
  have l := h.lg
  ⟨⟨h.box.ex s.2 (by omega), s.1, h.lg, Below.ex h.below h.below.size s.2 (by omega)⟩, s.2⟩
theorem run_st_out {o : Oper} {ρ : Operand → Value} (x y : Operand) (ho : o.op = .store 43 x y) (to : Nat) (k : Kn) (hx : ρ x = .pointer (some ⟨g, to * 31, none⟩)) (hy : ρ y = .agg k.a) (h : OW X g n ws) (hto : to < n) :
    (execOp ρ o).run Tryd.prog X = .ok .skip (X.setCells g (to * 31) k.cells) := by
  obtain ⟨⟨cs, h1, h2⟩, h3⟩ := h
  unfold execOp
  simp only [ho, hx, hy, Instr.storeAt, Instr.sureAddr, Sem.run_bind, Sem.run_pure, Result.andThen_ok, run_storeVar_mid (P := Tryd.prog) X g (to * 31) 43 k.a (there_of h1 (by rw [h2, Kn.a_size]; omega)) (by rw [Kn.a_size]; kernel_rfl) (Kn.a_one k)]
  rfl
theorem ld22 {a : Addr} {v : Value} (h : X.cell? a = some v) : (loadVar 22 a).run Tryd.prog X = .ok v X := by simp [go_sem, h]
theorem OW.kns (h : OW X g n ws) : KnS X (.slice (some ⟨g, 0, none⟩) n n) n ws := ⟨g, n, rfl, Nat.le_refl _, h.lt, h.at_⟩
theorem run_mk (x : Operand) {o : Oper} {ρ : Operand → Value} (ho : o.op = .makeSlice 26 x x) (n : Nat) (hn : n ≤ 256) (hx : ρ x = .int .i64 (n : Int)) :
    (execOp ρ o).run Tryd.prog X = .ok (.value (.slice (some ⟨X.heap.size, 0, none⟩) n n)) (X.alloc (.cells (madeCells noK.a (n * 31)) 43)) := by
  obtain ⟨i, hi, hz, hs, hb⟩ := info_parts' info43
  have hr := run_makeSlice (P := Tryd.prog) X 26 43 i (.agg noK.a) Tryd.underlying26 hi hz .i64 .i64 (n : Int) (n : Int) (by omega) (by omega) (by rw [hs]; omega) (by rw [hb]; omega) (by omega)
  rw [hs] at hr
  simp only [Int.toNat_natCast] at hr
  unfold execOp
  simp only [ho, hx, hr, Sem.run_bind, Result.andThen_ok, Sem.run_pure]
  rfl
theorem ins_range {b o k : Nat} {l : List Ins} {i : Ins} (h : InsAt X b o l) (hi : l[k]? = some i) : X.rangeAt b (o + k * 5) i.cells := fun j v hv => by
  have hj : j < 5 := (List.getElem?_eq_some_iff.1 hv).1
  obtain rfl | rfl | rfl | rfl | rfl : j = 0 ∨ j = 1 ∨ j = 2 ∨ j = 3 ∨ j = 4 := by omega
  · exact (h.op k i hi).trans hv
  · exact (h.dst k i hi).trans hv
  · exact (h.src k i hi).trans hv
  · exact (h.off k i hi).trans hv
  · exact (h.imm k i hi).trans hv
end
def bhK (w : World) (i : Ins) (c : Int) (ws : Nat → Kn) (n2 j2 : Kn) (E : Int) (g n k b6 : Nat) (a0 : Act) : Act := (((((((((a0.put (some 45) (.agg i.a)).put (some 46) (.pointer (some ⟨w.heap.size, 0, none⟩))).put (some 47) (.int .i64 c)).put (some 48) (.slice (some ⟨g, 0, none⟩) n n)).put (some 49) (.int .i64 (k : Int))).put (some 50) (.pointer (some ⟨g, k * 31, none⟩))).put (some 51) (.agg (ws k).a)).put (some 52) (.agg (wayA n2 j2 E))).put (some 8) (.pointer (some ⟨b6, 0, none⟩)))
set_option maxRecDepth 10000 in
set_option maxHeartbeats 4000000 in
theorem beh_reg {id : Nat} {ops : Array Oper} (h : opsAt Tryd.f14 13 = ops) {a0 : Act} {w W1 : World} {Q : Exit → Act → World → Prop} {i : Ins} {c : Int} {sv : Value} {ws : Nat → Kn} {n2 j2 : Kn} {E : Int} {g n k bi : Nat} (hK : KB w c sv g n ws W1) (hi : Has W1 bi i.a 38) (Hk : k < n)
    (hcall : ∀ X, Calls Tryd.prog 20 #[.agg i.a, .int .i64 c, .agg (ws k).a] X fun e X' => e = .returned (.agg (wayA n2 j2 E)) ∧ Below X.heap.size X X')
    (K : ∀ b6 X, Has X b6 (wayA n2 j2 E) 49 → Below W1.heap.size W1 X → W1.heap.size ≤ b6 → Q .normal (bhK w i c ws n2 j2 E g n k b6 a0) X)
    (hsz : decide (120 ≤ a0.tmps.size) = true := by kernel_rfl) (e1 : a0.eval (.tmp 1) = .pointer (some ⟨w.heap.size, 0, none⟩) := by kernel_rfl) (e5 : a0.eval (.tmp 5) = .slice (some ⟨g, 0, none⟩) n n := by kernel_rfl) (e6 : a0.eval (.tmp 6) = .int .i64 (k : Int) := by kernel_rfl) (e7 : a0.eval (.tmp 7) = .pointer (some ⟨bi, 0, none⟩) := by kernel_rfl) :
    (Code.region id ops true).wp Tryd.prog Q a0 W1 := by
  simp only [opsAt, findR, Tryd.f14, Option.bind, Option.orElse, Option.getD, reduceIte, Nat.reduceEqDiff] at h
  subst h
  have hz : ∀ t, t < 120 → decide (t < a0.tmps.size) = true := fun t h => decide_eq_true (Nat.lt_of_lt_of_le h (of_decide_eq_true hsz))
  have hk' : (k : Int) < n := by omega
  refine wp_region_inv (Φ := fun l vs X => Vals (fun q => match q with | 0 => some (.agg i.a) | 1 => some (.pointer (some ⟨w.heap.size, 0, none⟩)) | 2 => some (.int .i64 c) | 3 => some (.slice (some ⟨g, 0, none⟩) n n) | 4 => some (.int .i64 (k : Int)) | 5 => some (.pointer (some ⟨g, k * 31, none⟩)) | 6 => some (.agg (ws k).a) | 7 => some (.agg (wayA n2 j2 E)) | _ => none) l vs ∧ Ph1 9 (Two W1.heap.size 49 (wayA noK noK 0) W1 8 99) (fun vs X => Held W1.heap.size 49 (wayA n2 j2 E) W1 (vs 8) X) l vs X) (PQ := fun _ _ => False)
    (by kernel_rfl) (by kernel_rfl) (by kernel_rfl) (by kernel_rfl) ⟨Vals.none _ _, Ph1.start (Two.start ((Below.refl _ _).drew) (Nat.le_refl _))⟩ ?hop ?hend (fun _ _ _ _ h => h.elim)
  case hop =>
    refine ⟨?_, ?_, ?_, ?_, ?_, ?_, ?_, ?_, ?_, ?_, trivial⟩
    · intro l vs X A hA ⟨hV, hS⟩ hl hd hcl
      have hk := nY 9 hcl hl
      have hX := hS.1 hk
      have hB := hX.below
      have a7 := eO hA 7 e7
      refine show_value (v := .agg i.a) (X' := X) (run_ld 38 _ rfl _ a7 (ld38 (hi.below hB hi.lt))) ⟨hV.upd (fun _ h => Option.some.inj h), Ph1.keep hk (by decide) (hX.grow (Below.refl _ _) (by decide) (by decide) _)⟩
    · intro l vs X A hA ⟨hV, hS⟩ hl hd hcl
      have hk := nY 9 hcl hl
      have hX := hS.1 hk
      have hB := hX.below
      have a1 := eO hA 1 e1
      refine show_value (v := .pointer (some ⟨w.heap.size, 0, none⟩)) (X' := X) ?_ ⟨hV.upd (fun _ h => Option.some.inj h), Ph1.keep hk (by decide) (hX.grow (Below.refl _ _) (by decide) (by decide) _)⟩
      generalize A.eval = ρ at *
      clear hA hl hd hcl hV hS
      go_simp
    · intro l vs X A hA ⟨hV, hS⟩ hl hd hcl
      have hk := nY 9 hcl hl
      have hX := hS.1 hk
      have hB := hX.below
      have a46 := eval_new hA 46 1 (by kernel_rfl) (by kernel_rfl) (hz _ (by decide)) (hd 1 (by kernel_rfl)) (hV 1 _ (hd 1 (by kernel_rfl)) rfl)
      refine show_value (v := .int .i64 c) (X' := X) (run_ld 3 _ rfl _ a46 (ld3 (show X.cell? ⟨w.heap.size, 0, none⟩ = some (.int .i64 c) from (hK.grow hB).box.cell 0))) ⟨hV.upd (fun _ h => Option.some.inj h), Ph1.keep hk (by decide) (hX.grow (Below.refl _ _) (by decide) (by decide) _)⟩
    · intro l vs X A hA ⟨hV, hS⟩ hl hd hcl
      have hk := nY 9 hcl hl
      have hX := hS.1 hk
      have hB := hX.below
      have a5 := eO hA 5 e5
      refine show_value (v := .slice (some ⟨g, 0, none⟩) n n) (X' := X) ?_ ⟨hV.upd (fun _ h => Option.some.inj h), Ph1.keep hk (by decide) (hX.grow (Below.refl _ _) (by decide) (by decide) _)⟩
      generalize A.eval = ρ at *
      clear hA hl hd hcl hV hS
      go_simp
    · intro l vs X A hA ⟨hV, hS⟩ hl hd hcl
      have hk := nY 9 hcl hl
      have hX := hS.1 hk
      have hB := hX.below
      have a6 := eO hA 6 e6
      refine show_value (v := .int .i64 (k : Int)) (X' := X) ?_ ⟨hV.upd (fun _ h => Option.some.inj h), Ph1.keep hk (by decide) (hX.grow (Below.refl _ _) (by decide) (by decide) _)⟩
      generalize A.eval = ρ at *
      clear hA hl hd hcl hV hS
      go_simp
    · intro l vs X A hA ⟨hV, hS⟩ hl hd hcl
      have hk := nY 9 hcl hl
      have hX := hS.1 hk
      have hB := hX.below
      have a48 := eval_new hA 48 3 (by kernel_rfl) (by kernel_rfl) (hz _ (by decide)) (hd 3 (by kernel_rfl)) (hV 3 _ (hd 3 (by kernel_rfl)) rfl)
      have a49 := eval_new hA 49 4 (by kernel_rfl) (by kernel_rfl) (hz _ (by decide)) (hd 4 (by kernel_rfl)) (hV 4 _ (hd 4 (by kernel_rfl)) rfl)
      refine show_value (v := .pointer (some ⟨g, k * 31, none⟩)) (X' := X) ?_ ⟨hV.upd (fun _ h => Option.some.inj h), Ph1.keep hk (by decide) (hX.grow (Below.refl _ _) (by decide) (by decide) _)⟩
      generalize A.eval = ρ at *
      clear hA hl hd hcl hV hS
      go_simp
    · intro l vs X A hA ⟨hV, hS⟩ hl hd hcl
      have hk := nY 9 hcl hl
      have hX := hS.1 hk
      have hB := hX.below
      have a50 := eval_new hA 50 5 (by kernel_rfl) (by kernel_rfl) (hz _ (by decide)) (hd 5 (by kernel_rfl)) (hV 5 _ (hd 5 (by kernel_rfl)) rfl)
      refine show_value (v := .agg (ws k).a) (X' := X) (run_ld 43 _ rfl _ a50 (ld_row (l := (ws k).cells) ((hK.grow hB).out.at_ k Hk) (by kernel_rfl))) ⟨hV.upd (fun _ h => Option.some.inj h), Ph1.keep hk (by decide) (hX.grow (Below.refl _ _) (by decide) (by decide) _)⟩
    · intro l vs X A hA ⟨hV, hS⟩ hl hd hcl
      have hk := nY 9 hcl hl
      have hX := hS.1 hk
      have hB := hX.below
      have a45 := eval_new hA 45 0 (by kernel_rfl) (by kernel_rfl) (hz _ (by decide)) (hd 0 (by kernel_rfl)) (hV 0 _ (hd 0 (by kernel_rfl)) rfl)
      have a47 := eval_new hA 47 2 (by kernel_rfl) (by kernel_rfl) (hz _ (by decide)) (hd 2 (by kernel_rfl)) (hV 2 _ (hd 2 (by kernel_rfl)) rfl)
      have a51 := eval_new hA 51 6 (by kernel_rfl) (by kernel_rfl) (hz _ (by decide)) (hd 6 (by kernel_rfl)) (hV 6 _ (hd 6 (by kernel_rfl)) rfl)
      have aF0 : A.eval (.func 20) = .func (.func 20) #[] #[] := rfl
      refine show_call (f := 20) (args := #[.agg i.a, .int .i64 c, .agg (ws k).a]) ?_ (hcall X) ?_
      · generalize A.eval = ρ at *
        clear hA hl hd hcl hV hS
        go_simp
      · rintro e X' ⟨rfl, hB1⟩
        exact .inl ⟨_, rfl, hV.upd (fun _ h => Option.some.inj h), Ph1.keep hk (by decide) (hX.grow hB1 (by decide) (by decide) _)⟩
    · intro l vs X A hA ⟨hV, hS⟩ hl hd hcl
      have hk := nY 9 hcl hl
      have hX := hS.1 hk
      have hB := hX.below
      refine show_value (v := .pointer (some ⟨X.heap.size, 0, none⟩)) (X' := X.alloc (.cells (wayA noK noK 0) 49)) ?_ ⟨hV.upd (fun _ h => by cases h), Ph1.keep hk (by decide) (hX.mkFst (by decide))⟩
      generalize A.eval = ρ at *
      clear hA hl hd hcl hV hS
      rfl
    · intro l vs X A hA ⟨hV, hS⟩ hl hd hcl
      have hX := hS.1 hl
      have hB := hX.below
      have a8 := eval_new hA 8 8 (by kernel_rfl) (by kernel_rfl) (hz _ (by decide)) (hd 8 (by kernel_rfl)) (rfl : vs 8 = vs 8)
      have a52 := eval_new hA 52 7 (by kernel_rfl) (by kernel_rfl) (hz _ (by decide)) (hd 7 (by kernel_rfl)) (hV 7 _ (hd 7 (by kernel_rfl)) rfl)
      obtain ⟨b, hb, hH, hT⟩ := hX.held (hd 8 (by kernel_rfl)) ((wayA n2 j2 E))
      rw [hb] at a8
      exact show_skip (run_st_row 49 _ _ rfl b _ _ _ a8 a52 hH (by kernel_rfl) (by kernel_rfl) (wayA_one _ _ _)) ⟨hV.upd (fun _ h => by cases h), Ph1.last hT⟩
  case hend =>
    intro l vs X hl ⟨hV, hS⟩
    have hX := hS.2 (hl 9 (by decide))
    have v0 := hV 0 _ (hl 0 (by decide)) rfl
    have v1 := hV 1 _ (hl 1 (by decide)) rfl
    have v2 := hV 2 _ (hl 2 (by decide)) rfl
    have v3 := hV 3 _ (hl 3 (by decide)) rfl
    have v4 := hV 4 _ (hl 4 (by decide)) rfl
    have v5 := hV 5 _ (hl 5 (by decide)) rfl
    have v6 := hV 6 _ (hl 6 (by decide)) rfl
    have v7 := hV 7 _ (hl 7 (by decide)) rfl
    clear hV hS hl
    obtain ⟨b6, u6, g6, hb6, hB9⟩ := hX
    simp only [canonL, if_true, v0, v1, v2, v3, v4, v5, v6, v7, u6]
    clear v0 v1 v2 v3 v4 v5 v6 v7 u6
    unfold bhK at K
    rw [put_none]
    exact K b6 X hb6 hB9 g6
def nxtK (ws : Nat → Kn) (n2 : Kn) (g n k to bw : Nat) (a0 : Act) : Act := ((((((((((((a0.put (some 94) (.slice (some ⟨g, 0, none⟩) n n)).put (some 95) (.int .i64 (k : Int))).put (some 96) (.int .i64 (to : Int))).put (some 97) (.slice (some ⟨g, 0, none⟩) n n)).put (some 98) (.int .i64 (k : Int))).put (some 99) (.int .i64 (to : Int))).put (some 100) (.pointer (some ⟨g, to * 31, none⟩))).put (some 101) (.agg (ws to).a)).put (some 102) (.pointer (some ⟨bw, 0, none⟩))).put (some 103) (.agg n2.a)).put (some 104) (.agg (joinK (ws to) n2).a)).put (some 105) (.pointer (some ⟨g, to * 31, none⟩)))
set_option maxRecDepth 10000 in
set_option maxHeartbeats 4000000 in
theorem nxt_reg {id : Nat} {ops : Array Oper} (h : opsAt Tryd.f14 21 = ops) {a0 : Act} {w W1 : World} {Q : Exit → Act → World → Prop} {c : Int} {sv : Value} {ws : Nat → Kn} {n2 j2 : Kn} {g n bw : Nat} (k to : Nat) (hK : KB w c sv g n ws W1) (hw : Has W1 bw (wayA n2 j2 0) 49) (hne : bw ≠ g) (hto : to < n) (ew : IntKind.i64.wrap ((k : Int) + 1) = (to : Int)) 
    (K : ∀ X, KB w c sv g n (upd ws to (joinK (ws to) n2)) X → Has X bw (wayA n2 j2 0) 49 → Q .normal (nxtK ws n2 g n k to bw a0) X)
    (hsz : decide (120 ≤ a0.tmps.size) = true := by kernel_rfl) (e5 : a0.eval (.tmp 5) = .slice (some ⟨g, 0, none⟩) n n := by kernel_rfl) (e6 : a0.eval (.tmp 6) = .int .i64 (k : Int) := by kernel_rfl) (e8 : a0.eval (.tmp 8) = .pointer (some ⟨bw, 0, none⟩) := by kernel_rfl) :
    (Code.region id ops true).wp Tryd.prog Q a0 W1 := by
  simp only [opsAt, findR, Tryd.f14, Option.bind, Option.orElse, Option.getD, reduceIte, Nat.reduceEqDiff] at h
  subst h
  have hz : ∀ t, t < 120 → decide (t < a0.tmps.size) = true := fun t h => decide_eq_true (Nat.lt_of_lt_of_le h (of_decide_eq_true hsz))
  have hto' : (to : Int) < n := by omega
  refine wp_region_inv (Φ := fun l vs X => Vals (fun q => match q with | 0 => some (.slice (some ⟨g, 0, none⟩) n n) | 1 => some (.int .i64 (k : Int)) | 2 => some (.int .i64 (to : Int)) | 3 => some (.slice (some ⟨g, 0, none⟩) n n) | 4 => some (.int .i64 (k : Int)) | 5 => some (.int .i64 (to : Int)) | 6 => some (.pointer (some ⟨g, to * 31, none⟩)) | 7 => some (.agg (ws to).a) | 8 => some (.pointer (some ⟨bw, 0, none⟩)) | 9 => some (.agg n2.a) | 10 => some (.agg (joinK (ws to) n2).a) | 11 => some (.pointer (some ⟨g, to * 31, none⟩)) | _ => none) l vs ∧ Pre1 12 (Below W1.heap.size W1) (fun X => KB w c sv g n (upd ws to (joinK (ws to) n2)) X ∧ Has X bw (wayA n2 j2 0) 49) l X) (PQ := fun _ _ => False)
    (by kernel_rfl) (by kernel_rfl) (by kernel_rfl) (by kernel_rfl) ⟨Vals.none _ _, Pre1.start ((Below.refl _ _).drew)⟩ ?hop ?hend (fun _ _ _ _ h => h.elim)
  case hop =>
    refine ⟨?_, ?_, ?_, ?_, ?_, ?_, ?_, ?_, ?_, ?_, ?_, ?_, ?_, trivial⟩
    · intro l vs X A hA ⟨hV, hS⟩ hl hd hcl
      have hk := nY 12 hcl hl
      have hX := hS.1 hk
      have hB := hX
      have a5 := eO hA 5 e5
      refine show_value (v := .slice (some ⟨g, 0, none⟩) n n) (X' := X) ?_ ⟨hV.upd (fun _ h => Option.some.inj h), Pre1.keep hk (by decide) (hX)⟩
      generalize A.eval = ρ at *
      clear hA hl hd hcl hV hS
      go_simp
    · intro l vs X A hA ⟨hV, hS⟩ hl hd hcl
      have hk := nY 12 hcl hl
      have hX := hS.1 hk
      have hB := hX
      have a6 := eO hA 6 e6
      refine show_value (v := .int .i64 (k : Int)) (X' := X) ?_ ⟨hV.upd (fun _ h => Option.some.inj h), Pre1.keep hk (by decide) (hX)⟩
      generalize A.eval = ρ at *
      clear hA hl hd hcl hV hS
      go_simp
    · intro l vs X A hA ⟨hV, hS⟩ hl hd hcl
      have hk := nY 12 hcl hl
      have hX := hS.1 hk
      have hB := hX
      have a95 := eval_new hA 95 1 (by kernel_rfl) (by kernel_rfl) (hz _ (by decide)) (hd 1 (by kernel_rfl)) (hV 1 _ (hd 1 (by kernel_rfl)) rfl)
      have aC0 : A.eval (.const (.int .i64 1)) = (.int .i64 1) := rfl
      refine show_value (v := .int .i64 (to : Int)) (X' := X) ?_ ⟨hV.upd (fun _ h => Option.some.inj h), Pre1.keep hk (by decide) (hX)⟩
      generalize A.eval = ρ at *
      clear hA hl hd hcl hV hS
      go_simp
    · intro l vs X A hA ⟨hV, hS⟩ hl hd hcl
      have hk := nY 12 hcl hl
      have hX := hS.1 hk
      have hB := hX
      have a5 := eO hA 5 e5
      refine show_value (v := .slice (some ⟨g, 0, none⟩) n n) (X' := X) ?_ ⟨hV.upd (fun _ h => Option.some.inj h), Pre1.keep hk (by decide) (hX)⟩
      generalize A.eval = ρ at *
      clear hA hl hd hcl hV hS
      go_simp
    · intro l vs X A hA ⟨hV, hS⟩ hl hd hcl
      have hk := nY 12 hcl hl
      have hX := hS.1 hk
      have hB := hX
      have a6 := eO hA 6 e6
      refine show_value (v := .int .i64 (k : Int)) (X' := X) ?_ ⟨hV.upd (fun _ h => Option.some.inj h), Pre1.keep hk (by decide) (hX)⟩
      generalize A.eval = ρ at *
      clear hA hl hd hcl hV hS
      go_simp
    · intro l vs X A hA ⟨hV, hS⟩ hl hd hcl
      have hk := nY 12 hcl hl
      have hX := hS.1 hk
      have hB := hX
      have a98 := eval_new hA 98 4 (by kernel_rfl) (by kernel_rfl) (hz _ (by decide)) (hd 4 (by kernel_rfl)) (hV 4 _ (hd 4 (by kernel_rfl)) rfl)
      have aC0 : A.eval (.const (.int .i64 1)) = (.int .i64 1) := rfl
      refine show_value (v := .int .i64 (to : Int)) (X' := X) ?_ ⟨hV.upd (fun _ h => Option.some.inj h), Pre1.keep hk (by decide) (hX)⟩
      generalize A.eval = ρ at *
      clear hA hl hd hcl hV hS
      go_simp
    · intro l vs X A hA ⟨hV, hS⟩ hl hd hcl
      have hk := nY 12 hcl hl
      have hX := hS.1 hk
      have hB := hX
      have a97 := eval_new hA 97 3 (by kernel_rfl) (by kernel_rfl) (hz _ (by decide)) (hd 3 (by kernel_rfl)) (hV 3 _ (hd 3 (by kernel_rfl)) rfl)
      have a99 := eval_new hA 99 5 (by kernel_rfl) (by kernel_rfl) (hz _ (by decide)) (hd 5 (by kernel_rfl)) (hV 5 _ (hd 5 (by kernel_rfl)) rfl)
      refine show_value (v := .pointer (some ⟨g, to * 31, none⟩)) (X' := X) ?_ ⟨hV.upd (fun _ h => Option.some.inj h), Pre1.keep hk (by decide) (hX)⟩
      generalize A.eval = ρ at *
      clear hA hl hd hcl hV hS
      go_simp
    · intro l vs X A hA ⟨hV, hS⟩ hl hd hcl
      have hk := nY 12 hcl hl
      have hX := hS.1 hk
      have hB := hX
      have a100 := eval_new hA 100 6 (by kernel_rfl) (by kernel_rfl) (hz _ (by decide)) (hd 6 (by kernel_rfl)) (hV 6 _ (hd 6 (by kernel_rfl)) rfl)
      refine show_value (v := .agg (ws to).a) (X' := X) (run_ld 43 _ rfl _ a100 (ld_row (l := (ws to).cells) ((hK.grow hB).out.at_ to hto) (by kernel_rfl))) ⟨hV.upd (fun _ h => Option.some.inj h), Pre1.keep hk (by decide) (hX)⟩
    · intro l vs X A hA ⟨hV, hS⟩ hl hd hcl
      have hk := nY 12 hcl hl
      have hX := hS.1 hk
      have hB := hX
      have a8 := eO hA 8 e8
      refine show_value (v := .pointer (some ⟨bw, 0, none⟩)) (X' := X) ?_ ⟨hV.upd (fun _ h => Option.some.inj h), Pre1.keep hk (by decide) (hX)⟩
      generalize A.eval = ρ at *
      clear hA hl hd hcl hV hS
      go_simp
    · intro l vs X A hA ⟨hV, hS⟩ hl hd hcl
      have hk := nY 12 hcl hl
      have hX := hS.1 hk
      have hB := hX
      have a102 := eval_new hA 102 8 (by kernel_rfl) (by kernel_rfl) (hz _ (by decide)) (hd 8 (by kernel_rfl)) (hV 8 _ (hd 8 (by kernel_rfl)) rfl)
      refine show_value (v := .agg n2.a) (X' := X) (run_ld 43 _ rfl _ a102 (ld43N (hw.below hB hw.lt))) ⟨hV.upd (fun _ h => Option.some.inj h), Pre1.keep hk (by decide) (hX)⟩
    · intro l vs X A hA ⟨hV, hS⟩ hl hd hcl
      have hk := nY 12 hcl hl
      have hX := hS.1 hk
      have hB := hX
      have a101 := eval_new hA 101 7 (by kernel_rfl) (by kernel_rfl) (hz _ (by decide)) (hd 7 (by kernel_rfl)) (hV 7 _ (hd 7 (by kernel_rfl)) rfl)
      have a103 := eval_new hA 103 9 (by kernel_rfl) (by kernel_rfl) (hz _ (by decide)) (hd 9 (by kernel_rfl)) (hV 9 _ (hd 9 (by kernel_rfl)) rfl)
      have aF0 : A.eval (.func 30) = .func (.func 30) #[] #[] := rfl
      refine show_call (f := 30) (args := #[.agg (ws to).a, .agg n2.a]) ?_ (rjoin_any (ws to) n2 X) ?_
      · generalize A.eval = ρ at *
        clear hA hl hd hcl hV hS
        go_simp
      · rintro e X' ⟨rfl, hB1⟩
        exact .inl ⟨_, rfl, hV.upd (fun _ h => Option.some.inj h), Pre1.keep hk (by decide) (hX.trans (hB1.mono hX.size))⟩
    · intro l vs X A hA ⟨hV, hS⟩ hl hd hcl
      have hk := nY 12 hcl hl
      have hX := hS.1 hk
      have hB := hX
      have a94 := eval_new hA 94 0 (by kernel_rfl) (by kernel_rfl) (hz _ (by decide)) (hd 0 (by kernel_rfl)) (hV 0 _ (hd 0 (by kernel_rfl)) rfl)
      have a96 := eval_new hA 96 2 (by kernel_rfl) (by kernel_rfl) (hz _ (by decide)) (hd 2 (by kernel_rfl)) (hV 2 _ (hd 2 (by kernel_rfl)) rfl)
      refine show_value (v := .pointer (some ⟨g, to * 31, none⟩)) (X' := X) ?_ ⟨hV.upd (fun _ h => Option.some.inj h), Pre1.keep hk (by decide) (hX)⟩
      generalize A.eval = ρ at *
      clear hA hl hd hcl hV hS
      go_simp
    · intro l vs X A hA ⟨hV, hS⟩ hl hd hcl
      have hX := hS.1 hl
      have hB := hX
      have hX := hS.1 hl
      have a104 := eval_new hA 104 10 (by kernel_rfl) (by kernel_rfl) (hz _ (by decide)) (hd 10 (by kernel_rfl)) (hV 10 _ (hd 10 (by kernel_rfl)) rfl)
      have a105 := eval_new hA 105 11 (by kernel_rfl) (by kernel_rfl) (hz _ (by decide)) (hd 11 (by kernel_rfl)) (hV 11 _ (hd 11 (by kernel_rfl)) rfl)
      have hg := hK.grow hX
      have hs := hg.set to hto (joinK (ws to) n2)
      exact show_skip (run_st_out _ _ rfl to _ a105 a104 hg.out hto) ⟨hV.upd (fun _ h => by cases h), Pre1.last ⟨hs.1, (hw.below hX hw.lt).ex hs.2 hne⟩⟩
  case hend =>
    intro l vs X hl ⟨hV, hS⟩
    have hX := hS.2 (hl 12 (by decide))
    have v0 := hV 0 _ (hl 0 (by decide)) rfl
    have v1 := hV 1 _ (hl 1 (by decide)) rfl
    have v2 := hV 2 _ (hl 2 (by decide)) rfl
    have v3 := hV 3 _ (hl 3 (by decide)) rfl
    have v4 := hV 4 _ (hl 4 (by decide)) rfl
    have v5 := hV 5 _ (hl 5 (by decide)) rfl
    have v6 := hV 6 _ (hl 6 (by decide)) rfl
    have v7 := hV 7 _ (hl 7 (by decide)) rfl
    have v8 := hV 8 _ (hl 8 (by decide)) rfl
    have v9 := hV 9 _ (hl 9 (by decide)) rfl
    have v10 := hV 10 _ (hl 10 (by decide)) rfl
    have v11 := hV 11 _ (hl 11 (by decide)) rfl
    clear hV hS hl
    simp only [canonL, if_true, v0, v1, v2, v3, v4, v5, v6, v7, v8, v9, v10, v11]
    clear v0 v1 v2 v3 v4 v5 v6 v7 v8 v9 v10 v11
    unfold nxtK at K
    rw [put_none]
    exact K X hX.1 hX.2
def jmpK (ws : Nat → Kn) (j2 : Kn) (g n _k to bw : Nat) (a0 : Act) : Act := ((((((((((a0.put (some 109) (.slice (some ⟨g, 0, none⟩) n n)).put (some 110) (.int .i64 (to : Int))).put (some 111) (.slice (some ⟨g, 0, none⟩) n n)).put (some 112) (.int .i64 (to : Int))).put (some 113) (.pointer (some ⟨g, to * 31, none⟩))).put (some 114) (.agg (ws to).a)).put (some 115) (.pointer (some ⟨bw, 31, none⟩))).put (some 116) (.agg j2.a)).put (some 117) (.agg (joinK (ws to) j2).a)).put (some 118) (.pointer (some ⟨g, to * 31, none⟩)))
set_option maxRecDepth 10000 in
set_option maxHeartbeats 4000000 in
theorem jmp_reg {id : Nat} {ops : Array Oper} (h : opsAt Tryd.f14 23 = ops) {a0 : Act} {w W1 : World} {Q : Exit → Act → World → Prop} {c : Int} {sv : Value} {ws : Nat → Kn} {n2 j2 : Kn} {g n bw : Nat} (k to : Nat) (hK : KB w c sv g n ws W1) (hw : Has W1 bw (wayA n2 j2 0) 49) (hne : bw ≠ g) (hto : to < n) 
    (K : ∀ X, KB w c sv g n (upd ws to (joinK (ws to) j2)) X → Has X bw (wayA n2 j2 0) 49 → Q .normal (jmpK ws j2 g n k to bw a0) X)
    (hsz : decide (120 ≤ a0.tmps.size) = true := by kernel_rfl) (e5 : a0.eval (.tmp 5) = .slice (some ⟨g, 0, none⟩) n n := by kernel_rfl) (e10 : a0.eval (.tmp 10) = .int .i64 (to : Int) := by kernel_rfl) (e8 : a0.eval (.tmp 8) = .pointer (some ⟨bw, 0, none⟩) := by kernel_rfl) :
    (Code.region id ops true).wp Tryd.prog Q a0 W1 := by
  simp only [opsAt, findR, Tryd.f14, Option.bind, Option.orElse, Option.getD, reduceIte, Nat.reduceEqDiff] at h
  subst h
  have hz : ∀ t, t < 120 → decide (t < a0.tmps.size) = true := fun t h => decide_eq_true (Nat.lt_of_lt_of_le h (of_decide_eq_true hsz))
  have hto' : (to : Int) < n := by omega
  refine wp_region_inv (Φ := fun l vs X => Vals (fun q => match q with | 0 => some (.slice (some ⟨g, 0, none⟩) n n) | 1 => some (.int .i64 (to : Int)) | 2 => some (.slice (some ⟨g, 0, none⟩) n n) | 3 => some (.int .i64 (to : Int)) | 4 => some (.pointer (some ⟨g, to * 31, none⟩)) | 5 => some (.agg (ws to).a) | 6 => some (.pointer (some ⟨bw, 31, none⟩)) | 7 => some (.agg j2.a) | 8 => some (.agg (joinK (ws to) j2).a) | 9 => some (.pointer (some ⟨g, to * 31, none⟩)) | _ => none) l vs ∧ Pre1 10 (Below W1.heap.size W1) (fun X => KB w c sv g n (upd ws to (joinK (ws to) j2)) X ∧ Has X bw (wayA n2 j2 0) 49) l X) (PQ := fun _ _ => False)
    (by kernel_rfl) (by kernel_rfl) (by kernel_rfl) (by kernel_rfl) ⟨Vals.none _ _, Pre1.start ((Below.refl _ _).drew)⟩ ?hop ?hend (fun _ _ _ _ h => h.elim)
  case hop =>
    refine ⟨?_, ?_, ?_, ?_, ?_, ?_, ?_, ?_, ?_, ?_, ?_, trivial⟩
    · intro l vs X A hA ⟨hV, hS⟩ hl hd hcl
      have hk := nY 10 hcl hl
      have hX := hS.1 hk
      have hB := hX
      have a5 := eO hA 5 e5
      refine show_value (v := .slice (some ⟨g, 0, none⟩) n n) (X' := X) ?_ ⟨hV.upd (fun _ h => Option.some.inj h), Pre1.keep hk (by decide) (hX)⟩
      generalize A.eval = ρ at *
      clear hA hl hd hcl hV hS
      go_simp
    · intro l vs X A hA ⟨hV, hS⟩ hl hd hcl
      have hk := nY 10 hcl hl
      have hX := hS.1 hk
      have hB := hX
      have a10 := eO hA 10 e10
      refine show_value (v := .int .i64 (to : Int)) (X' := X) ?_ ⟨hV.upd (fun _ h => Option.some.inj h), Pre1.keep hk (by decide) (hX)⟩
      generalize A.eval = ρ at *
      clear hA hl hd hcl hV hS
      go_simp
    · intro l vs X A hA ⟨hV, hS⟩ hl hd hcl
      have hk := nY 10 hcl hl
      have hX := hS.1 hk
      have hB := hX
      have a5 := eO hA 5 e5
      refine show_value (v := .slice (some ⟨g, 0, none⟩) n n) (X' := X) ?_ ⟨hV.upd (fun _ h => Option.some.inj h), Pre1.keep hk (by decide) (hX)⟩
      generalize A.eval = ρ at *
      clear hA hl hd hcl hV hS
      go_simp
    · intro l vs X A hA ⟨hV, hS⟩ hl hd hcl
      have hk := nY 10 hcl hl
      have hX := hS.1 hk
      have hB := hX
      have a10 := eO hA 10 e10
      refine show_value (v := .int .i64 (to : Int)) (X' := X) ?_ ⟨hV.upd (fun _ h => Option.some.inj h), Pre1.keep hk (by decide) (hX)⟩
      generalize A.eval = ρ at *
      clear hA hl hd hcl hV hS
      go_simp
    · intro l vs X A hA ⟨hV, hS⟩ hl hd hcl
      have hk := nY 10 hcl hl
      have hX := hS.1 hk
      have hB := hX
      have a111 := eval_new hA 111 2 (by kernel_rfl) (by kernel_rfl) (hz _ (by decide)) (hd 2 (by kernel_rfl)) (hV 2 _ (hd 2 (by kernel_rfl)) rfl)
      have a112 := eval_new hA 112 3 (by kernel_rfl) (by kernel_rfl) (hz _ (by decide)) (hd 3 (by kernel_rfl)) (hV 3 _ (hd 3 (by kernel_rfl)) rfl)
      refine show_value (v := .pointer (some ⟨g, to * 31, none⟩)) (X' := X) ?_ ⟨hV.upd (fun _ h => Option.some.inj h), Pre1.keep hk (by decide) (hX)⟩
      generalize A.eval = ρ at *
      clear hA hl hd hcl hV hS
      go_simp
    · intro l vs X A hA ⟨hV, hS⟩ hl hd hcl
      have hk := nY 10 hcl hl
      have hX := hS.1 hk
      have hB := hX
      have a113 := eval_new hA 113 4 (by kernel_rfl) (by kernel_rfl) (hz _ (by decide)) (hd 4 (by kernel_rfl)) (hV 4 _ (hd 4 (by kernel_rfl)) rfl)
      refine show_value (v := .agg (ws to).a) (X' := X) (run_ld 43 _ rfl _ a113 (ld_row (l := (ws to).cells) ((hK.grow hB).out.at_ to hto) (by kernel_rfl))) ⟨hV.upd (fun _ h => Option.some.inj h), Pre1.keep hk (by decide) (hX)⟩
    · intro l vs X A hA ⟨hV, hS⟩ hl hd hcl
      have hk := nY 10 hcl hl
      have hX := hS.1 hk
      have hB := hX
      have a8 := eO hA 8 e8
      refine show_value (v := .pointer (some ⟨bw, 31, none⟩)) (X' := X) ?_ ⟨hV.upd (fun _ h => Option.some.inj h), Pre1.keep hk (by decide) (hX)⟩
      generalize A.eval = ρ at *
      clear hA hl hd hcl hV hS
      go_simp
    · intro l vs X A hA ⟨hV, hS⟩ hl hd hcl
      have hk := nY 10 hcl hl
      have hX := hS.1 hk
      have hB := hX
      have a115 := eval_new hA 115 6 (by kernel_rfl) (by kernel_rfl) (hz _ (by decide)) (hd 6 (by kernel_rfl)) (hV 6 _ (hd 6 (by kernel_rfl)) rfl)
      refine show_value (v := .agg j2.a) (X' := X) (run_ld 43 _ rfl _ a115 (ld43J (hw.below hB hw.lt))) ⟨hV.upd (fun _ h => Option.some.inj h), Pre1.keep hk (by decide) (hX)⟩
    · intro l vs X A hA ⟨hV, hS⟩ hl hd hcl
      have hk := nY 10 hcl hl
      have hX := hS.1 hk
      have hB := hX
      have a114 := eval_new hA 114 5 (by kernel_rfl) (by kernel_rfl) (hz _ (by decide)) (hd 5 (by kernel_rfl)) (hV 5 _ (hd 5 (by kernel_rfl)) rfl)
      have a116 := eval_new hA 116 7 (by kernel_rfl) (by kernel_rfl) (hz _ (by decide)) (hd 7 (by kernel_rfl)) (hV 7 _ (hd 7 (by kernel_rfl)) rfl)
      have aF0 : A.eval (.func 30) = .func (.func 30) #[] #[] := rfl
      refine show_call (f := 30) (args := #[.agg (ws to).a, .agg j2.a]) ?_ (rjoin_any (ws to) j2 X) ?_
      · generalize A.eval = ρ at *
        clear hA hl hd hcl hV hS
        go_simp
      · rintro e X' ⟨rfl, hB1⟩
        exact .inl ⟨_, rfl, hV.upd (fun _ h => Option.some.inj h), Pre1.keep hk (by decide) (hX.trans (hB1.mono hX.size))⟩
    · intro l vs X A hA ⟨hV, hS⟩ hl hd hcl
      have hk := nY 10 hcl hl
      have hX := hS.1 hk
      have hB := hX
      have a109 := eval_new hA 109 0 (by kernel_rfl) (by kernel_rfl) (hz _ (by decide)) (hd 0 (by kernel_rfl)) (hV 0 _ (hd 0 (by kernel_rfl)) rfl)
      have a110 := eval_new hA 110 1 (by kernel_rfl) (by kernel_rfl) (hz _ (by decide)) (hd 1 (by kernel_rfl)) (hV 1 _ (hd 1 (by kernel_rfl)) rfl)
      refine show_value (v := .pointer (some ⟨g, to * 31, none⟩)) (X' := X) ?_ ⟨hV.upd (fun _ h => Option.some.inj h), Pre1.keep hk (by decide) (hX)⟩
      generalize A.eval = ρ at *
      clear hA hl hd hcl hV hS
      go_simp
    · intro l vs X A hA ⟨hV, hS⟩ hl hd hcl
      have hX := hS.1 hl
      have hB := hX
      have hX := hS.1 hl
      have a117 := eval_new hA 117 8 (by kernel_rfl) (by kernel_rfl) (hz _ (by decide)) (hd 8 (by kernel_rfl)) (hV 8 _ (hd 8 (by kernel_rfl)) rfl)
      have a118 := eval_new hA 118 9 (by kernel_rfl) (by kernel_rfl) (hz _ (by decide)) (hd 9 (by kernel_rfl)) (hV 9 _ (hd 9 (by kernel_rfl)) rfl)
      have hg := hK.grow hX
      have hs := hg.set to hto (joinK (ws to) j2)
      exact show_skip (run_st_out _ _ rfl to _ a118 a117 hg.out hto) ⟨hV.upd (fun _ h => by cases h), Pre1.last ⟨hs.1, (hw.below hX hw.lt).ex hs.2 hne⟩⟩
  case hend =>
    intro l vs X hl ⟨hV, hS⟩
    have hX := hS.2 (hl 10 (by decide))
    have v0 := hV 0 _ (hl 0 (by decide)) rfl
    have v1 := hV 1 _ (hl 1 (by decide)) rfl
    have v2 := hV 2 _ (hl 2 (by decide)) rfl
    have v3 := hV 3 _ (hl 3 (by decide)) rfl
    have v4 := hV 4 _ (hl 4 (by decide)) rfl
    have v5 := hV 5 _ (hl 5 (by decide)) rfl
    have v6 := hV 6 _ (hl 6 (by decide)) rfl
    have v7 := hV 7 _ (hl 7 (by decide)) rfl
    have v8 := hV 8 _ (hl 8 (by decide)) rfl
    have v9 := hV 9 _ (hl 9 (by decide)) rfl
    clear hV hS hl
    simp only [canonL, if_true, v0, v1, v2, v3, v4, v5, v6, v7, v8, v9]
    clear v0 v1 v2 v3 v4 v5 v6 v7 v8 v9
    unfold jmpK at K
    rw [put_none]
    exact K X hX.1 hX.2
end Go.Proofs.YtodkehpldlmgaaaDoor
